/- Part 16 of what the proof stands on. -/
import Derived.Test.YtiajaocckkghgaaGreatPkEAO
import Derived.Deep.LoopGhost
namespace Go.Proofs.YtiajaocckkghgaaGreat
set_option maxHeartbeats 8000000
set_option linter.unusedVariables false
set_option linter.unusedSimpArgs false
set_option maxRecDepth 20000
section
open Go.ChangeShapes Go.WideShapes Go.ChangeAt Go.RowKit
def FunP (n : Nat) (w : World) (ts : List Tr) (f : FuncId) (caps : List Value) (p : Tr → Bool) : Prop :=
 ∀ W x r,Below w.heap.size w W → x ∈ ts → TrQ n W r x → Calls Tryz.prog f (.agg r.toArray :: caps).toArray W fun e w' => e = .returned (.bool (p x)) ∧ Below W.heap.size W w'
theorem indexW_any (n : Nat) (v : Value) (ts : List Tr) (w : World) (p : Tr → Bool) (h : TrsQ n w v ts) (hf : FunP n w ts 84 [] p) :
  Calls Tryz.prog 124 #[v,.func (.func 84) #[] #[]] w fun e w' => (∃ k : Int,e = .returned (.int .i64 k) ∧ (0 ≤ k ↔ ts.any p = true)) ∧ Below w.heap.size w w' := by
 obtain ⟨a,cap,rfl,h1,h2, -⟩ := RowP.open h;obtain ⟨N,hN⟩ : ∃ N,ts.length = N := ⟨_,rfl⟩;rw [hN] at h1 ⊢;have HH : Hid (TrsQ n w (.slice a N cap) ts) := hid (by rw [← hN]; exact h);have HN : Hid (ts.length = N) := hN;have HF : Hid (FunP n w ts 84 [] p) := hf;unfold maxLen at h2;clear h hN hf
 go_enter Tryz.func124,Tryz.ntmps124
 go_wp2_with fail
 go_loopw [8] (fun iv wr => ∃ i : Nat,iv = .int .i64 (i : Int) ∧ i ≤ N ∧ Hid (∀ x ∈ ts.take i,p x = false) ∧ Below w.heap.size w wr) (fun iv _ => N - (intOf iv).toNat)
 case atStart => exact ⟨0,rfl,by omega,(by simp : ∀ x ∈ ts.take 0,p x = false),Below.refl _ _⟩
 case round =>
  obtain ⟨i,rfl,hi,HI,hbel⟩ := hrel
  by_cases hlt : i < N
  ·obtain ⟨t,ht⟩ : ∃ r,ts[i]? = some r := ⟨_,List.getElem?_eq_getElem (by rw [HN.out]; exact hlt)⟩;obtain ⟨g,off,rfl,r,hr,hc⟩ := (HH.out.belowTQ hbel).get ht;have h5 := hr.five
   obtain ⟨r0,r1,r2,r3,r4,rfl⟩ : ∃ a b c d e,r = [a,b,c,d,e] := by
    match r,h5.1 with
    | [a,b,c,d,e],_ => exact ⟨a,b,c,d,e,rfl⟩
   have o0 := h5.2 r0 (by simp);have o1 := h5.2 r1 (by simp);have o2 := h5.2 r2 (by simp);have o3 := h5.2 r3 (by simp);have o4 := h5.2 r4 (by simp);obtain ⟨ea,el,ec,ra,rl,rc,e1, -⟩ := TrV2.open ⟨_,rfl,hr⟩;simp only [Value.agg.injEq,Array.mk.injEq,List.cons.injEq,and_true] at e1;obtain ⟨rfl,rfl,rfl,rfl,rfl⟩ := e1;have c0 := hc 0 _ rfl;have c1 := hc 1 _ rfl;have c2 := hc 2 _ rfl;have c3 := hc 3 _ rfl;have c4 := hc 4 _ rfl;simp only [Nat.add_zero] at c0;have HC := HF.out wr t _ hbel (List.mem_of_getElem? ht) hr;have HCC : Hid _ := HC;have HT : Hid (ts.take (i + 1) = ts.take i ++ [t]) := take_atQ ht;have HTM : Hid (t ∈ ts) := List.mem_of_getElem? ht;clear hc h5 o0 o1 o2 o3 o4 HC ht hr;obtain ⟨R,hR⟩ : ∃ R,p t = R := ⟨_,rfl⟩;have HR : Hid (p t = R) := hR;clear hR;go_wp2_with fail;refine Calls.mono HCC.out ?_;rintro e w2 ⟨rfl,hb2⟩;rw [HR.out];have hbw : Below w.heap.size w w2 := hbel.trans (hb2.mono hbel.size);clear HCC hb2 c0 c1 c2 c3 c4 hbel
   cases R with
   | true =>
    go_wp2_with fail;go_ret;exact ⟨⟨_,rfl,by simp only [Int.natCast_nonneg,true_iff]; exact List.any_eq_true.2 ⟨t,HTM.out,HR.out⟩⟩,hbw⟩
   | false =>
    go_wp2_with fail
    go_roundw
    case rel => exact ⟨i + 1,by go_num,by omega,(by
     rw [HT.out];intro x hx
     rcases List.mem_append.1 hx with hx | hx
     ·exact HI.out x hx
     ·obtain rfl : x = t := by simpa using hx
      exact HR.out : ∀ x ∈ ts.take (i + 1),p x = false),hbw⟩
    case measure => simp [intOf]; omega
  ·go_wp2_with fail;go_ret;have h5 := HI.out;rw [List.take_of_length_le (by rw [HN.out]; omega)] at h5;refine ⟨⟨-1,rfl,?_⟩,hbel⟩
   have : ts.any p = false := by rw [List.any_eq_false]; intro x hx; rw [h5 x hx]; simp
   rw [this]
   simp
theorem containsW_any (n : Nat) (v : Value) (ts : List Tr) (w : World) (p : Tr → Bool) (h : TrsQ n w v ts) (hf : FunP n w ts 84 [] p) :
  Calls Tryz.prog 83 #[v,.func (.func 84) #[] #[]] w fun e w' => e = .returned (.bool (ts.any p)) ∧ Below w.heap.size w w' := by
 have HI : Hid _ := indexW_any n v ts w p h hf;obtain ⟨a,cap,rfl,h1,h2, -⟩ := RowP.open h;clear h hf;generalize ts.length = N at *;obtain ⟨R,hR⟩ : ∃ R,ts.any p = R := ⟨_,rfl⟩;rw [hR] at HI ⊢;clear hR
 go_enter Tryz.func83,Tryz.ntmps83
 go_wp2_with fail;refine Calls.mono HI.out ?_;rintro e w2 ⟨⟨k,rfl,hk⟩,hb⟩;clear HI
 have hd : decide (0 ≤ k) = R := by
  cases R
  ·simpa using hk
  ·simpa using hk
 clear hk;go_wp2_with fail;go_ret;exact ⟨rfl,hb⟩
theorem indexK_any (b : Nat) (n : Nat) (v : Value) (ts : List Tr) (w : World) (p : Tr → Bool) (h : TrsQ n w v ts) (hf : FunP n w ts 168 [.pointer (some ⟨b,0,none⟩)] p) :
  Calls Tryz.prog 124 #[v,.func (.func 168) #[] #[.pointer (some ⟨b,0,none⟩)]] w fun e w' => (∃ k : Int,e = .returned (.int .i64 k) ∧ (0 ≤ k ↔ ts.any p = true)) ∧ Below w.heap.size w w' := by
 obtain ⟨a,cap,rfl,h1,h2, -⟩ := RowP.open h;obtain ⟨N,hN⟩ : ∃ N,ts.length = N := ⟨_,rfl⟩;rw [hN] at h1 ⊢;have HH : Hid (TrsQ n w (.slice a N cap) ts) := hid (by rw [← hN]; exact h);have HN : Hid (ts.length = N) := hN;have HF : Hid (FunP n w ts 168 [.pointer (some ⟨b,0,none⟩)] p) := hf;unfold maxLen at h2;clear h hN hf
 go_enter Tryz.func124,Tryz.ntmps124
 go_wp2_with fail
 go_loopw [8] (fun iv wr => ∃ i : Nat,iv = .int .i64 (i : Int) ∧ i ≤ N ∧ Hid (∀ x ∈ ts.take i,p x = false) ∧ Below w.heap.size w wr) (fun iv _ => N - (intOf iv).toNat)
 case atStart => exact ⟨0,rfl,by omega,(by simp : ∀ x ∈ ts.take 0,p x = false),Below.refl _ _⟩
 case round =>
  obtain ⟨i,rfl,hi,HI,hbel⟩ := hrel
  by_cases hlt : i < N
  ·obtain ⟨t,ht⟩ : ∃ r,ts[i]? = some r := ⟨_,List.getElem?_eq_getElem (by rw [HN.out]; exact hlt)⟩;obtain ⟨g,off,rfl,r,hr,hc⟩ := (HH.out.belowTQ hbel).get ht;have h5 := hr.five
   obtain ⟨r0,r1,r2,r3,r4,rfl⟩ : ∃ a b c d e,r = [a,b,c,d,e] := by
    match r,h5.1 with
    | [a,b,c,d,e],_ => exact ⟨a,b,c,d,e,rfl⟩
   have o0 := h5.2 r0 (by simp);have o1 := h5.2 r1 (by simp);have o2 := h5.2 r2 (by simp);have o3 := h5.2 r3 (by simp);have o4 := h5.2 r4 (by simp);obtain ⟨ea,el,ec,ra,rl,rc,e1, -⟩ := TrV2.open ⟨_,rfl,hr⟩;simp only [Value.agg.injEq,Array.mk.injEq,List.cons.injEq,and_true] at e1;obtain ⟨rfl,rfl,rfl,rfl,rfl⟩ := e1;have c0 := hc 0 _ rfl;have c1 := hc 1 _ rfl;have c2 := hc 2 _ rfl;have c3 := hc 3 _ rfl;have c4 := hc 4 _ rfl;simp only [Nat.add_zero] at c0;have HC := HF.out wr t _ hbel (List.mem_of_getElem? ht) hr;have HCC : Hid _ := HC;have HT : Hid (ts.take (i + 1) = ts.take i ++ [t]) := take_atQ ht;have HTM : Hid (t ∈ ts) := List.mem_of_getElem? ht;clear hc h5 o0 o1 o2 o3 o4 HC ht hr;obtain ⟨R,hR⟩ : ∃ R,p t = R := ⟨_,rfl⟩;have HR : Hid (p t = R) := hR;clear hR;go_wp2_with fail;refine Calls.mono HCC.out ?_;rintro e w2 ⟨rfl,hb2⟩;rw [HR.out];have hbw : Below w.heap.size w w2 := hbel.trans (hb2.mono hbel.size);clear HCC hb2 c0 c1 c2 c3 c4 hbel
   cases R with
   | true =>
    go_wp2_with fail;go_ret;exact ⟨⟨_,rfl,by simp only [Int.natCast_nonneg,true_iff]; exact List.any_eq_true.2 ⟨t,HTM.out,HR.out⟩⟩,hbw⟩
   | false =>
    go_wp2_with fail
    go_roundw
    case rel => exact ⟨i + 1,by go_num,by omega,(by
     rw [HT.out];intro x hx
     rcases List.mem_append.1 hx with hx | hx
     ·exact HI.out x hx
     ·obtain rfl : x = t := by simpa using hx
      exact HR.out : ∀ x ∈ ts.take (i + 1),p x = false),hbw⟩
    case measure => simp [intOf]; omega
  ·go_wp2_with fail;go_ret;have h5 := HI.out;rw [List.take_of_length_le (by rw [HN.out]; omega)] at h5;refine ⟨⟨-1,rfl,?_⟩,hbel⟩
   have : ts.any p = false := by rw [List.any_eq_false]; intro x hx; rw [h5 x hx]; simp
   rw [this]
   simp
theorem containsK_any (b : Nat) (n : Nat) (v : Value) (ts : List Tr) (w : World) (p : Tr → Bool) (h : TrsQ n w v ts) (hf : FunP n w ts 168 [.pointer (some ⟨b,0,none⟩)] p) :
  Calls Tryz.prog 83 #[v,.func (.func 168) #[] #[.pointer (some ⟨b,0,none⟩)]] w fun e w' => e = .returned (.bool (ts.any p)) ∧ Below w.heap.size w w' := by
 have HI : Hid _ := indexK_any b n v ts w p h hf;obtain ⟨a,cap,rfl,h1,h2, -⟩ := RowP.open h;clear h hf;generalize ts.length = N at *;obtain ⟨R,hR⟩ : ∃ R,ts.any p = R := ⟨_,rfl⟩;rw [hR] at HI ⊢;clear hR
 go_enter Tryz.func83,Tryz.ntmps83
 go_wp2_with fail;refine Calls.mono HI.out ?_;rintro e w2 ⟨⟨k,rfl,hk⟩,hb⟩;clear HI
 have hd : decide (0 ≤ k) = R := by
  cases R
  ·simpa using hk
  ·simpa using hk
 clear hk;go_wp2_with fail;go_ret;exact ⟨rfl,hb⟩
def cmpI (a b : Int) : Int := if a < b then -1 else if b < a then 1 else 0
theorem nan_any (a : Int) (w : World) : Calls Tryz.prog 186 #[.int .i64 a] w fun e w' => e = .returned (.bool false) ∧ w' = w := by
 go_enter Tryz.func186,Tryz.ntmps186
 go_wp2
 go_ret;exact ⟨rfl,rfl⟩
theorem compare_any (a b : Int) (w : World) : Calls Tryz.prog 171 #[.int .i64 a,.int .i64 b] w fun e w' => e = .returned (.int .i64 (cmpI a b)) ∧ w' = w := by
 by_cases h1 : a < b
 ·go_enter Tryz.func171,Tryz.ntmps171
  go_wp2_with (first | (go_at_call 186; refine (nan_any _ _).mono ?_; rintro e w' ⟨rfl,rfl⟩) | fail)
  go_ret;exact ⟨by simp [cmpI,h1],rfl⟩
 ·by_cases h2 : b < a
  ·go_enter Tryz.func171,Tryz.ntmps171
   go_wp2_with (first | (go_at_call 186; refine (nan_any _ _).mono ?_; rintro e w' ⟨rfl,rfl⟩) | fail)
   go_ret;exact ⟨by simp [cmpI,h1,h2],rfl⟩
  ·have HC : Hid (cmpI a b = 0) := hid (by simp [cmpI,h1,h2]);rw [HC.out]
   go_enter Tryz.func171,Tryz.ntmps171
   go_wp2_with (first | (go_at_call 186; refine (nan_any _ _).mono ?_; rintro e w' ⟨rfl,rfl⟩) | fail)
   go_ret;exact ⟨rfl,rfl⟩
theorem tagc_any (a b : Int) (p : Option Addr) (n c : Nat) (w : World) : Calls Tryz.prog 170 #[.agg #[.int .i64 a,.slice p n c],.int .i64 b] w fun e w' => e = .returned (.int .i64 (cmpI a b)) ∧ Below w.heap.size w w' := by
 go_enter Tryz.func170,Tryz.ntmps170
 go_wp2_with (first | (go_at_call 171; refine (compare_any _ _ _).mono ?_; rintro e w' ⟨rfl,rfl⟩) | fail)
 go_ret;exact ⟨rfl,bra _⟩
def RisT (es : List (Int × List Tr)) : Prop := ∀ (i j : Nat) (x y : Int × List Tr),i < j → es[i]? = some x → es[j]? = some y → x.1 < y.1
theorem cmp_lt (a b : Int) : cmpI a b < 0 ↔ a < b := by
 unfold cmpI
 by_cases h1 : a < b
 ·simp [h1]
 ·by_cases h2 : b < a
  ·simp [h1,h2]
  ·simp [h1,h2]
theorem cmp_eq (a b : Int) : cmpI a b = 0 ↔ a = b := by
 unfold cmpI
 by_cases h1 : a < b
 ·simp [h1]; omega
 ·by_cases h2 : b < a
  ·simp [h1,h2]; omega
  ·simp [h1,h2]; omega
theorem ents_low : ∀ (es : List (Int × List Tr)) (last : Int),entsB last es = true → ∀ x ∈ es,last < x.1
 | [],_,_,x,hx => by cases hx
 | e :: l,last,h,x,hx => by
  simp only [entsB,Bool.and_eq_true,decide_eq_true_eq] at h
  rcases List.mem_cons.1 hx with rfl | hx
  ·exact h.1.1.1.1.1
  ·exact Int.lt_trans h.1.1.1.1.1 (ents_low l e.1 h.2 x hx)
theorem ents_ris : ∀ (es : List (Int × List Tr)) (last : Int),entsB last es = true → RisT es
 | [],_,_ => by intro i j x y _ h; simp at h
 | e :: l,last,h => by
  simp only [entsB,Bool.and_eq_true,decide_eq_true_eq] at h;intro i j x y hij hx hy
  cases j with
  | zero => omega
  | succ j =>
   simp only [List.getElem?_cons_succ] at hy
   cases i with
   | zero =>
    obtain rfl : e = x := by simpa using hx
    exact ents_low l e.1 h.2 y (List.mem_of_getElem? hy)
   | succ i => exact ents_ris l e.1 h.2 i j x y (by omega) (by simpa using hx) hy
theorem bin_any (n : Nat) (v : Value) (es : List (Int × List Tr)) (tag : Int) (w : World) (h : EnsQ n w v es) (hr : RisT es) (hl : es.length ≤ 1000000) :
  Calls Tryz.prog 169 #[v,.int .i64 tag,.func (.func 170) #[] #[]] w fun e w' => (∃ k : Int,e = .returned (.tuple #[.int .i64 k,.bool (hasB es tag)])) ∧ Below w.heap.size w w' := by
 obtain ⟨a,cap,rfl,h1,h2, -⟩ := RowP.open h;obtain ⟨N,hN⟩ : ∃ N,es.length = N := ⟨_,rfl⟩;rw [hN] at h1 hl ⊢;have HH : Hid (EnsQ n w (.slice a N cap) es) := hid (by rw [← hN]; exact h);have HN : Hid (es.length = N) := hN;have HR : Hid (RisT es) := hr;unfold maxLen at h2;obtain ⟨R0,hR0⟩ : ∃ R0,hasB es tag = R0 := ⟨_,rfl⟩;have HR0 : Hid (hasB es tag = R0) := hR0;rw [hR0];clear h hN hr hR0
 go_enter Tryz.func169,Tryz.ntmps169
 go_wp2_with fail
 go_loopw [9,10] (fun iv jv wr => ∃ i j : Nat,iv = .int .i64 (i : Int) ∧ jv = .int .i64 (j : Int) ∧ i ≤ j ∧ j ≤ N ∧ Hid (∀ (k : Nat) (x : Int × List Tr),k < i → es[k]? = some x → x.1 < tag) ∧ Hid (∀ (k : Nat) (x : Int × List Tr),j ≤ k → es[k]? = some x → tag ≤ x.1) ∧ Below w.heap.size w wr) (fun iv jv _ => (intOf jv - intOf iv).toNat)
 case atStart => exact ⟨0,N,rfl,rfl,by omega,by omega,(fun k x hk => absurd hk (by omega) : ∀ (k : Nat) (x : Int × List Tr),k < 0 → es[k]? = some x → x.1 < tag),(fun k x hk hx => by have := (List.getElem?_eq_some_iff.1 hx).1; rw [HN.out] at this; omega : ∀ (k : Nat) (x : Int × List Tr),N ≤ k → es[k]? = some x → tag ≤ x.1),Below.refl _ _⟩
 case round =>
  obtain ⟨i,j,rfl,rfl,hij,hjN,HI,HJ,hbel⟩ := hrel
  by_cases hlt : i < j
  ·obtain ⟨q,hq⟩ : ∃ q : Nat,q = (i + j) / 2 := ⟨_,rfl⟩
   have hq1 : i ≤ q := by omega
   have hq2 : q < j := by omega
   obtain ⟨x,hx⟩ : ∃ r,es[q]? = some r := ⟨_,List.getElem?_eq_getElem (by rw [HN.out]; omega)⟩;obtain ⟨g,off,rfl,r,⟨vt,rfl, -,ht⟩,hc⟩ := (HH.out.belowEQ hbel).get hx;obtain ⟨ta,tc,rfl, -⟩ := RowP.open ht;have c0 := hc 0 _ rfl;have c1 := hc 1 _ rfl;simp only [Nat.add_zero] at c0
   have hqi : ((i : Int) + (j : Int)) / 2 = (q : Int) := by omega
   have HX : Hid (es[q]? = some x) := hx;clear hc ht hx;generalize x.2.length = Xl at *;obtain ⟨xt,hxt⟩ : ∃ z,x.1 = z := ⟨_,rfl⟩;rw [hxt] at c0;have HXT : Hid (x.1 = xt) := hxt;clear hxt hq;obtain ⟨c,hcc⟩ : ∃ c,cmpI xt tag = c := ⟨_,rfl⟩
   have HCA : Hid (∀ W,Calls Tryz.prog 170 #[.agg #[.int .i64 xt,.slice ta Xl tc],.int .i64 tag] W fun e w' => e = .returned (.int .i64 c) ∧ Below W.heap.size W w') := fun W => by
    rw [← hcc]; exact tagc_any xt tag ta Xl tc W
   have hc0 : c < 0 ↔ xt < tag := by rw [← hcc]; exact cmp_lt xt tag
   clear hcc
   by_cases hxl : xt < tag
   ·have hdc : decide (c < 0) = true := by simp [hc0,hxl]
    clear hc0;go_wp2_with fail;refine (HCA.out _).mono ?_;rintro e w2 ⟨rfl,hb2⟩;have hbw : Below w.heap.size w w2 := hbel.trans (hb2.mono hbel.size);clear hb2 hbel c0 c1 HCA;go_wp2_with fail
    go_roundw
    case rel => exact ⟨q + 1,j,by go_num,rfl,by omega,hjN,(fun k y hk hy => by
     rcases Nat.lt_or_eq_of_le (Nat.le_of_lt_succ hk) with h | h
     ·exact Int.lt_trans (HR.out k q y x h hy HX.out) (by rw [HXT.out]; exact hxl)
     ·subst h; rw [HX.out] at hy; cases hy; rw [HXT.out]; exact hxl : ∀ (k : Nat) (x : Int × List Tr),k < q + 1 → es[k]? = some x → x.1 < tag),HJ,hbw⟩
    case measure => simp [intOf]; omega
   ·have hdc : decide (c < 0) = false := by simp; exact Int.not_lt.1 (fun h => hxl (hc0.1 h))
    clear hc0;go_wp2_with fail;refine (HCA.out _).mono ?_;rintro e w2 ⟨rfl,hb2⟩;have hbw : Below w.heap.size w w2 := hbel.trans (hb2.mono hbel.size);clear hb2 hbel c0 c1 HCA;go_wp2_with fail
    go_roundw
    case rel => exact ⟨i,q,rfl,rfl,by omega,by omega,HI,(fun k y hk hy => by
     rcases Nat.lt_or_eq_of_le hk with h | h
     ·have := HR.out q k x y h HX.out hy;rw [HXT.out] at this
      omega
     ·subst h; rw [HX.out] at hy; cases hy; rw [HXT.out]; omega : ∀ (k : Nat) (x : Int × List Tr),q ≤ k → es[k]? = some x → tag ≤ x.1),hbw⟩
    case measure => simp [intOf]; omega
  ·obtain rfl : i = j := by omega
   by_cases hiN : i < N
   ·obtain ⟨x,hx⟩ : ∃ r,es[i]? = some r := ⟨_,List.getElem?_eq_getElem (by rw [HN.out]; omega)⟩;obtain ⟨g,off,rfl,r,⟨vt,rfl, -,ht⟩,hc⟩ := (HH.out.belowEQ hbel).get hx;obtain ⟨ta,tc,rfl, -⟩ := RowP.open ht;have c0 := hc 0 _ rfl;have c1 := hc 1 _ rfl;simp only [Nat.add_zero] at c0;have HX : Hid (es[i]? = some x) := hx;clear hc ht hx;generalize x.2.length = Xl at *;obtain ⟨xt,hxt⟩ : ∃ z,x.1 = z := ⟨_,rfl⟩;rw [hxt] at c0;have HXT : Hid (x.1 = xt) := hxt;clear hxt;obtain ⟨c,hcc⟩ : ∃ c,cmpI xt tag = c := ⟨_,rfl⟩
    have HCA : Hid (∀ W,Calls Tryz.prog 170 #[.agg #[.int .i64 xt,.slice ta Xl tc],.int .i64 tag] W fun e w' => e = .returned (.int .i64 c) ∧ Below W.heap.size W w') := fun W => by
     rw [← hcc]; exact tagc_any xt tag ta Xl tc W
    have hc0 : c = 0 ↔ xt = tag := by rw [← hcc]; exact cmp_eq xt tag
    have hB : hasB es tag = decide (xt = tag) := by
     by_cases he : xt = tag
     ·rw [decide_eq_true he];exact List.any_eq_true.2 ⟨x,List.mem_of_getElem? HX.out,by rw [HXT.out,he]; simp⟩
     ·rw [decide_eq_false he];refine List.any_eq_false.2 fun y hy => ?_
      obtain ⟨k,hk,ek⟩ := List.getElem_of_mem hy
      have hyk : es[k]? = some y := by rw [List.getElem?_eq_getElem hk,ek]
      have hge := HJ.out i x (Nat.le_refl _) HX.out;rw [HXT.out] at hge
      rcases Nat.lt_trichotomy k i with h | h | h
      ·have := HI.out k y h hyk; simp; omega
      ·subst h; rw [HX.out] at hyk; cases hyk; rw [HXT.out]; simp; omega
      ·have := HR.out i k x y h HX.out hyk; rw [HXT.out] at this; simp; omega
    have hdc : (c == 0) = R0 := by
     rw [← HR0.out,hB,Bool.eq_iff_iff]; simp [hc0]
    clear hcc hc0 hB;go_wp2_with fail;refine (HCA.out _).mono ?_;rintro e w2 ⟨rfl,hb2⟩;have hbw : Below w.heap.size w w2 := hbel.trans (hb2.mono hbel.size);clear hb2 hbel c0 c1 HCA;go_wp2_with fail
    go_ret2
    exact ⟨⟨_,rfl⟩,hbw⟩
   ·have hB : hasB es tag = false := by
     refine List.any_eq_false.2 fun y hy => ?_
     obtain ⟨k,hk,ek⟩ := List.getElem_of_mem hy
     have hyk : es[k]? = some y := by rw [List.getElem?_eq_getElem hk,ek]
     have := HI.out k y (by rw [HN.out] at hk; omega) hyk
     simp; omega
    obtain rfl : R0 = false := by rw [← HR0.out,hB]
    clear hB;go_wp2_with fail
    go_ret2
    exact ⟨⟨_,rfl⟩,hbel⟩
theorem hasTag_any (n : Nat) (v : Value) (es : List (Int × List Tr)) (tag : Int) (w : World) (h : EnsQ n w v es) (hr : RisT es) (hl : es.length ≤ 1000000) :
  Calls Tryz.prog 155 #[v,.int .i64 tag] w fun e w' => e = .returned (.bool (hasB es tag)) ∧ Below w.heap.size w w' := by
 have HI : Hid _ := bin_any n v es tag w h hr hl;obtain ⟨a,cap,rfl, -⟩ := RowP.open h;clear h hr hl;generalize es.length = N at *;generalize hasB es tag = R at *
 go_enter Tryz.func155,Tryz.ntmps155
 go_wp2_with fail;refine Calls.mono HI.out ?_;rintro e w2 ⟨⟨k,rfl⟩,hb⟩;clear HI;go_wp2_with fail;go_ret;exact ⟨rfl,hb⟩
theorem kindc_any (n : Nat) (x : Tr) (r : List Value) (b g off Kt tc : Nat) (k0 : Int) (W : World) (h : TrQ n W r x) (hB : Blk W b #[.slice (some ⟨g,off,none⟩) Kt tc] 78) (hc : W.cell? ⟨g,off,none⟩ = some (.int .i64 k0)) (hk : 0 < Kt) :
  Calls Tryz.prog 168 #[.agg r.toArray,.pointer (some ⟨b,0,none⟩)] W fun e w' => e = .returned (.bool (x.kind != k0)) ∧ Below W.heap.size W w' := by
 obtain ⟨ea,el,ec,ra,rl,rc,e1, -⟩ := TrV2.open ⟨_,rfl,h⟩;rw [e1];clear e1 h;have q0 := (hB.cell 0).trans rfl;have hb := hB.lt;have hg : g < W.heap.size := World.block_lt_of_cell? _ _ hc;clear hB;generalize x.kind = K at *;generalize x.n = N at *;generalize x.s = S at *
 go_enter Tryz.func168,Tryz.ntmps168
 go_wp2_with fail
 go_quiet (fail)
 go_wp2_with fail;go_ret;exact ⟨rfl,below_drewN nq (bra _)⟩
def okB (ts : List Tr) : Bool := decide (1 ≤ ts.length) && decide (ts.length ≤ 64) && (ts.all fun x => x.kind == (ts.head?.map Tr.kind).getD 0)
theorem oneKind_any (n : Nat) (v : Value) (ts : List Tr) (w : World) (h : TrsQ n w v ts) :
  Calls Tryz.prog 154 #[v] w fun e w' => e = .returned (.bool (okB ts)) ∧ Below w.heap.size w w' := by
 have hmf : ∀ (fn : Fn) (first cap : Array Value) (w : World),(Instr.makeFunc fn first cap).run Tryz.prog w = .ok (.func fn first cap) w := fun _ _ _ _ => rfl
 obtain ⟨a,cap,rfl,h1,h2,h3, -, -⟩ := RowP.open h;obtain ⟨N,hN⟩ : ∃ N,ts.length = N := ⟨_,rfl⟩;obtain ⟨R,hR⟩ : ∃ R,okB ts = R := ⟨_,rfl⟩;rw [hR];rw [hN] at h1 ⊢;have HH : Hid (TrsQ n w (.slice a N cap) ts) := hid (by rw [← hN]; exact h);have HN : Hid (ts.length = N) := hN;have HR : Hid (okB ts = R) := hR;unfold maxLen at h2;clear h hN hR h3
 by_cases l1 : 1 ≤ N
 ·have d1 : decide ((N : Int) < 1) = false := by simp; omega
  by_cases l2 : N ≤ 64
  ·have d2 : decide (64 < (N : Int)) = false := by simp; omega
   obtain ⟨t0,ht0⟩ : ∃ t,ts[0]? = some t := ⟨_,List.getElem?_eq_getElem (by rw [HN.out]; omega)⟩;obtain ⟨g,off,rfl,r,hr,hc⟩ := HH.out.get ht0;obtain ⟨ea,el,ec,ra,rl,rc,e1, -⟩ := TrV2.open ⟨_,rfl,hr⟩
   have hcell : w.cell? ⟨g,off,none⟩ = some (.int .i64 t0.kind) := by
    have := hc 0 (.int .i64 t0.kind) (by
     have h9 : r.toArray = #[.int .i64 t0.kind,.int .i64 t0.n,.string t0.s,.slice ea el ec,.slice ra rl rc] := by simpa using e1
     have h8 : r = [.int .i64 t0.kind,.int .i64 t0.n,.string t0.s,.slice ea el ec,.slice ra rl rc] := by simpa using congrArg Array.toList h9
     rw [h8]; rfl)
    simpa using this
   have hw1 : Below w.heap.size w (w.alloc (Obj.cells #[.slice (some ⟨g,off,none⟩) N cap] 78)) := bra _;have BX : Blk (w.alloc (Obj.cells #[.slice (some ⟨g,off,none⟩) N cap] 78)) w.heap.size #[.slice (some ⟨g,off,none⟩) N cap] 78 := Blk.new w _ _
   have HC : Hid (Calls Tryz.prog 83 #[.slice (some ⟨g,off,none⟩) N cap,.func (.func 168) #[] #[.pointer (some ⟨w.heap.size,0,none⟩)]] (w.alloc (Obj.cells #[.slice (some ⟨g,off,none⟩) N cap] 78)) fun e w' => e = .returned (.bool (!R)) ∧ Below (w.alloc (Obj.cells #[.slice (some ⟨g,off,none⟩) N cap] 78)).heap.size (w.alloc (Obj.cells #[.slice (some ⟨g,off,none⟩) N cap] 78)) w') := by
    have hh : ts.head? = some t0 := by rw [List.head?_eq_getElem?]; exact ht0
    have hb : (!R) = ts.any (fun x => x.kind != t0.kind) := by
     rw [← HR.out,okB,HN.out,decide_eq_true l1,decide_eq_true l2,hh];simp only [Option.map_some,Option.getD_some,Bool.true_and,List.not_all_eq_any_not]
     rfl
    rw [hb];refine containsK_any w.heap.size n _ ts _ (fun x => x.kind != t0.kind) (HH.out.belowTQ hw1) fun W x r' hW hx hr' => ?_
    exact kindc_any n x r' w.heap.size g off N cap t0.kind W hr' (BX.below hW) ((hW.cell (by have hg9 : g < w.heap.size := World.block_lt_of_cell? _ _ hcell; simp; omega)).trans ((hw1.cell (World.block_lt_of_cell? _ _ hcell)).trans hcell)) (by omega)
   clear hcell hc e1 hr ht0 HH HR BX
   go_enter Tryz.func154,Tryz.ntmps154
   go_wp2_with fail;refine HC.out.mono ?_;rintro e w2 ⟨rfl,hb2⟩;have hbw : Below w.heap.size w w2 := hw1.trans (hb2.mono hw1.size);clear HC hb2 hw1;go_wp2_with fail;go_ret;exact ⟨by simp,hbw⟩
  ·have d2 : decide (64 < (N : Int)) = true := by simp; omega
   obtain rfl : R = false := by rw [← HR.out,okB,HN.out]; simp; omega
   go_enter Tryz.func154,Tryz.ntmps154
   go_wp2_with fail;go_ret;exact ⟨rfl,bra _⟩
 ·have d1 : decide ((N : Int) < 1) = true := by simp; omega
  obtain rfl : R = false := by rw [← HR.out,okB,HN.out]; simp; omega
  go_enter Tryz.func154,Tryz.ntmps154
  go_wp2_with fail;go_ret;exact ⟨rfl,bra _⟩
theorem ents_cons (last : Int) (e : Int × List Tr) (l : List (Int × List Tr)) : entsB last (e :: l) = (decide (last < e.1) && decide (e.1 ≤ 500) && okB e.2 && entsB e.1 l) := by
 simp only [entsB,okB,Bool.and_assoc]
theorem entries_any (n : Nat) (v : Value) (es : List (Int × List Tr)) (w : World) (h : EnsQ n w v es) :
  Calls Tryz.prog 125 #[v] w fun e w' => e = .returned (.bool (entsB 0 es)) ∧ Below w.heap.size w w' := by
 obtain ⟨a,cap,rfl,h1,h2, -⟩ := RowP.open h;obtain ⟨N,hN⟩ : ∃ N,es.length = N := ⟨_,rfl⟩;obtain ⟨R,hR⟩ : ∃ R,entsB 0 es = R := ⟨_,rfl⟩;rw [hR];rw [hN] at h1 ⊢;have HH : Hid (EnsQ n w (.slice a N cap) es) := hid (by rw [← hN]; exact h);have HN : Hid (es.length = N) := hN;have HR0 : Hid (entsB 0 (es.drop 0) = R) := hR;unfold maxLen at h2;clear h hN hR
 go_enter Tryz.func125,Tryz.ntmps125
 go_wp2_with fail
 go_loopw [3,8] (fun av iv wr => ∃ (i : Nat) (last : Int),iv = .int .i64 (i : Int) ∧ av = .int .i64 last ∧ i ≤ N ∧ Hid (entsB last (es.drop i) = R) ∧ Below w.heap.size w wr) (fun _ iv _ => N - (intOf iv).toNat)
 case atStart => exact ⟨0,0,rfl,rfl,by omega,HR0,Below.refl _ _⟩
 case round =>
  clear HR0;obtain ⟨i,last,rfl,rfl,hi,HR,hbel⟩ := hrel
  by_cases hlt : i < N
  ·obtain ⟨x,hx⟩ : ∃ r,es[i]? = some r := ⟨_,List.getElem?_eq_getElem (by rw [HN.out]; exact hlt)⟩;obtain ⟨g,off,rfl,r,⟨vt,rfl, -,ht⟩,hc⟩ := (HH.out.belowEQ hbel).get hx;obtain ⟨ta,tc,rfl, -⟩ := RowP.open ht;have c0 := hc 0 _ rfl;have c1 := hc 1 _ rfl;simp only [Nat.add_zero] at c0
   have hdr : es.drop i = x :: es.drop (i + 1) := by
    obtain ⟨hl',e⟩ := List.getElem?_eq_some_iff.1 hx;rw [List.drop_eq_getElem_cons hl',e]
   have HR1 : Hid ((decide (last < x.1) && decide (x.1 ≤ 500) && okB x.2 && entsB x.1 (es.drop (i + 1))) = R) := hid (by rw [← ents_cons,← hdr]; exact HR.out);have HOK : Hid (∀ W,Below wr.heap.size wr W → Calls Tryz.prog 154 #[.slice ta x.2.length tc] W fun e w' => e = .returned (.bool (okB x.2)) ∧ Below W.heap.size W w') := fun W hW => oneKind_any n _ x.2 W (RowP.belowTQ ht hW)
   clear hc ht hx hdr HR;generalize x.2.length = Xl at *;generalize okB x.2 = O at *;generalize x.1 = xt at *
   by_cases k1 : last < xt
   ·by_cases k2 : xt ≤ 500
    ·have d1 : decide (xt ≤ last) = false := by simp; omega
     have d2 : decide (500 < xt) = false := by simp; omega
     have hal : Below wr.heap.size wr (wr.alloc (Obj.cells #[.int .i64 xt,.slice ta Xl tc] 80)) := bra _;have BE : Blk (wr.alloc (Obj.cells #[.int .i64 xt,.slice ta Xl tc] 80)) wr.heap.size #[.int .i64 xt,.slice ta Xl tc] 80 := Blk.new wr _ _;go_wp2_with fail;refine (HOK.out _ hal).mono ?_;rintro e w2 ⟨rfl,hb2⟩;have hb3 : Below wr.heap.size wr w2 := hal.trans (hb2.mono hal.size);have hbw : Below w.heap.size w w2 := hbel.trans (hb3.mono hbel.size);have q0 := ((BE.below hb2).cell 0).trans rfl;generalize wr.heap.size = bw at *;clear hb2 hb3 hbel c0 c1 HOK hal BE
     cases O with
     | true =>
      go_wp2_with fail
      go_roundw
      case rel => exact ⟨i + 1,xt,by go_num,rfl,by omega,(by have := HR1.out; rw [decide_eq_true k1,decide_eq_true k2] at this; simpa using this : entsB xt (es.drop (i + 1)) = R),hbw⟩
      case measure => simp [intOf]; omega
     | false =>
      obtain rfl : R = false := by rw [← HR1.out]; simp
      go_wp2_with fail;go_ret;exact ⟨rfl,hbw⟩
    ·have d1 : decide (xt ≤ last) = false := by simp; omega
     have d2 : decide (500 < xt) = true := by simp; omega
     obtain rfl : R = false := by rw [← HR1.out,decide_eq_false k2]; simp
     go_wp2_with fail;go_ret;exact ⟨rfl,hbel.alloc hbel.size _⟩
   ·have d1 : decide (xt ≤ last) = true := by simp; omega
    obtain rfl : R = false := by rw [← HR1.out,decide_eq_false k1]; simp
    go_wp2_with fail;go_ret;exact ⟨rfl,hbel.alloc hbel.size _⟩
  ·obtain rfl : R = true := by rw [← HR.out,List.drop_eq_nil_of_le (by rw [HN.out]; omega)]; rfl
   go_wp2_with fail;go_ret;exact ⟨rfl,hbel⟩
theorem rowG_holdsR {w : World} {a : Option Addr} {N cap : Nat} {l : List Fd} (h : RowG w (.slice a N cap) 4 (fdRows l)) : HoldsR w a l := by
 obtain ⟨a',cap',e,_,_,_,h4⟩ := h.form;simp only [Value.slice.injEq] at e;obtain ⟨rfl,_,_⟩ := e;intro b hb j u hu;rw [rawCells_flat] at hu;obtain ⟨i,c,k,h1,h2,rfl⟩ := flat_inv (fdRows l) (fdr_len l) j u hu;obtain ⟨g,off,e,hc⟩ := h4 (by intro e; rw [e] at h1; simp at h1);rw [hb] at e
 cases e
 have := hc i c u k h1 h2;rw [Nat.add_assoc] at this;rw [Addr.add_lit];exact this
theorem rest_all {l : List Fd} {p : Fd → Bool} {i : Nat} {f : Fd} (h : ∀ x ∈ l.take i,p x = true) (hf : l[i]? = some f) (hp : p f = true) : ∀ x ∈ l.take (i + 1),p x = true := by
 rw [take_atQ hf];intro x hx
 rcases List.mem_append.1 hx with hx | hx
 ·exact h x hx
 ·obtain rfl : x = f := by simpa using hx
  exact hp
theorem restMayBe_any (n : Nat) (v ve : Value) (l : List Fd) (es : List (Int × List Tr)) (w : World) (h : RowG w v 4 (fdRows l)) (he : EnsQ n w ve es) (hr : RisT es) (hl : es.length ≤ 1000000) :
  Calls Tryz.prog 126 #[v,ve] w fun e w' => e = .returned (.bool (restB l es)) ∧ Below w.heap.size w w' := by
 obtain ⟨a,cap,rfl,h1,h2,h3, -, -⟩ := rest_holds h;obtain ⟨N,hN⟩ : ∃ N,l.length = N := ⟨_,rfl⟩;obtain ⟨R,hR⟩ : ∃ R,restB l es = R := ⟨_,rfl⟩;rw [hR];rw [hN] at h1 ⊢;have HH : Hid (RowG w (.slice a N cap) 4 (fdRows l)) := hid (by rw [← hN]; exact h);have HN : Hid (l.length = N) := hN;have HR : Hid (restB l es = R) := hR;have HT : Hid (∀ W tag,Below w.heap.size w W → Calls Tryz.prog 155 #[ve,.int .i64 tag] W fun e w' => e = .returned (.bool (hasB es tag)) ∧ Below W.heap.size W w') := fun W tag hW => hasTag_any n ve es tag W (he.belowEQ hW) hr hl
 have HRS : Hid (∀ W,Below w.heap.size w W → Calls Tryz.prog 49 #[.slice a N cap] W fun e w' => e = .returned (.bool (risesB l)) ∧ Below W.heap.size W w') := fun W hW => rising_any a l N cap W hN h3 h1 h2 (rowG_holdsR (HH.out.below hW))
 obtain ⟨pe,ce,rfl, -⟩ := RowP.open he;unfold maxLen at h2;generalize es.length = El at *;clear h hN hR h3 he hr
 go_enter Tryz.func126,Tryz.ntmps126
 go_wp2_with fail
 go_loopw [9] (fun iv wr => ∃ i : Nat,iv = .int .i64 (i : Int) ∧ i ≤ N ∧ Hid (∀ f ∈ l.take i,(okF f && !hasB es f.tag) = true) ∧ Below w.heap.size w wr) (fun iv _ => N - (intOf iv).toNat)
 case atStart => exact ⟨0,rfl,by omega,(by simp : ∀ f ∈ l.take 0,(okF f && !hasB es f.tag) = true),Below.refl _ _⟩
 case round =>
  obtain ⟨i,rfl,hi,HI,hbel⟩ := hrel
  by_cases hlt : i < N
  ·obtain ⟨f,hf⟩ : ∃ r,l[i]? = some r := ⟨_,List.getElem?_eq_getElem (by rw [HN.out]; exact hlt)⟩;obtain ⟨g,off,rfl,cc⟩ := (HH.out.below hbel).get (show (fdRows l)[i]? = some f.cells by simp [fdRows,hf]);have p0 := cc 0 _ rfl;have p1 := cc 1 _ rfl;have p2 := cc 2 _ rfl;have p3 := cc 3 _ rfl;simp only [Nat.add_zero] at p0;have HF : Hid (l[i]? = some f) := hf;have HM : Hid (f ∈ l) := List.mem_of_getElem? hf;have HFO : Hid (okF f = okV f.tag f.wire f.n f.b) := hid (rfl);have HTG : Hid (∀ W,Below w.heap.size w W → Calls Tryz.prog 155 #[.slice pe El ce,.int .i64 f.tag] W fun e w' => e = .returned (.bool (hasB es f.tag)) ∧ Below W.heap.size W w') := fun W hW => HT.out W f.tag hW
   clear cc hf;obtain ⟨O,hO⟩ : ∃ O,okV f.tag f.wire f.n f.b = O := ⟨_,rfl⟩;obtain ⟨B,hB⟩ : ∃ B,hasB es f.tag = B := ⟨_,rfl⟩;have HO : Hid (okV f.tag f.wire f.n f.b = O) := hO;have HB : Hid (hasB es f.tag = B) := hB
   have HCK : Hid (∀ W,Calls Tryz.prog 45 #[.agg #[.int .i64 f.tag,.int .i64 f.wire,.int .i64 f.n,.string f.b]] W fun e w' => e = .returned (.bool O) ∧ Below W.heap.size W w') := fun W => by rw [← hO]; exact checkV_any f.tag f.wire f.n f.b W
   rw [hB] at HTG;clear hO hB;generalize hft : f.tag = ft at *;generalize hfw : f.wire = fw at *;generalize hfn : f.n = fn at *;generalize hfb : f.b = fb at *;have HE : Hid (f.tag = ft ∧ f.wire = fw ∧ f.n = fn ∧ f.b = fb) := ⟨hft,hfw,hfn,hfb⟩;clear hft hfw hfn hfb;have hal : Below wr.heap.size wr (wr.alloc (Obj.cells #[.int .i64 ft,.int .i64 fw,.int .i64 fn,.string fb] 61)) := bra _;have BE : Blk (wr.alloc (Obj.cells #[.int .i64 ft,.int .i64 fw,.int .i64 fn,.string fb] 61)) wr.heap.size #[.int .i64 ft,.int .i64 fw,.int .i64 fn,.string fb] 61 := Blk.new wr _ _;go_wp2_with fail;refine (HCK.out _).mono ?_;rintro e w2 ⟨rfl,hb2⟩;have hb3 : Below wr.heap.size wr w2 := hal.trans (hb2.mono hal.size);have hbw : Below w.heap.size w w2 := hbel.trans (hb3.mono hbel.size);have q0 := ((BE.below hb2).cell 0).trans rfl;generalize wr.heap.size = bw at *;clear hb2 hb3 hbel hal BE p0 p1 p2 p3 HCK
   cases O with
   | false =>
    obtain rfl : R = false := by
     rw [← HR.out,restB,Bool.and_eq_false_iff]
     left
     rw [List.all_eq_false];exact ⟨f,HM.out,by rw [HFO.out,HE.out.1,HO.out]; simp⟩
    go_wp2_with fail;go_ret;exact ⟨rfl,hbw⟩
   | true =>
    go_wp2_with fail;refine (HTG.out _ hbw).mono ?_;rintro e w4 ⟨rfl,hb4⟩;have hbw4 : Below w.heap.size w w4 := hbw.trans (hb4.mono hbw.size);clear hb4 hbw HTG
    cases B with
    | true =>
     obtain rfl : R = false := by
      rw [← HR.out,restB,Bool.and_eq_false_iff]
      left
      rw [List.all_eq_false];exact ⟨f,HM.out,by rw [HE.out.1,HB.out]; simp⟩
     go_wp2_with fail;go_ret;exact ⟨rfl,hbw4⟩
    | false =>
     have HI2 : Hid (∀ f ∈ l.take (i + 1),(okF f && !hasB es f.tag) = true) := rest_all HI.out HF.out (by rw [HFO.out,HE.out.1,HO.out,HB.out]; rfl);go_wp2_with fail
     go_roundw
     case rel => exact ⟨i + 1,by go_num,by omega,HI2,hbw4⟩
     case measure => simp [intOf]; omega
  ·have hall : R = risesB l := by
    have h5 := HI.out;rw [List.take_of_length_le (by rw [HN.out]; omega)] at h5;rw [← HR.out,restB,List.all_eq_true.2 h5]
    rfl
   have HRX : Hid (Calls Tryz.prog 49 #[.slice a N cap] wr fun e w' => e = .returned (.bool R) ∧ Below wr.heap.size wr w') := by
    rw [hall]; exact HRS.out wr hbel
   clear hall;go_wp2_with fail;refine HRX.out.mono ?_;rintro e w2 ⟨rfl,hb2⟩;have hbw : Below w.heap.size w w2 := hbel.trans (hb2.mono hbel.size);go_wp2_with fail;go_ret;exact ⟨rfl,hbw⟩
theorem wrong_any (n : Nat) (t : Tr) (r : List Value) (w : World) (h : TrQ n w r t) (hl : t.es.length ≤ 1000000) :
  Calls Tryz.prog 84 #[.agg r.toArray] w fun e w' => e = .returned (.bool (!lvB t)) ∧ Below w.heap.size w w' := by
 cases n with
 | zero => exact h.elim
 | succ n =>
  obtain ⟨ve,vr,rfl,ka,na,sa,fa,ra,ea,pa⟩ := h;obtain ⟨pe,ce,rfl,u1,u2, -⟩ := RowP.open ea;obtain ⟨pr,cr,rfl,x1,x2, -⟩ := rest_holds ra;have HEN : Hid (∀ W,Below w.heap.size w W → Calls Tryz.prog 125 #[.slice pe t.es.length ce] W fun e w' => e = .returned (.bool (entsB 0 t.es)) ∧ Below W.heap.size W w') := fun W hW => entries_any n _ t.es W (RowP.belowEQ ea hW)
  have HRE : Hid (entsB 0 t.es = true → ∀ W,Below w.heap.size w W → Calls Tryz.prog 126 #[.slice pr t.rest.length cr,.slice pe t.es.length ce] W fun e w' => e = .returned (.bool (restB t.rest t.es)) ∧ Below W.heap.size W w') := fun he W hW => restMayBe_any n _ _ t.rest t.es W (ra.below hW) (RowP.belowEQ ea hW) (ents_ris t.es 0 he) hl
  obtain ⟨R,hR⟩ : ∃ R,(!lvB t) = R := ⟨_,rfl⟩;rw [hR];have HR : Hid ((!lvB t) = R) := hR;unfold maxLen at u2 x2
  have hel : (t.es.isEmpty = decide (t.es.length = 0)) := by cases t.es <;> simp
  have hrl : (t.rest.isEmpty = decide (t.rest.length = 0)) := by cases t.rest <;> simp
  have hlv := hR;simp only [lvB,hel,hrl] at hlv;have HLV : Hid _ := hlv;clear hR hlv ea ra fa ka na pa hel hrl HR;generalize t.es.length = Ke at *;generalize t.rest.length = Kr at *;generalize t.kind = K at *;generalize t.n = N at *;generalize t.s = S at *;generalize entsB 0 t.es = E at *;generalize restB t.rest t.es = Rs at *
  have hsz : (S.toList == ([] : List UInt8)) = (S.size == 0) := by
   rw [ByteArray.toList_eq];obtain ⟨⟨l⟩⟩ := S
   cases l <;> simp [ByteArray.size]
  have hs0 : S.size = 0 → S = ByteArray.empty := fun h => by
   obtain ⟨⟨l⟩⟩ := S
   cases l with
   | nil => rfl
   | cons a l => simp [ByteArray.size] at h
  by_cases k1 : K = 1
  ·subst k1;simp only [if_true] at HLV;have HSE : Hid (S.size = 0 → S = ByteArray.empty) := hs0;clear hs0 hsz
   by_cases hs : S.size = 0
   ·have := HSE.out hs;subst this;clear HSE hs
    go_enter Tryz.func84,Tryz.ntmps84
    go_wp2_with fail
    all_goals
     go_ret;refine ⟨ret_boolF ?_,bra _⟩;rw [← HLV.out]
     first
      | (rw [Bool.eq_iff_iff]; simp; omega)
      | (simp; omega)
   ·have hne : (S.toList == ([] : List UInt8)) = false := by
     rw [ByteArray.toList_eq];obtain ⟨⟨l⟩⟩ := S
     cases l with
     | nil => exact absurd rfl hs
     | cons a l => rfl
    obtain rfl : R = true := by rw [← HLV.out]; simp [hs]
    clear hs HSE HLV
    go_enter Tryz.func84,Tryz.ntmps84
    go_wp2_with fail
    all_goals
     go_ret;exact ⟨rfl,bra _⟩
  ·have d1 : (K == 1) = false := by simpa using k1
   simp only [if_neg k1] at HLV
   by_cases k2 : K = 2
   ·subst k2;simp only [if_true] at HLV
    go_enter Tryz.func84,Tryz.ntmps84
    go_wp2_with fail
    all_goals
     go_ret;refine ⟨ret_boolF ?_,bra _⟩;rw [← HLV.out]
     first
      | (rw [Bool.eq_iff_iff]; simp; omega)
      | (simp; omega)
      | (simp; left; omega)
      | (simp_all; omega)
      | simp_all
   ·have d2 : (K == 2) = false := by simpa using k2
    simp only [if_neg k2] at HLV
    by_cases k3 : K = 3
    ·subst k3;simp only [if_true] at HLV
     by_cases hn : N = 0
     ·subst hn
      by_cases hs : S.size = 0
      ·have := hs0 hs;subst this;clear hs0 hsz hs
       go_enter Tryz.func84,Tryz.ntmps84
       go_wp2_with fail;refine (HEN.out _ (bra _)).mono ?_;rintro e w2 ⟨rfl,hb2⟩;have hal : Below w.heap.size w (w.alloc (Obj.cells #[.int .i64 3,.int .i64 0,.string ByteArray.empty,.slice pe Ke ce,.slice pr Kr cr] 33)) := bra _;have hbw : Below w.heap.size w w2 := hal.trans (hb2.mono hal.size);have BX := (Blk.new w #[.int .i64 3,.int .i64 0,.string ByteArray.empty,.slice pe Ke ce,.slice pr Kr cr] 33).below hb2;have q3 := (BX.cell 3).trans rfl;have q4 := (BX.cell 4).trans rfl;clear hb2 HEN hal BX
       cases E with
       | false =>
        obtain rfl : R = true := by rw [← HLV.out]; simp
        go_wp2_with fail;go_ret;exact ⟨rfl,hbw⟩
       | true =>
        go_wp2_with fail;refine (HRE.out trivial _ hbw).mono ?_;rintro e w3 ⟨rfl,hb3⟩;have hbw3 : Below w.heap.size w w3 := hbw.trans (hb3.mono hbw.size)
        have hRR : (!Rs) = R := by rw [← HLV.out]; simp
        clear hb3 hbw HRE;go_wp2_with fail;go_ret;exact ⟨rfl,hbw3⟩
      ·have hne : (S.toList == ([] : List UInt8)) = false := by
        rw [ByteArray.toList_eq];obtain ⟨⟨l⟩⟩ := S
        cases l with
        | nil => exact absurd rfl hs
        | cons a l => rfl
       obtain rfl : R = true := by rw [← HLV.out]; simp [hs]
       clear hs hs0 hsz HLV
       go_enter Tryz.func84,Tryz.ntmps84
       go_wp2_with fail
       all_goals
        go_ret;exact ⟨rfl,bra _⟩
     ·have hne : (N != 0) = true := by simpa using hn
      obtain rfl : R = true := by rw [← HLV.out]; simp [hn]
      clear hs0 hsz HLV
      go_enter Tryz.func84,Tryz.ntmps84
      go_wp2_with fail
      all_goals
       go_ret;exact ⟨rfl,bra _⟩
    ·have d3 : (K == 3) = false := by simpa using k3
     simp only [if_neg k3] at HLV
     obtain rfl : R = true := by rw [← HLV.out]; rfl
     go_enter Tryz.func84,Tryz.ntmps84
     go_wp2_with fail;go_ret;exact ⟨rfl,bra _⟩
theorem ok_step {m : Nat} {ts : List Tr} {M : List (List (Int × List Tr))} (h : MsgS ts M) (hl : ∀ x ∈ ts,lvB x = true) : ts.all (okN (m + 1)) = (subsL M).all (okN m) := by
 rw [Bool.eq_iff_iff,List.all_eq_true,List.all_eq_true]
 constructor
 ·intro h1 y hy;obtain ⟨m1,hm1,hy⟩ := mem_subsL.1 hy;obtain ⟨t1,ht1,hk1,rfl⟩ := mem_msgsL.1 (h.1.subset hm1);have := h1 t1 ht1;simp only [okN,hk1,if_true,Bool.and_eq_true,List.all_eq_true] at this;exact this.2 y hy
 ·intro h1 x hx;simp only [okN,hl x hx,Bool.true_and]
  split
  ·rename_i hk
   exact List.all_eq_true.2 fun y hy => h1 y (mem_subsL.2 ⟨_,h.2 x hx hk,hy⟩)
  ·rfl
theorem sm_step {m : Nat} {ts : List Tr} {M : List (List (Int × List Tr))} (h : MsgS ts M) (hs : ∀ x ∈ ts,SmN (m + 1) x) : ∀ x ∈ subsL M,SmN m x := by
 intro y hy;obtain ⟨m1,hm1,hy⟩ := mem_subsL.1 hy;obtain ⟨t1,ht1,hk1,rfl⟩ := mem_msgsL.1 (h.1.subset hm1);obtain ⟨e,he,hy⟩ := mem_subs.1 hy;exact ((hs t1 ht1).2.2.2.2 e he).2 y hy
theorem vcheck_any (n : Nat) (t : Tr) (v : Value) (w : World) (h : TrV2 n w v t) (hn : n ≤ 60) (hc : cntN n t ≤ 5000) (hs : SmN n t) :
  Calls Tryz.prog 43 #[v] w fun e w' => e = .returned (.bool (chkN n t)) ∧ Below w.heap.size w w' := by
 have HDP : Hid (∀ W,Below w.heap.size w W → Calls Tryz.prog 80 #[v] W fun e w' => e = .returned (.int .i64 (dpN n t : Int)) ∧ Below W.heap.size W w') := fun W hW => depth_any n t v W (h.below hW) hn hc
 obtain ⟨ea,el,ec,ra,rl,rc,rfl,hq⟩ := h.open;have HQ : Hid (TrQ n w [.int .i64 t.kind,.int .i64 t.n,.string t.s,.slice ea el ec,.slice ra rl rc] t) := hq;have HC : Hid (cntN n t ≤ 5000) := hc;have HS : Hid (SmN n t) := hs;obtain ⟨D,hD⟩ : ∃ D,dpN n t = D := ⟨_,rfl⟩;obtain ⟨R,hR⟩ : ∃ R,okN n t = R := ⟨_,rfl⟩;have HR : Hid (okN n t = R) := hR;rw [hD] at HDP;rw [chkN,hD,hR];clear h hq hc hs hD hR;generalize t.kind = K at *;generalize t.n = N at *;generalize t.s = S at *;have hal : Below w.heap.size w (w.alloc (Obj.cells #[.int .i64 K,.int .i64 N,.string S,.slice ea el ec,.slice ra rl rc] 33)) := bra _;have HBX : Hid (Blk (w.alloc (Obj.cells #[.int .i64 K,.int .i64 N,.string S,.slice ea el ec,.slice ra rl rc] 33)) w.heap.size #[.int .i64 K,.int .i64 N,.string S,.slice ea el ec,.slice ra rl rc] 33) := Blk.new w _ _
 by_cases hd : D ≤ 10
 ·have d1 : decide (10 < (D : Int)) = false := by simp; omega
  rw [decide_eq_true hd,Bool.true_and]
  go_enter Tryz.func43,Tryz.ntmps43
  go_wp2_with fail;refine (HDP.out _ hal).mono ?_;rintro e w1 ⟨rfl,hb1⟩;have hb : Below w.heap.size w w1 := hal.trans (hb1.mono hal.size);have BX := HBX.out.below hb1;clear hb1 hal HBX HDP;obtain ⟨q0,q1,q2,q3,q4⟩ := cl5 BX;go_wp2_with fail;have hbA : Below w.heap.size w (w1.alloc (Obj.cells #[.int .i64 K,.int .i64 N,.string S,.slice ea el ec,.slice ra rl rc] 33)) := hb.alloc hb.size _;have HT0 : Hid (TrsQ n (w1.alloc (Obj.cells #[.int .i64 K,.int .i64 N,.string S,.slice ea el ec,.slice ra rl rc] 33)) (.slice (some ⟨w1.heap.size,0,none⟩) 1 1) [t]) := one_row (Blk.new w1 _ _) (HQ.out.below hbA);clear q0 q1 q2 q3 q4 BX
  go_loopg [3] n (fun k lv wr => ∃ ts : List Tr,Hid (TrsQ k wr lv ts) ∧ Hid (cntL k ts ≤ 5000) ∧ Hid (∀ x ∈ ts,SmN k x) ∧ Hid (ts.all (okN k) = R) ∧ Below w.heap.size w wr)
  case atStart => exact ⟨[t],HT0,(by simpa [cntL] using HC.out : cntL n [t] ≤ 5000),(by simpa using HS.out : ∀ x ∈ [t],SmN n x),(by simpa using HR.out : [t].all (okN n) = R),hbA⟩
  case round =>
   clear HT0 hbA hb;obtain ⟨ts,HT,HC,HS,HR,hb⟩ := hrel;obtain ⟨la,lc,rfl,l1,l2, -⟩ := RowP.open HT.out;unfold maxLen at l2;obtain ⟨Tl,hTl⟩ : ∃ k,ts.length = k := ⟨_,rfl⟩;have HT' : Hid (TrsQ gk wr (.slice la Tl lc) ts) := hid (by rw [← hTl]; exact HT.out);rw [hTl] at l1 ⊢;have HTl : Hid (ts.length = Tl) := hTl;have hlen : ts.length ≤ 5000 := Nat.le_trans (len_cnt HT'.out) HC.out;have HLN : Hid (ts.length ≤ 5000) := hlen;clear hTl HT hlen
   by_cases h0 : Tl = 0
   ·subst h0;have hts : ts = [] := List.eq_nil_of_length_eq_zero HTl.out
    obtain rfl : R = true := by rw [← HR.out,hts]; rfl
    clear hts;go_wp2_with fail;go_ret;exact ⟨rfl,hb⟩
   ·have d2 : decide (0 < (Tl : Int)) = true := by simp; omega
    obtain ⟨m,rfl⟩ : ∃ m,gk = m + 1 := by
     cases gk with
     | zero =>
      exfalso
      obtain ⟨rows,_,_,h3⟩ := HT'.out;obtain ⟨x,hx⟩ : ∃ x,ts[0]? = some x := ⟨_,List.getElem?_eq_getElem (by rw [HTl.out]; omega)⟩;obtain ⟨r,_,hp⟩ := h3 0 x hx;exact hp
     | succ m => exact ⟨m,rfl⟩
    obtain ⟨B,hB⟩ : ∃ B,ts.any (fun x => !lvB x) = B := ⟨_,rfl⟩
    have HCF : Hid (Calls Tryz.prog 83 #[.slice la Tl lc,.func (.func 84) #[] #[]] wr fun e w' => e = .returned (.bool B) ∧ Below wr.heap.size wr w') := by
     rw [← hB];exact containsW_any (m + 1) _ ts wr (fun x => !lvB x) HT'.out fun W x r hW hx hr => wrong_any (m + 1) x r W hr (by have := (HS.out x hx).2.2.1; omega)
    have HB : Hid (ts.any (fun x => !lvB x) = B) := hB;clear hB;go_wp2_with fail;refine HCF.out.mono ?_;rintro e w2 ⟨rfl,hb2⟩;have hbw2 : Below w.heap.size w w2 := hb.trans (hb2.mono hb.size);have HT2 : Hid (TrsQ (m + 1) w2 (.slice la Tl lc) ts) := HT'.out.belowTQ hb2;clear HCF hb hb2 HT'
    cases B with
    | true =>
     obtain rfl : R = false := by
      rw [← HR.out,List.all_eq_false];obtain ⟨x,hx,hlx⟩ := List.any_eq_true.1 HB.out;refine ⟨x,hx,?_⟩
      simp at hlx
      simp [okN,hlx]
     go_wp2_with fail;go_ret;exact ⟨rfl,hbw2⟩
    | false =>
     have hlv : ∀ x ∈ ts,lvB x = true := fun x hx => by
      have := List.any_eq_false.1 HB.out x hx
      simpa using this
     have HLV : Hid (∀ x ∈ ts,lvB x = true) := hlv;have HM : Hid (Calls Tryz.prog 82 #[.slice la Tl lc] w2 (MsgP m ts w2)) := messages_any (m + 1) _ ts w2 HT2.out HLN.out;clear hlv;go_wp2_with fail;refine HM.out.mono ?_;rintro e w3 ⟨lv3,M,rfl,hL3,hS3,hb3⟩;have hbw3 : Below w.heap.size w w3 := hbw2.trans (hb3.mono hbw2.size);have HC3 : Hid (cntL m (subsL M) ≤ 5000) := hid (Nat.le_trans (cnt_step hS3) HC.out);have HI : Hid (Calls Tryz.prog 81 #[lv3] w3 (InsP m M w3)) := inside_any m _ M w3 hL3 (Nat.le_trans (len_subsL hL3) HC3.out);have HR3 : Hid ((subsL M).all (okN m) = R) := hid (by rw [← ok_step hS3 HLV.out]; exact HR.out);have HS3 : Hid (∀ x ∈ subsL M,SmN m x) := sm_step hS3 HS.out;obtain ⟨ma,mc,rfl, -⟩ := RowP.open hL3;clear hL3 hS3 hb3 hbw2 HM HT2 HC HS HR HLV;generalize M.length = Ml at *;go_wp2_with fail;refine HI.out.mono ?_;rintro e w4 ⟨iv,rfl,hT4,hb4⟩;have hbw4 : Below w.heap.size w w4 := hbw3.trans (hb4.mono hbw3.size);have HT4 : Hid (TrsQ m w4 iv (subsL M)) := hT4;clear hT4 hb4 hbw3 HI;go_wp2_with fail
     go_roundg m
     case measure => omega
     case rel => exact ⟨subsL M,HT4,HC3,HS3,HR3,hbw4⟩
 ·have d1 : decide (10 < (D : Int)) = true := by simp; omega
  rw [decide_eq_false hd,Bool.false_and]
  go_enter Tryz.func43,Tryz.ntmps43
  go_wp2_with fail;refine (HDP.out _ hal).mono ?_;rintro e w1 ⟨rfl,hb1⟩;have hb : Below w.heap.size w w1 := hal.trans (hb1.mono hal.size);have BX := HBX.out.below hb1;clear hb1 hal HBX HDP;clear BX;go_wp2_with fail;go_ret;exact ⟨rfl,hb⟩
theorem TrW.v3 {n : Nat} {w : World} {v : Value} {t : Tr} (h : TrW n w v t) : TrV2 n w v t := by
 obtain ⟨r,h1,h2⟩ := h;exact ⟨r,h1,h2.trQ⟩
def RwsP (R : List Fd × Nat) (w : World) (e : Ending) (w' : World) : Prop := ∃ r,e = .returned (.tuple #[r,.int .i64 (R.2 : Int)]) ∧ RawsAt w.heap.size w' r R.1 ∧ FdsOk R.1 ∧ Below w.heap.size w w'
def EncP (R : List Nat × Nat) (w : World) (e : Ending) (w' : World) : Prop := ∃ r,e = .returned (.tuple #[r,.int .i64 (R.2 : Int)]) ∧ w'.ownsRow w.heap.size 5 1 r R.1.length (byteCells R.1) ∧ Below w.heap.size w w'
theorem EncP.no {R : List Nat × Nat} {w w' : World} {er : Nat} (h : R = ([],er)) (h2 : Below w.heap.size w w') : EncP R w (.returned (.tuple #[.slice none 0 0,.int .i64 (er : Int)])) w' := by
 subst h;exact ⟨.slice none 0 0,rfl,World.ownsRow_nil _ _ _ _,h2⟩
theorem RwsP.no {R : List Fd × Nat} {w w' : World} (h : R = ([],1)) (h2 : Below w.heap.size w w') : RwsP R w (.returned (.tuple #[.slice none 0 0,.int .i64 1])) w' := by
 subst h;exact ⟨.slice none 0 0,rfl,RawsAt.nil _ _,⟨by simp,by simp⟩,h2⟩
theorem eraws_any {n : Nat} {t : Tr} {v : Value} {w : World} (ht : TrW n w v t) (hn : n ≤ 60) (hc : cntN n t ≤ 5000) (hsm : SmN n t) :
  Calls Tryz.prog 37 #[v] w (RwsP (rawsA n t) w) := by
 have hmm := @run_makeMap Tryz.prog;obtain ⟨R,hR⟩ : ∃ R,rawsA n t = R := ⟨_,rfl⟩;have HR : Hid (rawsA n t = R) := hR;rw [hR];obtain ⟨m,a1,c1,a2,c2, -,rfl, -⟩ := ht.open;obtain ⟨K,hK⟩ : ∃ z,t.kind = z := ⟨_,rfl⟩;obtain ⟨N,hN⟩ : ∃ z,t.n = z := ⟨_,rfl⟩;obtain ⟨S,hS⟩ : ∃ z,t.s = z := ⟨_,rfl⟩;generalize t.es.length = n1 at *;generalize t.rest.length = n2 at *;have HT3 : Hid (t.kind = K) := hK;rw [hK,hN,hS] at ht ⊢;have HVC : Hid (∀ W,Below w.heap.size w W → Calls Tryz.prog 43 #[.agg #[.int .i64 K,.int .i64 N,.string S,.slice a1 n1 c1,.slice a2 n2 c2]] W fun e w' => e = .returned (.bool (chkN n t)) ∧ Below W.heap.size W w') := fun W hW => vcheck_any n t _ W ((ht.cel (Cel.ofBelow hW)).v3) hn hc hsm
 have HFC : Hid (∀ W b,Below w.heap.size w W → KnE w W b → Calls Tryz.prog 68 #[.agg #[.map (some b)],.agg #[.int .i64 K,.int .i64 N,.string S,.slice a1 n1 c1,.slice a2 n2 c2]] W (FlsP w (rwE (bytE (n - 1)) t) b W)) := fun W b hW hk => efields_any w b n t _ W ht hsm hW hk
 have BT : Blk (w.alloc (Obj.cells #[.int .i64 K,.int .i64 N,.string S,.slice a1 n1 c1,.slice a2 n2 c2] 33)) w.heap.size #[.int .i64 K,.int .i64 N,.string S,.slice a1 n1 c1,.slice a2 n2 c2] 33 := Blk.new w _ _;have hbw : Below w.heap.size w (w.alloc (Obj.cells #[.int .i64 K,.int .i64 N,.string S,.slice a1 n1 c1,.slice a2 n2 c2] 33)) := bra _;clear hR hK hN hS ht hn hc hsm
 by_cases hK3 : K = 3
 rotate_left
 ·have d : (K != 3) = true := by simpa using hK3
  have HRV : Hid (R = ([],1)) := (by rw [← HR.out,rawsA,if_neg (by rw [HT3.out]; exact fun h => hK3 h.1)] : R = _);clear hK3 HR HT3 HVC HFC BT
  go_enter Tryz.func37,Tryz.ntmps37
  go_wp2_with fail
  go_ret2
  exact RwsP.no HRV.out hbw
 ·subst hK3
  go_enter Tryz.func37,Tryz.ntmps37
  go_wp2_with fail;refine (HVC.out _ hbw).mono ?_;rintro ee w1 ⟨rfl,hb1⟩;have hbw1 : Below w.heap.size w w1 := hbw.trans (hb1.mono hbw.size);have BT1 := BT.below hb1;clear hb1 hbw BT HVC;obtain ⟨C,hC⟩ : ∃ z,chkN n t = z := ⟨_,rfl⟩;have HC : Hid (chkN n t = C) := hC;rw [hC];clear hC
  cases C with
  | false =>
   have HRV : Hid (R = ([],1)) := (by rw [← HR.out,rawsA,if_neg (by rw [HC.out]; simp)] : R = _);clear HR HC;go_wp2_with fail
   go_ret2
   exact RwsP.no HRV.out hbw1
  | true =>
   have HRV : Hid (rwE (bytE (n - 1)) t = R) := (by rw [← HR.out,rawsA,if_pos ⟨HT3.out,HC.out⟩] : _ = R);have alm : Below w1.heap.size w1 (w1.alloc (.map #[] 0)) := bra _;have hbw2 : Below w.heap.size w (w1.alloc (.map #[] 0)) := hbw1.trans (alm.mono hbw1.size)
   have HF2 : Hid (Calls Tryz.prog 68 #[.agg #[.map (some w1.heap.size)],.agg #[.int .i64 3,.int .i64 N,.string S,.slice a1 n1 c1,.slice a2 n2 c2]] (w1.alloc (.map #[] 0)) (FlsP w R w1.heap.size (w1.alloc (.map #[] 0)))) := (by
    have h1 := HFC.out (w1.alloc (.map #[] 0)) w1.heap.size hbw2 (KnE.made hbw1.size);rw [HRV.out] at h1
    exact h1 : Calls Tryz.prog _ _ _ _)
   have BT2 := BT1.below alm;obtain ⟨t0,t1,t2,t3,t4⟩ := cl5 BT2;clear HFC HRV HR HC BT1 BT2;go_wp2_with fail;refine Calls.mono HF2.out ?_;rintro ee w3 ⟨r,rfl,hra,hok, -,hkp⟩;have hbw3 : Below w.heap.size w w3 := hbw2.trans (hkp.toBelow hbw2.size (fun k e => by rw [e]; exact hbw1.size))
   have HRA : Hid (RawsAt w.heap.size w3 r R.1) := hid (by
    obtain ⟨qa,qc,q1,q2,q3,q4,q5⟩ := hra;refine ⟨qa,qc,q1,?_,q3,q4,q5⟩
    rcases q2 with h | ⟨g,g1,g2,g3⟩
    ·exact .inl h
    ·exact .inr ⟨g,g1,Nat.le_trans hbw2.size g2,g3⟩)
   clear hra hkp HF2 t0 t1 t2 t3 t4 alm;go_wp2_with fail
   go_ret2
   exact ⟨r,rfl,HRA.out,hok,hbw3⟩
theorem encode_any {n : Nat} {t : Tr} {v : Value} {w : World} (ht : TrW n w v t) (hn : n ≤ 60) (hc : cntN n t ≤ 5000) (hsm : SmN n t) :
  Calls Tryz.prog 19 #[v] w (EncP (encA n t) w) := by
 obtain ⟨R,hR⟩ : ∃ R,encA n t = R := ⟨_,rfl⟩;have HR : Hid (ofR (rawsA n t) = R) := hR;rw [hR];have HRC : Hid (∀ W,Below w.heap.size w W → Calls Tryz.prog 37 #[v] W (RwsP (rawsA n t) W)) := fun W hW => eraws_any (ht.cel (Cel.ofBelow hW)) hn hc hsm
 obtain ⟨m,a1,c1,a2,c2, -,rfl, -⟩ := ht.open;generalize t.kind = K at *;generalize t.n = N at *;generalize t.s = S at *;generalize t.es.length = n1 at *;generalize t.rest.length = n2 at *;have hbw : Below w.heap.size w (w.alloc (Obj.cells #[.int .i64 K,.int .i64 N,.string S,.slice a1 n1 c1,.slice a2 n2 c2] 33)) := bra _;clear hR ht hn hc hsm
 go_enter Tryz.func19,Tryz.ntmps19
 go_wp2_with fail;refine Calls.mono (HRC.out _ hbw) ?_;rintro ee w1 ⟨r,rfl,hra,hok,hb1⟩;have hbw1 : Below w.heap.size w w1 := hbw.trans (hb1.mono hbw.size);obtain ⟨⟨rs,er⟩,hq⟩ : ∃ q,rawsA n t = q := ⟨_,rfl⟩;rw [hq] at HR hra hok ⊢;have HPC : Hid (Calls Tryz.prog 25 #[r] w1 fun e w' => ∃ v,e = .returned (.tuple #[v,.int .i64 ((putL rs).2 : Int)]) ∧ w'.ownsRow w1.heap.size 5 1 v (putL rs).1.length (byteCells (putL rs).1) ∧ Below w1.heap.size w1 w') := putall_at hra hok;clear hra hok hq hb1 hbw HRC
 by_cases he : er = 0
 ·subst he;have HRV : Hid (putL rs = R) := hid (by have := HR.out; rw [ofR,if_neg (by simp)] at this; exact this);rw [HRV.out] at HPC;clear HR HRV;go_wp2_with fail;refine Calls.mono HPC.out ?_;rintro ee w2 ⟨u,rfl,ho,hb2⟩;have hbw2 : Below w.heap.size w w2 := hbw1.trans (hb2.mono hbw1.size)
  have HO : Hid (w2.ownsRow w.heap.size 5 1 u R.1.length (byteCells R.1)) := hid (by
   refine ⟨ho.1,?_⟩
   rcases ho.2 with h | ⟨g,cap,cur,h1,h2,h3⟩
   ·exact .inl h
   ·exact .inr ⟨g,cap,cur,h1,Nat.le_trans hbw1.size h2,h3⟩)
  clear ho hb2 HPC;go_wp2_with fail
  go_ret2
  exact ⟨u,rfl,HO.out,hbw2⟩
 ·have hd : ((er : Int) != 0) = true := by simp; omega
  have HRV : Hid (R = ([],er)) := (by have := HR.out; rw [ofR,if_pos he] at this; exact this.symm : R = _);clear HR HPC he;go_wp2_with fail
  go_ret2
  exact EncP.no HRV.out hbw1
theorem RowG.blk {w : World} {b : Nat} {cs : Array Value} {t : TypeId} {size n : Nat} {rs : List (List Value)} (h : Blk w b cs t) (hc : cs.toList = rs.flatten) (hl : ∀ r ∈ rs,r.length = size) (hn : rs.length = n) (hm : n ≤ 1000000) : RowG w (.slice (some ⟨b,0,none⟩) n n) size rs := by
 subst hn;refine ⟨some ⟨b,0,none⟩,rs.length,rfl,Nat.le_refl _,by unfold maxLen; omega,(fun e => by cases e),fun _ => ⟨b,0,rfl,fun i c u j hi hj => ?_⟩⟩;rw [h.cell,← Array.getElem?_toList,hc,Nat.zero_add];exact flat_get rs hl i c hi j u hj
theorem Blk.newAt {w : World} {b : Nat} {cs : Array Value} {t : TypeId} (h : w.heap.size = b) : Blk (w.alloc (.cells cs t)) b cs t := by subst h; exact Blk.new w cs t
theorem Blk.up {w : World} {b : Nat} {cs : Array Value} {t : TypeId} (h : Blk w b cs t) (o : Obj) : Blk (w.alloc o) b cs t := h.below (bra _)
theorem row_sliceD {w : World} {v : Value} {size : Nat} {rs : List (List Value)} (h : RowG w v size rs) : ∃ a n c,v = .slice a n c := by
 obtain ⟨a,c,e,_⟩ := h.form;exact ⟨a,_,c,e⟩
theorem ByS.own {B : Nat} {w : World} {v : Value} {n : Nat} {ns : List Nat} (ho : w.ownsRow B 5 1 v n (byteCells ns)) (hb : ∀ k ∈ ns,k < 256) : ByS w v ns := by
 obtain ⟨a,cap,rfl, -,h1,h2,h3,h4⟩ := own_open ho;exact ⟨a,cap,rfl,h4,hb,h2,h3,own_adr h1⟩
theorem ByS.conv {w : World} {v : Value} {ns : List Nat} (h : ByS w v ns) : (convert 27 9 v).run Tryz.prog w = .ok (.string (strN ns)) w := by
 obtain ⟨a,cap,rfl,h1,h2,h3,h4,h5⟩ := h;refine conv_holds w a ns cap (fun ha => ?_) h1
 rcases h5 with h5 | ⟨g,off,h5⟩
 ·exact h5
 ·rw [ha] at h5; cases h5
theorem ByS.lt {w : World} {v : Value} {ns : List Nat} (h : ByS w v ns) : ∀ k ∈ ns,k < 256 := by obtain ⟨a,cap,rfl,h1,h2,_⟩ := h; exact h2
theorem strN_inj {a b : List Nat} (ha : ∀ k ∈ a,k < 256) (hb : ∀ k ∈ b,k < 256) : strN a = strN b ↔ a = b := by
 constructor
 ·intro h;have h1 := bytesN_strN a ha;rw [h,bytesN_strN b hb] at h1;exact h1.symm
 ·rintro rfl; rfl
theorem bytesEq_any {w : World} {v1 v2 : Value} {a b : List Nat} (h1 : ByS w v1 a) (h2 : ByS w v2 b) : Calls Tryz.prog 35 #[v1,v2] w fun e w' => e = .returned (.bool (decide (a = b))) ∧ Below w.heap.size w w' := by
 have c1 := h1.conv;have c2 := h2.conv
 have HE : Hid (decide (a = b) = ((strN a).toList == (strN b).toList)) := (by
  rw [Bool.eq_iff_iff];simp only [decide_eq_true_eq,beq_iff_eq,ByteArray.toList_eq]
  constructor
  ·rintro rfl; rfl
  ·intro h
   refine (strN_inj h1.lt h2.lt).1 (ByteArray.ext (Array.toList_inj.1 h)) : _ = _)
 clear h1 h2;generalize strN a = A at *;generalize strN b = B at *
 go_enter Tryz.func35,Tryz.ntmps35
 go_wp2_with fail;go_ret;exact ⟨congrArg (fun z => Ending.returned (Value.bool z)) HE.out.symm,Below.refl _ _⟩
theorem decode_any {w : World} {v : Value} {s : ScS} {nm : ByteArray} {ns : List Nat} {vb : Value} (hs : ScIn w v s) (hw : ScW s) (hf : FewL s) (hb : ByS w vb ns) : Calls Tryz.prog 11 #[v,.string nm,vb] w (DtrP 11 (decA s nm ns) w) := by
 obtain ⟨R,hR⟩ : ∃ R,decA s nm ns = R := ⟨_,rfl⟩;have HR : Hid ((if checkA s ≠ 0 then (tr0,1) else decM 10 s nm ns) = R) := hR;rw [hR];clear hR;have hs' := hs;obtain ⟨vm,ve,vt,rfl,hms,hen,hmt⟩ := hs;obtain ⟨ma,mc,rfl, -⟩ := hms.open;obtain ⟨ea,ec,rfl, -⟩ := hen.open;obtain ⟨ta,tn,tc,rfl⟩ := row_sliceD hmt;generalize s.msgs.length = mn at *;generalize s.enums.length = en at *;obtain ⟨sn,hsn⟩ : ∃ z,s.name = z := ⟨_,rfl⟩;rw [hsn] at hs' ⊢;obtain ⟨BS,BT,hbw⟩ := dblk2r w #[.string sn,.slice ma mn mc,.slice ea en ec,.slice ta tn tc] #[.int .i64 0,.int .i64 0,.string ⟨#[]⟩,.slice none 0 0,.slice none 0 0] 26 33;have HCK : Hid (Calls Tryz.prog 30 #[.agg #[.string sn,.slice ma mn mc,.slice ea en ec,.slice ta tn tc]] ((w.alloc (Obj.cells #[.string sn,.slice ma mn mc,.slice ea en ec,.slice ta tn tc] 26)).alloc (Obj.cells #[.int .i64 0,.int .i64 0,.string ⟨#[]⟩,.slice none 0 0,.slice none 0 0] 33)) fun e w' => e = .returned (.int .i64 (checkA s)) ∧ Below ((w.alloc (Obj.cells #[.string sn,.slice ma mn mc,.slice ea en ec,.slice ta tn tc] 26)).alloc (Obj.cells #[.int .i64 0,.int .i64 0,.string ⟨#[]⟩,.slice none 0 0,.slice none 0 0] 33)).heap.size ((w.alloc (Obj.cells #[.string sn,.slice ma mn mc,.slice ea en ec,.slice ta tn tc] 26)).alloc (Obj.cells #[.int .i64 0,.int .i64 0,.string ⟨#[]⟩,.slice none 0 0,.slice none 0 0] 33)) w') := check_any (hs'.below hbw) hw hf
 have HME : Hid (∀ W,Below w.heap.size w W → Calls Tryz.prog 31 #[.agg #[.string sn,.slice ma mn mc,.slice ea en ec,.slice ta tn tc],.string nm,vb,.int .i64 1] W (DtrP 11 (decM 10 s nm ns) W)) := fun W hW => by
  have h1 := dmsg_any s sn ma ea ta mn mc en ec tn tc hf.flds 9 1 rfl nm vb ns W (hb.below hW) (hs'.below hW)
  simpa using h1
 clear hs' hms hen hmt hsn hw hf hb
 go_enter Tryz.func11,Tryz.ntmps11
 go_wp2_with fail;obtain ⟨b0,hb0⟩ : ∃ z,w.heap.size = z := ⟨_,rfl⟩;have HBZ : Hid (w.heap.size = b0) := hb0;generalize ((w.alloc (Obj.cells #[.string sn,.slice ma mn mc,.slice ea en ec,.slice ta tn tc] 26)).alloc (Obj.cells #[.int .i64 0,.int .i64 0,.string ⟨#[]⟩,.slice none 0 0,.slice none 0 0] 33)) = W0 at *;rw [hb0] at BS BT;simp only [hb0];clear hb0;obtain ⟨s0,s1,s2,s3⟩ := cl4 BS;have HBW : Hid (Below w.heap.size w W0) := hbw;have HBS : Hid (Blk W0 b0 #[.string sn,.slice ma mn mc,.slice ea en ec,.slice ta tn tc] 26) := BS;have HBT : Hid (Blk W0 (b0 + 1) #[.int .i64 0,.int .i64 0,.string ⟨#[]⟩,.slice none 0 0,.slice none 0 0] 33) := BT;clear BS BT hbw;go_wp2_with fail;refine HCK.out.mono ?_;rintro e w1 ⟨rfl,hb1⟩;have HW1 : Hid (Below W0.heap.size W0 w1) := hb1;have hbw1 : Below w.heap.size w w1 := HBW.out.trans (hb1.mono HBW.out.size);have BS1 := HBS.out.below hb1;have BT1 := HBT.out.below hb1;clear hb1 HCK s0 s1 s2 s3;obtain ⟨A,hA⟩ : ∃ z,checkA s = z := ⟨_,rfl⟩;rw [hA] at HR ⊢;clear hA
 by_cases hA0 : A = 0
 rotate_left
 ·have d : (A != 0) = true := by simpa using hA0
  have HX1 : Hid (R = (tr0,1)) := hid (by rw [← HR.out,if_pos hA0])
  have HFI : Hid (DtrP 11 R w (.returned (.tuple #[.agg #[.int .i64 0,.int .i64 0,.string ⟨#[]⟩,.slice none 0 0,.slice none 0 0],.int .i64 1])) (set5 w1 (b0 + 1) 0 (.int .i64 0) (.int .i64 0) (.string ⟨#[]⟩) (.slice none 0 0) (.slice none 0 0))) := (
   DtrP.done (bs := []) hbw1 (by have := HBZ.out; omega) (by rw [HX1.out]; exact TrO.zeroO 10 _ w1) (Apt.nil _ _) (by simp) (by rw [HX1.out]) : DtrP _ _ _ _ _)
  clear hA0 hbw1;obtain ⟨t0,t1,t2,t3,t4⟩ := cl5 BT1;obtain ⟨z0,z1,z2,z3,z4⟩ := fz5 BT1;have ltT := BT1.lt;go_wp2_with fail;refine bodyPost_ret (results_two rfl _ _ _ ⟨b0 + 1,0,none⟩ (.agg #[.int .i64 0,.int .i64 0,.string ⟨#[]⟩,.slice none 0 0,.slice none 0 0]) (by go_simp) (by go_simp)) rfl ?_;exact HFI.out
 ·subst hA0;have HX1 : Hid (decM 10 s nm ns = R) := hid (by rw [← HR.out]; simp)
  have HM1 : Hid (Calls Tryz.prog 31 #[.agg #[.string sn,.slice ma mn mc,.slice ea en ec,.slice ta tn tc],.string nm,vb,.int .i64 1] w1 (DtrP 11 R w1)) := (by
   have h1 := HME.out w1 hbw1;rw [HX1.out] at h1
   exact h1 : Calls Tryz.prog _ _ _ _)
  obtain ⟨s0,s1,s2,s3⟩ := cl4 BS1;clear HME HR BT1;go_wp2_with fail;refine HM1.out.mono ?_;rintro e w3 ⟨r,bs,rfl,ht,hap,hb3⟩;have hw3 : Below W0.heap.size W0 w3 := HW1.out.trans (hb3.mono HW1.out.size);have hbw3 : Below w.heap.size w w3 := HBW.out.trans (hw3.mono HBW.out.size);have BT3 := HBT.out.below hw3;obtain ⟨a1,n1,c1,a2,n2,c2,rfl⟩ := ht.open;have hle : w.heap.size ≤ w1.heap.size := hbw1.size
  have HFI : Hid (DtrP 11 R w (.returned (.tuple #[.agg #[.int .i64 R.1.kind,.int .i64 R.1.n,.string R.1.s,.slice a1 n1 c1,.slice a2 n2 c2],.int .i64 R.2])) (set5 w3 (b0 + 1) 0 (.int .i64 R.1.kind) (.int .i64 R.1.n) (.string R.1.s) (.slice a1 n1 c1) (.slice a2 n2 c2))) := (
   DtrP.done hbw3 (by have := HBZ.out; omega) (ht.base hle) (hap.base hle) (fun hc => by have h1 := (hap.2 _ hc).1; have h2 := BT3.lt; have h3 := (HBT.out.below HW1.out).lt; omega) rfl : DtrP _ _ _ _ _)
  clear ht hap hb3 hw3 hbw3 hle HX1 hbw1 s0 s1 s2 s3 BS1;obtain ⟨t0,t1,t2,t3,t4⟩ := cl5 BT3;obtain ⟨z0,z1,z2,z3,z4⟩ := fz5 BT3;have ltT := BT3.lt;generalize R.1.kind = K0 at *;generalize R.1.n = N0 at *;generalize R.1.s = S0 at *;generalize R.2 = E0 at *;clear BT3;go_wp2_with fail;refine bodyPost_ret (results_two rfl _ _ _ ⟨b0 + 1,0,none⟩ (.agg #[.int .i64 K0,.int .i64 N0,.string S0,.slice a1 n1 c1,.slice a2 n2 c2]) (by go_simp) (by go_simp)) rfl ?_;exact HFI.out
def canA (s : ScS) (nm : ByteArray) (ns : List Nat) : Bool := decide ((decA s nm ns).2 = 0) && decide ((encA 11 (decA s nm ns).1).2 = 0) && decide ((encA 11 (decA s nm ns).1).1 = ns)
theorem dcA_small {s : ScS} {nm : ByteArray} {ns : List Nat} (hb : ∀ k ∈ ns,k < 256) (h : (decA s nm ns).2 = 0) : OkS s ∧ decA s nm ns = decM 10 s nm ns ∧ SmN 11 (decA s nm ns).1 ∧ cntN 11 (decA s nm ns).1 ≤ 4097 := by
 unfold decA at h ⊢
 by_cases hc : checkA s ≠ 0
 ·rw [if_pos hc] at h; exact absurd h (by decide)
 ·rw [if_neg hc] at h ⊢;have hs : OkS s := (checkA_ok s).1 (by omega);obtain ⟨h1,h2⟩ := dec_small (n := 11) hs (by decide) hb h;exact ⟨hs,rfl,h1,h2⟩
theorem encA_bytes (n : Nat) (t : Tr) : ∀ k ∈ (encA n t).1,k < 256 := fun k hk => by
 unfold encA ofR at hk
 split at hk
 ·simp at hk
 ·unfold putL at hk
  split at hk
  ·split at hk
   ·exact flatN_lt _ k hk
   ·simp at hk
  ·simp at hk
theorem canonical_any {w : World} {v : Value} {s : ScS} {nm : ByteArray} {ns : List Nat} {vb : Value} (hs : ScIn w v s) (hw : ScW s) (hf : FewL s) (hb : ByS w vb ns) : Calls Tryz.prog 16 #[v,.string nm,vb] w fun e w' => e = .returned (.bool (canA s nm ns)) ∧ Below w.heap.size w w' := by
 obtain ⟨R,hR⟩ : ∃ R,decA s nm ns = R := ⟨_,rfl⟩;obtain ⟨C,hC⟩ : ∃ C,canA s nm ns = C := ⟨_,rfl⟩;have HC : Hid ((decide (R.2 = 0) && decide ((encA 11 R.1).2 = 0) && decide ((encA 11 R.1).1 = ns)) = C) := (by rw [← hC,canA,hR] : _ = C)
 have HSM : Hid (R.2 = 0 → SmN 11 R.1 ∧ cntN 11 R.1 ≤ 4097) := fun h0 => by
  have h1 := dcA_small hb.lt (by rw [hR]; exact h0);rw [hR] at h1;exact ⟨h1.2.2.1,h1.2.2.2⟩
 rw [hC];clear hC;have hs' := hs;obtain ⟨vm,ve,vt,rfl,hms,hen,hmt⟩ := hs;obtain ⟨ma,mc,rfl, -⟩ := hms.open;obtain ⟨ea,ec,rfl, -⟩ := hen.open;obtain ⟨ta,tn,tc,rfl⟩ := row_sliceD hmt;generalize s.msgs.length = mn at *;generalize s.enums.length = en at *;obtain ⟨sn,hsn⟩ : ∃ z,s.name = z := ⟨_,rfl⟩;rw [hsn] at hs' ⊢;have al : Below w.heap.size w (w.alloc (Obj.cells #[.string sn,.slice ma mn mc,.slice ea en ec,.slice ta tn tc] 26)) := bra _;have BS : Blk (w.alloc (Obj.cells #[.string sn,.slice ma mn mc,.slice ea en ec,.slice ta tn tc] 26)) w.heap.size #[.string sn,.slice ma mn mc,.slice ea en ec,.slice ta tn tc] 26 := Blk.new w _ _
 have HDE : Hid (Calls Tryz.prog 11 #[.agg #[.string sn,.slice ma mn mc,.slice ea en ec,.slice ta tn tc],.string nm,vb] (w.alloc (Obj.cells #[.string sn,.slice ma mn mc,.slice ea en ec,.slice ta tn tc] 26)) (DtrP 11 R (w.alloc (Obj.cells #[.string sn,.slice ma mn mc,.slice ea en ec,.slice ta tn tc] 26)))) := (by
  rw [← hR]
  exact decode_any (hs'.below al) hw hf (hb.below al) : Calls Tryz.prog _ _ _ _)
 have HBY : Hid (ByS w vb ns) := hb;clear hs' hms hen hmt hsn hw hf hb hR
 go_enter Tryz.func16,Tryz.ntmps16
 go_wp2_with fail;refine HDE.out.mono ?_;rintro e w2 ⟨r,bs,rfl,ht,hap,hb2⟩;have hbw2 : Below w.heap.size w w2 := al.trans (hb2.mono al.size);obtain ⟨a1,n1,c1,a2,n2,c2,rfl⟩ := ht.open;clear HDE hb2 al BS;obtain ⟨T,E0⟩ := R;simp only at HC HSM ht ⊢;have al3 : Below w2.heap.size w2 (w2.alloc (Obj.cells #[.int .i64 T.kind,.int .i64 T.n,.string T.s,.slice a1 n1 c1,.slice a2 n2 c2] 33)) := bra _;have hbw3 : Below w.heap.size w (w2.alloc (Obj.cells #[.int .i64 T.kind,.int .i64 T.n,.string T.s,.slice a1 n1 c1,.slice a2 n2 c2] 33)) := hbw2.trans (al3.mono hbw2.size)
 by_cases hE : E0 = 0
 rotate_left
 ·have d : (E0 != 0) = true := by simpa using hE
  have HX : Hid (false = C) := hid (by rw [← HC.out]; simp [hE]);clear hE ht hap al3;generalize T.kind = K0 at *;generalize T.n = N0 at *;generalize T.s = S0 at *;go_wp2_with fail;go_ret;exact ⟨congrArg (fun z => Ending.returned (Value.bool z)) HX.out,hbw3⟩
 ·subst hE;have HTV : TrV 11 (w.alloc (Obj.cells #[.string sn,.slice ma mn mc,.slice ea en ec,.slice ta tn tc] 26)).heap.size (w2.alloc (Obj.cells #[.int .i64 T.kind,.int .i64 T.n,.string T.s,.slice a1 n1 c1,.slice a2 n2 c2] 33)) (.agg #[.int .i64 T.kind,.int .i64 T.n,.string T.s,.slice a1 n1 c1,.slice a2 n2 c2]) T bs := ⟨_,rfl,ht.sm (Sm.below al3 fun k hk => (hap.2 k hk).2),hap.mono al3.size⟩
  have HEN : Hid (Calls Tryz.prog 19 #[.agg #[.int .i64 T.kind,.int .i64 T.n,.string T.s,.slice a1 n1 c1,.slice a2 n2 c2]] (w2.alloc (Obj.cells #[.int .i64 T.kind,.int .i64 T.n,.string T.s,.slice a1 n1 c1,.slice a2 n2 c2] 33)) (EncP (encA 11 T) (w2.alloc (Obj.cells #[.int .i64 T.kind,.int .i64 T.n,.string T.s,.slice a1 n1 c1,.slice a2 n2 c2] 33)))) :=
   encode_any HTV.trW (by decide) (by have := (HSM.out rfl).2; omega) (HSM.out rfl).1
  have HLT : Hid (∀ k ∈ (encA 11 T).1,k < 256) := encA_bytes 11 T;clear ht hap al3 HTV HSM;obtain ⟨Y,hY⟩ : ∃ Y,encA 11 T = Y := ⟨_,rfl⟩;rw [hY] at HEN HC HLT;clear hY;generalize T.kind = K0 at *;generalize T.n = N0 at *;generalize T.s = S0 at *;go_wp2_with fail;refine Calls.mono HEN.out ?_;rintro e w4 ⟨ro,rfl,ho,hb4⟩;have hbw4 : Below w.heap.size w w4 := hbw3.trans (hb4.mono hbw3.size);have HBE : Hid (Calls Tryz.prog 35 #[ro,vb] w4 fun e w' => e = .returned (.bool (decide (Y.1 = ns))) ∧ Below w4.heap.size w4 w') := bytesEq_any (ByS.own ho HLT.out) (HBY.out.below hbw4);clear ho hb4 HEN hbw3 HLT;obtain ⟨Yn,Ye⟩ := Y;simp only at HC HBE ⊢
  by_cases hYe : Ye = 0
  rotate_left
  ·have d : ((Ye : Int) == 0) = false := by simp; omega
   have HX : Hid (false = C) := hid (by rw [← HC.out]; simp [hYe]);clear hYe;go_wp2_with fail;go_ret;exact ⟨congrArg (fun z => Ending.returned (Value.bool z)) HX.out,hbw4⟩
  ·subst hYe;have HX : Hid (decide (Yn = ns) = C) := hid (by rw [← HC.out]; simp);simp only [show ((0 : Nat) : Int) = 0 from rfl];obtain ⟨D,hD⟩ : ∃ D,decide (Yn = ns) = D := ⟨_,rfl⟩;rw [hD] at HBE HX;clear hD;go_wp2_with fail;refine HBE.out.mono ?_;rintro e w5 ⟨rfl,hb5⟩;have hbw5 : Below w.heap.size w w5 := hbw4.trans (hb5.mono hbw4.size);clear HBE hb5;go_wp2_with fail;go_ret;exact ⟨congrArg (fun z => Ending.returned (Value.bool z)) HX.out,hbw5⟩
end
section
open Go.ChangeShapes Go.WideShapes Go.ChangeAt Go.RowKit Go.Maps
theorem r7message_any {w : World} {snm nm : ByteArray} {ae at' : Option Addr} {E ce T ct : Nat} {vm : Value} {ms : List MsS} (hr : MsIn w vm ms)  :
  Calls Tryz.prog 33 #[.agg #[.string snm,vm,.slice ae E ce,.slice at' T ct],.string nm] w fun e w' => ∃ vf vr,e = .returned (.tuple #[.agg #[.string ((ms.find? (fun m => decide (m.name = nm))).getD zeroM).name,vf,vr],.bool (ms.find? (fun m => decide (m.name = nm))).isSome]) ∧ RowG w' vf 5 (flRows ((ms.find? (fun m => decide (m.name = nm))).getD zeroM).fields) ∧ RowG w' vr 1 (inRows ((ms.find? (fun m => decide (m.name = nm))).getD zeroM).reserved) ∧ Below w.heap.size w w' := by
 obtain ⟨a,c,rfl,q1,q2⟩ := hr.form2;have HR : Hid (MsIn w (.slice a ms.length c) ms) := hr;obtain ⟨N,hN⟩ : ∃ N,ms.length = N := ⟨_,rfl⟩;rw [hN] at HR q1 ⊢;have HN : Hid (ms.length = N) := hN;clear hN hr;obtain ⟨A,hA⟩ : ∃ A,(ms.find? (fun m => decide (m.name = nm))) = A := ⟨_,rfl⟩;rw [hA];have HA : Hid (A = ((ms.drop 0).find? (fun m => decide (m.name = nm)))) := hA.symm;clear hA;have BX0 : Blk ((w.alloc (.cells #[.string snm,.slice a N c,.slice ae E ce,.slice at' T ct] 26)).alloc (.cells #[.string ⟨#[]⟩,.slice none 0 0,.slice none 0 0] 50)) w.heap.size #[.string snm,.slice a N c,.slice ae E ce,.slice at' T ct] 26 := (Blk.new w _ _).below (bra _)
 have BR0 : Blk ((w.alloc (.cells #[.string snm,.slice a N c,.slice ae E ce,.slice at' T ct] 26)).alloc (.cells #[.string ⟨#[]⟩,.slice none 0 0,.slice none 0 0] 50)) (w.heap.size + 1) #[.string ⟨#[]⟩,.slice none 0 0,.slice none 0 0] 50 := by
  have := Blk.new (w.alloc (.cells #[.string snm,.slice a N c,.slice ae E ce,.slice at' T ct] 26)) #[.string ⟨#[]⟩,.slice none 0 0,.slice none 0 0] 50
  rwa [show (w.alloc (.cells #[.string snm,.slice a N c,.slice ae E ce,.slice at' T ct] 26)).heap.size = w.heap.size + 1 by simp] at this
 have hb0 : Below w.heap.size w ((w.alloc (.cells #[.string snm,.slice a N c,.slice ae E ce,.slice at' T ct] 26)).alloc (.cells #[.string ⟨#[]⟩,.slice none 0 0,.slice none 0 0] 50)) := (bra _).alloc (by simp) _
 go_enter Tryz.func33,Tryz.ntmps33
 go_wp2_with fail
 go_loopw [6] (fun iv wr => ∃ k : Nat,iv = .int .i64 (k : Int) ∧ k ≤ N ∧ Hid (A = ((ms.drop k).find? (fun m => decide (m.name = nm)))) ∧ Below w.heap.size w wr ∧ Blk wr (w.heap.size + 1) #[.string ⟨#[]⟩,.slice none 0 0,.slice none 0 0] 50 ∧ Blk wr w.heap.size #[.string snm,.slice a N c,.slice ae E ce,.slice at' T ct] 26) (fun iv _ => N - (intOf iv).toNat)
 case atStart => exact ⟨0,rfl,by omega,HA,hb0,BR0,BX0⟩
 case round =>
  obtain ⟨k,rfl,hk,HAk,hbel,BR,BX⟩ := hrel;clear BX0 BR0 hb0;have hlt2 : w.heap.size + 1 < wr.heap.size := BR.lt;have r0 := (BR.cell 0).trans rfl;have z0 := BR.froz 0;have r1 := (BR.cell 1).trans rfl;have z1 := BR.froz 1;have r2 := (BR.cell 2).trans rfl;have z2 := BR.froz 2;have x1 : wr.cell? ⟨w.heap.size,1,none⟩ = some (.slice a N c) := BX.cell 1
  by_cases hlt : k < N
  ·obtain ⟨f,hf⟩ : ∃ n,ms[k]? = some n := ⟨_,List.getElem?_eq_getElem (by rw [HN.out]; exact hlt)⟩;obtain ⟨g,off,vf,vr,rfl,c0',c1',c2',hrf,hrr⟩ := HR.out.get hf;have c0 := (hbel.cell (World.block_lt_of_cell? _ _ c0')).trans c0';have c1 := (hbel.cell (World.block_lt_of_cell? _ _ c1')).trans c1';have c2 := (hbel.cell (World.block_lt_of_cell? _ _ c2')).trans c2';clear c0' c1' c2';have HF : Hid (RowG w vf 5 (flRows f.fields)) := hrf;have HV : Hid (RowG w vr 1 (inRows f.reserved)) := hrr;obtain ⟨a3,c3,rfl,_,_⟩ := hrf.form2;obtain ⟨a4,c4,rfl,_,_⟩ := hrr.form2;have HF : Hid (RowG w (.slice a3 (flRows f.fields).length c3) 5 (flRows f.fields)) := HF;have HV : Hid (RowG w (.slice a4 (inRows f.reserved).length c4) 1 (inRows f.reserved)) := HV
   have HA2 : Hid (A = if decide (f.name = nm) = true then some f else ((ms.drop (k + 1)).find? (fun m => decide (m.name = nm)))) := by
    show _ = _
    rw [HAk.out,drop_at hf,List.find?_cons]
    cases decide (f.name = nm) <;> rfl
   obtain ⟨f0,ff,fr⟩ := f;simp only at c0 c1 c2 HA2 HF HV;generalize hnF : (flRows ff).length = nF at *;generalize hnR : (inRows fr).length = nR at *;clear hrf hrr hf HAk hnF hnR
   by_cases he : f0 = nm
   ·subst he
    have HA3 : Hid (A = some ⟨f0,ff,fr⟩) := by show _ = _; rw [HA2.out,if_pos (by simp)]
    clear HA2;go_wp2_with fail;refine bodyPost_ret (results_two rfl _ _ _ ⟨w.heap.size + 1,0,none⟩ (.agg #[.string f0,.slice a3 nF c3,.slice a4 nR c4]) (by go_simp) (by go_simp)) rfl ?_;refine ⟨.slice a3 nF c3,.slice a4 nR c4,ret_two (by rw [HA3.out]; rfl) (by rw [HA3.out]; rfl),?_,?_,(Below.setCell (Below.setCell (Below.setCell hbel (by simp) _) (by simp) _) (by simp) _)⟩
    ·rw [HA3.out]; exact HF.out.below (Below.setCell (Below.setCell (Below.setCell hbel (by simp) _) (by simp) _) (by simp) _)
    ·rw [HA3.out]; exact HV.out.below (Below.setCell (Below.setCell (Below.setCell hbel (by simp) _) (by simp) _) (by simp) _)
   ·have hq := bytes_ne he
    have HA3 : Hid (A = ((ms.drop (k + 1)).find? (fun m => decide (m.name = nm)))) := by show _ = _; rw [HA2.out,if_neg (by simpa using he)]
    go_wp2_with fail
    go_roundw
    case rel => exact ⟨k + 1,by go_num,by omega,HA3,hbel,BR,BX⟩
    case measure => simp [intOf]; omega
  ·have HA2 : Hid (A = none) := by show _ = _; rw [HAk.out,drop_end (by rw [HN.out]; omega)]; rfl
   go_wp2_with fail;refine bodyPost_ret (results_two rfl _ _ _ ⟨w.heap.size + 1,0,none⟩ (.agg #[.string ⟨#[]⟩,.slice none 0 0,.slice none 0 0]) (by go_simp) (by go_simp)) rfl ?_;exact ⟨.slice none 0 0,.slice none 0 0,ret_two (by rw [HA2.out]; rfl) (by rw [HA2.out]; rfl),by rw [HA2.out]; exact RowG.nil _ _,by rw [HA2.out]; exact RowG.nil _ _,(Below.setCell (Below.setCell (Below.setCell hbel (by simp) _) (by simp) _) (by simp) _)⟩
theorem r7enum_any {w : World} {snm nm : ByteArray} {am at' : Option Addr} {M cm T ct : Nat} {ve : Value} {ms : List EnS} (hr : EnIn w ve ms)  :
  Calls Tryz.prog 153 #[.agg #[.string snm,.slice am M cm,ve,.slice at' T ct],.string nm] w fun e w' => ∃ vv,e = .returned (.tuple #[.agg #[.string ((ms.find? (fun m => decide (m.name = nm))).getD zeroN).name,vv],.bool (ms.find? (fun m => decide (m.name = nm))).isSome]) ∧ RowG w' vv 2 (nmRows ((ms.find? (fun m => decide (m.name = nm))).getD zeroN).values) ∧ Below w.heap.size w w' := by
 obtain ⟨a,c,rfl,q1,q2⟩ := hr.form2;have HR : Hid (EnIn w (.slice a ms.length c) ms) := hr;obtain ⟨N,hN⟩ : ∃ N,ms.length = N := ⟨_,rfl⟩;rw [hN] at HR q1 ⊢;have HN : Hid (ms.length = N) := hN;clear hN hr;obtain ⟨A,hA⟩ : ∃ A,(ms.find? (fun m => decide (m.name = nm))) = A := ⟨_,rfl⟩;rw [hA];have HA : Hid (A = ((ms.drop 0).find? (fun m => decide (m.name = nm)))) := hA.symm;clear hA;have BX0 : Blk ((w.alloc (.cells #[.string snm,.slice am M cm,.slice a N c,.slice at' T ct] 26)).alloc (.cells #[.string ⟨#[]⟩,.slice none 0 0] 68)) w.heap.size #[.string snm,.slice am M cm,.slice a N c,.slice at' T ct] 26 := (Blk.new w _ _).below (bra _)
 have BR0 : Blk ((w.alloc (.cells #[.string snm,.slice am M cm,.slice a N c,.slice at' T ct] 26)).alloc (.cells #[.string ⟨#[]⟩,.slice none 0 0] 68)) (w.heap.size + 1) #[.string ⟨#[]⟩,.slice none 0 0] 68 := by
  have := Blk.new (w.alloc (.cells #[.string snm,.slice am M cm,.slice a N c,.slice at' T ct] 26)) #[.string ⟨#[]⟩,.slice none 0 0] 68
  rwa [show (w.alloc (.cells #[.string snm,.slice am M cm,.slice a N c,.slice at' T ct] 26)).heap.size = w.heap.size + 1 by simp] at this
 have hb0 : Below w.heap.size w ((w.alloc (.cells #[.string snm,.slice am M cm,.slice a N c,.slice at' T ct] 26)).alloc (.cells #[.string ⟨#[]⟩,.slice none 0 0] 68)) := (bra _).alloc (by simp) _
 go_enter Tryz.func153,Tryz.ntmps153
 go_wp2_with fail
 go_loopw [6] (fun iv wr => ∃ k : Nat,iv = .int .i64 (k : Int) ∧ k ≤ N ∧ Hid (A = ((ms.drop k).find? (fun m => decide (m.name = nm)))) ∧ Below w.heap.size w wr ∧ Blk wr (w.heap.size + 1) #[.string ⟨#[]⟩,.slice none 0 0] 68 ∧ Blk wr w.heap.size #[.string snm,.slice am M cm,.slice a N c,.slice at' T ct] 26) (fun iv _ => N - (intOf iv).toNat)
 case atStart => exact ⟨0,rfl,by omega,HA,hb0,BR0,BX0⟩
 case round =>
  obtain ⟨k,rfl,hk,HAk,hbel,BR,BX⟩ := hrel;clear BX0 BR0 hb0;have hlt2 : w.heap.size + 1 < wr.heap.size := BR.lt;have r0 := (BR.cell 0).trans rfl;have z0 := BR.froz 0;have r1 := (BR.cell 1).trans rfl;have z1 := BR.froz 1;have x1 : wr.cell? ⟨w.heap.size,2,none⟩ = some (.slice a N c) := BX.cell 2
  by_cases hlt : k < N
  ·obtain ⟨f,hf⟩ : ∃ n,ms[k]? = some n := ⟨_,List.getElem?_eq_getElem (by rw [HN.out]; exact hlt)⟩;obtain ⟨g,off,vv,rfl,c0',c1',hrf⟩ := HR.out.get hf;have c0 := (hbel.cell (World.block_lt_of_cell? _ _ c0')).trans c0';have c1 := (hbel.cell (World.block_lt_of_cell? _ _ c1')).trans c1';clear c0' c1';have HF : Hid (RowG w vv 2 (nmRows f.values)) := hrf;obtain ⟨a3,c3,rfl,_,_⟩ := hrf.form2;have HF : Hid (RowG w (.slice a3 (nmRows f.values).length c3) 2 (nmRows f.values)) := HF
   have HA2 : Hid (A = if decide (f.name = nm) = true then some f else ((ms.drop (k + 1)).find? (fun m => decide (m.name = nm)))) := by
    show _ = _
    rw [HAk.out,drop_at hf,List.find?_cons]
    cases decide (f.name = nm) <;> rfl
   obtain ⟨f0,ff⟩ := f;simp only at c0 c1 HA2 HF;generalize hnF : (nmRows ff).length = nF at *;clear hrf hf HAk hnF
   by_cases he : f0 = nm
   ·subst he
    have HA3 : Hid (A = some ⟨f0,ff⟩) := by show _ = _; rw [HA2.out,if_pos (by simp)]
    clear HA2;go_wp2_with fail;refine bodyPost_ret (results_two rfl _ _ _ ⟨w.heap.size + 1,0,none⟩ (.agg #[.string f0,.slice a3 nF c3]) (by go_simp) (by go_simp)) rfl ?_;refine ⟨.slice a3 nF c3,ret_two (by rw [HA3.out]; rfl) (by rw [HA3.out]; rfl),?_,(Below.setCell (Below.setCell hbel (by simp) _) (by simp) _)⟩;rw [HA3.out]; exact HF.out.below (Below.setCell (Below.setCell hbel (by simp) _) (by simp) _)
   ·have hq := bytes_ne he
    have HA3 : Hid (A = ((ms.drop (k + 1)).find? (fun m => decide (m.name = nm)))) := by show _ = _; rw [HA2.out,if_neg (by simpa using he)]
    go_wp2_with fail
    go_roundw
    case rel => exact ⟨k + 1,by go_num,by omega,HA3,hbel,BR,BX⟩
    case measure => simp [intOf]; omega
  ·have HA2 : Hid (A = none) := by show _ = _; rw [HAk.out,drop_end (by rw [HN.out]; omega)]; rfl
   go_wp2_with fail;refine bodyPost_ret (results_two rfl _ _ _ ⟨w.heap.size + 1,0,none⟩ (.agg #[.string ⟨#[]⟩,.slice none 0 0]) (by go_simp) (by go_simp)) rfl ?_;exact ⟨.slice none 0 0,ret_two (by rw [HA2.out]; rfl) (by rw [HA2.out]; rfl),by rw [HA2.out]; exact RowG.nil _ _,(Below.setCell (Below.setCell hbel (by simp) _) (by simp) _)⟩
end
section
open Go.ChangeShapes Go.WideShapes Go.ChangeAt Go.RowKit
theorem rkey_any (s : ByteArray) (w : World) :
  Calls Tryz.prog 71 #[.string s] w fun e w' => e = .returned (.bool (keyB s)) ∧ w' = w := by
 go_enter Tryz.func71,Tryz.ntmps71
 go_wp2
 all_goals
  go_ret;refine ⟨ret_bool ?_,rfl⟩
  first | (simp [keyB, *]; done) | simp_all
end
end Go.Proofs.YtiajaocckkghgaaGreat
