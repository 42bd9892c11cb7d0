/- Part 11 of what the proof stands on. -/
import Derived.Test.YtmgbhicogmclgaaGreatPkAAJ
namespace Go.Proofs.YtmgbhicogmclgaaGreat
set_option maxHeartbeats 8000000
set_option linter.unusedVariables false
set_option linter.unusedSimpArgs false
set_option maxRecDepth 20000
section
open Go.ChangeShapes Go.WideShapes Go.ChangeAt Go.RowKit
theorem kept_cellV {w : World} {a : Addr} {u : Value} (h : w.cell? a = some u) (x : Kept w.heap.size w) : x.w.cell? a = some u := by
 rw [x.below.cell (World.block_lt_of_cell? _ _ h)]; exact h
theorem has_step {es : List (Int × List Tr)} {i : Nat} {e : Int × List Tr} {tag : Int} (h : es[i]? = some e) : hasB (es.take (i + 1)) tag = (hasB (es.take i) tag || e.1 == tag) := by
 have : es.take (i + 1) = es.take i ++ [e] := by rw [List.take_add_one,h]; rfl
 rw [this]; simp [hasB]
theorem has_yes {es : List (Int × List Tr)} {i : Nat} {e : Int × List Tr} (h : es[i]? = some e) : hasB es e.1 = true := by
 simp only [hasB,List.any_eq_true,beq_iff_eq];exact ⟨e,List.mem_of_getElem? h,rfl⟩
theorem rhas_any (n : Nat) (t : Tr) (v : Value) (tag : Int) (w : World) (ht : TrIn (n + 1) w v t) :
  Calls Tryz.prog 114 #[v,.int .i64 tag] w fun e w' => e = .returned (.bool (hasB t.es tag)) ∧ Below w.heap.size w w' := by
 obtain ⟨n',ve,vr,e0,rfl,ka,na,sa,fa,ra,ea⟩ := ht.open
 obtain rfl : n' = n := by omega
 clear e0 ht;obtain ⟨pe,ce,rfl,u1,u2, -⟩ := ea.open;obtain ⟨pr,cr,rfl,x1,x2, -⟩ := rest_holds ra;unfold maxLen at u2 x2;obtain ⟨Ke,hKe⟩ : ∃ K,t.es.length = K := ⟨_,rfl⟩;rw [hKe] at u1 ⊢;have EA : Hid (EnsIn n' w (.slice pe Ke ce) t.es) := (by rw [← hKe]; exact ea : EnsIn n' w (.slice pe Ke ce) t.es);have HKe : Hid (t.es.length = Ke) := hKe;clear hKe ea ra fa ka na sa;obtain ⟨A,hA⟩ : ∃ A,hasB t.es tag = A := ⟨_,rfl⟩;rw [hA];have HA : Hid (hasB t.es tag = A) := hA;clear hA;generalize t.rest.length = Kr at *;generalize t.kind = K at *;generalize t.n = N at *;generalize t.s = S at *;have B0 : Blk (w.alloc (Obj.cells #[.int .i64 K,.int .i64 N,.string S,.slice pe Ke ce,.slice pr Kr cr] 30)) w.heap.size #[.int .i64 K,.int .i64 N,.string S,.slice pe Ke ce,.slice pr Kr cr] 30 := Blk.new w _ _;have hb0 : Below w.heap.size w (w.alloc (Obj.cells #[.int .i64 K,.int .i64 N,.string S,.slice pe Ke ce,.slice pr Kr cr] 30)) := (Below.refl _ _).alloc (Nat.le_refl _) _
 go_enter Tryz.func114,Tryz.ntmps114
 go_wp2_with fail;generalize (w.alloc (Obj.cells #[.int .i64 K,.int .i64 N,.string S,.slice pe Ke ce,.slice pr Kr cr] 30)) = WA at *;obtain ⟨b0,hb0'⟩ : ∃ b,w.heap.size = b := ⟨_,rfl⟩;rw [hb0'] at B0;rw [hb0'];have HBZ : Hid (w.heap.size = b0) := hb0';clear hb0'
 go_loopw [5] (fun iv wr => ∃ i : Nat,iv = .int .i64 (i : Int) ∧ i ≤ Ke ∧ Hid (hasB (t.es.take i) tag = false) ∧ WA = wr) (fun iv _ => Ke - (intOf iv).toNat)
 case atStart => exact ⟨0,rfl,by omega,(by simp [hasB] : hasB (t.es.take 0) tag = false),rfl⟩
 case round =>
  obtain ⟨i,rfl,hi,HM,rfl⟩ := hrel;have a3 := (B0.cell 3).trans rfl
  by_cases hlt : i < Ke
  ·obtain ⟨x,hx⟩ : ∃ r,t.es[i]? = some r := ⟨_,List.getElem?_eq_getElem (by rw [HKe.out]; exact hlt)⟩;obtain ⟨ge,off,rfl,cc⟩ := (EA.out.belowE hb0).get hx;obtain ⟨vt,p0,p1,p2,p3⟩ := ens_at cc
   by_cases hxt : x.1 = tag
   ·have HH : Hid (true = A) := (hxt ▸ has_yes hx).symm.trans HA.out
    have hq : (x.1 == tag) = true := by simpa using hxt
    clear cc p1 p2 p3 hx hxt HM;go_wp2_with fail;go_ret;exact ⟨congrArg (fun b => Ending.returned (Value.bool b)) HH.out,hb0⟩
   ·have hq : (x.1 == tag) = false := by simpa using hxt
    have HM2 : Hid (hasB (t.es.take (i + 1)) tag = false) := (by rw [has_step hx,HM.out,hq]; rfl : hasB (t.es.take (i + 1)) tag = false);clear cc p1 p2 p3 hx hxt HM;go_wp2_with fail;clear a3 p0 hq
    go_roundw
    case rel => exact ⟨i + 1,by go_num,by omega,HM2,trivial⟩
    case measure => simp [intOf]; omega
  ·have HH : Hid (false = A) := by
    have h1 := HM.out;rw [List.take_of_length_le (by rw [HKe.out]; omega),HA.out] at h1;exact h1.symm
   clear HM;go_wp2_with fail;go_ret;exact ⟨congrArg (fun b => Ending.returned (Value.bool b)) HH.out,hb0⟩
theorem rowG_holdsW {w : World} {a : Option Addr} {N cap : Nat} {l : List Fd} (h : RowG w (.slice a N cap) 4 (fdRows l)) : HoldsR w a l := by
 obtain ⟨a',cap',e,_,_,_,h4⟩ := h.form;simp only [Value.slice.injEq] at e;obtain ⟨rfl,_,_⟩ := e;intro b hb j u hu;rw [rawCells_flat] at hu;obtain ⟨i,c,k,h1,h2,rfl⟩ := flat_inv (fdRows l) (fdr_len l) j u hu;obtain ⟨g,off,e,hc⟩ := h4 (by intro e; rw [e] at h1; simp at h1);rw [hb] at e
 cases e
 have := hc i c u k h1 h2;rw [Nat.add_assoc] at this;rw [Addr.add_lit];exact this
theorem rowG_holdsV {w : World} {a : Option Addr} {N cap : Nat} {l : List Fd} (h : RowG w (.slice a N cap) 4 (fdRows l)) : ∀ g off,a = some ⟨g,off,none⟩ → ∀ (i : Nat) (f : Fd),l[i]? = some f → w.cell? ⟨g,off + i * 4,none⟩ = some (.int .i64 f.tag) ∧ w.cell? ⟨g,off + i * 4 + 1,none⟩ = some (.int .i64 f.wire) ∧ w.cell? ⟨g,off + i * 4 + 2,none⟩ = some (.int .i64 f.n) ∧ w.cell? ⟨g,off + i * 4 + 3,none⟩ = some (.string f.b) := by
 obtain ⟨a',cap',e1,_,_,_,_,h6⟩ := rest_holds h;simp only [Value.slice.injEq] at e1;obtain ⟨rfl,_,_⟩ := e1;exact h6
theorem rest_no {rest : List Fd} {es : List (Int × List Tr)} {i : Nat} {f : Fd} (h : rest[i]? = some f) (hf : (okF f && !hasB es f.tag) = false) : restB rest es = false := by
 have : (rest.all fun f => okF f && !hasB es f.tag) = false := List.all_eq_false.2 ⟨f,List.mem_of_getElem? h,by rw [hf]; simp⟩;rw [restB,this]; rfl
theorem rest_yes {rest : List Fd} {es : List (Int × List Tr)} (h : ∀ (i : Nat) (f : Fd),i < rest.length → rest[i]? = some f → (okF f && !hasB es f.tag) = true) : restB rest es = risesB rest := by
 have : (rest.all fun f => okF f && !hasB es f.tag) = true := List.all_eq_true.2 fun f hf => by
  obtain ⟨i,hi,e⟩ := List.getElem_of_mem hf;exact h i f hi (by rw [List.getElem?_eq_getElem hi,e])
 rw [restB,this]; rfl
theorem rrest_any (n : Nat) (t : Tr) (v : Value) (w : World) (ht : TrIn (n + 1) w v t) :
  Calls Tryz.prog 88 #[v] w fun e w' => e = .returned (.bool (restB t.rest t.es)) ∧ Below w.heap.size w w' := by
 have HHS : Hid (∀ (tag : Int) W,Below w.heap.size w W → Calls Tryz.prog 114 #[v,.int .i64 tag] W fun e w' => e = .returned (.bool (hasB t.es tag)) ∧ Below W.heap.size W w') := fun tag W hW => rhas_any n t v tag W (ht.below hW)
 obtain ⟨n',ve,vr,e0,rfl,ka,na,sa,fa,ra,ea⟩ := ht.open
 obtain rfl : n' = n := by omega
 clear e0 ht;obtain ⟨pe,ce,rfl,u1,u2, -⟩ := ea.open;obtain ⟨pr,cr,rfl,x1,x2,x3, -⟩ := rest_holds ra;obtain ⟨Kr,hKr⟩ : ∃ K,t.rest.length = K := ⟨_,rfl⟩;rw [hKr] at x1 HHS ⊢;have RA : Hid (RowG w (.slice pr Kr cr) 4 (fdRows t.rest)) := (by rw [← hKr]; exact ra : RowG w (.slice pr Kr cr) 4 (fdRows t.rest));have HKr : Hid (t.rest.length = Kr) := hKr;have HRR : Hid (∀ W,Below w.heap.size w W → Calls Tryz.prog 115 #[.slice pr Kr cr] W fun e w' => e = .returned (.bool (risesB t.rest)) ∧ Below W.heap.size W w') := fun W hW => rrising_any pr t.rest Kr cr W hKr x3 x1 x2 (rowG_holdsW (RA.out.below hW))
 have HX3 : Hid (t.rest = [] ∨ ∃ g off,pr = some ⟨g,off,none⟩) := x3;unfold maxLen at u2 x2;clear hKr ea ra fa ka na sa x3;obtain ⟨A,hA⟩ : ∃ A,restB t.rest t.es = A := ⟨_,rfl⟩;rw [hA];have HA : Hid (restB t.rest t.es = A) := hA;clear hA;generalize t.es.length = Ke at *;generalize t.kind = K at *;generalize t.n = N at *;generalize t.s = S at *;have B0 : Blk (w.alloc (Obj.cells #[.int .i64 K,.int .i64 N,.string S,.slice pe Ke ce,.slice pr Kr cr] 30)) w.heap.size #[.int .i64 K,.int .i64 N,.string S,.slice pe Ke ce,.slice pr Kr cr] 30 := Blk.new w _ _;have hb0 : Below w.heap.size w (w.alloc (Obj.cells #[.int .i64 K,.int .i64 N,.string S,.slice pe Ke ce,.slice pr Kr cr] 30)) := (Below.refl _ _).alloc (Nat.le_refl _) _
 go_enter Tryz.func88,Tryz.ntmps88
 go_wp2_with fail;generalize (w.alloc (Obj.cells #[.int .i64 K,.int .i64 N,.string S,.slice pe Ke ce,.slice pr Kr cr] 30)) = WA at *;obtain ⟨b0,hb0'⟩ : ∃ b,w.heap.size = b := ⟨_,rfl⟩;rw [hb0'] at B0;rw [hb0'];have HBZ : Hid (w.heap.size = b0) := hb0';clear hb0'
 go_loopw [3] (fun iv wr => ∃ i : Nat,iv = .int .i64 (i : Int) ∧ i ≤ Kr ∧ Hid (∀ (j : Nat) (f : Fd),j < i → t.rest[j]? = some f → (okF f && !hasB t.es f.tag) = true) ∧ Hid (Blk wr b0 #[.int .i64 K,.int .i64 N,.string S,.slice pe Ke ce,.slice pr Kr cr] 30) ∧ Below w.heap.size w wr) (fun iv _ => Kr - (intOf iv).toNat)
 case atStart => exact ⟨0,rfl,by omega,(fun j f hj => absurd hj (by omega) : ∀ (j : Nat) (f : Fd),j < 0 → t.rest[j]? = some f → (okF f && !hasB t.es f.tag) = true),B0,hb0⟩
 case round =>
  clear B0 hb0;obtain ⟨i,rfl,hi,HM,HB,hbel⟩ := hrel;have a4 := (HB.out.cell 4).trans rfl
  by_cases hlt : i < Kr
  ·obtain ⟨x,hx⟩ : ∃ r,t.rest[i]? = some r := ⟨_,List.getElem?_eq_getElem (by rw [HKr.out]; exact hlt)⟩
   obtain ⟨g,off,rfl⟩ : ∃ g off,pr = some ⟨g,off,none⟩ := by
    rcases HX3.out with h | h
    ·rw [h] at hx; simp at hx
    ·exact h
   obtain ⟨p0,p1,p2,p3⟩ := rowG_holdsV (RA.out.below hbel) g off rfl i x hx;have a0 := (HB.out.cell 0).trans rfl;have a1 := (HB.out.cell 1).trans rfl;have a2 := (HB.out.cell 2).trans rfl;have a3 := (HB.out.cell 3).trans rfl;have HX : Hid (t.rest[i]? = some x) := hx;have k0 := kept_cellV a0;have k1 := kept_cellV a1;have k2 := kept_cellV a2;have k3 := kept_cellV a3;have k4 := kept_cellV a4;have k5 := kept_cellV p0;have k6 := kept_cellV p1;have k7 := kept_cellV p2;have k8 := kept_cellV p3;clear hx a0 a1 a2 a3 p0 p1 p2 p3
   cases hok : okF x with
   | false =>
    have HC : Hid (∀ W1,Below wr.heap.size wr W1 → Calls Tryz.prog 95 #[.agg #[.int .i64 x.tag,.int .i64 x.wire,.int .i64 x.n,.string x.b]] W1 fun e w' => e = .returned (.bool false) ∧ Below wr.heap.size wr w') := fun W1 hW1 => by
     refine (rcheckV_any x.tag x.wire x.n x.b W1).mono ?_;rintro e W' ⟨rfl,hb⟩;exact ⟨by rw [show okV x.tag x.wire x.n x.b = okF x from rfl,hok],hW1.trans (hb.mono hW1.size)⟩
    have HH : Hid (false = A) := (rest_no HX.out (by rw [hok]; rfl)).symm.trans HA.out;clear hok HM;go_wp2_with fail;clear a4
    haveI := nonempty_qb (Below.refl wr.heap.size wr)
    refine wp_region_qb (Below.refl wr.heap.size wr) (by kernel_rfl) (by kernel_rfl) ?_
    repeat (go_big_quiet_step (first | (go_at_call 95; exact qb_call HC.out)))
    refine wpQuiet_nil ?_;rintro W1 ⟨⟨_,hW1⟩,rfl⟩;have hb1 := hbel.trans (hW1.mono hbel.size);clear k0 k1 k2 k3 k4 k5 k6 k7 k8 hW1 hbel;go_wp2_with fail;go_ret;exact ⟨congrArg (fun b => Ending.returned (Value.bool b)) HH.out,hb1⟩
   | true =>
    cases hhs : hasB t.es x.tag with
    | true =>
     have HC : Hid (∀ W1,Below wr.heap.size wr W1 → Calls Tryz.prog 95 #[.agg #[.int .i64 x.tag,.int .i64 x.wire,.int .i64 x.n,.string x.b]] W1 fun e w' => e = .returned (.bool true) ∧ Below wr.heap.size wr w') := fun W1 hW1 => by
      refine (rcheckV_any x.tag x.wire x.n x.b W1).mono ?_;rintro e W' ⟨rfl,hb⟩;exact ⟨by rw [show okV x.tag x.wire x.n x.b = okF x from rfl,hok],hW1.trans (hb.mono hW1.size)⟩
     have HD : Hid (∀ W1,Below wr.heap.size wr W1 → Calls Tryz.prog 114 #[.agg #[.int .i64 K,.int .i64 N,.string S,.slice pe Ke ce,.slice (some ⟨g,off,none⟩) Kr cr],.int .i64 x.tag] W1 fun e w' => e = .returned (.bool true) ∧ Below wr.heap.size wr w') := fun W1 hW1 => by
      refine (HHS.out x.tag W1 (hbel.trans (hW1.mono hbel.size))).mono ?_;rintro e W' ⟨rfl,hb⟩;exact ⟨by rw [hhs],hW1.trans (hb.mono hW1.size)⟩
     have HH : Hid (false = A) := (rest_no HX.out (by rw [hok,hhs]; rfl)).symm.trans HA.out;clear hok hhs HM;go_wp2_with fail;clear a4
     haveI := nonempty_qb (Below.refl wr.heap.size wr)
     refine wp_region_qb (Below.refl wr.heap.size wr) (by kernel_rfl) (by kernel_rfl) ?_
     repeat (go_big_quiet_step (first | (go_at_call 95; exact qb_call HC.out) | (go_at_call 114; exact qb_call HD.out)))
     refine wpQuiet_nil ?_;rintro W1 ⟨⟨_,hW1⟩,rfl⟩;have hb1 := hbel.trans (hW1.mono hbel.size);clear k0 k1 k2 k3 k4 k5 k6 k7 k8 hW1 hbel;go_wp2_with fail;go_ret;exact ⟨congrArg (fun b => Ending.returned (Value.bool b)) HH.out,hb1⟩
    | false =>
     have HC : Hid (∀ W1,Below wr.heap.size wr W1 → Calls Tryz.prog 95 #[.agg #[.int .i64 x.tag,.int .i64 x.wire,.int .i64 x.n,.string x.b]] W1 fun e w' => e = .returned (.bool true) ∧ Below wr.heap.size wr w') := fun W1 hW1 => by
      refine (rcheckV_any x.tag x.wire x.n x.b W1).mono ?_;rintro e W' ⟨rfl,hb⟩;exact ⟨by rw [show okV x.tag x.wire x.n x.b = okF x from rfl,hok],hW1.trans (hb.mono hW1.size)⟩
     have HD : Hid (∀ W1,Below wr.heap.size wr W1 → Calls Tryz.prog 114 #[.agg #[.int .i64 K,.int .i64 N,.string S,.slice pe Ke ce,.slice (some ⟨g,off,none⟩) Kr cr],.int .i64 x.tag] W1 fun e w' => e = .returned (.bool false) ∧ Below wr.heap.size wr w') := fun W1 hW1 => by
      refine (HHS.out x.tag W1 (hbel.trans (hW1.mono hbel.size))).mono ?_;rintro e W' ⟨rfl,hb⟩;exact ⟨by rw [hhs],hW1.trans (hb.mono hW1.size)⟩
     have HM2 : Hid (∀ (j : Nat) (f : Fd),j < i + 1 → t.rest[j]? = some f → (okF f && !hasB t.es f.tag) = true) := fun j f hj hf => by
      rcases Nat.lt_or_eq_of_le (Nat.le_of_lt_succ hj) with h | h
      ·exact HM.out j f h hf
      ·subst h;have hxf : x = f := Option.some.inj (HX.out.symm.trans hf);subst hxf;rw [hok,hhs]; rfl
     clear hok hhs HM;go_wp2_with fail;clear a4
     haveI := nonempty_qb (Below.refl wr.heap.size wr)
     refine wp_region_qb (Below.refl wr.heap.size wr) (by kernel_rfl) (by kernel_rfl) ?_
     repeat (go_big_quiet_step (first | (go_at_call 95; exact qb_call HC.out) | (go_at_call 114; exact qb_call HD.out)))
     refine wpQuiet_nil ?_;rintro W1 ⟨⟨_,hW1⟩,rfl⟩;have hb1 := hbel.trans (hW1.mono hbel.size);have HB2 : Hid (Blk W1 b0 #[.int .i64 K,.int .i64 N,.string S,.slice pe Ke ce,.slice (some ⟨g,off,none⟩) Kr cr] 30) := HB.out.below hW1;clear k0 k1 k2 k3 k4 k5 k6 k7 k8 hW1 hbel HB;go_wp2_with fail
     go_roundw
     case rel => exact ⟨i + 1,by go_num,by omega,HM2,HB2,hb1⟩
     case measure => simp [intOf]; omega
  ·have HH : Hid (risesB t.rest = A) := (rest_yes fun j f hj hf => HM.out j f (by rw [HKr.out] at hj; omega) hf).symm.trans HA.out;clear HM HA;go_wp2_with fail;refine (HRR.out _ hbel).mono ?_;rintro e w1 ⟨rfl,hb⟩;rw [HH.out];have hb1 := hbel.trans (hb.mono hbel.size);clear hb hbel a4;go_wp2_with fail;go_ret;exact ⟨rfl,hb1⟩
def mxN (n : Nat) (l : List Tr) : Nat := (l.map (dpN n)).foldr max 0
theorem mx_app (n : Nat) (a b : List Tr) : mxN n (a ++ b) = max (mxN n a) (mxN n b) := by
 unfold mxN
 induction a with
 | nil => simp
 | cons x a ih => simp only [List.cons_append,List.map_cons,List.foldr_cons,ih]; omega
theorem mx_one (n : Nat) (x : Tr) : mxN n [x] = dpN n x := by simp [mxN]
theorem mx_step (n : Nat) {a l : List Tr} {j : Nat} {x : Tr} (h : l[j]? = some x) : mxN n (a ++ l.take (j + 1)) = max (mxN n (a ++ l.take j)) (dpN n x) := by
 have : l.take (j + 1) = l.take j ++ [x] := by rw [List.take_add_one,h]; rfl
 rw [this,← List.append_assoc,mx_app,mx_one]
theorem subs_step {es : List (Int × List Tr)} {i : Nat} {e : Int × List Tr} (h : es[i]? = some e) : subs (es.take (i + 1)) = subs (es.take i) ++ e.2 := by
 have : es.take (i + 1) = es.take i ++ [e] := by rw [List.take_add_one,h]; rfl
 rw [this]; simp [subs]
theorem rdepth_step (n : Nat) (IH : ∀ t v (d : Nat) w,TrIn n w v t → d + n ≤ 100 → Calls Tryz.prog 86 #[v,.int .i64 (d : Int)] w fun e w' => e = .returned (.int .i64 (dpN n t : Nat)) ∧ Below w.heap.size w w') (t : Tr) (v : Value) (d : Nat) (w : World) (ht : TrIn (n + 1) w v t) (hd : d + (n + 1) ≤ 100) :
  Calls Tryz.prog 86 #[v,.int .i64 (d : Int)] w fun e w' => e = .returned (.int .i64 (dpN (n + 1) t : Nat)) ∧ Below w.heap.size w w' := by
 obtain ⟨n',ve,vr,e0,rfl,ka,na,sa,fa,ra,ea⟩ := ht.open
 obtain rfl : n' = n := by omega
 clear e0 ht;obtain ⟨pe,ce,rfl,u1,u2, -⟩ := ea.open;obtain ⟨pr,cr,rfl,x1,x2, -⟩ := rest_holds ra;unfold maxLen at u2 x2;obtain ⟨Ke,hKe⟩ : ∃ K,t.es.length = K := ⟨_,rfl⟩;rw [hKe] at u1 ⊢;have EA : Hid (EnsIn n' w (.slice pe Ke ce) t.es) := (by rw [← hKe]; exact ea : EnsIn n' w (.slice pe Ke ce) t.es);have HKe : Hid (t.es.length = Ke) := hKe;have HI : Hid (∀ t v (d : Nat) w,TrIn n' w v t → d + n' ≤ 100 → Calls Tryz.prog 86 #[v,.int .i64 (d : Int)] w fun e w' => e = .returned (.int .i64 (dpN n' t : Nat)) ∧ Below w.heap.size w w') := IH;clear hKe ea ra fa ka na sa IH
 by_cases hk : t.kind = 3
 ·have HR : Hid (dpN (n' + 1) t = 1 + mxN n' (subs t.es)) := (by simp [dpN,hk,mxN] : dpN (n' + 1) t = 1 + mxN n' (subs t.es));generalize dpN (n' + 1) t = R at *;have HES : Hid (t.es = t.es) := rfl;rw [hk];clear hk;generalize t.rest.length = Kr at *;obtain ⟨N,hN⟩ : ∃ K,t.n = K := ⟨_,rfl⟩;obtain ⟨S,hS⟩ : ∃ K,t.s = K := ⟨_,rfl⟩;rw [hN,hS];clear hN hS;have B0 : Blk (w.alloc (Obj.cells #[.int .i64 3,.int .i64 N,.string S,.slice pe Ke ce,.slice pr Kr cr] 30)) w.heap.size #[.int .i64 3,.int .i64 N,.string S,.slice pe Ke ce,.slice pr Kr cr] 30 := Blk.new w _ _;have hb0 : Below w.heap.size w (w.alloc (Obj.cells #[.int .i64 3,.int .i64 N,.string S,.slice pe Ke ce,.slice pr Kr cr] 30)) := (Below.refl _ _).alloc (Nat.le_refl _) _
  have hd1 : decide ((d : Int) > 100) = false := by simp; omega
  go_enter Tryz.func86,Tryz.ntmps86
  go_wp2_with fail;generalize (w.alloc (Obj.cells #[.int .i64 3,.int .i64 N,.string S,.slice pe Ke ce,.slice pr Kr cr] 30)) = WA at *;obtain ⟨b0,hb0'⟩ : ∃ b,w.heap.size = b := ⟨_,rfl⟩;have HBZ : Hid (w.heap.size = b0) := hb0';rw [hb0'] at B0;rw [hb0'];clear hb0'
  go_loopw [5,6] (fun mv iv wr => ∃ (i M : Nat),mv = .int .i64 (M : Int) ∧ iv = .int .i64 (i : Int) ∧ i ≤ Ke ∧ M ≤ 100 ∧ Hid (M = mxN n' (subs (t.es.take i))) ∧ Hid (Blk wr b0 #[.int .i64 3,.int .i64 N,.string S,.slice pe Ke ce,.slice pr Kr cr] 30) ∧ Below w.heap.size w wr) (fun _ iv _ => Ke - (intOf iv).toNat)
  case atStart => exact ⟨0,0,rfl,rfl,by omega,by omega,(by simp [subs,mxN] : 0 = mxN n' (subs (t.es.take 0))),B0,hb0⟩
  case round =>
   clear B0 hb0;obtain ⟨i,M,rfl,rfl,hi,hM,HM,HB,hbel⟩ := hrel;have a3 := (HB.out.cell 3).trans rfl
   by_cases hlt : i < Ke
   ·obtain ⟨x,hx⟩ : ∃ r,t.es[i]? = some r := ⟨_,List.getElem?_eq_getElem (by rw [HKe.out]; exact hlt)⟩;obtain ⟨ge,off,rfl,cc⟩ := (EA.out.belowE hbel).get hx;obtain ⟨vt,p0,p1,p2,p3⟩ := ens_at cc;obtain ⟨pt,ct,rfl,t1,t2, -⟩ := p3.open;have HX : Hid (t.es[i]? = some x) := hx;obtain ⟨Xl,hXl⟩ : ∃ K,x.2.length = K := ⟨_,rfl⟩;rw [hXl] at p1 p3 t1;have HXl : Hid (x.2.length = Xl) := hXl;have HT : Hid (TrsIn n' wr (.slice pt Xl ct) x.2) := p3;have HP1 : Hid (wr.cell? ⟨ge,off + i * 2 + 1,none⟩ = some (.slice pt Xl ct)) := p1;unfold maxLen at t2;clear hx cc p0 p1 p2 p3 hXl;go_wp2_with fail;clear a3;have HW : Hid (Below wr.heap.size wr wr) := Below.refl _ _;obtain ⟨W,hW⟩ : ∃ W,wr = W := ⟨_,rfl⟩;rw [hW] at HW HT HP1 HB hbel ⊢;clear hW
    go_loopw [5,7] (fun mv jv wz => ∃ (j M : Nat),mv = .int .i64 (M : Int) ∧ jv = .int .i64 (j : Int) ∧ j ≤ Xl ∧ M ≤ 100 ∧ Hid (M = mxN n' (subs (t.es.take i) ++ x.2.take j)) ∧ Below w.heap.size w wz ∧ Below W.heap.size W wz) (fun _ jv _ => Xl - (intOf jv).toNat)
    case atStart => exact ⟨0,M,rfl,rfl,by omega,hM,(by rw [HM.out]; simp : M = mxN n' (subs (t.es.take i) ++ x.2.take 0)),hbel,Below.refl _ _⟩
    case round =>
     clear hM HM hbel;obtain ⟨j,M,rfl,rfl,hj,hM,HM,hbel,hbW⟩ := hrel;have B1 := HB.out.below hbW;have a3 := (B1.cell 3).trans rfl;have p1 : wr.cell? ⟨ge,off + i * 2 + 1,none⟩ = some (.slice pt Xl ct) := (hbW.cell (World.block_lt_of_cell? _ _ HP1.out)).trans HP1.out
     by_cases hlt2 : j < Xl
     ·obtain ⟨y,hy⟩ : ∃ r,x.2[j]? = some r := ⟨_,List.getElem?_eq_getElem (by rw [HXl.out]; exact hlt2)⟩;obtain ⟨g3,off3,rfl,c1⟩ := (HT.out.belowT hbW).get hy;obtain ⟨z1,n1,d1,z2,n2,d2,o0,o1,o2,o3,o4,o5⟩ := trs_get c1;have HY : Hid (x.2[j]? = some y) := hy;have HC : Hid (Calls Tryz.prog 86 #[.agg #[.int .i64 y.kind,.int .i64 y.n,.string y.s,.slice z1 n1 d1,.slice z2 n2 d2],.int .i64 ((d : Int) + 1)] wr fun e w' => e = .returned (.int .i64 (dpN n' y : Nat)) ∧ Below wr.heap.size wr w') := HI.out y _ (d + 1) wr o5 (by omega);clear c1 hy o5 B1;go_wp2_with fail;refine HC.out.mono ?_;rintro e w2 ⟨rfl,hb2⟩;have HS : Hid (mxN n' (subs (t.es.take i) ++ x.2.take (j + 1)) = max M (dpN n' y)) := (by rw [HM.out,mx_step n' HY.out] : mxN n' (subs (t.es.take i) ++ x.2.take (j + 1)) = max M (dpN n' y));have hyd := dpN_le n' y;generalize dpN n' y = Y at *;have hb3 := hbel.trans (hb2.mono hbel.size);have hb4 := hbW.trans (hb2.mono hbW.size)
      have hmx : max (M : Int) (Y : Int) = ((max M Y : Nat) : Int) := by omega
      clear o0 o1 o2 o3 o4 hb2 hbel hbW HC a3 p1;go_wp2_with fail
      go_roundw
      case rel => exact ⟨j + 1,max M Y,by first | rfl | (rw [hmx]) | go_num,by go_num,by omega,by omega,HS.out.symm,hb3,hb4⟩
      case measure => simp [intOf]; omega
     ·obtain rfl : j = Xl := by omega
      have HM2 : Hid (M = mxN n' (subs (t.es.take (i + 1)))) := (by rw [HM.out,subs_step HX.out,List.take_of_length_le (l := x.2) (by rw [HXl.out]; omega)] : M = mxN n' (subs (t.es.take (i + 1))));have HB5 : Hid (Blk wr b0 #[.int .i64 3,.int .i64 N,.string S,.slice (some ⟨ge,off,none⟩) Ke ce,.slice pr Kr cr] 30) := B1;clear B1 HM HB;go_wp2_with fail;clear a3 p1
      go_roundw
      case rel => exact ⟨i + 1,M,rfl,by go_num,by omega,hM,HM2,HB5,hbel⟩
      case measure => simp [intOf]; omega
   ·obtain rfl : i = Ke := by omega
    have hR : R = 1 + M := by rw [HR.out,HM.out,List.take_of_length_le (by rw [HKe.out]; omega)]
    subst hR
    have hmn : min ((M : Int) + 1) 101 = ((1 + M : Nat) : Int) := by omega
    clear HR HM HB;go_wp2_with fail;go_ret;exact ⟨by first | rfl | (rw [hmn]) | go_num,hbel⟩
 ·have h0 : dpN (n' + 1) t = 0 := by simp [dpN,hk]
  rw [h0]
  have hd1 : (t.kind != 3) = true := by simpa using hk
  generalize t.kind = K at *;generalize t.n = N at *;generalize t.s = S at *;generalize t.rest.length = Kr at *;clear h0 HKe
  go_enter Tryz.func86,Tryz.ntmps86
  go_wp2_with fail;go_ret;exact ⟨rfl,(Below.refl _ _).alloc (Nat.le_refl _) _⟩
theorem rdepth_any : ∀ (n : Nat) (t : Tr) (v : Value) (d : Nat) (w : World),TrIn n w v t → d + n ≤ 100 → Calls Tryz.prog 86 #[v,.int .i64 (d : Int)] w fun e w' => e = .returned (.int .i64 (dpN n t : Nat)) ∧ Below w.heap.size w w'
 | 0,_,_,_,_,h,_ => by obtain ⟨r,_,h⟩ := h; exact h.elim
 | n + 1,t,v,d,w,h,hd => rdepth_step n (fun t v d w h hd => rdepth_any n t v d w h hd) t v d w h hd
theorem rDepth_any (n : Nat) (t : Tr) (v : Value) (w : World) (h : TrIn n w v t) (hn : n ≤ 100) : Calls Tryz.prog 47 #[v] w fun e w' => e = .returned (.int .i64 (dpN n t : Nat)) ∧ Below w.heap.size w w' := by
 have hal : ∀ o,Below w.heap.size w (w.alloc o) := fun o => (Below.refl _ _).alloc (Nat.le_refl _) _
 have HC : Hid (∀ W,Below w.heap.size w W → Calls Tryz.prog 86 #[v,.int .i64 0] W fun e w' => e = .returned (.int .i64 (dpN n t : Nat)) ∧ Below W.heap.size W w') := fun W hW => rdepth_any n t v 0 W (h.below hW) (by omega)
 obtain ⟨n',ve,vr,e0,rfl, -, -, -, -,ra,ea⟩ := h.open;obtain ⟨pe,ce,rfl, -⟩ := ea.open;obtain ⟨pr,cr,rfl, -⟩ := rest_holds ra;generalize t.es.length = Ke at *;generalize t.rest.length = Kr at *;generalize dpN n t = R at *;generalize t.kind = K at *;generalize t.n = N at *;generalize t.s = S at *;clear h ra ea e0
 go_enter Tryz.func47,Tryz.ntmps47
 go_wp2_with fail;refine (HC.out _ (hal _)).mono ?_;rintro e w1 ⟨rfl,hb⟩;have hbw : Below w.heap.size w w1 := (hal _).trans (hb.mono (by simp));clear hb HC;go_wp2_with fail;go_ret;exact ⟨rfl,hbw⟩
def entA (n : Nat) (last : Int) (l : List (Int × List Tr)) : Bool := entsB last l && (subs l).all (okN n)
theorem entA_cons (n : Nat) (last : Int) (x : Int × List Tr) (l : List (Int × List Tr)) : entA n last (x :: l) =
  (decide (last < x.1) && decide (x.1 ≤ 500) && decide (1 ≤ x.2.length) && decide (x.2.length ≤ 64) && (x.2.all fun y => y.kind == (x.2.head?.map Tr.kind).getD 0) && x.2.all (okN n) && entA n x.1 l) := by
 simp only [entA,entsB,subs,List.flatMap_cons,List.all_append]
 ac_rfl
theorem drop_consV {α : Type} {l : List α} {i : Nat} {x : α} (h : l[i]? = some x) : l.drop i = x :: l.drop (i + 1) := by
 obtain ⟨h1,h2⟩ := List.getElem?_eq_some_iff.1 h;rw [List.drop_eq_getElem_cons h1,h2]
theorem ent_no {n : Nat} {last : Int} {x : Int × List Tr} {l : List (Int × List Tr)} (h : ¬ (last < x.1 ∧ x.1 ≤ 500 ∧ 1 ≤ x.2.length ∧ x.2.length ≤ 64)) : entA n last (x :: l) = false := by
 rw [entA_cons]
 by_cases h1 : last < x.1
 ·by_cases h2 : x.1 ≤ 500
  ·by_cases h3 : 1 ≤ x.2.length
   ·by_cases h4 : x.2.length ≤ 64
    ·exact absurd ⟨h1,h2,h3,h4⟩ h
    ·simp [h4]
   ·simp [h3]
  ·simp [h2]
 ·simp [h1]
theorem ent_noK {n : Nat} {last : Int} {x : Int × List Tr} {l : List (Int × List Tr)} {j : Nat} {y h : Tr} (hy : x.2[j]? = some y) (hh : x.2[0]? = some h) (hk : (y.kind != h.kind) = true ∨ okN n y = false) : entA n last (x :: l) = false := by
 have e1 : (x.2.head?.map Tr.kind).getD 0 = h.kind := by rw [List.head?_eq_getElem?,hh]; rfl
 rw [entA_cons,e1]
 rcases hk with hk | hk
 ·have : (x.2.all fun y => y.kind == h.kind) = false := List.all_eq_false.2 ⟨y,List.mem_of_getElem? hy,by simpa using hk⟩;rw [this]; simp
 ·have : x.2.all (okN n) = false := List.all_eq_false.2 ⟨y,List.mem_of_getElem? hy,by simp [hk]⟩;rw [this]; simp
theorem ent_yes {n : Nat} {last : Int} {x : Int × List Tr} {l : List (Int × List Tr)} {h : Tr} (hh : x.2[0]? = some h) (h1 : last < x.1) (h2 : x.1 ≤ 500) (h3 : 1 ≤ x.2.length) (h4 : x.2.length ≤ 64)
  (ha : ∀ (j : Nat) (y : Tr),j < x.2.length → x.2[j]? = some y → (y.kind != h.kind) = false ∧ okN n y = true) : entA n last (x :: l) = entA n x.1 l := by
 have e1 : (x.2.head?.map Tr.kind).getD 0 = h.kind := by rw [List.head?_eq_getElem?,hh]; rfl
 have a1 : (x.2.all fun y => y.kind == h.kind) = true := List.all_eq_true.2 fun y hy => by
  obtain ⟨i,hi,e⟩ := List.getElem_of_mem hy;have := (ha i y hi (by rw [List.getElem?_eq_getElem hi,e])).1
  simpa using this
 have a2 : x.2.all (okN n) = true := List.all_eq_true.2 fun y hy => by
  obtain ⟨i,hi,e⟩ := List.getElem_of_mem hy;exact (ha i y hi (by rw [List.getElem?_eq_getElem hi,e])).2
 rw [entA_cons,e1,a1,a2]
 simp [h1,h2,h3,h4]
theorem rents_step (n : Nat) (IH : ∀ t v w,TrIn n w v t → Calls Tryz.prog 48 #[v] w fun e w' => e = .returned (.bool (okN n t)) ∧ Below w.heap.size w w') (es : List (Int × List Tr)) (ve : Value) (w : World) (ea : EnsIn n w ve es) :
  Calls Tryz.prog 87 #[ve] w fun e w' => e = .returned (.bool (entA n 0 es)) ∧ Below w.heap.size w w' := by
 obtain ⟨pe,ce,rfl,u1,u2, -⟩ := ea.open;unfold maxLen at u2;obtain ⟨Ke,hKe⟩ : ∃ K,es.length = K := ⟨_,rfl⟩;rw [hKe] at u1 ⊢;have EA : Hid (EnsIn n w (.slice pe Ke ce) es) := (by rw [← hKe]; exact ea : EnsIn n w (.slice pe Ke ce) es);have HKe : Hid (es.length = Ke) := hKe;have HI : Hid (∀ t v w,TrIn n w v t → Calls Tryz.prog 48 #[v] w fun e w' => e = .returned (.bool (okN n t)) ∧ Below w.heap.size w w') := IH;obtain ⟨A,hA⟩ : ∃ A,entA n 0 es = A := ⟨_,rfl⟩;rw [hA];have HA : Hid (A = entA n 0 (es.drop 0)) := hA.symm;clear hKe ea IH hA
 go_enter Tryz.func87,Tryz.ntmps87
 go_wp2_with fail
 go_loopw [3,4] (fun lv iv wr => ∃ (i : Nat) (last : Int),lv = .int .i64 last ∧ iv = .int .i64 (i : Int) ∧ i ≤ Ke ∧ Hid (A = entA n last (es.drop i)) ∧ Below w.heap.size w wr) (fun _ iv _ => Ke - (intOf iv).toNat)
 case atStart => exact ⟨0,0,rfl,rfl,by omega,HA,Below.refl _ _⟩
 case round =>
  clear HA;obtain ⟨i,last,rfl,rfl,hi,HM,hbel⟩ := hrel
  by_cases hlt : i < Ke
  ·obtain ⟨x,hx⟩ : ∃ r,es[i]? = some r := ⟨_,List.getElem?_eq_getElem (by rw [HKe.out]; exact hlt)⟩;obtain ⟨ge,off,rfl,cc⟩ := (EA.out.belowE hbel).get hx;obtain ⟨vt,p0,p1,p2,p3⟩ := ens_at cc;obtain ⟨pt,ct,rfl,t1,t2, -⟩ := p3.open;unfold maxLen at t2;have HM1 : Hid (A = entA n last (x :: es.drop (i + 1))) := (by rw [← drop_consV hx]; exact HM.out : A = entA n last (x :: es.drop (i + 1)));have hal : Below wr.heap.size wr (wr.alloc (Obj.cells #[.int .i64 x.1,.slice pt x.2.length ct] 69)) := (Below.refl _ _).alloc (Nat.le_refl _) _;have HT : Hid (TrsIn n (wr.alloc (Obj.cells #[.int .i64 x.1,.slice pt x.2.length ct] 69)) (.slice pt x.2.length ct) x.2) := p3.belowT hal;have hno := fun h => ent_no (n := n) (last := last) (x := x) (l := es.drop (i + 1)) h
   have hyes := fun (h : Tr) => ent_yes (n := n) (last := last) (x := x) (l := es.drop (i + 1)) (h := h)
   have hnoK := fun (j : Nat) (y h : Tr) => ent_noK (n := n) (last := last) (x := x) (l := es.drop (i + 1)) (j := j) (y := y) (h := h)
   clear HM p2 p3 cc hx;rw [← HM1.out] at hno hyes hnoK;obtain ⟨xt,xl⟩ := x;simp only at *;have HYES : Hid (∀ (h : Tr),xl[0]? = some h → last < xt → xt ≤ 500 → 1 ≤ xl.length → xl.length ≤ 64 → (∀ (j : Nat) (y : Tr),j < xl.length → xl[j]? = some y → (y.kind != h.kind) = false ∧ okN n y = true) → A = entA n xt (es.drop (i + 1))) := fun h a b c d e f => hyes h a b c d e f
   have HNOK : Hid (∀ (j : Nat) (y h : Tr),xl[j]? = some y → xl[0]? = some h → ((y.kind != h.kind) = true ∨ okN n y = false) → A = false) := fun j y h a b c => hnoK j y h a b c
   have HNO : Hid (¬ (last < xt ∧ xt ≤ 500 ∧ 1 ≤ xl.length ∧ xl.length ≤ 64) → A = false) := hno;clear hno hyes hnoK HM1;obtain ⟨Xl,hXl⟩ : ∃ K,xl.length = K := ⟨_,rfl⟩;rw [hXl] at p1 HT HNO hal t1;have HXl : Hid (xl.length = Xl) := hXl;clear hXl;have hbA : Below w.heap.size w (wr.alloc (Obj.cells #[.int .i64 xt,.slice pt Xl ct] 69)) := hbel.trans (hal.mono hbel.size)
   by_cases c0 : xt ≤ last
   ·have HH : Hid (false = A) := (HNO.out (by omega)).symm
    have h0 : decide (xt ≤ last) = true := by simp; omega
    clear HYES HNOK HNO HT;go_wp2_with fail;go_ret;exact ⟨congrArg (fun b => Ending.returned (Value.bool b)) HH.out,hbA⟩
   ·have h0 : decide (xt ≤ last) = false := by simp; omega
    by_cases c1 : xt > 500
    ·have HH : Hid (false = A) := (HNO.out (by omega)).symm
     have h1 : decide (xt > 500) = true := by simp; omega
     clear HYES HNOK HNO HT;go_wp2_with fail;go_ret;exact ⟨congrArg (fun b => Ending.returned (Value.bool b)) HH.out,hbA⟩
    ·have h1 : decide (xt > 500) = false := by simp; omega
     by_cases c2 : Xl < 1
     ·have HH : Hid (false = A) := (HNO.out (by omega)).symm
      have h2 : decide ((Xl : Int) < 1) = true := by simp; omega
      clear HYES HNOK HNO HT;go_wp2_with fail;go_ret;exact ⟨congrArg (fun b => Ending.returned (Value.bool b)) HH.out,hbA⟩
     ·have h2 : decide ((Xl : Int) < 1) = false := by simp; omega
      by_cases c3 : Xl > 64
      ·have HH : Hid (false = A) := (HNO.out (by omega)).symm
       have h3 : decide ((Xl : Int) > 64) = true := by simp; omega
       clear HYES HNOK HNO HT;go_wp2_with fail;go_ret;exact ⟨congrArg (fun b => Ending.returned (Value.bool b)) HH.out,hbA⟩
      ·have h3 : decide ((Xl : Int) > 64) = false := by simp; omega
       obtain ⟨h,hh⟩ : ∃ r,xl[0]? = some r := ⟨_,List.getElem?_eq_getElem (by rw [HXl.out]; omega)⟩;have HH0 : Hid (xl[0]? = some h) := hh;have HCC : Hid (last < xt ∧ xt ≤ 500 ∧ 1 ≤ Xl ∧ Xl ≤ 64) := (by omega : last < xt ∧ xt ≤ 500 ∧ 1 ≤ Xl ∧ Xl ≤ 64);have BE : Blk (wr.alloc (Obj.cells #[.int .i64 xt,.slice pt Xl ct] 69)) wr.heap.size #[.int .i64 xt,.slice pt Xl ct] 69 := Blk.new wr _ _;clear hh hal HNO;go_wp2_with fail;clear p0 p1 h0 h1 h2 h3;generalize (wr.alloc (Obj.cells #[.int .i64 xt,.slice pt Xl ct] 69)) = W at *;generalize wr.heap.size = be at *
       go_loopw [6] (fun jv wz => ∃ j : Nat,jv = .int .i64 (j : Int) ∧ j ≤ Xl ∧ Hid (∀ (l : Nat) (y : Tr),l < j → xl[l]? = some y → (y.kind != h.kind) = false ∧ okN n y = true) ∧ Below w.heap.size w wz ∧ Below W.heap.size W wz) (fun jv _ => Xl - (intOf jv).toNat)
       case atStart => exact ⟨0,rfl,by omega,(fun l y hl => absurd hl (by omega) : ∀ (l : Nat) (y : Tr),l < 0 → xl[l]? = some y → (y.kind != h.kind) = false ∧ okN n y = true),hbA,Below.refl _ _⟩
       case round =>
        clear hbA hbel;obtain ⟨j,rfl,hj,HL,hbel,hbW⟩ := hrel;have B1 := BE.below hbW;have a1 := (B1.cell 1).trans rfl
        by_cases hlt2 : j < Xl
        ·obtain ⟨y,hy⟩ : ∃ r,xl[j]? = some r := ⟨_,List.getElem?_eq_getElem (by rw [HXl.out]; exact hlt2)⟩;obtain ⟨g3,off3,rfl,c1⟩ := (HT.out.belowT hbW).get hy;obtain ⟨g4,off4,e4,c2⟩ := (HT.out.belowT hbW).get HH0.out
         obtain ⟨rfl,rfl⟩ : g3 = g4 ∧ off3 = off4 := by simpa using e4
         obtain ⟨z1,n1,d1,z2,n2,d2,o0,o1,o2,o3,o4,o5⟩ := trs_get c1;obtain ⟨_,_,_,_,_,_,q0,_⟩ := trs_get c2;rw [Nat.zero_mul,Nat.add_zero] at q0;have HY : Hid (xl[j]? = some y) := hy;have k1 := kept_cellV a1;have k2 := kept_cellV o0;have k3 := kept_cellV o1;have k4 := kept_cellV o2;have k5 := kept_cellV o3;have k6 := kept_cellV o4;have k7 := kept_cellV q0;clear c1 c2 hy e4
         cases hkd : (y.kind != h.kind) with
         | true =>
          have HH : Hid (false = A) := (HNOK.out j y h HY.out HH0.out (.inl hkd)).symm;clear HYES HNOK HL o0 o1 o2 o3 o4 o5 q0 HT;go_wp2_with fail;clear a1
          haveI := nonempty_qb (Below.refl wr.heap.size wr)
          refine wp_region_qb (Below.refl wr.heap.size wr) (by kernel_rfl) (by kernel_rfl) ?_
          repeat (go_big_quiet_step (fail))
          refine wpQuiet_nil ?_;rintro W1 ⟨⟨_,hW1⟩,rfl⟩;have hb1 := hbel.trans (hW1.mono hbel.size);clear k1 k2 k3 k4 k5 k6 k7 hW1 hbel hbW;go_wp2_with fail;go_ret;exact ⟨congrArg (fun b => Ending.returned (Value.bool b)) HH.out,hb1⟩
         | false =>
          cases hok : okN n y with
          | false =>
           have HH : Hid (false = A) := (HNOK.out j y h HY.out HH0.out (.inr hok)).symm
           have HC : Hid (∀ W1,Below wr.heap.size wr W1 → Calls Tryz.prog 48 #[.agg #[.int .i64 y.kind,.int .i64 y.n,.string y.s,.slice z1 n1 d1,.slice z2 n2 d2]] W1 fun e w' => e = .returned (.bool false) ∧ Below wr.heap.size wr w') := fun W1 hW1 => by
            refine (HI.out y _ W1 (o5.below hW1)).mono ?_;rintro e W' ⟨rfl,hb⟩;exact ⟨by rw [hok],hW1.trans (hb.mono hW1.size)⟩
           clear HYES HNOK HL o0 o1 o2 o3 o4 o5 q0 HT hok;go_wp2_with fail;clear a1
           haveI := nonempty_qb (Below.refl wr.heap.size wr)
           refine wp_region_qb (Below.refl wr.heap.size wr) (by kernel_rfl) (by kernel_rfl) ?_
           repeat (go_big_quiet_step (first | (go_at_call 48; exact qb_call HC.out)))
           refine wpQuiet_nil ?_;rintro W1 ⟨⟨_,hW1⟩,rfl⟩;have hb1 := hbel.trans (hW1.mono hbel.size);clear k1 k2 k3 k4 k5 k6 k7 hW1 hbel hbW;go_wp2_with fail;go_ret;exact ⟨congrArg (fun b => Ending.returned (Value.bool b)) HH.out,hb1⟩
          | true =>
           have HL2 : Hid (∀ (l : Nat) (y : Tr),l < j + 1 → xl[l]? = some y → (y.kind != h.kind) = false ∧ okN n y = true) := fun l z hl hz => by
            rcases Nat.lt_or_eq_of_le (Nat.le_of_lt_succ hl) with h' | h'
            ·exact HL.out l z h' hz
            ·subst h';have hyz : y = z := Option.some.inj (HY.out.symm.trans hz);subst hyz;exact ⟨hkd,hok⟩
           have HC : Hid (∀ W1,Below wr.heap.size wr W1 → Calls Tryz.prog 48 #[.agg #[.int .i64 y.kind,.int .i64 y.n,.string y.s,.slice z1 n1 d1,.slice z2 n2 d2]] W1 fun e w' => e = .returned (.bool true) ∧ Below wr.heap.size wr w') := fun W1 hW1 => by
            refine (HI.out y _ W1 (o5.below hW1)).mono ?_;rintro e W' ⟨rfl,hb⟩;exact ⟨by rw [hok],hW1.trans (hb.mono hW1.size)⟩
           clear HL o0 o1 o2 o3 o4 o5 q0 hok;go_wp2_with fail;clear a1
           haveI := nonempty_qb (Below.refl wr.heap.size wr)
           refine wp_region_qb (Below.refl wr.heap.size wr) (by kernel_rfl) (by kernel_rfl) ?_
           repeat (go_big_quiet_step (first | (go_at_call 48; exact qb_call HC.out)))
           refine wpQuiet_nil ?_;rintro W1 ⟨⟨_,hW1⟩,rfl⟩;have hb1 := hbel.trans (hW1.mono hbel.size);have hb2 := hbW.trans (hW1.mono hbW.size);clear k1 k2 k3 k4 k5 k6 k7 hW1 hbel hbW B1;go_wp2_with fail
           go_roundw
           case rel => exact ⟨j + 1,by go_num,by omega,HL2,hb1,hb2⟩
           case measure => simp [intOf]; omega
        ·have HM2 : Hid (A = entA n xt (es.drop (i + 1))) := HYES.out h HH0.out HCC.out.1 HCC.out.2.1 (by rw [HXl.out]; exact HCC.out.2.2.1) (by rw [HXl.out]; exact HCC.out.2.2.2) fun l y hl hy => HL.out l y (by rw [HXl.out] at hl; omega) hy
         clear HYES HNOK HL HT B1;go_wp2_with fail;clear a1
         go_roundw
         case rel => exact ⟨i + 1,xt,rfl,by go_num,by omega,HM2,hbel⟩
         case measure => simp [intOf]; omega
  ·have HH : Hid (true = A) := by
    have h1 := HM.out;rw [List.drop_of_length_le (by rw [HKe.out]; omega)] at h1;exact h1.symm
   clear HM;go_wp2_with fail;go_ret;exact ⟨congrArg (fun b => Ending.returned (Value.bool b)) HH.out,hbel⟩
theorem toList_ext {a b : ByteArray} (h : a.toList = b.toList) : a = b := by
 rw [ByteArray.toList_eq,ByteArray.toList_eq] at h;obtain ⟨⟨l⟩⟩ := a;obtain ⟨⟨m⟩⟩ := b
 simp at h
 rw [h]
theorem fd_neq (t1 t2 t3 s1 s2 s3 : Int) (t4 s4 : ByteArray) (h : Fd.mk t1 t2 t3 t4 ≠ Fd.mk s1 s2 s3 s4) (W : World) :
  (binOp .neq 79 (.agg #[.int .i64 t1,.int .i64 t2,.int .i64 t3,.string t4]) (.agg #[.int .i64 s1,.int .i64 s2,.int .i64 s3,.string s4])).run Tryz.prog W = .ok (.bool true) W := by
 by_cases h1 : t1 = s1
 ·by_cases h2 : t2 = s2
  ·by_cases h3 : t3 = s3
   ·by_cases h4 : t4.toList = s4.toList
    ·exact absurd (by rw [h1,h2,h3,toList_ext h4]) h
    ·subst h1 h2 h3
     simp [go_sem,h4]
   ·subst h1 h2
    simp [go_sem,h3]
  ·subst h1
   simp [go_sem,h2]
 ·simp [go_sem,h1]
theorem ok_one {n : Nat} {t : Tr} (h : t.kind = 1) : okN (n + 1) t = (t.s.size == 0 && t.es.isEmpty && t.rest.isEmpty) := by simp [okN,lvB,h]
theorem ok_two {n : Nat} {t : Tr} (h : t.kind = 2) : okN (n + 1) t = (t.n == 0 && t.es.isEmpty && t.rest.isEmpty) := by simp [okN,lvB,h]
theorem ok_three {n : Nat} {t : Tr} (h : t.kind = 3) : okN (n + 1) t = (t.n == 0 && t.s.size == 0 && entA n 0 t.es && restB t.rest t.es) := by
 simp only [okN,lvB,h,entA]
 simp
 ac_rfl
theorem ok_none {n : Nat} {t : Tr} (h1 : t.kind ≠ 1) (h2 : t.kind ≠ 2) (h3 : t.kind ≠ 3) : okN (n + 1) t = false := by simp [okN,lvB,h1,h2,h3]
theorem str_empty {s : ByteArray} (h : (s.size == 0) = true) : s = ⟨#[]⟩ := by
 obtain ⟨⟨l⟩⟩ := s
 cases l with
 | nil => rfl
 | cons a l => simp [ByteArray.size] at h
theorem str_not {s : ByteArray} (h : (s.size == 0) = false) : (s.toList == ([] : List UInt8)) = false := by
 cases hq : (s.toList == ([] : List UInt8)) with
 | false => rfl
 | true =>
  have e : s.toList = [] := by simpa using hq
  have h2 : s = ⟨#[]⟩ := toList_ext (e.trans (by rw [ByteArray.toList_eq]));rw [h2] at h;exact absurd h (by decide)
theorem rcheckN_step (n : Nat) (IH : ∀ t v w,TrIn n w v t → Calls Tryz.prog 48 #[v] w fun e w' => e = .returned (.bool (okN n t)) ∧ Below w.heap.size w w') (t : Tr) (v : Value) (w : World) (ht : TrIn (n + 1) w v t) :
  Calls Tryz.prog 48 #[v] w fun e w' => e = .returned (.bool (okN (n + 1) t)) ∧ Below w.heap.size w w' := by
 have HRS : Hid (∀ W,Below w.heap.size w W → Calls Tryz.prog 88 #[v] W fun e w' => e = .returned (.bool (restB t.rest t.es)) ∧ Below W.heap.size W w') := fun W hW => rrest_any n t v W (ht.below hW)
 obtain ⟨n',ve,vr,e0,rfl,ka,na,sa,fa,ra,ea⟩ := ht.open
 obtain rfl : n' = n := by omega
 have HEN : Hid (∀ W,Below w.heap.size w W → Calls Tryz.prog 87 #[ve] W fun e w' => e = .returned (.bool (entA n' 0 t.es)) ∧ Below W.heap.size W w') := fun W hW => rents_step n' IH t.es ve W (ea.belowE hW)
 clear e0 ht IH;obtain ⟨pe,ce,rfl,u1,u2, -⟩ := ea.open;obtain ⟨pr,cr,rfl,x1,x2, -⟩ := rest_holds ra;unfold maxLen at u2 x2
 have eE : ∀ b,t.es.isEmpty = b → (((t.es.length : Nat) : Int) == 0) = b := fun b h => by rw [← h]; cases t.es <;> simp; omega
 have eR : ∀ b,t.rest.isEmpty = b → (((t.rest.length : Nat) : Int) == 0) = b := fun b h => by rw [← h]; cases t.rest <;> simp; omega
 clear ka na sa fa ra ea;obtain ⟨A,hA⟩ : ∃ A,okN (n' + 1) t = A := ⟨_,rfl⟩;rw [hA];have HAL : Hid (∀ (o : Obj),Below w.heap.size w (w.alloc o)) := fun o => (Below.refl _ _).alloc (Nat.le_refl _) _
 by_cases hk : t.kind = 1
 ·cases hs : (t.s.size == 0) with
  | false =>
   have HH : Hid (false = A) := (by rw [← hA,ok_one hk,hs]; simp : false = A);have fs := str_not hs;rw [hk];clear eE eR hA HRS HEN hs hk;generalize t.es.length = Ke at *;generalize t.rest.length = Kr at *;generalize t.n = N at *;generalize t.s = S at *
   go_enter Tryz.func48,Tryz.ntmps48
   go_wp2_with fail;go_ret;exact ⟨congrArg (fun b => Ending.returned (Value.bool b)) HH.out,HAL.out _⟩
  | true =>
   cases he : (t.es.isEmpty) with
   | false =>
    have HH : Hid (false = A) := (by rw [← hA,ok_one hk,hs,he]; simp : false = A);have fe := eE _ he;rw [str_empty hs];rw [hk];clear eE eR hA HRS HEN hs he hk;generalize t.es.length = Ke at *;generalize t.rest.length = Kr at *;generalize t.n = N at *
    go_enter Tryz.func48,Tryz.ntmps48
    go_wp2_with fail;go_ret;exact ⟨congrArg (fun b => Ending.returned (Value.bool b)) HH.out,HAL.out _⟩
   | true =>
    cases hr : (t.rest.isEmpty) with
    | false =>
     have HH : Hid (false = A) := (by rw [← hA,ok_one hk,hs,he,hr]; simp : false = A);have fe := eE _ he;have fr := eR _ hr;rw [str_empty hs];rw [hk];clear eE eR hA HRS HEN hs he hr hk;generalize t.es.length = Ke at *;generalize t.rest.length = Kr at *;generalize t.n = N at *
     go_enter Tryz.func48,Tryz.ntmps48
     go_wp2_with fail;go_ret;exact ⟨congrArg (fun b => Ending.returned (Value.bool b)) HH.out,HAL.out _⟩
    | true =>
     have HH : Hid (true = A) := (by rw [← hA,ok_one hk,hs,he,hr]; simp : true = A);have fe := eE _ he;have fr := eR _ hr;rw [str_empty hs];rw [hk];clear eE eR hA HRS HEN hs he hr hk;generalize t.es.length = Ke at *;generalize t.rest.length = Kr at *;generalize t.n = N at *
     go_enter Tryz.func48,Tryz.ntmps48
     go_wp2_with fail;go_ret;exact ⟨congrArg (fun b => Ending.returned (Value.bool b)) HH.out,HAL.out _⟩
 ·by_cases hk2 : t.kind = 2
  ·cases hn : (t.n == 0) with
   | false =>
    have HH : Hid (false = A) := (by rw [← hA,ok_two hk2,hn]; simp : false = A);rw [hk2];clear eE eR hA HRS HEN hk hk2;generalize t.es.length = Ke at *;generalize t.rest.length = Kr at *;generalize t.n = N at *;generalize t.s = S at *
    go_enter Tryz.func48,Tryz.ntmps48
    go_wp2_with fail;go_ret;exact ⟨congrArg (fun b => Ending.returned (Value.bool b)) HH.out,HAL.out _⟩
   | true =>
    cases he : (t.es.isEmpty) with
    | false =>
     have HH : Hid (false = A) := (by rw [← hA,ok_two hk2,hn,he]; simp : false = A);have fe := eE _ he;rw [hk2];clear eE eR hA HRS HEN he hk hk2;generalize t.es.length = Ke at *;generalize t.rest.length = Kr at *;generalize t.n = N at *;generalize t.s = S at *
     go_enter Tryz.func48,Tryz.ntmps48
     go_wp2_with fail;go_ret;exact ⟨congrArg (fun b => Ending.returned (Value.bool b)) HH.out,HAL.out _⟩
    | true =>
     cases hr : (t.rest.isEmpty) with
     | false =>
      have HH : Hid (false = A) := (by rw [← hA,ok_two hk2,hn,he,hr]; simp : false = A);have fe := eE _ he;have fr := eR _ hr;rw [hk2];clear eE eR hA HRS HEN he hr hk hk2;generalize t.es.length = Ke at *;generalize t.rest.length = Kr at *;generalize t.n = N at *;generalize t.s = S at *
      go_enter Tryz.func48,Tryz.ntmps48
      go_wp2_with fail;go_ret;exact ⟨congrArg (fun b => Ending.returned (Value.bool b)) HH.out,HAL.out _⟩
     | true =>
      have HH : Hid (true = A) := (by rw [← hA,ok_two hk2,hn,he,hr]; simp : true = A);have fe := eE _ he;have fr := eR _ hr;rw [hk2];clear eE eR hA HRS HEN he hr hk hk2;generalize t.es.length = Ke at *;generalize t.rest.length = Kr at *;generalize t.n = N at *;generalize t.s = S at *
      go_enter Tryz.func48,Tryz.ntmps48
      go_wp2_with fail;go_ret;exact ⟨congrArg (fun b => Ending.returned (Value.bool b)) HH.out,HAL.out _⟩
  ·by_cases hk3 : t.kind = 3
   ·cases hn : (t.n == 0) with
    | false =>
     have HH : Hid (false = A) := (by rw [← hA,ok_three hk3,hn]; simp : false = A);rw [hk3];clear eE eR hA HRS HEN hk hk2 hk3;generalize t.es.length = Ke at *;generalize t.rest.length = Kr at *;generalize t.n = N at *;generalize t.s = S at *
     go_enter Tryz.func48,Tryz.ntmps48
     go_wp2_with fail;go_ret;exact ⟨congrArg (fun b => Ending.returned (Value.bool b)) HH.out,HAL.out _⟩
    | true =>
     cases hs : (t.s.size == 0) with
     | false =>
      have HH : Hid (false = A) := (by rw [← hA,ok_three hk3,hn,hs]; simp : false = A);have fs := str_not hs;rw [hk3];clear eE eR hA HRS HEN hs hk hk2 hk3;generalize t.es.length = Ke at *;generalize t.rest.length = Kr at *;generalize t.n = N at *;generalize t.s = S at *
      go_enter Tryz.func48,Tryz.ntmps48
      go_wp2_with fail;go_ret;exact ⟨congrArg (fun b => Ending.returned (Value.bool b)) HH.out,HAL.out _⟩
     | true =>
      have HA : Hid ((entA n' 0 t.es && restB t.rest t.es) = A) := (by rw [← hA,ok_three hk3,hn,hs]; simp : (entA n' 0 t.es && restB t.rest t.es) = A);have hsz := str_empty hs;rw [hk3] at HRS ⊢;rw [hsz] at HRS ⊢;clear eE eR hA hs hk hk2 hk3 hsz;generalize t.es.length = Ke at *;generalize t.rest.length = Kr at *;generalize t.n = N at *;have B0 : Blk (w.alloc (Obj.cells #[.int .i64 3,.int .i64 N,.string ⟨#[]⟩,.slice pe Ke ce,.slice pr Kr cr] 30)) w.heap.size #[.int .i64 3,.int .i64 N,.string ⟨#[]⟩,.slice pe Ke ce,.slice pr Kr cr] 30 := Blk.new w _ _;have HB0 : Hid (Blk (w.alloc (Obj.cells #[.int .i64 3,.int .i64 N,.string ⟨#[]⟩,.slice pe Ke ce,.slice pr Kr cr] 30)) w.heap.size #[.int .i64 3,.int .i64 N,.string ⟨#[]⟩,.slice pe Ke ce,.slice pr Kr cr] 30) := B0;clear B0
      go_enter Tryz.func48,Tryz.ntmps48
      go_wp2_with fail;refine (HEN.out _ (HAL.out _)).mono ?_;rintro e w1 ⟨rfl,hb1⟩;have hbw1 : Below w.heap.size w w1 := (HAL.out _).trans (hb1.mono (by simp));have B1 := HB0.out.below hb1;have a0 := (B1.cell 0).trans rfl;have a1 := (B1.cell 1).trans rfl;have a2 := (B1.cell 2).trans rfl;have a3 := (B1.cell 3).trans rfl;have a4 := (B1.cell 4).trans rfl;clear B1 hb1 HB0 HEN
      cases hE : entA n' 0 t.es with
      | false =>
       have HH : Hid (false = A) := (by rw [← HA.out,hE]; rfl : false = A);clear HA hE HRS;go_wp2_with fail;go_ret;exact ⟨congrArg (fun b => Ending.returned (Value.bool b)) HH.out,hbw1⟩
      | true =>
       have HH : Hid (restB t.rest t.es = A) := (by rw [← HA.out,hE]; rfl : restB t.rest t.es = A);clear HA hE;go_wp2_with fail;refine (HRS.out _ hbw1).mono ?_;rintro e w2 ⟨rfl,hb2⟩;rw [HH.out];have hbw2 : Below w.heap.size w w2 := hbw1.trans (hb2.mono hbw1.size);clear hb2 hbw1 a0 a1 a2 a3 a4 HRS;go_wp2_with fail;go_ret;exact ⟨rfl,hbw2⟩
   ·have HH : Hid (false = A) := (by rw [← hA,ok_none hk hk2 hk3] : false = A)
    have f1 : (t.kind == 1) = false := by simpa using hk
    have f2 : (t.kind == 2) = false := by simpa using hk2
    have f3 : (t.kind == 3) = false := by simpa using hk3
    clear eE eR hA HRS HEN hk hk2 hk3;generalize t.es.length = Ke at *;generalize t.rest.length = Kr at *;generalize t.n = N at *;generalize t.s = S at *;generalize t.kind = K at *
    go_enter Tryz.func48,Tryz.ntmps48
    go_wp2_with fail;go_ret;exact ⟨congrArg (fun b => Ending.returned (Value.bool b)) HH.out,HAL.out _⟩
theorem rcheckN_any : ∀ (n : Nat) (t : Tr) (v : Value) (w : World),TrIn n w v t → Calls Tryz.prog 48 #[v] w fun e w' => e = .returned (.bool (okN n t)) ∧ Below w.heap.size w w'
 | 0,_,_,_,h => by obtain ⟨r,_,h⟩ := h; exact h.elim
 | n + 1,t,v,w,h => rcheckN_step n (fun t v w h => rcheckN_any n t v w h) t v w h
theorem rCheck_any (n : Nat) (t : Tr) (v : Value) (w : World) (h : TrIn n w v t) (hn : n ≤ 100) : Calls Tryz.prog 26 #[v] w fun e w' => e = .returned (.bool (chkN n t)) ∧ Below w.heap.size w w' := by
 have HAL : Hid (∀ (o : Obj),Below w.heap.size w (w.alloc o)) := fun o => (Below.refl _ _).alloc (Nat.le_refl _) _
 have HD : Hid (∀ W,Below w.heap.size w W → Calls Tryz.prog 47 #[v] W fun e w' => e = .returned (.int .i64 (dpN n t : Nat)) ∧ Below W.heap.size W w') := fun W hW => rDepth_any n t v W (h.below hW) hn
 have HC : Hid (∀ W,Below w.heap.size w W → Calls Tryz.prog 48 #[v] W fun e w' => e = .returned (.bool (okN n t)) ∧ Below W.heap.size W w') := fun W hW => rcheckN_any n t v W (h.below hW)
 obtain ⟨A,hA⟩ : ∃ A,chkN n t = A := ⟨_,rfl⟩;rw [hA];have HA : Hid ((decide (dpN n t ≤ 10) && okN n t) = A) := hA;obtain ⟨n',ve,vr,e0,rfl, -, -, -, -,ra,ea⟩ := h.open;obtain ⟨pe,ce,rfl, -⟩ := ea.open;obtain ⟨pr,cr,rfl, -⟩ := rest_holds ra;generalize t.es.length = Ke at *;generalize t.rest.length = Kr at *;generalize dpN n t = D at *;generalize okN n t = O at *;generalize t.kind = K at *;generalize t.n = N at *;generalize t.s = S at *;clear h ra ea e0 hA;have HB0 : Hid (Blk (w.alloc (Obj.cells #[.int .i64 K,.int .i64 N,.string S,.slice pe Ke ce,.slice pr Kr cr] 30)) w.heap.size #[.int .i64 K,.int .i64 N,.string S,.slice pe Ke ce,.slice pr Kr cr] 30) := Blk.new w _ _
 go_enter Tryz.func26,Tryz.ntmps26
 go_wp2_with fail;refine (HD.out _ (HAL.out _)).mono ?_;rintro e w1 ⟨rfl,hb1⟩;have hbw1 : Below w.heap.size w w1 := (HAL.out _).trans (hb1.mono (by simp));have B1 := HB0.out.below hb1;have a0 := (B1.cell 0).trans rfl;have a1 := (B1.cell 1).trans rfl;have a2 := (B1.cell 2).trans rfl;have a3 := (B1.cell 3).trans rfl;have a4 := (B1.cell 4).trans rfl;clear B1 hb1 HB0 HD
 by_cases hd : D ≤ 10
 ·have hq : decide ((D : Int) ≤ 10) = true := by simp; omega
  have HH : Hid (O = A) := (by rw [← HA.out]; simp [hd] : O = A);clear HA;go_wp2_with fail;refine (HC.out _ hbw1).mono ?_;rintro e w2 ⟨rfl,hb2⟩;rw [HH.out];have hbw2 : Below w.heap.size w w2 := hbw1.trans (hb2.mono hbw1.size);clear hb2 hbw1 a0 a1 a2 a3 a4 HC;go_wp2_with fail;go_ret;exact ⟨rfl,hbw2⟩
 ·have hq : decide ((D : Int) ≤ 10) = false := by simp; omega
  have HH : Hid (false = A) := (by rw [← HA.out]; simp [hd] : false = A);clear HA;go_wp2_with fail;go_ret;exact ⟨congrArg (fun b => Ending.returned (Value.bool b)) HH.out,hbw1⟩
end
section
open Go.ChangeShapes Go.WideShapes Go.ChangeAt Go.RowKit Go.Maps
theorem r7message_any {w : World} {snm nm : ByteArray} {ae at' : Option Addr} {E ce T ct : Nat} {vm : Value} {ms : List MsS} (hr : MsIn w vm ms)  :
  Calls Tryz.prog 25 #[.agg #[.string snm,vm,.slice ae E ce,.slice at' T ct],.string nm] w fun e w' => ∃ vf vr,e = .returned (.tuple #[.agg #[.string ((ms.find? (fun m => decide (m.name = nm))).getD zeroM).name,vf,vr],.bool (ms.find? (fun m => decide (m.name = nm))).isSome]) ∧ RowG w' vf 5 (flRows ((ms.find? (fun m => decide (m.name = nm))).getD zeroM).fields) ∧ RowG w' vr 1 (inRows ((ms.find? (fun m => decide (m.name = nm))).getD zeroM).reserved) ∧ Below w.heap.size w w' := by
 obtain ⟨a,c,rfl,q1,q2⟩ := hr.form2;have HR : Hid (MsIn w (.slice a ms.length c) ms) := hr;obtain ⟨N,hN⟩ : ∃ N,ms.length = N := ⟨_,rfl⟩;rw [hN] at HR q1 ⊢;have HN : Hid (ms.length = N) := hN;clear hN hr;obtain ⟨A,hA⟩ : ∃ A,(ms.find? (fun m => decide (m.name = nm))) = A := ⟨_,rfl⟩;rw [hA];have HA : Hid (A = ((ms.drop 0).find? (fun m => decide (m.name = nm)))) := hA.symm;clear hA;have BX0 : Blk ((w.alloc (.cells #[.string snm,.slice a N c,.slice ae E ce,.slice at' T ct] 26)).alloc (.cells #[.string ⟨#[]⟩,.slice none 0 0,.slice none 0 0] 52)) w.heap.size #[.string snm,.slice a N c,.slice ae E ce,.slice at' T ct] 26 := (Blk.new w _ _).below ((Below.refl _ _).alloc (Nat.le_refl _) _)
 have BR0 : Blk ((w.alloc (.cells #[.string snm,.slice a N c,.slice ae E ce,.slice at' T ct] 26)).alloc (.cells #[.string ⟨#[]⟩,.slice none 0 0,.slice none 0 0] 52)) (w.heap.size + 1) #[.string ⟨#[]⟩,.slice none 0 0,.slice none 0 0] 52 := by
  have := Blk.new (w.alloc (.cells #[.string snm,.slice a N c,.slice ae E ce,.slice at' T ct] 26)) #[.string ⟨#[]⟩,.slice none 0 0,.slice none 0 0] 52
  rwa [show (w.alloc (.cells #[.string snm,.slice a N c,.slice ae E ce,.slice at' T ct] 26)).heap.size = w.heap.size + 1 by simp] at this
 have hb0 : Below w.heap.size w ((w.alloc (.cells #[.string snm,.slice a N c,.slice ae E ce,.slice at' T ct] 26)).alloc (.cells #[.string ⟨#[]⟩,.slice none 0 0,.slice none 0 0] 52)) := ((Below.refl _ _).alloc (Nat.le_refl _) _).alloc (by simp) _
 go_enter Tryz.func25,Tryz.ntmps25
 go_wp2_with fail
 go_loopw [6] (fun iv wr => ∃ k : Nat,iv = .int .i64 (k : Int) ∧ k ≤ N ∧ Hid (A = ((ms.drop k).find? (fun m => decide (m.name = nm)))) ∧ Below w.heap.size w wr ∧ Blk wr (w.heap.size + 1) #[.string ⟨#[]⟩,.slice none 0 0,.slice none 0 0] 52 ∧ Blk wr w.heap.size #[.string snm,.slice a N c,.slice ae E ce,.slice at' T ct] 26) (fun iv _ => N - (intOf iv).toNat)
 case atStart => exact ⟨0,rfl,by omega,HA,hb0,BR0,BX0⟩
 case round =>
  obtain ⟨k,rfl,hk,HAk,hbel,BR,BX⟩ := hrel;clear BX0 BR0 hb0;have hlt2 : w.heap.size + 1 < wr.heap.size := BR.lt;have r0 := (BR.cell 0).trans rfl;have z0 := BR.froz 0;have r1 := (BR.cell 1).trans rfl;have z1 := BR.froz 1;have r2 := (BR.cell 2).trans rfl;have z2 := BR.froz 2;have x1 : wr.cell? ⟨w.heap.size,1,none⟩ = some (.slice a N c) := BX.cell 1
  by_cases hlt : k < N
  ·obtain ⟨f,hf⟩ : ∃ n,ms[k]? = some n := ⟨_,List.getElem?_eq_getElem (by rw [HN.out]; exact hlt)⟩;obtain ⟨g,off,vf,vr,rfl,c0',c1',c2',hrf,hrr⟩ := HR.out.get hf;have c0 := (hbel.cell (World.block_lt_of_cell? _ _ c0')).trans c0';have c1 := (hbel.cell (World.block_lt_of_cell? _ _ c1')).trans c1';have c2 := (hbel.cell (World.block_lt_of_cell? _ _ c2')).trans c2';clear c0' c1' c2';have HF : Hid (RowG w vf 5 (flRows f.fields)) := hrf;have HV : Hid (RowG w vr 1 (inRows f.reserved)) := hrr;obtain ⟨a3,c3,rfl,_,_⟩ := hrf.form2;obtain ⟨a4,c4,rfl,_,_⟩ := hrr.form2;have HF : Hid (RowG w (.slice a3 (flRows f.fields).length c3) 5 (flRows f.fields)) := HF;have HV : Hid (RowG w (.slice a4 (inRows f.reserved).length c4) 1 (inRows f.reserved)) := HV
   have HA2 : Hid (A = if decide (f.name = nm) = true then some f else ((ms.drop (k + 1)).find? (fun m => decide (m.name = nm)))) := by
    show _ = _
    rw [HAk.out,drop_at hf,List.find?_cons]
    cases decide (f.name = nm) <;> rfl
   obtain ⟨f0,ff,fr⟩ := f;simp only at c0 c1 c2 HA2 HF HV;generalize hnF : (flRows ff).length = nF at *;generalize hnR : (inRows fr).length = nR at *;clear hrf hrr hf HAk hnF hnR
   by_cases he : f0 = nm
   ·subst he
    have HA3 : Hid (A = some ⟨f0,ff,fr⟩) := by show _ = _; rw [HA2.out,if_pos (by simp)]
    clear HA2;go_wp2_with fail;refine bodyPost_ret (results_two rfl _ _ _ ⟨w.heap.size + 1,0,none⟩ (.agg #[.string f0,.slice a3 nF c3,.slice a4 nR c4]) (by go_simp) (by go_simp)) rfl ?_;refine ⟨.slice a3 nF c3,.slice a4 nR c4,ret_two (by rw [HA3.out]; rfl) (by rw [HA3.out]; rfl),?_,?_,(Below.setCell (Below.setCell (Below.setCell hbel (by simp) _) (by simp) _) (by simp) _)⟩
    ·rw [HA3.out]; exact HF.out.below (Below.setCell (Below.setCell (Below.setCell hbel (by simp) _) (by simp) _) (by simp) _)
    ·rw [HA3.out]; exact HV.out.below (Below.setCell (Below.setCell (Below.setCell hbel (by simp) _) (by simp) _) (by simp) _)
   ·have hq := bytes_ne he
    have HA3 : Hid (A = ((ms.drop (k + 1)).find? (fun m => decide (m.name = nm)))) := by show _ = _; rw [HA2.out,if_neg (by simpa using he)]
    go_wp2_with fail
    go_roundw
    case rel => exact ⟨k + 1,by go_num,by omega,HA3,hbel,BR,BX⟩
    case measure => simp [intOf]; omega
  ·have HA2 : Hid (A = none) := by show _ = _; rw [HAk.out,drop_end (by rw [HN.out]; omega)]; rfl
   go_wp2_with fail;refine bodyPost_ret (results_two rfl _ _ _ ⟨w.heap.size + 1,0,none⟩ (.agg #[.string ⟨#[]⟩,.slice none 0 0,.slice none 0 0]) (by go_simp) (by go_simp)) rfl ?_;exact ⟨.slice none 0 0,.slice none 0 0,ret_two (by rw [HA2.out]; rfl) (by rw [HA2.out]; rfl),by rw [HA2.out]; exact RowG.nil _ _,by rw [HA2.out]; exact RowG.nil _ _,(Below.setCell (Below.setCell (Below.setCell hbel (by simp) _) (by simp) _) (by simp) _)⟩
theorem r7enum_any {w : World} {snm nm : ByteArray} {am at' : Option Addr} {M cm T ct : Nat} {ve : Value} {ms : List EnS} (hr : EnIn w ve ms)  :
  Calls Tryz.prog 117 #[.agg #[.string snm,.slice am M cm,ve,.slice at' T ct],.string nm] w fun e w' => ∃ vv,e = .returned (.tuple #[.agg #[.string ((ms.find? (fun m => decide (m.name = nm))).getD zeroN).name,vv],.bool (ms.find? (fun m => decide (m.name = nm))).isSome]) ∧ RowG w' vv 2 (nmRows ((ms.find? (fun m => decide (m.name = nm))).getD zeroN).values) ∧ Below w.heap.size w w' := by
 obtain ⟨a,c,rfl,q1,q2⟩ := hr.form2;have HR : Hid (EnIn w (.slice a ms.length c) ms) := hr;obtain ⟨N,hN⟩ : ∃ N,ms.length = N := ⟨_,rfl⟩;rw [hN] at HR q1 ⊢;have HN : Hid (ms.length = N) := hN;clear hN hr;obtain ⟨A,hA⟩ : ∃ A,(ms.find? (fun m => decide (m.name = nm))) = A := ⟨_,rfl⟩;rw [hA];have HA : Hid (A = ((ms.drop 0).find? (fun m => decide (m.name = nm)))) := hA.symm;clear hA;have BX0 : Blk ((w.alloc (.cells #[.string snm,.slice am M cm,.slice a N c,.slice at' T ct] 26)).alloc (.cells #[.string ⟨#[]⟩,.slice none 0 0] 59)) w.heap.size #[.string snm,.slice am M cm,.slice a N c,.slice at' T ct] 26 := (Blk.new w _ _).below ((Below.refl _ _).alloc (Nat.le_refl _) _)
 have BR0 : Blk ((w.alloc (.cells #[.string snm,.slice am M cm,.slice a N c,.slice at' T ct] 26)).alloc (.cells #[.string ⟨#[]⟩,.slice none 0 0] 59)) (w.heap.size + 1) #[.string ⟨#[]⟩,.slice none 0 0] 59 := by
  have := Blk.new (w.alloc (.cells #[.string snm,.slice am M cm,.slice a N c,.slice at' T ct] 26)) #[.string ⟨#[]⟩,.slice none 0 0] 59
  rwa [show (w.alloc (.cells #[.string snm,.slice am M cm,.slice a N c,.slice at' T ct] 26)).heap.size = w.heap.size + 1 by simp] at this
 have hb0 : Below w.heap.size w ((w.alloc (.cells #[.string snm,.slice am M cm,.slice a N c,.slice at' T ct] 26)).alloc (.cells #[.string ⟨#[]⟩,.slice none 0 0] 59)) := ((Below.refl _ _).alloc (Nat.le_refl _) _).alloc (by simp) _
 go_enter Tryz.func117,Tryz.ntmps117
 go_wp2_with fail
 go_loopw [6] (fun iv wr => ∃ k : Nat,iv = .int .i64 (k : Int) ∧ k ≤ N ∧ Hid (A = ((ms.drop k).find? (fun m => decide (m.name = nm)))) ∧ Below w.heap.size w wr ∧ Blk wr (w.heap.size + 1) #[.string ⟨#[]⟩,.slice none 0 0] 59 ∧ Blk wr w.heap.size #[.string snm,.slice am M cm,.slice a N c,.slice at' T ct] 26) (fun iv _ => N - (intOf iv).toNat)
 case atStart => exact ⟨0,rfl,by omega,HA,hb0,BR0,BX0⟩
 case round =>
  obtain ⟨k,rfl,hk,HAk,hbel,BR,BX⟩ := hrel;clear BX0 BR0 hb0;have hlt2 : w.heap.size + 1 < wr.heap.size := BR.lt;have r0 := (BR.cell 0).trans rfl;have z0 := BR.froz 0;have r1 := (BR.cell 1).trans rfl;have z1 := BR.froz 1;have x1 : wr.cell? ⟨w.heap.size,2,none⟩ = some (.slice a N c) := BX.cell 2
  by_cases hlt : k < N
  ·obtain ⟨f,hf⟩ : ∃ n,ms[k]? = some n := ⟨_,List.getElem?_eq_getElem (by rw [HN.out]; exact hlt)⟩;obtain ⟨g,off,vv,rfl,c0',c1',hrf⟩ := HR.out.get hf;have c0 := (hbel.cell (World.block_lt_of_cell? _ _ c0')).trans c0';have c1 := (hbel.cell (World.block_lt_of_cell? _ _ c1')).trans c1';clear c0' c1';have HF : Hid (RowG w vv 2 (nmRows f.values)) := hrf;obtain ⟨a3,c3,rfl,_,_⟩ := hrf.form2;have HF : Hid (RowG w (.slice a3 (nmRows f.values).length c3) 2 (nmRows f.values)) := HF
   have HA2 : Hid (A = if decide (f.name = nm) = true then some f else ((ms.drop (k + 1)).find? (fun m => decide (m.name = nm)))) := by
    show _ = _
    rw [HAk.out,drop_at hf,List.find?_cons]
    cases decide (f.name = nm) <;> rfl
   obtain ⟨f0,ff⟩ := f;simp only at c0 c1 HA2 HF;generalize hnF : (nmRows ff).length = nF at *;clear hrf hf HAk hnF
   by_cases he : f0 = nm
   ·subst he
    have HA3 : Hid (A = some ⟨f0,ff⟩) := by show _ = _; rw [HA2.out,if_pos (by simp)]
    clear HA2;go_wp2_with fail;refine bodyPost_ret (results_two rfl _ _ _ ⟨w.heap.size + 1,0,none⟩ (.agg #[.string f0,.slice a3 nF c3]) (by go_simp) (by go_simp)) rfl ?_;refine ⟨.slice a3 nF c3,ret_two (by rw [HA3.out]; rfl) (by rw [HA3.out]; rfl),?_,(Below.setCell (Below.setCell hbel (by simp) _) (by simp) _)⟩;rw [HA3.out]; exact HF.out.below (Below.setCell (Below.setCell hbel (by simp) _) (by simp) _)
   ·have hq := bytes_ne he
    have HA3 : Hid (A = ((ms.drop (k + 1)).find? (fun m => decide (m.name = nm)))) := by show _ = _; rw [HA2.out,if_neg (by simpa using he)]
    go_wp2_with fail
    go_roundw
    case rel => exact ⟨k + 1,by go_num,by omega,HA3,hbel,BR,BX⟩
    case measure => simp [intOf]; omega
  ·have HA2 : Hid (A = none) := by show _ = _; rw [HAk.out,drop_end (by rw [HN.out]; omega)]; rfl
   go_wp2_with fail;refine bodyPost_ret (results_two rfl _ _ _ ⟨w.heap.size + 1,0,none⟩ (.agg #[.string ⟨#[]⟩,.slice none 0 0]) (by go_simp) (by go_simp)) rfl ?_;exact ⟨.slice none 0 0,ret_two (by rw [HA2.out]; rfl) (by rw [HA2.out]; rfl),by rw [HA2.out]; exact RowG.nil _ _,(Below.setCell (Below.setCell hbel (by simp) _) (by simp) _)⟩
end
section
open Go.ChangeShapes Go.WideShapes Go.ChangeAt Go.RowKit
theorem rkey_any (s : ByteArray) (w : World) :
  Calls Tryz.prog 55 #[.string s] w fun e w' => e = .returned (.bool (keyB s)) ∧ w' = w := by
 go_enter Tryz.func55,Tryz.ntmps55
 go_wp2
 all_goals
  go_ret;refine ⟨ret_bool ?_,rfl⟩
  first | (simp [keyB, *]; done) | simp_all
theorem nameB_some (s : ByteArray) (rs : List Nat) (h : runesOf s.data.toList = some rs) : nameB s = (decide (1 ≤ rs.length ∧ rs.length ≤ 20) && !keyB s && okFrom true rs) := by
 unfold nameB countN; rw [h]; rfl
theorem okFrom_bad {acc rest : List Nat} {c : Nat} (h1 : letB c = false) (h2 : digB c = false) (b : Bool) : okFrom b (acc ++ c :: rest) = false := by
 rw [okFrom_append]; simp [okFrom,h1,h2]
theorem split_at (rs : List Nat) (k : Nat) (h : k < rs.length) : rs = rs.take k ++ rs.getD k 0 :: rs.drop (k + 1) := by
 rw [List.getD_eq_getElem?_getD,List.getElem?_eq_getElem h,Option.getD_some];exact (List.take_append_drop k rs).symm.trans (by rw [List.drop_eq_getElem_cons h])
def okTo (rs : List Nat) (k : Nat) : Prop := okFrom true (rs.take k) = true
theorem okTo_step {rs : List Nat} {k : Nat} (h : okTo rs k) (h1 : 1 ≤ k) (hk : k < rs.length) (hc : letB (rs.getD k 0) = true ∨ digB (rs.getD k 0) = true) : okTo rs (k + 1) := by
  unfold okTo at h ⊢
  have e : rs.take (k + 1) = rs.take k ++ [rs.getD k 0] := by
    rw [List.take_succ_eq_append_getElem hk, List.getD_eq_getElem?_getD, List.getElem?_eq_getElem hk, Option.getD_some]
  rw [e, okFrom_append, h]
  have e2 : (rs.take k).isEmpty = false := by
    cases e3 : rs.take k with
    | nil => have : (rs.take k).length = 0 := by rw [e3]; rfl
             rw [List.length_take] at this; omega
    | cons a r => rfl
  generalize rs.getD k 0 = c at *
  rcases hc with hc | hc <;> simp [okFrom, e2, hc]
theorem okTo_bad {rs : List Nat} {k : Nat} (hk : k < rs.length) (h1 : letB (rs.getD k 0) = false) (h2 : digB (rs.getD k 0) = false) : okFrom true rs = false := by
 rw [split_at rs k hk]; exact okFrom_bad h1 h2 _
theorem rfname_any (s : ByteArray) (w : World) (hs : s.size ≤ 20000) :
  Calls Tryz.prog 28 #[.string s] w fun e w' => e = .returned (.bool (nameB s)) ∧ Below w.heap.size w w' := by
 cases hr : runesOf s.data.toList with
 | none =>
  have HX : Hid (false = nameB s) := by show false = _; unfold nameB countN; rw [hr]; rfl
  have HV : Hid (validB s.data.toList = false) := by show _ = _; unfold validB; rw [hr]; rfl
  clear hr
  go_enter Tryz.func28,Tryz.ntmps28
  go_wp2_with fail;refine (rall_any s _ hs).mono ?_;rintro e w1 ⟨v,rfl,_,h1⟩;rw [HV.out];go_wp2_with fail;go_ret;exact ⟨ret_bool HX.out,h1⟩
 | some rs =>
  have HX : Hid (nameB s = (decide (1 ≤ rs.length ∧ rs.length ≤ 20) && !keyB s && okFrom true rs)) := nameB_some s rs hr
  have HV : Hid (validB s.data.toList = true) := by show _ = _; unfold validB; rw [hr]; rfl
  have HC : Hid (countN s.data.toList = rs.length) := by show _ = _; unfold countN; rw [hr]; rfl
  have HR : Hid ((runesOf s.data.toList).getD [] = rs) := by show _ = _; rw [hr]; rfl
  clear hr
  go_enter Tryz.func28,Tryz.ntmps28
  go_wp2_with fail;refine (rall_any s _ hs).mono ?_;rintro e w1 ⟨v,rfl,ho,h1⟩;rw [HV.out];rw [HC.out,HR.out] at ho;obtain ⟨a,cap,rfl,hc⟩ := owns_form ho;clear ho
  by_cases g1 : rs.length < 1
  ·have hd1 : decide ((rs.length : Int) < 1) = true := by simp; omega
   have HF : Hid (false = nameB s) := by show false = _; rw [HX.out]; simp; omega
   generalize rs.length = n at *;clear hc;go_wp2_with fail;go_ret;exact ⟨ret_bool HF.out,h1⟩
  ·have hd1 : decide ((rs.length : Int) < 1) = false := by simp; omega
   by_cases g2 : 20 < rs.length
   ·have hd2 : decide (20 < (rs.length : Int)) = true := by simp; omega
    have HF : Hid (false = nameB s) := by show false = _; rw [HX.out]; simp; omega
    clear hc;generalize rs.length = n at *;go_wp2_with fail;go_ret;exact ⟨ret_bool HF.out,h1⟩
   ·have hd2 : decide (20 < (rs.length : Int)) = false := by simp; omega
    obtain ⟨g,rfl,hcell⟩ := hc (by omega)
    have hcl : ∀ j,j < rs.length → w1.cell? ⟨g,j,none⟩ = some (.int .i32 ((rs.getD j 0 : Nat) : Int)) := fun j hj => by
     rw [hcell j hj]; simp [runeCells,List.getD_eq_getElem?_getD,List.getElem?_eq_getElem hj]
    have HCL : Hid (∀ j,j < rs.length → w1.cell? ⟨g,j,none⟩ = some (.int .i32 ((rs.getD j 0 : Nat) : Int))) := hcl;have hc0 := hcl 0 (by omega);clear hcell hcl hc;have HL : Hid (rs.length = rs.length) := rfl
    have hn1 : 1 ≤ rs.length := by omega
    have hn2 : rs.length ≤ 20 := by omega
    have H0 : Hid (letB ((rs.getD 0 0 : Nat) : Int) = true → okTo rs 1) := fun hh => by
     unfold okTo
     have : rs.take 1 = [rs.getD 0 0] := by
      match rs,hn1 with
      | c :: r,_ => rfl
     rw [this];generalize rs.getD 0 0 = c at *
     simp [okFrom,hh]
    have H0f : Hid (letB ((rs.getD 0 0 : Nat) : Int) = false → okFrom true rs = false) := fun hh => by
     match rs,hn1,hh with
     | c :: r,_,hh => simp only [List.getD_cons_zero] at hh; simp [okFrom,hh]
    have HD : Hid (okTo rs rs.length → okFrom true rs = true) := fun hh => by unfold okTo at hh; simpa using hh
    have HK : Hid (∀ k,k < rs.length → letB ((rs.getD k 0 : Nat) : Int) = false → digB ((rs.getD k 0 : Nat) : Int) = false → okFrom true rs = false) := fun k hk a b => okTo_bad hk a b
    have HS : Hid (∀ k,okTo rs k → 1 ≤ k → k < rs.length → letB ((rs.getD k 0 : Nat) : Int) = true ∨ digB ((rs.getD k 0 : Nat) : Int) = true → okTo rs (k + 1)) := fun k a b c d => okTo_step a b c d
    have HF : Hid (okFrom true rs = false → false = nameB s) := fun hh => by rw [HX.out,hh]; simp
    have HFK : Hid (keyB s = true → false = nameB s) := fun hh => by rw [HX.out,hh]; simp
    have HT : Hid (keyB s = false → okFrom true rs = true → true = nameB s) := fun a b => by rw [HX.out,a,b]; simp; omega
    generalize rs.length = n at *;clear HX HV HC HR HL;generalize hc0e : ((rs.getD 0 0 : Nat) : Int) = c0 at hc0 H0 H0f;clear hc0e;go_wp2_with fail;refine (rletter_any _ _).mono ?_;rintro e w2 ⟨rfl,rfl⟩
    cases hl0 : letB c0 with
    | false =>
     go_wp2_with fail;go_ret;exact ⟨ret_bool (HF.out (H0f.out hl0)),h1⟩
    | true =>
     have HO : Hid (okTo rs 1) := H0.out hl0;go_wp2_with fail;refine (rkey_any _ _).mono ?_;rintro e w3 ⟨rfl,rfl⟩
     cases hk : keyB s with
     | true =>
      go_wp2_with fail;go_ret;exact ⟨ret_bool (HFK.out hk),h1⟩
     | false =>
      have HKF : Hid (keyB s = false) := hk;clear hk hl0 hc0;go_wp2_with fail
      go_loop [5] (fun i => ∃ k : Nat,1 ≤ k ∧ k ≤ n ∧ i = .int .i64 k ∧ Hid (okTo rs k)) (fun i => n - (intOf i).toNat)
      case atStart => exact ⟨1,by omega,by omega,rfl,HO⟩
      case round =>
       obtain ⟨k,hk1,hk2,rfl,HOk⟩ := hrel
       by_cases hlt : k < n
       ·have hck := HCL.out k hlt;have HSk : Hid (letB ((rs.getD k 0 : Nat) : Int) = true ∨ digB ((rs.getD k 0 : Nat) : Int) = true → okTo rs (k + 1)) := HS.out k HOk.out hk1 hlt;have HKk : Hid (letB ((rs.getD k 0 : Nat) : Int) = false → digB ((rs.getD k 0 : Nat) : Int) = false → okFrom true rs = false) := HK.out k hlt;generalize hce : ((rs.getD k 0 : Nat) : Int) = c at hck HSk HKk;clear hce;go_wp2_with fail;refine (rletter_any _ _).mono ?_;rintro e w4 ⟨rfl,rfl⟩
        cases hl : letB c with
        | true =>
         go_wp2_with fail
         go_round
         case rel => exact ⟨k + 1,by omega,by omega,by go_num,HSk.out (.inl hl)⟩
         case measure => simp [intOf]; omega
        | false =>
         go_wp2_with fail;refine (rdigit_any _ _).mono ?_;rintro e w5 ⟨rfl,rfl⟩
         cases hdg : digB c with
         | true =>
          go_wp2_with fail
          go_round
          case rel => exact ⟨k + 1,by omega,by omega,by go_num,HSk.out (.inr hdg)⟩
          case measure => simp [intOf]; omega
         | false =>
          go_wp2_with fail;go_ret;exact ⟨ret_bool (HF.out (HKk.out hl hdg)),h1⟩
       ·obtain rfl : k = n := by omega
        go_wp2_with fail;go_ret;exact ⟨ret_bool (HT.out HKF.out (HD.out HOk.out)),h1⟩
end
section
open Go.ChangeShapes Go.WideShapes Go.ChangeAt Go.RowKit Go.Maps
def stRows (ns : List ByteArray) : List (List Value) := ns.map fun n => [.string n]
theorem memB_cons (x y : ByteArray) (l : List ByteArray) : memB x (y :: l) = (decide (x = y) || memB x l) := by simp [memB]
theorem rfresh_any {w : World} {v : Value} {ns : List ByteArray} (nm : ByteArray) (hs : nm.size ≤ 20000) (hr : RowG w v 1 (stRows ns)) :
  Calls Tryz.prog 30 #[.string nm,v] w fun e w' => e = .returned (.bool (freshB nm ns)) ∧ Below w.heap.size w w' := by
 obtain ⟨a,c,rfl,q1,q2⟩ := hr.form2
 have hN : (stRows ns).length = ns.length := by simp [stRows]
 rw [hN] at hr q1 ⊢;clear hN;obtain ⟨N,hN⟩ : ∃ N,ns.length = N := ⟨_,rfl⟩;rw [hN] at hr q1 ⊢;have HN : Hid (ns.length = N) := hN;have HR : Hid (RowG w (.slice a N c) 1 (stRows ns)) := hr;clear hN hr;obtain ⟨A,hA⟩ : ∃ A,freshB nm ns = A := ⟨_,rfl⟩;rw [hA];have HA : Hid (A = (nameB nm && !memB nm (ns.drop 0))) := hA.symm;clear hA
 go_enter Tryz.func30,Tryz.ntmps30
 go_wp2_with fail
 go_loopw [5] (fun iv wr => ∃ k : Nat,iv = .int .i64 (k : Int) ∧ k ≤ N ∧ Hid (A = (nameB nm && !memB nm (ns.drop k))) ∧ Below w.heap.size w wr) (fun iv _ => N - (intOf iv).toNat)
 case atStart => exact ⟨0,rfl,by omega,HA,Below.refl _ _⟩
 case round =>
  obtain ⟨k,rfl,hk,HAk,hbel⟩ := hrel
  by_cases hlt : k < N
  ·obtain ⟨f,hf⟩ : ∃ n,ns[k]? = some n := ⟨_,List.getElem?_eq_getElem (by rw [HN.out]; exact hlt)⟩
   have hrr : (stRows ns)[k]? = some [.string f] := by simp [stRows,hf]
   obtain ⟨g,off,rfl,c1⟩ := (HR.out.below hbel).get hrr
   have HA2 : Hid (A = (nameB nm && !(decide (nm = f) || memB nm (ns.drop (k + 1))))) := by
    show _ = _
    rw [HAk.out,drop_at hf,memB_cons]
   have p0 := c1 0 _ rfl;simp only [Nat.mul_one,Nat.add_zero] at p0;clear c1 hrr hf HAk
   by_cases he : f = nm
   ·subst he
    have HA3 : Hid (A = false) := by show _ = _; rw [HA2.out,decide_eq_true rfl]; simp
    clear HA2;go_wp2_with fail;go_ret;exact ⟨ret_bool HA3.out.symm,hbel⟩
   ·have hq := bytes_ne he
    have HA3 : Hid (A = (nameB nm && !memB nm (ns.drop (k + 1)))) := by show _ = _; rw [HA2.out,decide_eq_false (Ne.symm he)]; rfl
    go_wp2_with fail
    go_roundw
    case rel => exact ⟨k + 1,by go_num,by omega,HA3,hbel⟩
    case measure => simp [intOf]; omega
  ·have HA2 : Hid (A = nameB nm) := by show _ = _; rw [HAk.out,drop_end (by rw [HN.out]; omega),memB_nil]; simp
   clear HAk;go_wp2_with fail;refine (rfname_any nm _ hs).mono ?_;rintro e w1 ⟨rfl,hb⟩;go_wp2_with fail;go_ret;exact ⟨ret_bool HA2.out.symm,hbel.trans (hb.mono hbel.size)⟩
theorem find_mn (ms : List MsS) (t : ByteArray) : (ms.find? fun m => decide (m.name = t)).isSome = memB t (ms.map MsS.name) := by
 rw [Bool.eq_iff_iff,List.find?_isSome,memB_iff,List.mem_map]
 simp
theorem find_en (ms : List EnS) (t : ByteArray) : (ms.find? fun m => decide (m.name = t)).isSome = memB t (ms.map EnS.name) := by
 rw [Bool.eq_iff_iff,List.find?_isSome,memB_iff,List.mem_map]
 simp
theorem r7kind_any {w : World} {snm t : ByteArray} {am ae at' : Option Addr} {M cm E ce T ct : Nat} {ms : List MsS} {es : List EnS} (k : Int) (hm : MsIn w (.slice am M cm) ms) (he : EnIn w (.slice ae E ce) es) :
  Calls Tryz.prog 94 #[.agg #[.string snm,.slice am M cm,.slice ae E ce,.slice at' T ct],.agg #[.int .i64 k,.string t]] w fun e w' => e = .returned (.bool (typeB (ms.map MsS.name) (es.map EnS.name) k t)) ∧ Below w.heap.size w w' := by
 have HM : Hid (MsIn w (.slice am M cm) ms) := hm;have HE : Hid (EnIn w (.slice ae E ce) es) := he;clear hm he;have hb0 : Below w.heap.size w ((w.alloc (.cells #[.string snm,.slice am M cm,.slice ae E ce,.slice at' T ct] 26)).alloc (.cells #[.int .i64 k,.string t] 54)) := ((Below.refl _ _).alloc (Nat.le_refl _) _).alloc (by simp) _;obtain ⟨A,hA⟩ : ∃ A,typeB (ms.map MsS.name) (es.map EnS.name) k t = A := ⟨_,rfl⟩;rw [hA];have HA : Hid (A = typeB (ms.map MsS.name) (es.map EnS.name) k t) := hA.symm;clear hA
 by_cases hk : 1 ≤ k ∧ k ≤ 5
 ·have HA2 : Hid (A = decide (t = ⟨#[]⟩)) := by
   show _ = _
   rw [HA.out];unfold typeB;rw [decide_eq_true hk,decide_eq_false (by omega : ¬ k = 6),decide_eq_false (by omega : ¬ k = 7)]
   simp
  clear HA
  have hc : k = 1 ∨ k = 2 ∨ k = 3 ∨ k = 4 ∨ k = 5 := by omega
  clear hk
  by_cases ht : t = ⟨#[]⟩
  ·have HA3 : Hid (A = true) := by show _ = _; rw [HA2.out]; simp [ht]
   clear HA2;subst ht
   rcases hc with rfl | rfl | rfl | rfl | rfl
   all_goals
    go_enter Tryz.func94,Tryz.ntmps94
    go_wp2_with fail;go_ret;exact ⟨ret_bool HA3.out.symm,hb0⟩
  ·have HA3 : Hid (A = false) := by show _ = _; rw [HA2.out]; simp [ht]
   have hq : Hid (t.toList.isEmpty = false) := by
    show _ = _
    cases h : t.toList.isEmpty with
    | false => rfl
    | true =>
     rw [List.isEmpty_iff] at h;refine absurd ((bytes_eq_iff _ _).2 ?_) ht;rw [← ByteArray.toList_eq,h]
   clear HA2 ht
   rcases hc with rfl | rfl | rfl | rfl | rfl
   all_goals
    go_enter Tryz.func94,Tryz.ntmps94
    go_wp2_with fail;go_ret;exact ⟨ret_bool (hq.out.trans HA3.out.symm),hb0⟩
 by_cases hk6 : k = 6
 ·subst hk6
  have HA2 : Hid (A = (es.find? fun m => decide (m.name = t)).isSome) := by
   show _ = _
   rw [HA.out,find_en];unfold typeB
   simp
  clear HA hk
  go_enter Tryz.func94,Tryz.ntmps94
  go_wp2_with fail;refine (r7enum_any (HE.out.below hb0)).mono ?_;rintro e w1 ⟨vv,rfl,h1,hb⟩;obtain ⟨xa,xc,rfl,_,_⟩ := h1.form2;rw [← HA2.out];generalize ((es.find? fun m => decide (m.name = t)).getD zeroN).name = xn at *;generalize (nmRows ((es.find? fun m => decide (m.name = t)).getD zeroN).values).length = xl at *;have hb1 : Below w.heap.size w (w1.alloc (.cells #[.string xn,.slice xa xl xc] 59)) := (hb0.trans (hb.mono hb0.size)).alloc (hb0.trans (hb.mono hb0.size)).size _;clear h1 hb;go_wp2_with fail;go_ret;exact ⟨rfl,hb1⟩
 by_cases hk7 : k = 7
 ·subst hk7
  have HA2 : Hid (A = (ms.find? fun m => decide (m.name = t)).isSome) := by
   show _ = _
   rw [HA.out,find_mn];unfold typeB
   simp
  clear HA hk hk6
  go_enter Tryz.func94,Tryz.ntmps94
  go_wp2_with fail;refine (r7message_any (HM.out.below hb0)).mono ?_;rintro e w1 ⟨vf,vr,rfl,h1,h2,hb⟩;obtain ⟨xa,xc,rfl,_,_⟩ := h1.form2;obtain ⟨ya,yc,rfl,_,_⟩ := h2.form2;rw [← HA2.out];generalize ((ms.find? fun m => decide (m.name = t)).getD zeroM).name = xn at *;generalize (flRows ((ms.find? fun m => decide (m.name = t)).getD zeroM).fields).length = xl at *;generalize (inRows ((ms.find? fun m => decide (m.name = t)).getD zeroM).reserved).length = yl at *;have hb1 : Below w.heap.size w (w1.alloc (.cells #[.string xn,.slice xa xl xc,.slice ya yl yc] 52)) := (hb0.trans (hb.mono hb0.size)).alloc (hb0.trans (hb.mono hb0.size)).size _;clear h1 h2 hb;go_wp2_with fail;go_ret;exact ⟨rfl,hb1⟩
 have HA2 : Hid (A = false) := by
  show _ = _
  rw [HA.out];unfold typeB;rw [decide_eq_false hk,decide_eq_false hk6,decide_eq_false hk7]
  simp
 have k1 : (k == 1) = false := by rw [beq_eq_false_iff_ne]; omega
 have k2 : (k == 2) = false := by rw [beq_eq_false_iff_ne]; omega
 have k3 : (k == 3) = false := by rw [beq_eq_false_iff_ne]; omega
 have k4 : (k == 4) = false := by rw [beq_eq_false_iff_ne]; omega
 have k5 : (k == 5) = false := by rw [beq_eq_false_iff_ne]; omega
 have k6 : (k == 6) = false := by rw [beq_eq_false_iff_ne]; omega
 have k7 : (k == 7) = false := by rw [beq_eq_false_iff_ne]; omega
 clear HA hk hk6 hk7
 go_enter Tryz.func94,Tryz.ntmps94
 go_wp2_with fail;go_ret;exact ⟨ret_bool HA2.out.symm,hb0⟩
end
section
open Go.ChangeShapes Go.WideShapes Go.ChangeAt Go.RowKit
theorem RowG.blk {w : World} {b : Nat} {cs : Array Value} {t : TypeId} {size n : Nat} {rs : List (List Value)} (h : Blk w b cs t) (hc : cs.toList = rs.flatten) (hl : ∀ r ∈ rs,r.length = size) (hn : rs.length = n) (hm : n ≤ 1000000) : RowG w (.slice (some ⟨b,0,none⟩) n n) size rs := by
 subst hn;refine ⟨some ⟨b,0,none⟩,rs.length,rfl,Nat.le_refl _,by unfold maxLen; omega,(fun e => by cases e),fun _ => ⟨b,0,rfl,fun i c u j hi hj => ?_⟩⟩;rw [h.cell,← Array.getElem?_toList,hc,Nat.zero_add];exact flat_get rs hl i c hi j u hj
end
end Go.Proofs.YtmgbhicogmclgaaGreat
