/- Part 15 of what the proof stands on. -/
import Derived.Test.YtiajaocckkghgabGreatPkSAN
import Derived.Lib.SlBytesConst
namespace Go.Proofs.YtiajaocckkghgabGreat
set_option maxHeartbeats 8000000
set_option linter.unusedVariables false
set_option linter.unusedSimpArgs false
set_option maxRecDepth 20000
section
open Go.ChangeShapes Go.WideShapes Go.ChangeAt Go.RowKit
theorem sc_one {w : World} {b : Nat} {name nm : ByteArray} {vf : Value} {fs : List FlS} (B : Blk w b #[.string nm,vf,.slice none 0 0] 34) (hf : RowG w vf 5 (flRows fs)) : ScIn w (.agg #[.string name,.slice (some ⟨b,0,none⟩) 1 1,.slice none 0 0,.slice none 0 0]) ⟨name,[⟨nm,fs,[]⟩],[],[]⟩ := by
 refine ⟨_,_,_,rfl,⟨[[.string nm,vf,.slice none 0 0]],RowG.blk B rfl (fun r hr => by simp at hr; subst hr; rfl) rfl (by decide),rfl,fun i m hm => ?_⟩,⟨[],RowG.nil _ _,rfl,fun i e he => by simp at he⟩,RowG.nil _ _⟩
 match i,hm with
 | 0,hm => simp at hm; subst hm; exact ⟨_,_,rfl,hf,RowG.nil _ _⟩
 | i + 1,hm => simp at hm
def s0A : ScS := ⟨⟨#[97]⟩,[⟨⟨#[109]⟩,[],[]⟩],[],[]⟩
theorem s0_few : FewL s0A := ⟨by decide,by decide,by decide,fun m hm => by simp [s0A] at hm; subst hm; simp,fun m hm => by simp [s0A] at hm⟩
theorem s0_w : ScW s0A := ⟨by decide,fun m hm => by simp [s0A] at hm; subst hm; exact ⟨(by decide : (ByteArray.mk #[109]).size ≤ 140737488351232),by simp,by simp⟩,fun m hm => by simp [s0A] at hm,fun m hm => by simp [s0A] at hm⟩
theorem s0_ok : checkA s0A = 0 := by decide +kernel
theorem s0_msg : msgOf s0A ⟨#[109]⟩ = some ⟨⟨#[109]⟩,[],[]⟩ := by simp [msgOf,s0A]
theorem s0_dec {l : List Fd} (ho : l.all okF = true) (h64 : ∀ r ∈ l,Is64 r.n) (hl : (flatN l).length ≤ 4096) : decA s0A ⟨#[109]⟩ (flatN l) = (⟨3,0,⟨#[]⟩,[],sortF l⟩,0) := by
 unfold decA;rw [s0_ok,if_neg (by simp)];exact dec_none s0_msg rfl ho h64 hl
theorem aw_flat : flatN [⟨1,0,5,⟨#[]⟩⟩] = [2,10] := by decide +kernel
theorem aw_ok : ([⟨1,0,5,⟨#[]⟩⟩] : List Fd).all okF = true := by decide +kernel
theorem aw_dec : decA s0A ⟨#[109]⟩ [2,10] = (⟨3,0,⟨#[]⟩,[],[⟨1,0,5,⟨#[]⟩⟩]⟩,0) := by
 have h := s0_dec (l := [⟨1,0,5,⟨#[]⟩⟩]) aw_ok (fun r hr => by simp at hr; subst hr; unfold Is64; simp) (by rw [aw_flat]; decide);rw [aw_flat] at h;rw [h]
 simp [sortF,sortFF,risesB]
theorem aw_can : canA s0A ⟨#[109]⟩ [2,10] = true := by
 have h : encA 11 ⟨3,0,⟨#[]⟩,[],[⟨1,0,5,⟨#[]⟩⟩]⟩ = ([2,10],0) := by decide +kernel
 simp only [canA,aw_dec,h]
 decide
theorem conv_aw (W : World) (b : Nat) (hb : W.heap.size = b) : (convert 45 45 (.slice (some ⟨b,0,none⟩) 2 2)).run Tryz.prog (W.alloc (.cells #[.int .u8 2,.int .u8 10] 5)) = .ok (.slice (some ⟨b,0,none⟩) 2 2) (W.alloc (.cells #[.int .u8 2,.int .u8 10] 5 (2,3))) := by
 subst hb;exact Lib.run_convert_bytes_const (P := Tryz.prog) W 45 5 _ 2 2 Tryz.underlying45 Tryz.underlying5
theorem byS_aw (W : World) (b : Nat) (hb : W.heap.size = b) : ByS (W.alloc (.cells #[.int .u8 2,.int .u8 10] 5 (2,3))) (.slice (some ⟨b,0,none⟩) 2 2) [2,10] := by
 subst hb;refine ⟨_,2,rfl,Holds.of fun j hj => ?_,(by simp),(by simp),(by decide),.inr ⟨_,_,rfl⟩⟩;rw [Nat.zero_add,World.cell?_alloc_mark];have := byteCells_get [2,10] j hj
 simpa [byteCells] using this
theorem dcawake_any (w : World) : Calls Tryz.prog 8 #[] w fun e w' => e = .returned (.bool true) ∧ Below w.heap.size w w' := by
 obtain ⟨b0,hb0⟩ : ∃ z,w.heap.size = z := ⟨_,rfl⟩;have HBZ : Hid (w.heap.size = b0) := hb0;obtain ⟨BM,BS,hbw⟩ := dblk2 w #[.string ⟨#[109]⟩,.slice none 0 0,.slice none 0 0] #[.string ⟨#[97]⟩,.slice (some ⟨b0,0,none⟩) 1 1,.slice none 0 0,.slice none 0 0] 34 26
 have hz : ((w.alloc (Obj.cells #[.string ⟨#[109]⟩,.slice none 0 0,.slice none 0 0] 34)).alloc (Obj.cells #[.string ⟨#[97]⟩,.slice (some ⟨b0,0,none⟩) 1 1,.slice none 0 0,.slice none 0 0] 26)).heap.size = b0 + 1 + 1 := by simp [hb0]
 have kc1 := conv_aw _ _ hz;have BB := byS_aw _ _ hz;have al : Below ((w.alloc (Obj.cells #[.string ⟨#[109]⟩,.slice none 0 0,.slice none 0 0] 34)).alloc (Obj.cells #[.string ⟨#[97]⟩,.slice (some ⟨b0,0,none⟩) 1 1,.slice none 0 0,.slice none 0 0] 26)).heap.size ((w.alloc (Obj.cells #[.string ⟨#[109]⟩,.slice none 0 0,.slice none 0 0] 34)).alloc (Obj.cells #[.string ⟨#[97]⟩,.slice (some ⟨b0,0,none⟩) 1 1,.slice none 0 0,.slice none 0 0] 26)) (((w.alloc (Obj.cells #[.string ⟨#[109]⟩,.slice none 0 0,.slice none 0 0] 34)).alloc (Obj.cells #[.string ⟨#[97]⟩,.slice (some ⟨b0,0,none⟩) 1 1,.slice none 0 0,.slice none 0 0] 26)).alloc (.cells #[.int .u8 2,.int .u8 10] 5 (2,3))) := (Below.refl _ _).alloc (Nat.le_refl _) _;rw [hb0] at BM BS;have HSC : Hid (∀ W,Below w.heap.size (((w.alloc (Obj.cells #[.string ⟨#[109]⟩,.slice none 0 0,.slice none 0 0] 34)).alloc (Obj.cells #[.string ⟨#[97]⟩,.slice (some ⟨b0,0,none⟩) 1 1,.slice none 0 0,.slice none 0 0] 26)).alloc (.cells #[.int .u8 2,.int .u8 10] 5 (2,3))) W → True) := fun _ _ => trivial
 clear HSC;have HSI : Hid (ScIn (((w.alloc (Obj.cells #[.string ⟨#[109]⟩,.slice none 0 0,.slice none 0 0] 34)).alloc (Obj.cells #[.string ⟨#[97]⟩,.slice (some ⟨b0,0,none⟩) 1 1,.slice none 0 0,.slice none 0 0] 26)).alloc (.cells #[.int .u8 2,.int .u8 10] 5 (2,3))) (.agg #[.string ⟨#[97]⟩,.slice (some ⟨b0,0,none⟩) 1 1,.slice none 0 0,.slice none 0 0]) s0A) := sc_one (BM.below al) (RowG.nil _ _)
 have HDE : Hid (Calls Tryz.prog 13 #[.agg #[.string ⟨#[97]⟩,.slice (some ⟨b0,0,none⟩) 1 1,.slice none 0 0,.slice none 0 0],.string ⟨#[109]⟩,.slice (some ⟨b0 + 1 + 1,0,none⟩) 2 2] (((w.alloc (Obj.cells #[.string ⟨#[109]⟩,.slice none 0 0,.slice none 0 0] 34)).alloc (Obj.cells #[.string ⟨#[97]⟩,.slice (some ⟨b0,0,none⟩) 1 1,.slice none 0 0,.slice none 0 0] 26)).alloc (.cells #[.int .u8 2,.int .u8 10] 5 (2,3))) (DtrP 11 (⟨3,0,⟨#[]⟩,[],[⟨1,0,5,⟨#[]⟩⟩]⟩,0) (((w.alloc (Obj.cells #[.string ⟨#[109]⟩,.slice none 0 0,.slice none 0 0] 34)).alloc (Obj.cells #[.string ⟨#[97]⟩,.slice (some ⟨b0,0,none⟩) 1 1,.slice none 0 0,.slice none 0 0] 26)).alloc (.cells #[.int .u8 2,.int .u8 10] 5 (2,3))))) := (by
  have h1 := decode_any HSI.out s0_w s0_few BB (nm := ⟨#[109]⟩);rw [aw_dec] at h1
  exact h1 : Calls Tryz.prog _ _ _ _)
 have BS1 := BS.below al;have HSI1 : Hid (Below w.heap.size w (((w.alloc (Obj.cells #[.string ⟨#[109]⟩,.slice none 0 0,.slice none 0 0] 34)).alloc (Obj.cells #[.string ⟨#[97]⟩,.slice (some ⟨b0,0,none⟩) 1 1,.slice none 0 0,.slice none 0 0] 26)).alloc (.cells #[.int .u8 2,.int .u8 10] 5 (2,3)))) := hbw.trans (al.mono hbw.size);clear BM BS hbw hz BB al
 go_enter Tryz.func8,Tryz.ntmps8
 go_wp2_with fail;refine HDE.out.mono ?_;rintro e w2 ⟨r,bs,rfl,ht,hap,hb2⟩;have hbw2 : Below w.heap.size w w2 := HSI1.out.trans (hb2.mono HSI1.out.size);have BS2 := BS1.below hb2;have hb2' := hb2;obtain ⟨ve,vr,rows,bss,rfl, -, -, -, -,hown,hro, -⟩ := ht;simp only [List.length_singleton] at hown;obtain ⟨ra,rc,rfl, -,hrb,hrc1,hrc2,hrh⟩ := own_openR hown;obtain ⟨ea,ec,rfl⟩ := own_form hro.own
 obtain ⟨g,rfl,hg1,hg2⟩ : ∃ g,ra = some ⟨g,0,none⟩ ∧ (w.alloc (Obj.cells #[] 0)).heap.size ≤ g + w.heap.size + 1 ∧ g < w2.heap.size := by
  rcases hrb with ⟨_,h,_⟩ | ⟨g,h1,h2,h3⟩
  ·simp at h
  ·exact ⟨g,h1,by simp,h3⟩
 obtain ⟨c0,c1,c2,c3⟩ := hrh.at (i := 0) rfl;simp only [Nat.zero_mul,Nat.add_zero,List.length_nil,List.length_singleton] at c0 c1 c2 c3 ⊢;clear hown hro hrb hrh hb2 HDE kc1 BS1;have al3 : Below w2.heap.size w2 (w2.alloc (Obj.cells #[.int .i64 3,.int .i64 0,.string ⟨#[]⟩,.slice ea 0 ec,.slice (some ⟨g,0,none⟩) 1 rc] 39)) := (Below.refl _ _).alloc (Nat.le_refl _) _;have al4 : Below w2.heap.size w2 ((w2.alloc (Obj.cells #[.int .i64 3,.int .i64 0,.string ⟨#[]⟩,.slice ea 0 ec,.slice (some ⟨g,0,none⟩) 1 rc] 39)).alloc (.cells #[.int .u8 2,.int .u8 10] 5 (2,3))) := al3.alloc (by simp) _
 have hz3 : (w2.alloc (Obj.cells #[.int .i64 3,.int .i64 0,.string ⟨#[]⟩,.slice ea 0 ec,.slice (some ⟨g,0,none⟩) 1 rc] 39)).heap.size = w2.heap.size + 1 := by simp
 have kc2 := conv_aw (w2.alloc (Obj.cells #[.int .i64 3,.int .i64 0,.string ⟨#[]⟩,.slice ea 0 ec,.slice (some ⟨g,0,none⟩) 1 rc] 39)) _ hz3;have BB2 := byS_aw (w2.alloc (Obj.cells #[.int .i64 3,.int .i64 0,.string ⟨#[]⟩,.slice ea 0 ec,.slice (some ⟨g,0,none⟩) 1 rc] 39)) _ hz3;have hbw4 : Below w.heap.size w ((w2.alloc (Obj.cells #[.int .i64 3,.int .i64 0,.string ⟨#[]⟩,.slice ea 0 ec,.slice (some ⟨g,0,none⟩) 1 rc] 39)).alloc (.cells #[.int .u8 2,.int .u8 10] 5 (2,3))) := hbw2.trans (al4.mono hbw2.size)
 have HCA : Hid (Calls Tryz.prog 22 #[.agg #[.string ⟨#[97]⟩,.slice (some ⟨b0,0,none⟩) 1 1,.slice none 0 0,.slice none 0 0],.string ⟨#[109]⟩,.slice (some ⟨w2.heap.size + 1,0,none⟩) 2 2] ((w2.alloc (Obj.cells #[.int .i64 3,.int .i64 0,.string ⟨#[]⟩,.slice ea 0 ec,.slice (some ⟨g,0,none⟩) 1 rc] 39)).alloc (.cells #[.int .u8 2,.int .u8 10] 5 (2,3))) fun e w' => e = .returned (.bool true) ∧ Below ((w2.alloc (Obj.cells #[.int .i64 3,.int .i64 0,.string ⟨#[]⟩,.slice ea 0 ec,.slice (some ⟨g,0,none⟩) 1 rc] 39)).alloc (.cells #[.int .u8 2,.int .u8 10] 5 (2,3))).heap.size ((w2.alloc (Obj.cells #[.int .i64 3,.int .i64 0,.string ⟨#[]⟩,.slice ea 0 ec,.slice (some ⟨g,0,none⟩) 1 rc] 39)).alloc (.cells #[.int .u8 2,.int .u8 10] 5 (2,3))) w') := (by
  have h1 := canonical_any ((HSI.out.below hb2').below al4) s0_w s0_few BB2 (nm := ⟨#[109]⟩);rw [aw_can] at h1
  exact h1 : Calls Tryz.prog _ _ _ _)
 have s0 := (BS2.cell 0).trans rfl;have s1 := (BS2.cell 1).trans rfl;have s2 := (BS2.cell 2).trans rfl;have s3 := (BS2.cell 3).trans rfl;have ltS := BS2.lt;clear BS2 BB2 hz3 al3 al4;go_wp2_with fail;refine HCA.out.mono ?_;rintro e w5 ⟨rfl,hb5⟩;have hbw5 : Below w.heap.size w w5 := hbw4.trans (hb5.mono hbw4.size);clear HCA hb5 c0 c1 c2 c3 s0 s1 s2 s3 ltS;go_wp2_with fail;go_ret;exact ⟨rfl,hbw5⟩
theorem TrO.trIn {n B : Nat} {w : World} {r : List Value} {t : Tr} {bs : List Nat} (h : TrO n B w r t bs) : TrIn n w (.agg r.toArray) t := ⟨r,rfl,h.trC⟩
theorem rsame_eq {n m : Nat} {t : Tr} {va vb : Value} {w : World} (ha : TrIn n w va t) (hb : TrIn m w vb t) : Calls Tryz.prog 15 #[va,vb] w fun e w' => e = .returned (.bool true) ∧ Below w.heap.size w w' := by
 refine (rsame_any n m t t va vb w ha hb).mono ?_;rintro e w' ⟨⟨R,rfl,h⟩,hb⟩;have : R = true := h.2 rfl;subst this;exact ⟨rfl,hb⟩
end
section
theorem entsB_snoc : ∀ (es : List (Int × List Tr)) (last tg : Int) (ts : List Tr),entsB last es = true → (∀ e ∈ es,e.1 < tg) → last < tg → tg ≤ 500 → 1 ≤ ts.length → ts.length ≤ 64 → (∀ x ∈ ts,∀ y ∈ ts,x.kind = y.kind) → entsB last (es ++ [(tg,ts)]) = true
 | [],last,tg,ts,_,_,h1,h2,h3,h4,h5 => by
  obtain ⟨x,l,rfl⟩ : ∃ x l,ts = x :: l := by
   cases ts with
   | nil => simp at h3
   | cons x l => exact ⟨x,l,rfl⟩
  simp only [List.nil_append,entsB,Bool.and_eq_true,decide_eq_true_eq,List.all_eq_true];refine ⟨⟨⟨⟨⟨h1,h2⟩,h3⟩,h4⟩,fun y hy => ?_⟩,trivial⟩;simp only [List.head?_cons,Option.map_some,Option.getD_some];rw [h5 y hy x (by simp)]
  simp
 | e :: es,last,tg,ts,h0,hl,h1,h2,h3,h4,h5 => by
  simp only [entsB,Bool.and_eq_true] at h0;simp only [List.cons_append,entsB,Bool.and_eq_true];exact ⟨h0.1,entsB_snoc es e.1 tg ts h0.2 (fun x hx => hl x (List.mem_cons_of_mem _ hx)) (hl e (by simp)) h2 h3 h4 h5⟩
theorem filt_le {fs : List FlS} {c d : Int} (h : c ≤ d) : (fs.filter fun f => decide (f.tag < c)).length ≤ (fs.filter fun f => decide (f.tag < d)).length := by
 induction fs with
 | nil => simp
 | cons f l ih =>
  by_cases h1 : f.tag < c
  ·have h2 : f.tag < d := by omega
   simp only [List.filter_cons,h1,h2,decide_true,if_true,List.length_cons]
   omega
  ·by_cases h2 : f.tag < d
   ·simp only [List.filter_cons,h1,h2,decide_true,decide_false,if_true,List.length_cons];simp only [Bool.false_eq_true,if_false]
    omega
   ·simp only [List.filter_cons,h1,h2,decide_false]
    simpa using ih
theorem filt_lt {fs : List FlS} {c : Int} {f : FlS} (hf : f ∈ fs) (ht : f.tag = c) : (fs.filter fun f => decide (f.tag < c)).length + 1 ≤ (fs.filter fun f => decide (f.tag < c + 1)).length := by
 induction fs with
 | nil => cases hf
 | cons g l ih =>
  rcases List.mem_cons.1 hf with rfl | hf
  ·have h1 : ¬ f.tag < c := by omega
   have h2 : f.tag < c + 1 := by omega
   have := filt_le (fs := l) (c := c) (d := c + 1) (by omega);simp only [List.filter_cons,h1,h2,decide_true,decide_false,if_true,List.length_cons];simp only [Bool.false_eq_true,if_false]
   omega
  ·have h0 := ih hf
   by_cases h1 : g.tag < c
   ·have h2 : g.tag < c + 1 := by omega
    simp only [List.filter_cons,h1,h2,decide_true,if_true,List.length_cons]
    omega
   ·by_cases h2 : g.tag < c + 1
    ·simp only [List.filter_cons,h1,h2,decide_true,decide_false,if_true,List.length_cons];simp only [Bool.false_eq_true,if_false]
     omega
    ·simp only [List.filter_cons,h1,h2,decide_false]
     simpa using h0
structure EsT (n : Nat) (s : ScS) (fs : List FlS) (es : List (Int × List Tr)) (tg : Int) : Prop where
 ents : entsB 0 es = true
 tags : ∀ e ∈ es,e.1 < tg
 val : ∀ e ∈ es,entV (msgV n s) fs e = 0
 ok : ∀ x ∈ subs es,okN n x = true
 sm : ∀ e ∈ es,e.2.length ≤ 70 ∧ ∀ x ∈ e.2,SmN n x
 len : es.length ≤ (fs.filter fun f => decide (f.tag < tg)).length
theorem EsT.nil (n : Nat) (s : ScS) (fs : List FlS) (tg : Int) : EsT n s fs [] tg := ⟨rfl,by simp,by simp,by simp [subs],by simp,by simp⟩
theorem EsT.skip {n : Nat} {s : ScS} {fs : List FlS} {es : List (Int × List Tr)} {tg : Int} (h : EsT n s fs es tg) : EsT n s fs es (tg + 1) :=
 ⟨h.ents,fun e he => by have := h.tags e he; omega,h.val,h.ok,h.sm,Nat.le_trans h.len (filt_le (by omega))⟩
theorem errF_zero {α : Type} {f : α → Int} : ∀ {l : List α},(∀ x ∈ l,f x = 0) → errF (l.map f) = 0
 | [],_ => rfl
 | a :: l,h => by
  rw [List.map_cons,errF,if_pos (h a (by simp))];exact errF_zero fun x hx => h x (List.mem_cons_of_mem _ hx)
theorem EsT.push {n : Nat} {s : ScS} {fs : List FlS} {es : List (Int × List Tr)} {tg tag : Int} (h : EsT n s fs es tg) {f : FlS} {ts : List Tr} (h1 : 1 ≤ tg) (h2 : tg ≤ 500) (hf : fldOf fs tag = some f) (htag : tag = tg) (hl1 : 1 ≤ ts.length) (hl3 : ts.length ≤ 3) (hlb : f.label ≠ 3 → ts.length ≤ 1)
  (hx : ∀ x ∈ ts,OneT n s f x ∧ (f.label = 1 → zroB x = false)) : EsT n s fs (es ++ [(tg,ts)]) (tg + 1) := by
 subst htag;have hmem : f ∈ fs ∧ f.tag = tag := ⟨List.mem_of_find?_eq_some hf,by simpa using List.find?_some hf⟩;refine ⟨entsB_snoc es 0 tag ts h.ents h.tags (by omega) h2 hl1 (by omega) (fun x hx' y hy => by rw [(hx x hx').1.kind,(hx y hy).1.kind]),?_,?_,?_,?_,?_⟩
 ·intro e he
  rcases List.mem_append.1 he with he | he
  ·have := h.tags e he; omega
  ·obtain rfl : e = (tag,ts) := by simpa using he
   show tag < tag + 1
   omega
 ·intro e he
  rcases List.mem_append.1 he with he | he
  ·exact h.val e he
  ·obtain rfl : e = (tag,ts) := by simpa using he
   rw [entV];simp only [hf];rw [if_neg (by rintro ⟨q1,q2⟩; have := hlb q1; omega)];refine errF_zero fun x hx' => ?_
   rw [oneV,if_neg (by simp [(hx x hx').1.val]),if_neg];rintro ⟨q1,q2⟩;rw [(hx x hx').2 q1] at q2
   cases q2
 ·intro x hx';obtain ⟨e,he,hxe⟩ := mem_subs.1 hx'
  rcases List.mem_append.1 he with he | he
  ·exact h.ok x (mem_subs.2 ⟨e,he,hxe⟩)
  ·obtain rfl : e = (tag,ts) := by simpa using he
   exact (hx x hxe).1.ok
 ·intro e he
  rcases List.mem_append.1 he with he | he
  ·exact h.sm e he
  ·obtain rfl : e = (tag,ts) := by simpa using he
   exact ⟨by show ts.length ≤ 70; omega,fun x hx' => (hx x hx').1.sm⟩
 ·have := filt_lt hmem.1 hmem.2;have := h.len;simp only [List.length_append,List.length_cons,List.length_nil]
  omega
theorem EsT.fit {n : Nat} {s : ScS} {nm : ByteArray} {es : List (Int × List Tr)} {tg : Int} (h : EsT n s ((msgOf s nm).getD zMs).fields es tg) (hf : ((msgOf s nm).getD zMs).fields.length ≤ 40) : FitT (n + 1) s nm ⟨3,0,⟨#[]⟩,es,[]⟩ := by
 refine ⟨rfl,?_,?_,?_⟩
 ·simp only [msgV];rw [errF_zero h.val]
  simp
 ·simp only [okN,lvB,Bool.and_eq_true];refine ⟨?_,?_⟩
  ·simp [h.ents,restB,risesB]
   rfl
  ·simp only [if_true,List.all_eq_true];exact h.ok
 ·exact ⟨Nat.zero_le _,by simp,Nat.le_trans h.len (Nat.le_trans (List.length_filter_le _ _) (Nat.le_trans hf (by decide))),by simp,h.sm⟩
def cntEs (n : Nat) (es : List (Int × List Tr)) : Nat := ((subs es).map (cntN n)).sum
def cntT (n : Nat) (ts : List Tr) : Nat := (ts.map (cntN n)).sum
theorem cntEs_snoc (n : Nat) (es : List (Int × List Tr)) (tg : Int) (ts : List Tr) : cntEs n (es ++ [(tg,ts)]) = cntEs n es + cntT n ts := by simp [cntEs,cntT,subs,List.flatMap_append]
theorem cntT_snoc (n : Nat) (ts : List Tr) (x : Tr) : cntT n (ts ++ [x]) = cntT n ts + cntN n x := by simp [cntT]
theorem cnt_fit (n : Nat) (es : List (Int × List Tr)) : cntN (n + 1) ⟨3,0,⟨#[]⟩,es,[]⟩ = 1 + cntEs n es := rfl
theorem FitT.chk {n : Nat} {s : ScS} {nm : ByteArray} {t : Tr} (h : FitT n s nm t) (hn : n ≤ 10) : chkN n t = true := by
 have := dpN_le n t;simp only [chkN,Bool.and_eq_true,decide_eq_true_eq];exact ⟨by omega,h.ok⟩
theorem FitT.kind {n : Nat} {s : ScS} {nm : ByteArray} {t : Tr} (h : FitT n s nm t) : t.kind = 3 := by rw [h.form]
end
section
open Go.ChangeShapes Go.WideShapes Go.ChangeAt Go.RowKit
theorem rawsA_no {n : Nat} {t : Tr} (h : (rawsA n t).2 ≠ 0) : (rawsA n t).1 = [] := by
 unfold rawsA at h ⊢
 split
 ·rename_i hc
  rw [if_pos hc] at h;unfold rwE at h ⊢
  split
  ·rfl
  ·rename_i h1; rw [if_neg h1] at h; exact absurd rfl h
 ·rfl
def fldsE (n : Nat) (t : Tr) : List Fd := (fsE (bytE (n - 1)) t.es).map (·.1) ++ t.rest
theorem raws_inv {n : Nat} {t : Tr} (h : (rawsA n t).2 = 0) : t.kind = 3 ∧ chkN n t = true ∧ (rawsA n t).1 = sortF (fldsE n t) ∧ errE (fsE (bytE (n - 1)) t.es) = 0 := by
 unfold rawsA at h ⊢
 split at h
 ·rename_i hc
  rw [if_pos hc];unfold rwE at h ⊢
  split at h
  ·rename_i h1; exact absurd h h1
  ·rename_i h1; rw [if_neg h1]; exact ⟨hc.1,hc.2,rfl,by omega⟩
 ·exact absurd h (by decide)
theorem flds_len (n : Nat) (t : Tr) : (fldsE n t).length = (subs t.es).length + t.rest.length := by
 unfold fldsE; rw [List.length_append,List.length_map,fsE_len]
theorem SmN.dpD : ∀ {n : Nat} {t : Tr},SmN n t → DpN n t
 | 0,_,h => h.elim
 | n + 1,t,h => fun e he x hx => ((h.2.2.2.2 e he).2 x hx).dpD
theorem TrC.n64 : ∀ {n : Nat} {w : World} {r : List Value} {t : Tr},TrC n w r t → N64 n t
 | 0,_,_,_,h => h.elim
 | n + 1,w,r,t,⟨ve,vr,_,_,h2,_,h4,_,⟨rows,_,_,h7⟩⟩ => by
  refine ⟨h2,fun f hf => (h4 f hf).2.2.1,fun e he x hx => ?_⟩;obtain ⟨i,hi⟩ := List.getElem?_of_mem he;obtain ⟨r',_,vt,_,_,⟨rows',_,_,h8⟩⟩ := h7 i e hi;obtain ⟨j,hj⟩ := List.getElem?_of_mem hx;obtain ⟨r2,_,h9⟩ := h8 j x hj;exact h9.n64
theorem FitT.dfit {s : ScS} {nm : ByteArray} {t : Tr} (hs : OkS s) (hm : (msgOf s nm).isSome = true) (h : FitT 6 s nm t) : DFit 6 s nm t := valid_fit 6 s nm t hs hm h.val h.ok h.sm h.kind
theorem errE_04 {l : List (Fd × Nat)} (h : ∀ p ∈ l,p.2 = 0 ∨ p.2 = 4) : errE l = 0 ∨ errE l = 4 := by
 induction l with
 | nil => exact .inl rfl
 | cons a l ih =>
  rw [errE]
  split
  ·exact ih fun p hp => h p (List.mem_cons_of_mem _ hp)
  ·rename_i h0
   rcases h a (List.mem_cons_self ..) with h1 | h1
   ·exact absurd h1 h0
   ·exact .inr h1
theorem fit_err : ∀ (k n : Nat) (s : ScS) (nm : ByteArray) (t : Tr),OkS s → DFit k s nm t → (bytE n t).2 = 0 ∨ (bytE n t).2 = 4
 | 0,_,_,_,_,_,h => h.elim
 | _,0,_,_,_,_,_ => .inl rfl
 | k + 1,n + 1,s,nm,t,hs,h => by
  obtain ⟨m,hm,hk3,hr,hes,h1,h2⟩ := h
  have hf : ∀ e ∈ t.es,∀ x ∈ e.2,((flE (bytE n) e.1 x).2 = 0 ∨ (flE (bytE n) e.1 x).2 = 4) ∧ ((flE (bytE n) e.1 x).2 = 0 → okF (flE (bytE n) e.1 x).1 = true) := fun e he x hx => by
   obtain ⟨f,hff,_,_,hxs⟩ := hes e he;have ho := (ok_field hs hm hff).2.1
   have ht : f.tag = e.1 := by simpa using List.find?_some hff
   simp only [tagR,decide_eq_true_eq] at ho;rw [ht] at ho
   have htxt : ∀ b : ByteArray,b.size ≤ 4096 → okF ⟨e.1,1,0,b⟩ = true := fun b hb => by
    simp only [okF,okV,Bool.and_eq_true,Bool.or_eq_true,decide_eq_true_eq,beq_iff_eq];exact ⟨ho,.inr ⟨⟨trivial,trivial⟩,by omega⟩⟩
   rcases (hxs x hx).1 with ⟨_,hq,_⟩ | ⟨_,hq,_⟩ | ⟨_,hq⟩
   ·have hk : x.kind = 1 := by rw [hq]
    have e1 : flE (bytE n) e.1 x = (⟨e.1,0,x.n,⟨#[]⟩⟩,0) := by rw [flE,if_pos hk]
    rw [e1];refine ⟨.inl rfl,fun _ => ?_⟩;simp only [okF,okV,Bool.and_eq_true,Bool.or_eq_true,decide_eq_true_eq,beq_iff_eq,toList_empty];exact ⟨ho,.inl ⟨trivial,trivial⟩⟩
   ·have hk : x.kind = 2 := by rw [hq]
    have hk1 : ¬ x.kind = 1 := by omega
    by_cases hsz : 4096 < x.s.size
    ·have e1 : flE (bytE n) e.1 x = (fd0,4) := by rw [flE,if_neg hk1,if_pos hk,if_pos hsz]
     rw [e1];exact ⟨.inr rfl,fun h => absurd h (by decide)⟩
    ·have e1 : flE (bytE n) e.1 x = (⟨e.1,1,0,x.s⟩,0) := by rw [flE,if_neg hk1,if_pos hk,if_neg hsz]
     rw [e1];exact ⟨.inl rfl,fun _ => htxt _ (by omega)⟩
   ·have hk : x.kind = 3 := hq.kind
    have hk1 : ¬ x.kind = 1 := by omega
    have hk2 : ¬ x.kind = 2 := by omega
    have ih := fit_err k n s _ x hs hq
    by_cases hb : (bytE n x).2 ≠ 0
    ·have e1 : flE (bytE n) e.1 x = (fd0,(bytE n x).2) := by rw [flE,if_neg hk1,if_neg hk2,if_pos hb]
     rw [e1];exact ⟨ih,fun h => absurd h hb⟩
    ·have e1 : flE (bytE n) e.1 x = (⟨e.1,1,0,strN (bytE n x).1⟩,0) := by rw [flE,if_neg hk1,if_neg hk2,if_neg hb]
     rw [e1];exact ⟨.inl rfl,fun _ => htxt _ (by rw [strN_size]; exact bytE_le n x)⟩
  have he : errE (fsE (bytE n) t.es) = 0 ∨ errE (fsE (bytE n) t.es) = 4 := errE_04 fun p hp => by
   obtain ⟨e,he,x,hx,rfl⟩ := mem_fsE hp;exact (hf e he x hx).1
  simp only [bytE,ofR]
  rcases he with he | he
  ·rw [rwE_ok he,if_neg (by simp)]
   have hall : (sortF ((fsE (bytE n) t.es).map (·.1) ++ t.rest)).all okF = true := List.all_eq_true.2 fun r hr => by
    rcases List.mem_append.1 ((sortF_perm _).mem_iff.1 hr) with hr | hr
    ·obtain ⟨p,hp,rfl⟩ := List.mem_map.1 hr;have h0 := errE_all he p hp;obtain ⟨e,he,x,hx,rfl⟩ := mem_fsE hp;exact (hf e he x hx).2 h0
    ·exact (h2 r hr).2
   unfold putL;rw [if_pos hall]
   split
   ·exact .inl rfl
   ·exact .inr rfl
  ·have e1 : rwE (bytE n) t = ([],4) := by unfold rwE; rw [he]; rfl
   rw [e1];exact .inr rfl
theorem enc_byt {n : Nat} {t : Tr} (hk : t.kind = 3) (hc : chkN (n + 1) t = true) : encA (n + 1) t = bytE (n + 1) t := by
 unfold encA rawsA;rw [if_pos ⟨hk,hc⟩]
 rfl
theorem fit_back {s : ScS} {nm : ByteArray} {t : Tr} (hs : OkS s) (hm : (msgOf s nm).isSome = true) (h : FitT 6 s nm t) (h64 : N64 6 t) :
  ((encA 6 t).2 = 0 ∨ (encA 6 t).2 = 4) ∧ ((encA 6 t).2 = 0 → decA s nm (encA 6 t).1 = (t,0) ∧ canA s nm (encA 6 t).1 = true) := by
 have hd := h.dfit hs hm;have hk := h.kind;have hc6 : chkN (5 + 1) t = true := h.chk (by decide);have hc11 : chkN (10 + 1) t = true := hd.chk hs (by decide);have e6 : encA 6 t = bytE 6 t := enc_byt hk hc6;have e11 : encA 11 t = bytE 11 t := enc_byt hk hc11;have hdp := h.sm.dpD;have em : bytE 11 t = bytE 6 t := bytE_more 11 6 t (hd.dp (by decide)) hdp;have hck : checkA s = 0 := (checkA_ok s).2 hs;refine ⟨by rw [e6]; exact fit_err 6 6 s nm t hs hd,fun h0 => ?_⟩
 have h1 : decA s nm (encA 6 t).1 = (t,0) := by
  unfold decA;rw [hck,if_neg (by simp),e6];rw [e6] at h0;exact dec_back 10 6 s nm t (hd.mono (by decide)) h64 hdp h0
 refine ⟨h1,?_⟩;unfold canA;rw [h1];simp only;rw [e11,em,← e6,h0]
 simp
theorem rzero_any (t : Tr) (a1 a2 : Option Addr) (n1 c1 n2 c2 : Nat) (w : World) (h1 : n1 = t.es.length) (h2 : n2 = t.rest.length) : Calls Tryz.prog 43 #[.agg #[.int .i64 t.kind,.int .i64 t.n,.string t.s,.slice a1 n1 c1,.slice a2 n2 c2]] w fun e w' => e = .returned (.bool (zroB t)) ∧ Below w.heap.size w w' := by
 have hb : Below w.heap.size w (w.alloc (Obj.cells #[.int .i64 t.kind,.int .i64 t.n,.string t.s,.slice a1 n1 c1,.slice a2 n2 c2] 39)) := (Below.refl _ _).alloc (Nat.le_refl _) _
 have hz : zroB t = (decide (t.kind = 1 ∨ t.kind = 2 ∨ t.kind = 3) && decide (t.n = 0) && decide (t.s.size = 0) && decide (n1 = 0) && decide (n2 = 0)) := by rw [zroB,h1,h2]
 rw [hz];clear hz h1 h2;generalize t.kind = K at *;generalize t.n = N at *;generalize t.s = S at *
 have kk : K = 1 ∨ K = 2 ∨ K = 3 ∨ (¬ K = 1 ∧ ¬ K = 2 ∧ ¬ K = 3) := by omega
 rcases kk with rfl | rfl | rfl | ⟨h1,h2,h3⟩
 ·by_cases hN : N = 0
  ·subst hN
   by_cases hS : S.size = 0
   ·obtain rfl := size_empty hS
    by_cases h1 : n1 = 0
    ·subst h1
     by_cases h2 : n2 = 0
     ·subst h2
      go_enter Tryz.func43,Tryz.ntmps43
      go_wp2_with fail;go_ret;exact ⟨rfl,hb⟩
     ·have d2 : ((n2 : Int) == 0) = false := by simp; omega
      simp only [decide_eq_false h2,Bool.and_false];clear h2
      go_enter Tryz.func43,Tryz.ntmps43
      go_wp2_with fail;go_ret;exact ⟨rfl,hb⟩
    ·have d1 : ((n1 : Int) == 0) = false := by simp; omega
     simp only [decide_eq_false h1,Bool.and_false,Bool.false_and];clear h1
     go_enter Tryz.func43,Tryz.ntmps43
     go_wp2_with fail;go_ret;exact ⟨rfl,hb⟩
   ·have dS : (S.toList == ([] : List UInt8)) = false := by rw [ByteArray.toList_eq]; simp; intro e; exact hS (by rw [← ByteArray.size_data,e]; rfl)
    simp only [decide_eq_false hS,Bool.and_false,Bool.false_and];clear hS
    go_enter Tryz.func43,Tryz.ntmps43
    go_wp2_with fail;go_ret;exact ⟨rfl,hb⟩
  ·have dN : (N == 0) = false := by simpa using hN
   simp only [decide_eq_false hN,Bool.and_false,Bool.false_and];clear hN
   go_enter Tryz.func43,Tryz.ntmps43
   go_wp2_with fail;go_ret;exact ⟨rfl,hb⟩
 ·by_cases hN : N = 0
  ·subst hN
   by_cases hS : S.size = 0
   ·obtain rfl := size_empty hS
    by_cases h1 : n1 = 0
    ·subst h1
     by_cases h2 : n2 = 0
     ·subst h2
      go_enter Tryz.func43,Tryz.ntmps43
      go_wp2_with fail;go_ret;exact ⟨rfl,hb⟩
     ·have d2 : ((n2 : Int) == 0) = false := by simp; omega
      simp only [decide_eq_false h2,Bool.and_false];clear h2
      go_enter Tryz.func43,Tryz.ntmps43
      go_wp2_with fail;go_ret;exact ⟨rfl,hb⟩
    ·have d1 : ((n1 : Int) == 0) = false := by simp; omega
     simp only [decide_eq_false h1,Bool.and_false,Bool.false_and];clear h1
     go_enter Tryz.func43,Tryz.ntmps43
     go_wp2_with fail;go_ret;exact ⟨rfl,hb⟩
   ·have dS : (S.toList == ([] : List UInt8)) = false := by rw [ByteArray.toList_eq]; simp; intro e; exact hS (by rw [← ByteArray.size_data,e]; rfl)
    simp only [decide_eq_false hS,Bool.and_false,Bool.false_and];clear hS
    go_enter Tryz.func43,Tryz.ntmps43
    go_wp2_with fail;go_ret;exact ⟨rfl,hb⟩
  ·have dN : (N == 0) = false := by simpa using hN
   simp only [decide_eq_false hN,Bool.and_false,Bool.false_and];clear hN
   go_enter Tryz.func43,Tryz.ntmps43
   go_wp2_with fail;go_ret;exact ⟨rfl,hb⟩
 ·by_cases hN : N = 0
  ·subst hN
   by_cases hS : S.size = 0
   ·obtain rfl := size_empty hS
    by_cases h1 : n1 = 0
    ·subst h1
     by_cases h2 : n2 = 0
     ·subst h2
      go_enter Tryz.func43,Tryz.ntmps43
      go_wp2_with fail;go_ret;exact ⟨rfl,hb⟩
     ·have d2 : ((n2 : Int) == 0) = false := by simp; omega
      simp only [decide_eq_false h2,Bool.and_false];clear h2
      go_enter Tryz.func43,Tryz.ntmps43
      go_wp2_with fail;go_ret;exact ⟨rfl,hb⟩
    ·have d1 : ((n1 : Int) == 0) = false := by simp; omega
     simp only [decide_eq_false h1,Bool.and_false,Bool.false_and];clear h1
     go_enter Tryz.func43,Tryz.ntmps43
     go_wp2_with fail;go_ret;exact ⟨rfl,hb⟩
   ·have dS : (S.toList == ([] : List UInt8)) = false := by rw [ByteArray.toList_eq]; simp; intro e; exact hS (by rw [← ByteArray.size_data,e]; rfl)
    simp only [decide_eq_false hS,Bool.and_false,Bool.false_and];clear hS
    go_enter Tryz.func43,Tryz.ntmps43
    go_wp2_with fail;go_ret;exact ⟨rfl,hb⟩
  ·have dN : (N == 0) = false := by simpa using hN
   simp only [decide_eq_false hN,Bool.and_false,Bool.false_and];clear hN
   go_enter Tryz.func43,Tryz.ntmps43
   go_wp2_with fail;go_ret;exact ⟨rfl,hb⟩
 ·have hk : decide (K = 1 ∨ K = 2 ∨ K = 3) = false := by simp [h1,h2,h3]
  simp only [hk,Bool.false_and]
  rcases (by omega : K < 1 ∨ (1 ≤ K ∧ 3 < K)) with h5 | ⟨h5,h6⟩
  ·have e1 : decide (1 ≤ K) = false := by simp; omega
   clear h1 h2 h3 hk
   go_enter Tryz.func43,Tryz.ntmps43
   go_wp2_with fail;go_ret;exact ⟨rfl,hb⟩
  ·have e1 : decide (1 ≤ K) = true := by simp; omega
   have e2 : decide (K ≤ 3) = false := by simp; omega
   clear h1 h2 h3 hk
   go_enter Tryz.func43,Tryz.ntmps43
   go_wp2_with fail;go_ret;exact ⟨rfl,hb⟩
end
section
open Go.ChangeShapes Go.WideShapes Go.ChangeAt Go.RowKit Go.Maps
theorem r7messageW_any {w0 w : World} {snm nm : ByteArray} {ae at' : Option Addr} {E ce T ct : Nat} {vm : Value} {ms : List MsS} (hw0 : Below w0.heap.size w0 w) (hr : MsIn w0 vm ms) :
  Calls Tryz.prog 21 #[.agg #[.string snm,vm,.slice ae E ce,.slice at' T ct],.string nm] w fun e w' => ∃ vf vr,e = .returned (.tuple #[.agg #[.string ((ms.find? (fun m => decide (m.name = nm))).getD zeroM).name,vf,vr],.bool (ms.find? (fun m => decide (m.name = nm))).isSome]) ∧ RowG w0 vf 5 (flRows ((ms.find? (fun m => decide (m.name = nm))).getD zeroM).fields) ∧ RowG w0 vr 1 (inRows ((ms.find? (fun m => decide (m.name = nm))).getD zeroM).reserved) ∧ Below w.heap.size w w' := by
 obtain ⟨a,c,rfl,q1,q2⟩ := hr.form2;have HR : Hid (MsIn w0 (.slice a ms.length c) ms) := hr;obtain ⟨N,hN⟩ : ∃ N,ms.length = N := ⟨_,rfl⟩;rw [hN] at HR q1 ⊢;have HN : Hid (ms.length = N) := hN;clear hN hr;obtain ⟨A,hA⟩ : ∃ A,(ms.find? (fun m => decide (m.name = nm))) = A := ⟨_,rfl⟩;rw [hA];have HA : Hid (A = ((ms.drop 0).find? (fun m => decide (m.name = nm)))) := hA.symm;clear hA;have BX0 : Blk ((w.alloc (.cells #[.string snm,.slice a N c,.slice ae E ce,.slice at' T ct] 26)).alloc (.cells #[.string ⟨#[]⟩,.slice none 0 0,.slice none 0 0] 34)) w.heap.size #[.string snm,.slice a N c,.slice ae E ce,.slice at' T ct] 26 := (Blk.new w _ _).below ((Below.refl _ _).alloc (Nat.le_refl _) _)
 have BR0 : Blk ((w.alloc (.cells #[.string snm,.slice a N c,.slice ae E ce,.slice at' T ct] 26)).alloc (.cells #[.string ⟨#[]⟩,.slice none 0 0,.slice none 0 0] 34)) (w.heap.size + 1) #[.string ⟨#[]⟩,.slice none 0 0,.slice none 0 0] 34 := by
  have := Blk.new (w.alloc (.cells #[.string snm,.slice a N c,.slice ae E ce,.slice at' T ct] 26)) #[.string ⟨#[]⟩,.slice none 0 0,.slice none 0 0] 34
  rwa [show (w.alloc (.cells #[.string snm,.slice a N c,.slice ae E ce,.slice at' T ct] 26)).heap.size = w.heap.size + 1 by simp] at this
 have hb0 : Below w.heap.size w ((w.alloc (.cells #[.string snm,.slice a N c,.slice ae E ce,.slice at' T ct] 26)).alloc (.cells #[.string ⟨#[]⟩,.slice none 0 0,.slice none 0 0] 34)) := ((Below.refl _ _).alloc (Nat.le_refl _) _).alloc (by simp) _
 go_enter Tryz.func21,Tryz.ntmps21
 go_wp2_with fail
 go_loopw [6] (fun iv wr => ∃ k : Nat,iv = .int .i64 (k : Int) ∧ k ≤ N ∧ Hid (A = ((ms.drop k).find? (fun m => decide (m.name = nm)))) ∧ Below w.heap.size w wr ∧ Blk wr (w.heap.size + 1) #[.string ⟨#[]⟩,.slice none 0 0,.slice none 0 0] 34 ∧ Blk wr w.heap.size #[.string snm,.slice a N c,.slice ae E ce,.slice at' T ct] 26) (fun iv _ => N - (intOf iv).toNat)
 case atStart => exact ⟨0,rfl,by omega,HA,hb0,BR0,BX0⟩
 case round =>
  obtain ⟨k,rfl,hk,HAk,hbel,BR,BX⟩ := hrel;clear BX0 BR0 hb0;have hlt2 : w.heap.size + 1 < wr.heap.size := BR.lt;have r0 := (BR.cell 0).trans rfl;have z0 := BR.froz 0;have r1 := (BR.cell 1).trans rfl;have z1 := BR.froz 1;have r2 := (BR.cell 2).trans rfl;have z2 := BR.froz 2;have x1 : wr.cell? ⟨w.heap.size,1,none⟩ = some (.slice a N c) := BX.cell 1
  by_cases hlt : k < N
  ·obtain ⟨f,hf⟩ : ∃ n,ms[k]? = some n := ⟨_,List.getElem?_eq_getElem (by rw [HN.out]; exact hlt)⟩;obtain ⟨g,off,vf,vr,rfl,c0',c1',c2',hrf,hrr⟩ := HR.out.get hf;have c0 := ((hw0.trans (hbel.mono hw0.size)).cell (World.block_lt_of_cell? _ _ c0')).trans c0';have c1 := ((hw0.trans (hbel.mono hw0.size)).cell (World.block_lt_of_cell? _ _ c1')).trans c1';have c2 := ((hw0.trans (hbel.mono hw0.size)).cell (World.block_lt_of_cell? _ _ c2')).trans c2';clear c0' c1' c2';have HF : Hid (RowG w0 vf 5 (flRows f.fields)) := hrf;have HV : Hid (RowG w0 vr 1 (inRows f.reserved)) := hrr;obtain ⟨a3,c3,rfl,_,_⟩ := hrf.form2;obtain ⟨a4,c4,rfl,_,_⟩ := hrr.form2;have HF : Hid (RowG w0 (.slice a3 (flRows f.fields).length c3) 5 (flRows f.fields)) := HF;have HV : Hid (RowG w0 (.slice a4 (inRows f.reserved).length c4) 1 (inRows f.reserved)) := HV
   have HA2 : Hid (A = if decide (f.name = nm) = true then some f else ((ms.drop (k + 1)).find? (fun m => decide (m.name = nm)))) := by
    show _ = _
    rw [HAk.out,drop_at hf,List.find?_cons]
    cases decide (f.name = nm) <;> rfl
   obtain ⟨f0,ff,fr⟩ := f;simp only at c0 c1 c2 HA2 HF HV;generalize hnF : (flRows ff).length = nF at *;generalize hnR : (inRows fr).length = nR at *;clear hrf hrr hf HAk hnF hnR
   by_cases he : f0 = nm
   ·subst he
    have HA3 : Hid (A = some ⟨f0,ff,fr⟩) := by show _ = _; rw [HA2.out,if_pos (by simp)]
    clear HA2;go_wp2_with fail;refine bodyPost_ret (results_two rfl _ _ _ ⟨w.heap.size + 1,0,none⟩ (.agg #[.string f0,.slice a3 nF c3,.slice a4 nR c4]) (by go_simp) (by go_simp)) rfl ?_;refine ⟨.slice a3 nF c3,.slice a4 nR c4,ret_two (by rw [HA3.out]; rfl) (by rw [HA3.out]; rfl),?_,?_,(Below.setCell (Below.setCell (Below.setCell hbel (by simp) _) (by simp) _) (by simp) _)⟩
    ·rw [HA3.out]; exact HF.out
    ·rw [HA3.out]; exact HV.out
   ·have hq := bytes_ne he
    have HA3 : Hid (A = ((ms.drop (k + 1)).find? (fun m => decide (m.name = nm)))) := by show _ = _; rw [HA2.out,if_neg (by simpa using he)]
    go_wp2_with fail
    go_roundw
    case rel => exact ⟨k + 1,by go_num,by omega,HA3,hbel,BR,BX⟩
    case measure => simp [intOf]; omega
  ·have HA2 : Hid (A = none) := by show _ = _; rw [HAk.out,drop_end (by rw [HN.out]; omega)]; rfl
   go_wp2_with fail;refine bodyPost_ret (results_two rfl _ _ _ ⟨w.heap.size + 1,0,none⟩ (.agg #[.string ⟨#[]⟩,.slice none 0 0,.slice none 0 0]) (by go_simp) (by go_simp)) rfl ?_;exact ⟨.slice none 0 0,.slice none 0 0,ret_two (by rw [HA2.out]; rfl) (by rw [HA2.out]; rfl),by rw [HA2.out]; exact RowG.nil _ _,by rw [HA2.out]; exact RowG.nil _ _,(Below.setCell (Below.setCell (Below.setCell hbel (by simp) _) (by simp) _) (by simp) _)⟩
theorem r7field_any {w : World} {snm : ByteArray} {nm : Int} {am : Option Addr} {M cm : Nat} {vt : Value} {ts : List FlS} (hr : RowG w vt 5 (flRows ts)) :
  Calls Tryz.prog 40 #[.agg #[.string snm,vt,.slice am M cm],.int .i64 nm] w fun e w' => e = .returned (.tuple #[flV ((ts.find? fun m => decide (m.tag = nm)).getD zeroF),.bool (ts.find? fun m => decide (m.tag = nm)).isSome]) ∧ Below w.heap.size w w' := by
 obtain ⟨a,c,rfl,q1,q2⟩ := hr.form2
 have hN : (flRows ts).length = ts.length := by simp [flRows]
 rw [hN] at hr q1 ⊢;clear hN;obtain ⟨N,hN⟩ : ∃ N,ts.length = N := ⟨_,rfl⟩;rw [hN] at hr q1 ⊢;have HN : Hid (ts.length = N) := hN;have HR : Hid (RowG w (.slice a N c) 5 (flRows ts)) := hr;clear hN hr;obtain ⟨A,hA⟩ : ∃ A,(ts.find? fun m => decide (m.tag = nm)) = A := ⟨_,rfl⟩;rw [hA];have HA : Hid (A = ((ts.drop 0).find? fun m => decide (m.tag = nm))) := hA.symm;clear hA;have BX0 : Blk ((w.alloc (.cells #[.string snm,.slice a N c,.slice am M cm] 34)).alloc (.cells #[.string ⟨#[]⟩,.int .i64 0,.int .i64 0,.int .i64 0,.string ⟨#[]⟩] 56)) w.heap.size #[.string snm,.slice a N c,.slice am M cm] 34 := (Blk.new w _ _).below ((Below.refl _ _).alloc (Nat.le_refl _) _)
 have BR0 : Blk ((w.alloc (.cells #[.string snm,.slice a N c,.slice am M cm] 34)).alloc (.cells #[.string ⟨#[]⟩,.int .i64 0,.int .i64 0,.int .i64 0,.string ⟨#[]⟩] 56)) (w.heap.size + 1) #[.string ⟨#[]⟩,.int .i64 0,.int .i64 0,.int .i64 0,.string ⟨#[]⟩] 56 := by
  have := Blk.new (w.alloc (.cells #[.string snm,.slice a N c,.slice am M cm] 34)) #[.string ⟨#[]⟩,.int .i64 0,.int .i64 0,.int .i64 0,.string ⟨#[]⟩] 56
  rwa [show (w.alloc (.cells #[.string snm,.slice a N c,.slice am M cm] 34)).heap.size = w.heap.size + 1 by simp] at this
 have hb0 : Below w.heap.size w ((w.alloc (.cells #[.string snm,.slice a N c,.slice am M cm] 34)).alloc (.cells #[.string ⟨#[]⟩,.int .i64 0,.int .i64 0,.int .i64 0,.string ⟨#[]⟩] 56)) := ((Below.refl _ _).alloc (Nat.le_refl _) _).alloc (by simp) _
 go_enter Tryz.func40,Tryz.ntmps40
 go_wp2_with fail
 go_loopw [6] (fun iv wr => ∃ k : Nat,iv = .int .i64 (k : Int) ∧ k ≤ N ∧ Hid (A = ((ts.drop k).find? fun m => decide (m.tag = nm))) ∧ Below w.heap.size w wr ∧ Blk wr (w.heap.size + 1) #[.string ⟨#[]⟩,.int .i64 0,.int .i64 0,.int .i64 0,.string ⟨#[]⟩] 56 ∧ Blk wr w.heap.size #[.string snm,.slice a N c,.slice am M cm] 34) (fun iv _ => N - (intOf iv).toNat)
 case atStart => exact ⟨0,rfl,by omega,HA,hb0,BR0,BX0⟩
 case round =>
  obtain ⟨k,rfl,hk,HAk,hbel,BR,BX⟩ := hrel;clear BX0 BR0 hb0;have hlt2 : w.heap.size + 1 < wr.heap.size := BR.lt;have r0 := (BR.cell 0).trans rfl;have z0 := BR.froz 0;have r1 := (BR.cell 1).trans rfl;have z1 := BR.froz 1;have r2 := (BR.cell 2).trans rfl;have z2 := BR.froz 2;have r3 := (BR.cell 3).trans rfl;have z3 := BR.froz 3;have r4 := (BR.cell 4).trans rfl;have z4 := BR.froz 4;have x1 : wr.cell? ⟨w.heap.size,1,none⟩ = some (.slice a N c) := BX.cell 1
  by_cases hlt : k < N
  ·obtain ⟨f,hf⟩ : ∃ n,ts[k]? = some n := ⟨_,List.getElem?_eq_getElem (by rw [HN.out]; exact hlt)⟩
   have hrr : (flRows ts)[k]? = some f.cells := by simp [flRows,hf]
   obtain ⟨g,off,rfl,c1⟩ := (HR.out.below hbel).get hrr;obtain ⟨f0,f1,f2,f3,f4⟩ := f
   have HA2 : Hid (A = if decide (f1 = nm) = true then some ⟨f0,f1,f2,f3,f4⟩ else ((ts.drop (k + 1)).find? fun m => decide (m.tag = nm))) := by
    show _ = _
    rw [HAk.out,drop_at hf,List.find?_cons]
    cases decide (f1 = nm) <;> rfl
   have p0 := c1 0 _ rfl;have p1 := c1 1 _ rfl;have p2 := c1 2 _ rfl;have p3 := c1 3 _ rfl;have p4 := c1 4 _ rfl;simp only [Nat.add_zero] at p0 p1 p2 p3 p4;clear c1 hrr hf HAk
   by_cases he : f1 = nm
   ·subst he;go_wp2_with fail;refine bodyPost_ret (results_two rfl _ _ _ ⟨w.heap.size + 1,0,none⟩ (.agg #[.string f0,.int .i64 f1,.int .i64 f2,.int .i64 f3,.string f4]) (by go_simp) (by go_simp)) rfl ?_;exact ⟨ret_two (by rw [HA2.out,if_pos (by simp)]; rfl) (by rw [HA2.out,if_pos (by simp)]; rfl),(Below.setCell (Below.setCell (Below.setCell (Below.setCell (Below.setCell hbel (by simp) _) (by simp) _) (by simp) _) (by simp) _) (by simp) _)⟩
   ·have hq : (f1 == nm) = false := by simpa using he
    have HA3 : Hid (A = ((ts.drop (k + 1)).find? fun m => decide (m.tag = nm))) := by show _ = _; rw [HA2.out,if_neg (by simpa using he)]
    go_wp2_with fail
    go_roundw
    case rel => exact ⟨k + 1,by go_num,by omega,HA3,hbel,BR,BX⟩
    case measure => simp [intOf]; omega
  ·have HA2 : Hid (A = none) := by show _ = _; rw [HAk.out,drop_end (by rw [HN.out]; omega)]; rfl
   go_wp2_with fail;refine bodyPost_ret (results_two rfl _ _ _ ⟨w.heap.size + 1,0,none⟩ (.agg #[.string ⟨#[]⟩,.int .i64 0,.int .i64 0,.int .i64 0,.string ⟨#[]⟩]) (by go_simp) (by go_simp)) rfl ?_;exact ⟨ret_two (by rw [HA2.out]; rfl) (by rw [HA2.out]; rfl),(Below.setCell (Below.setCell (Below.setCell (Below.setCell (Below.setCell hbel (by simp) _) (by simp) _) (by simp) _) (by simp) _) (by simp) _)⟩
end
end Go.Proofs.YtiajaocckkghgabGreat
