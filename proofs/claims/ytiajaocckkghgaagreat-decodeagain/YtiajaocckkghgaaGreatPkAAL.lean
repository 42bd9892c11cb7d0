/- Part 12 of what the proof stands on. -/
import Derived.Test.YtiajaocckkghgaaGreatPkAAK
import Derived.Lib.SlBytesConst
namespace Go.Proofs.YtiajaocckkghgaaGreat
set_option maxHeartbeats 8000000
set_option linter.unusedVariables false
set_option linter.unusedSimpArgs false
set_option maxRecDepth 20000
open Go.ChangeShapes Go.WideShapes Go.ChangeAt Go.RowKit
theorem sc_one {w : World} {b : Nat} {name nm : ByteArray} {vf : Value} {fs : List FlS} (B : Blk w b #[.string nm,vf,.slice none 0 0] 50) (hf : RowG w vf 5 (flRows fs)) : ScIn w (.agg #[.string name,.slice (some ⟨b,0,none⟩) 1 1,.slice none 0 0,.slice none 0 0]) ⟨name,[⟨nm,fs,[]⟩],[],[]⟩ := by
 refine ⟨_,_,_,rfl,⟨[[.string nm,vf,.slice none 0 0]],RowG.blk B rfl (fun r hr => by simp at hr; subst hr; rfl) rfl (by decide),rfl,fun i m hm => ?_⟩,⟨[],RowG.nil _ _,rfl,fun i e he => by simp at he⟩,RowG.nil _ _⟩
 match i,hm with
 | 0,hm => simp at hm; subst hm; exact ⟨_,_,rfl,hf,RowG.nil _ _⟩
 | i + 1,hm => simp at hm
def s0A : ScS := ⟨⟨#[97]⟩,[⟨⟨#[109]⟩,[],[]⟩],[],[]⟩
theorem s0_few : FewL s0A := ⟨by decide,by decide,by decide,fun m hm => by simp [s0A] at hm; subst hm; simp,fun m hm => by simp [s0A] at hm⟩
theorem s0_w : ScW s0A := ⟨by decide,fun m hm => by simp [s0A] at hm; subst hm; exact ⟨(by decide : (ByteArray.mk #[109]).size ≤ 140737488351232),by simp,by simp⟩,fun m hm => by simp [s0A] at hm,fun m hm => by simp [s0A] at hm⟩
theorem s0_ok : checkA s0A = 0 := by decide +kernel
theorem s0_msg : msgOf s0A ⟨#[109]⟩ = some ⟨⟨#[109]⟩,[],[]⟩ := by simp [msgOf,s0A]
theorem s0_dec {l : List Fd} (ho : l.all okF = true) (h64 : ∀ r ∈ l,Is64 r.n) (hl : (flatN l).length ≤ 4096) : decA s0A ⟨#[109]⟩ (flatN l) = (⟨3,0,⟨#[]⟩,[],sortF l⟩,0) := by
 unfold decA;rw [s0_ok,if_neg (by simp)];exact dec_none s0_msg rfl ho h64 hl
theorem aw_flat : flatN [⟨1,0,5,⟨#[]⟩⟩] = [2,10] := by decide +kernel
theorem aw_ok : ([⟨1,0,5,⟨#[]⟩⟩] : List Fd).all okF = true := by decide +kernel
theorem aw_dec : decA s0A ⟨#[109]⟩ [2,10] = (⟨3,0,⟨#[]⟩,[],[⟨1,0,5,⟨#[]⟩⟩]⟩,0) := by
 have h := s0_dec (l := [⟨1,0,5,⟨#[]⟩⟩]) aw_ok (fun r hr => by simp at hr; subst hr; unfold Is64; simp) (by rw [aw_flat]; decide);rw [aw_flat] at h;rw [h]
 simp [sortF,sortFF,risesB]
theorem aw_can : canA s0A ⟨#[109]⟩ [2,10] = true := by
 have h : encA 11 ⟨3,0,⟨#[]⟩,[],[⟨1,0,5,⟨#[]⟩⟩]⟩ = ([2,10],0) := by decide +kernel
 simp only [canA,aw_dec,h]
 decide
theorem conv_aw (W : World) (b : Nat) (hb : W.heap.size = b) : (convert 27 27 (.slice (some ⟨b,0,none⟩) 2 2)).run Tryz.prog (W.alloc (.cells #[.int .u8 2,.int .u8 10] 5)) = .ok (.slice (some ⟨b,0,none⟩) 2 2) (W.alloc (.cells #[.int .u8 2,.int .u8 10] 5 (2,3))) := by
 subst hb;exact Lib.run_convert_bytes_const (P := Tryz.prog) W 27 5 _ 2 2 Tryz.underlying27 Tryz.underlying5
theorem byS_aw (W : World) (b : Nat) (hb : W.heap.size = b) : ByS (W.alloc (.cells #[.int .u8 2,.int .u8 10] 5 (2,3))) (.slice (some ⟨b,0,none⟩) 2 2) [2,10] := by
 subst hb;refine ⟨_,2,rfl,Holds.of fun j hj => ?_,(by simp),(by simp),(by decide),.inr ⟨_,_,rfl⟩⟩;rw [Nat.zero_add,World.cell?_alloc_mark];have := byteCells_get [2,10] j hj
 simpa [byteCells] using this
theorem dcawake_any (w : World) : Calls Tryz.prog 10 #[] w fun e w' => e = .returned (.bool true) ∧ Below w.heap.size w w' := by
 obtain ⟨b0,hb0⟩ : ∃ z,w.heap.size = z := ⟨_,rfl⟩;have HBZ : Hid (w.heap.size = b0) := hb0;obtain ⟨BM,BS,hbw⟩ := dblk2 w #[.string ⟨#[109]⟩,.slice none 0 0,.slice none 0 0] #[.string ⟨#[97]⟩,.slice (some ⟨b0,0,none⟩) 1 1,.slice none 0 0,.slice none 0 0] 50 26
 have hz : ((w.alloc (Obj.cells #[.string ⟨#[109]⟩,.slice none 0 0,.slice none 0 0] 50)).alloc (Obj.cells #[.string ⟨#[97]⟩,.slice (some ⟨b0,0,none⟩) 1 1,.slice none 0 0,.slice none 0 0] 26)).heap.size = b0 + 1 + 1 := by simp [hb0]
 have kc1 := conv_aw _ _ hz;have BB := byS_aw _ _ hz;have al : Below ((w.alloc (Obj.cells #[.string ⟨#[109]⟩,.slice none 0 0,.slice none 0 0] 50)).alloc (Obj.cells #[.string ⟨#[97]⟩,.slice (some ⟨b0,0,none⟩) 1 1,.slice none 0 0,.slice none 0 0] 26)).heap.size ((w.alloc (Obj.cells #[.string ⟨#[109]⟩,.slice none 0 0,.slice none 0 0] 50)).alloc (Obj.cells #[.string ⟨#[97]⟩,.slice (some ⟨b0,0,none⟩) 1 1,.slice none 0 0,.slice none 0 0] 26)) (((w.alloc (Obj.cells #[.string ⟨#[109]⟩,.slice none 0 0,.slice none 0 0] 50)).alloc (Obj.cells #[.string ⟨#[97]⟩,.slice (some ⟨b0,0,none⟩) 1 1,.slice none 0 0,.slice none 0 0] 26)).alloc (.cells #[.int .u8 2,.int .u8 10] 5 (2,3))) := (Below.refl _ _).alloc (Nat.le_refl _) _;rw [hb0] at BM BS;have HSC : Hid (∀ W,Below w.heap.size (((w.alloc (Obj.cells #[.string ⟨#[109]⟩,.slice none 0 0,.slice none 0 0] 50)).alloc (Obj.cells #[.string ⟨#[97]⟩,.slice (some ⟨b0,0,none⟩) 1 1,.slice none 0 0,.slice none 0 0] 26)).alloc (.cells #[.int .u8 2,.int .u8 10] 5 (2,3))) W → True) := fun _ _ => trivial
 clear HSC;have HSI : Hid (ScIn (((w.alloc (Obj.cells #[.string ⟨#[109]⟩,.slice none 0 0,.slice none 0 0] 50)).alloc (Obj.cells #[.string ⟨#[97]⟩,.slice (some ⟨b0,0,none⟩) 1 1,.slice none 0 0,.slice none 0 0] 26)).alloc (.cells #[.int .u8 2,.int .u8 10] 5 (2,3))) (.agg #[.string ⟨#[97]⟩,.slice (some ⟨b0,0,none⟩) 1 1,.slice none 0 0,.slice none 0 0]) s0A) := sc_one (BM.below al) (RowG.nil _ _)
 have HDE : Hid (Calls Tryz.prog 11 #[.agg #[.string ⟨#[97]⟩,.slice (some ⟨b0,0,none⟩) 1 1,.slice none 0 0,.slice none 0 0],.string ⟨#[109]⟩,.slice (some ⟨b0 + 1 + 1,0,none⟩) 2 2] (((w.alloc (Obj.cells #[.string ⟨#[109]⟩,.slice none 0 0,.slice none 0 0] 50)).alloc (Obj.cells #[.string ⟨#[97]⟩,.slice (some ⟨b0,0,none⟩) 1 1,.slice none 0 0,.slice none 0 0] 26)).alloc (.cells #[.int .u8 2,.int .u8 10] 5 (2,3))) (DtrP 11 (⟨3,0,⟨#[]⟩,[],[⟨1,0,5,⟨#[]⟩⟩]⟩,0) (((w.alloc (Obj.cells #[.string ⟨#[109]⟩,.slice none 0 0,.slice none 0 0] 50)).alloc (Obj.cells #[.string ⟨#[97]⟩,.slice (some ⟨b0,0,none⟩) 1 1,.slice none 0 0,.slice none 0 0] 26)).alloc (.cells #[.int .u8 2,.int .u8 10] 5 (2,3))))) := (by
  have h1 := decode_any HSI.out s0_w s0_few BB (nm := ⟨#[109]⟩);rw [aw_dec] at h1
  exact h1 : Calls Tryz.prog _ _ _ _)
 have BS1 := BS.below al;have HSI1 : Hid (Below w.heap.size w (((w.alloc (Obj.cells #[.string ⟨#[109]⟩,.slice none 0 0,.slice none 0 0] 50)).alloc (Obj.cells #[.string ⟨#[97]⟩,.slice (some ⟨b0,0,none⟩) 1 1,.slice none 0 0,.slice none 0 0] 26)).alloc (.cells #[.int .u8 2,.int .u8 10] 5 (2,3)))) := hbw.trans (al.mono hbw.size);clear BM BS hbw hz BB al
 go_enter Tryz.func10,Tryz.ntmps10
 go_wp2_with fail;refine HDE.out.mono ?_;rintro e w2 ⟨r,bs,rfl,ht,hap,hb2⟩;have hbw2 : Below w.heap.size w w2 := HSI1.out.trans (hb2.mono HSI1.out.size);have BS2 := BS1.below hb2;have hb2' := hb2;obtain ⟨ve,vr,rows,bss,rfl, -, -, -, -,hown,hro, -⟩ := ht;simp only [List.length_singleton] at hown;obtain ⟨ra,rc,rfl, -,hrb,hrc1,hrc2,hrh⟩ := own_openR hown;obtain ⟨ea,ec,rfl⟩ := own_form hro.own
 obtain ⟨g,rfl,hg1,hg2⟩ : ∃ g,ra = some ⟨g,0,none⟩ ∧ (w.alloc (Obj.cells #[] 0)).heap.size ≤ g + w.heap.size + 1 ∧ g < w2.heap.size := by
  rcases hrb with ⟨_,h,_⟩ | ⟨g,h1,h2,h3⟩
  ·simp at h
  ·exact ⟨g,h1,by simp,h3⟩
 obtain ⟨c0,c1,c2,c3⟩ := hrh.at (i := 0) rfl;simp only [Nat.zero_mul,Nat.add_zero,List.length_nil,List.length_singleton] at c0 c1 c2 c3 ⊢;clear hown hro hrb hrh hb2 HDE kc1 BS1;have al3 : Below w2.heap.size w2 (w2.alloc (Obj.cells #[.int .i64 3,.int .i64 0,.string ⟨#[]⟩,.slice ea 0 ec,.slice (some ⟨g,0,none⟩) 1 rc] 33)) := (Below.refl _ _).alloc (Nat.le_refl _) _;have al4 : Below w2.heap.size w2 ((w2.alloc (Obj.cells #[.int .i64 3,.int .i64 0,.string ⟨#[]⟩,.slice ea 0 ec,.slice (some ⟨g,0,none⟩) 1 rc] 33)).alloc (.cells #[.int .u8 2,.int .u8 10] 5 (2,3))) := al3.alloc (by simp) _
 have hz3 : (w2.alloc (Obj.cells #[.int .i64 3,.int .i64 0,.string ⟨#[]⟩,.slice ea 0 ec,.slice (some ⟨g,0,none⟩) 1 rc] 33)).heap.size = w2.heap.size + 1 := by simp
 have kc2 := conv_aw (w2.alloc (Obj.cells #[.int .i64 3,.int .i64 0,.string ⟨#[]⟩,.slice ea 0 ec,.slice (some ⟨g,0,none⟩) 1 rc] 33)) _ hz3;have BB2 := byS_aw (w2.alloc (Obj.cells #[.int .i64 3,.int .i64 0,.string ⟨#[]⟩,.slice ea 0 ec,.slice (some ⟨g,0,none⟩) 1 rc] 33)) _ hz3;have hbw4 : Below w.heap.size w ((w2.alloc (Obj.cells #[.int .i64 3,.int .i64 0,.string ⟨#[]⟩,.slice ea 0 ec,.slice (some ⟨g,0,none⟩) 1 rc] 33)).alloc (.cells #[.int .u8 2,.int .u8 10] 5 (2,3))) := hbw2.trans (al4.mono hbw2.size)
 have HCA : Hid (Calls Tryz.prog 16 #[.agg #[.string ⟨#[97]⟩,.slice (some ⟨b0,0,none⟩) 1 1,.slice none 0 0,.slice none 0 0],.string ⟨#[109]⟩,.slice (some ⟨w2.heap.size + 1,0,none⟩) 2 2] ((w2.alloc (Obj.cells #[.int .i64 3,.int .i64 0,.string ⟨#[]⟩,.slice ea 0 ec,.slice (some ⟨g,0,none⟩) 1 rc] 33)).alloc (.cells #[.int .u8 2,.int .u8 10] 5 (2,3))) fun e w' => e = .returned (.bool true) ∧ Below ((w2.alloc (Obj.cells #[.int .i64 3,.int .i64 0,.string ⟨#[]⟩,.slice ea 0 ec,.slice (some ⟨g,0,none⟩) 1 rc] 33)).alloc (.cells #[.int .u8 2,.int .u8 10] 5 (2,3))).heap.size ((w2.alloc (Obj.cells #[.int .i64 3,.int .i64 0,.string ⟨#[]⟩,.slice ea 0 ec,.slice (some ⟨g,0,none⟩) 1 rc] 33)).alloc (.cells #[.int .u8 2,.int .u8 10] 5 (2,3))) w') := (by
  have h1 := canonical_any ((HSI.out.below hb2').below al4) s0_w s0_few BB2 (nm := ⟨#[109]⟩);rw [aw_can] at h1
  exact h1 : Calls Tryz.prog _ _ _ _)
 have s0 := (BS2.cell 0).trans rfl;have s1 := (BS2.cell 1).trans rfl;have s2 := (BS2.cell 2).trans rfl;have s3 := (BS2.cell 3).trans rfl;have ltS := BS2.lt;clear BS2 BB2 hz3 al3 al4;go_wp2_with fail;refine HCA.out.mono ?_;rintro e w5 ⟨rfl,hb5⟩;have hbw5 : Below w.heap.size w w5 := hbw4.trans (hb5.mono hbw4.size);clear HCA hb5 c0 c1 c2 c3 s0 s1 s2 s3 ltS;go_wp2_with fail;go_ret;exact ⟨rfl,hbw5⟩
theorem toList_ext {a b : ByteArray} (h : a.toList = b.toList) : a = b := by
 rw [ByteArray.toList_eq,ByteArray.toList_eq] at h;obtain ⟨⟨l⟩⟩ := a;obtain ⟨⟨m⟩⟩ := b
 simp at h
 rw [h]
theorem fd_neq (t1 t2 t3 s1 s2 s3 : Int) (t4 s4 : ByteArray) (h : Fd.mk t1 t2 t3 t4 ≠ Fd.mk s1 s2 s3 s4) (W : World) :
  (binOp .neq 61 (.agg #[.int .i64 t1,.int .i64 t2,.int .i64 t3,.string t4]) (.agg #[.int .i64 s1,.int .i64 s2,.int .i64 s3,.string s4])).run Tryz.prog W = .ok (.bool true) W := by
 by_cases h1 : t1 = s1
 ·by_cases h2 : t2 = s2
  ·by_cases h3 : t3 = s3
   ·by_cases h4 : t4.toList = s4.toList
    ·exact absurd (by rw [h1,h2,h3,toList_ext h4]) h
    ·subst h1 h2 h3
     simp [go_sem,h4]
   ·subst h1 h2
    simp [go_sem,h3]
  ·subst h1
   simp [go_sem,h2]
 ·simp [go_sem,h1]
end Go.Proofs.YtiajaocckkghgaaGreat
