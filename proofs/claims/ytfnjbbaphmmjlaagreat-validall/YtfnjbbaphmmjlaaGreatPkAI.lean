/- Part 9 of what the proof stands on. -/
import Derived.Test.YtfnjbbaphmmjlaaGreatPkAH
namespace Go.Proofs.YtfnjbbaphmmjlaaGreat
set_option linter.unusedVariables false
set_option linter.unusedSimpArgs false
section
open Go.ChangeShapes Go.WideShapes Go.ChangeAt Go.RowKit
set_option maxRecDepth 20000
def awA : ScS := ⟨⟨#[97]⟩,[⟨⟨#[109]⟩,[⟨⟨#[120]⟩,1,1,1,⟨#[]⟩⟩],[]⟩],[],[]⟩
theorem flW_aw (n : ByteArray) (h : n.size ≤ 140737488351232) : FlW ⟨n,1,1,1,⟨#[]⟩⟩ := by
 have h1 : I64 1 := ⟨by decide,by decide⟩
 exact ⟨h,Nat.zero_le _,h1,h1,h1⟩
theorem awA_w : ScW awA := ⟨by decide,fun m hm => by simp [awA] at hm; subst hm; exact ⟨by decide,fun f hf => by simp at hf; subst hf; exact flW_aw _ (by decide),fun n hn => by simp at hn⟩,fun m hm => by simp [awA] at hm,fun m hm => by simp [awA] at hm⟩
theorem awA_f : FewL awA := ⟨by decide,by decide,by decide,fun m hm => by simp [awA] at hm; subst hm; exact ⟨by decide,by decide⟩,fun m hm => by simp [awA] at hm⟩
theorem trR_leaf (n : Nat) (w : World) (k : Int) (hk : Is64 k) : TrR (n + 1) w [.int .i64 k,.int .i64 0,.string ⟨#[]⟩,.slice none 0 0,.slice none 0 0] ⟨k,0,⟨#[]⟩,[],[]⟩ :=
 ⟨.slice none 0 0,.slice none 0 0,rfl,hk,⟨by show (-9223372036854775808 : Int) ≤ 0; decide,by show (0 : Int) ≤ 9223372036854775807; decide⟩,Nat.zero_le _,(fun f hf => by simp at hf),RowG.nil _ _,RowP.nil _ _ _,(fun g off n cap e => by cases e),fun g off n cap e => by cases e⟩
theorem Blk.pln {w : World} {b n c : Nat} {cs : Array Value} {t : TypeId} (h : Blk w b cs t) : PlnV w (.slice (some ⟨b,0,none⟩) n c) := fun g off m cap e _ => by
 simp at e
 obtain ⟨⟨rfl, -⟩, -⟩ := e
 exact ⟨_,_,h⟩
theorem one64 : Is64 1 := ⟨by decide,by decide⟩
theorem three64 : Is64 3 := ⟨by decide,by decide⟩
def awZ : Tr := ⟨3,0,⟨#[]⟩,[(1,[⟨1,0,⟨#[]⟩,[],[]⟩])],[]⟩
def awM : Tr := ⟨3,0,⟨#[]⟩,[],[]⟩
theorem awZ_v : validA 2 awA ⟨#[109]⟩ awZ = 12 := by decide +kernel
theorem awM_v : validA 2 awA ⟨#[109]⟩ awM = 0 := by decide +kernel
theorem awM_g : getA awA ⟨#[109]⟩ awM 1 = some [⟨1,0,⟨#[]⟩,[],[]⟩] := by simp [getA,fieldA,msgOf,fldOf,awA,awM,undL,zeroL,kindT]
theorem awZ_s : SmN 2 awZ := by
 refine ⟨by decide,by decide,by decide,by simp [awZ],fun e he => ?_⟩
 simp [awZ] at he
 subst he
 exact ⟨by decide,fun x hx => by simp at hx; subst hx; exact ⟨by decide,by decide,by decide,by simp,by simp⟩⟩
theorem awM_s : SmN 2 awM := ⟨by decide,by decide,by decide,by simp [awM],by simp [awM]⟩
set_option maxHeartbeats 4000000 in
theorem awake_any (w : World) : Calls Tryz.prog 9 #[] w fun e w' => e = .returned (.bool true) ∧ Below w.heap.size w w' := by
 go_enter Tryz.func9,Tryz.ntmps9
 go_wp2_with fail
 have B0 : Blk ((((((w.alloc (Obj.cells #[.string ⟨#[120]⟩,.int .i64 1,.int .i64 1,.int .i64 1,.string ⟨#[]⟩] 54)).alloc (Obj.cells #[.string ⟨#[109]⟩,.slice (some ⟨w.heap.size,0,none⟩) 1 1,.slice none 0 0] 50)).alloc (Obj.cells #[.string ⟨#[97]⟩,.slice (some ⟨w.heap.size + 1,0,none⟩) 1 1,.slice none 0 0,.slice none 0 0] 26)).alloc (Obj.cells #[.int .i64 1,.int .i64 0,.string ⟨#[]⟩,.slice none 0 0,.slice none 0 0] 30)).alloc (Obj.cells #[.int .i64 1,.slice (some ⟨w.heap.size + 1 + 1 + 1,0,none⟩) 1 1] 58)).alloc (Obj.cells #[.int .i64 3,.int .i64 0,.string ⟨#[]⟩,.slice (some ⟨w.heap.size + 1 + 1 + 1 + 1,0,none⟩) 1 1,.slice none 0 0] 30)) (w.heap.size) #[.string ⟨#[120]⟩,.int .i64 1,.int .i64 1,.int .i64 1,.string ⟨#[]⟩] 54 := ((((((Blk.newAt (by simp)).up _).up _).up _).up _).up _)
 have B1 : Blk ((((((w.alloc (Obj.cells #[.string ⟨#[120]⟩,.int .i64 1,.int .i64 1,.int .i64 1,.string ⟨#[]⟩] 54)).alloc (Obj.cells #[.string ⟨#[109]⟩,.slice (some ⟨w.heap.size,0,none⟩) 1 1,.slice none 0 0] 50)).alloc (Obj.cells #[.string ⟨#[97]⟩,.slice (some ⟨w.heap.size + 1,0,none⟩) 1 1,.slice none 0 0,.slice none 0 0] 26)).alloc (Obj.cells #[.int .i64 1,.int .i64 0,.string ⟨#[]⟩,.slice none 0 0,.slice none 0 0] 30)).alloc (Obj.cells #[.int .i64 1,.slice (some ⟨w.heap.size + 1 + 1 + 1,0,none⟩) 1 1] 58)).alloc (Obj.cells #[.int .i64 3,.int .i64 0,.string ⟨#[]⟩,.slice (some ⟨w.heap.size + 1 + 1 + 1 + 1,0,none⟩) 1 1,.slice none 0 0] 30)) (w.heap.size + 1) #[.string ⟨#[109]⟩,.slice (some ⟨w.heap.size,0,none⟩) 1 1,.slice none 0 0] 50 := (((((Blk.newAt (by simp)).up _).up _).up _).up _)
 have B2 : Blk ((((((w.alloc (Obj.cells #[.string ⟨#[120]⟩,.int .i64 1,.int .i64 1,.int .i64 1,.string ⟨#[]⟩] 54)).alloc (Obj.cells #[.string ⟨#[109]⟩,.slice (some ⟨w.heap.size,0,none⟩) 1 1,.slice none 0 0] 50)).alloc (Obj.cells #[.string ⟨#[97]⟩,.slice (some ⟨w.heap.size + 1,0,none⟩) 1 1,.slice none 0 0,.slice none 0 0] 26)).alloc (Obj.cells #[.int .i64 1,.int .i64 0,.string ⟨#[]⟩,.slice none 0 0,.slice none 0 0] 30)).alloc (Obj.cells #[.int .i64 1,.slice (some ⟨w.heap.size + 1 + 1 + 1,0,none⟩) 1 1] 58)).alloc (Obj.cells #[.int .i64 3,.int .i64 0,.string ⟨#[]⟩,.slice (some ⟨w.heap.size + 1 + 1 + 1 + 1,0,none⟩) 1 1,.slice none 0 0] 30)) (w.heap.size + 1 + 1) #[.string ⟨#[97]⟩,.slice (some ⟨w.heap.size + 1,0,none⟩) 1 1,.slice none 0 0,.slice none 0 0] 26 := ((((Blk.newAt (by simp)).up _).up _).up _)
 have B3 : Blk ((((((w.alloc (Obj.cells #[.string ⟨#[120]⟩,.int .i64 1,.int .i64 1,.int .i64 1,.string ⟨#[]⟩] 54)).alloc (Obj.cells #[.string ⟨#[109]⟩,.slice (some ⟨w.heap.size,0,none⟩) 1 1,.slice none 0 0] 50)).alloc (Obj.cells #[.string ⟨#[97]⟩,.slice (some ⟨w.heap.size + 1,0,none⟩) 1 1,.slice none 0 0,.slice none 0 0] 26)).alloc (Obj.cells #[.int .i64 1,.int .i64 0,.string ⟨#[]⟩,.slice none 0 0,.slice none 0 0] 30)).alloc (Obj.cells #[.int .i64 1,.slice (some ⟨w.heap.size + 1 + 1 + 1,0,none⟩) 1 1] 58)).alloc (Obj.cells #[.int .i64 3,.int .i64 0,.string ⟨#[]⟩,.slice (some ⟨w.heap.size + 1 + 1 + 1 + 1,0,none⟩) 1 1,.slice none 0 0] 30)) (w.heap.size + 1 + 1 + 1) #[.int .i64 1,.int .i64 0,.string ⟨#[]⟩,.slice none 0 0,.slice none 0 0] 30 := (((Blk.newAt (by simp)).up _).up _)
 have B4 : Blk ((((((w.alloc (Obj.cells #[.string ⟨#[120]⟩,.int .i64 1,.int .i64 1,.int .i64 1,.string ⟨#[]⟩] 54)).alloc (Obj.cells #[.string ⟨#[109]⟩,.slice (some ⟨w.heap.size,0,none⟩) 1 1,.slice none 0 0] 50)).alloc (Obj.cells #[.string ⟨#[97]⟩,.slice (some ⟨w.heap.size + 1,0,none⟩) 1 1,.slice none 0 0,.slice none 0 0] 26)).alloc (Obj.cells #[.int .i64 1,.int .i64 0,.string ⟨#[]⟩,.slice none 0 0,.slice none 0 0] 30)).alloc (Obj.cells #[.int .i64 1,.slice (some ⟨w.heap.size + 1 + 1 + 1,0,none⟩) 1 1] 58)).alloc (Obj.cells #[.int .i64 3,.int .i64 0,.string ⟨#[]⟩,.slice (some ⟨w.heap.size + 1 + 1 + 1 + 1,0,none⟩) 1 1,.slice none 0 0] 30)) (w.heap.size + 1 + 1 + 1 + 1) #[.int .i64 1,.slice (some ⟨w.heap.size + 1 + 1 + 1,0,none⟩) 1 1] 58 := ((Blk.newAt (by simp)).up _)
 have B5 : Blk ((((((w.alloc (Obj.cells #[.string ⟨#[120]⟩,.int .i64 1,.int .i64 1,.int .i64 1,.string ⟨#[]⟩] 54)).alloc (Obj.cells #[.string ⟨#[109]⟩,.slice (some ⟨w.heap.size,0,none⟩) 1 1,.slice none 0 0] 50)).alloc (Obj.cells #[.string ⟨#[97]⟩,.slice (some ⟨w.heap.size + 1,0,none⟩) 1 1,.slice none 0 0,.slice none 0 0] 26)).alloc (Obj.cells #[.int .i64 1,.int .i64 0,.string ⟨#[]⟩,.slice none 0 0,.slice none 0 0] 30)).alloc (Obj.cells #[.int .i64 1,.slice (some ⟨w.heap.size + 1 + 1 + 1,0,none⟩) 1 1] 58)).alloc (Obj.cells #[.int .i64 3,.int .i64 0,.string ⟨#[]⟩,.slice (some ⟨w.heap.size + 1 + 1 + 1 + 1,0,none⟩) 1 1,.slice none 0 0] 30)) (w.heap.size + 1 + 1 + 1 + 1 + 1) #[.int .i64 3,.int .i64 0,.string ⟨#[]⟩,.slice (some ⟨w.heap.size + 1 + 1 + 1 + 1,0,none⟩) 1 1,.slice none 0 0] 30 := (Blk.newAt (by simp))
 have hb0 : Below w.heap.size w ((((((w.alloc (Obj.cells #[.string ⟨#[120]⟩,.int .i64 1,.int .i64 1,.int .i64 1,.string ⟨#[]⟩] 54)).alloc (Obj.cells #[.string ⟨#[109]⟩,.slice (some ⟨w.heap.size,0,none⟩) 1 1,.slice none 0 0] 50)).alloc (Obj.cells #[.string ⟨#[97]⟩,.slice (some ⟨w.heap.size + 1,0,none⟩) 1 1,.slice none 0 0,.slice none 0 0] 26)).alloc (Obj.cells #[.int .i64 1,.int .i64 0,.string ⟨#[]⟩,.slice none 0 0,.slice none 0 0] 30)).alloc (Obj.cells #[.int .i64 1,.slice (some ⟨w.heap.size + 1 + 1 + 1,0,none⟩) 1 1] 58)).alloc (Obj.cells #[.int .i64 3,.int .i64 0,.string ⟨#[]⟩,.slice (some ⟨w.heap.size + 1 + 1 + 1 + 1,0,none⟩) 1 1,.slice none 0 0] 30)) := by
  repeat' first | exact Below.refl _ _ | refine Below.alloc ?_ (by simp <;> omega) _
 generalize ((((((w.alloc (Obj.cells #[.string ⟨#[120]⟩,.int .i64 1,.int .i64 1,.int .i64 1,.string ⟨#[]⟩] 54)).alloc (Obj.cells #[.string ⟨#[109]⟩,.slice (some ⟨w.heap.size,0,none⟩) 1 1,.slice none 0 0] 50)).alloc (Obj.cells #[.string ⟨#[97]⟩,.slice (some ⟨w.heap.size + 1,0,none⟩) 1 1,.slice none 0 0,.slice none 0 0] 26)).alloc (Obj.cells #[.int .i64 1,.int .i64 0,.string ⟨#[]⟩,.slice none 0 0,.slice none 0 0] 30)).alloc (Obj.cells #[.int .i64 1,.slice (some ⟨w.heap.size + 1 + 1 + 1,0,none⟩) 1 1] 58)).alloc (Obj.cells #[.int .i64 3,.int .i64 0,.string ⟨#[]⟩,.slice (some ⟨w.heap.size + 1 + 1 + 1 + 1,0,none⟩) 1 1,.slice none 0 0] 30)) = W at *
 have FA : RowG W (.slice (some ⟨w.heap.size,0,none⟩) 1 1) 5 (flRows [⟨⟨#[120]⟩,1,1,1,⟨#[]⟩⟩]) := RowG.blk B0 rfl (flr_len5 _) rfl (by decide)
 have SA : ScIn W (.agg #[.string ⟨#[97]⟩,.slice (some ⟨w.heap.size + 1,0,none⟩) 1 1,.slice none 0 0,.slice none 0 0]) awA :=
  ⟨_,_,_,rfl,⟨[[.string ⟨#[109]⟩,.slice (some ⟨w.heap.size,0,none⟩) 1 1,.slice none 0 0]],RowG.blk B1 rfl (fun r hr => by simp at hr; subst hr; rfl) rfl (by decide),rfl,fun i m hm => by
   match i,hm with
   | 0,hm => simp [awA] at hm; subst hm; exact ⟨_,_,rfl,FA,RowG.nil _ _⟩
   | i + 1,hm => simp [awA] at hm⟩,⟨[],RowG.nil _ _,rfl,fun i m hm => by simp [awA] at hm⟩,RowG.nil _ _⟩
 have TM : TrW 2 W (.agg #[.int .i64 3,.int .i64 0,.string ⟨#[]⟩,.slice none 0 0,.slice none 0 0]) awM := ⟨_,rfl,trR_leaf 1 W 3 three64⟩
 have TI : TrsR 1 W (.slice (some ⟨w.heap.size + 1 + 1 + 1,0,none⟩) 1 1) [⟨1,0,⟨#[]⟩,[],[]⟩] := ⟨[[.int .i64 1,.int .i64 0,.string ⟨#[]⟩,.slice none 0 0,.slice none 0 0]],RowG.blk B3 rfl (fun r hr => by simp at hr; subst hr; rfl) rfl (by decide),rfl,fun i x hx => by
   match i,hx with
   | 0,hx => simp at hx; subst hx; exact ⟨_,rfl,trR_leaf 0 W 1 one64⟩
   | i + 1,hx => simp at hx⟩
 have TE : EnsR 1 W (.slice (some ⟨w.heap.size + 1 + 1 + 1 + 1,0,none⟩) 1 1) [(1,[⟨1,0,⟨#[]⟩,[],[]⟩])] := ⟨[[.int .i64 1,.slice (some ⟨w.heap.size + 1 + 1 + 1,0,none⟩) 1 1]],RowG.blk B4 rfl (fun r hr => by simp at hr; subst hr; rfl) rfl (by decide),rfl,fun i x hx => by
   match i,hx with
   | 0,hx => simp at hx; subst hx; exact ⟨_,rfl,_,rfl,one64,TI⟩
   | i + 1,hx => simp at hx⟩
 have TZ : TrW 2 W (.agg #[.int .i64 3,.int .i64 0,.string ⟨#[]⟩,.slice (some ⟨w.heap.size + 1 + 1 + 1 + 1,0,none⟩) 1 1,.slice none 0 0]) awZ := ⟨_,rfl,_,_,rfl,three64,⟨by decide,by decide⟩,by decide,(fun f hf => by simp [awZ] at hf),RowG.nil _ _,TE,B4.pln,fun g off n cap e => by cases e⟩
 have HGE : Hid (Calls Tryz.prog 23 #[.agg #[.string ⟨#[97]⟩,.slice (some ⟨w.heap.size + 1,0,none⟩) 1 1,.slice none 0 0,.slice none 0 0],.string ⟨#[109]⟩,.agg #[.int .i64 3,.int .i64 0,.string ⟨#[]⟩,.slice none 0 0,.slice none 0 0],.int .i64 1] W (GetP 0 awA ⟨#[109]⟩ awM 1 W)) := get_step 0 SA awA_f.flds TM (fun e u W he => by simp [awM] at he)
 have HV1 : Hid (∀ W1,Below W.heap.size W W1 → Calls Tryz.prog 12 #[.agg #[.string ⟨#[97]⟩,.slice (some ⟨w.heap.size + 1,0,none⟩) 1 1,.slice none 0 0,.slice none 0 0],.string ⟨#[109]⟩,.agg #[.int .i64 3,.int .i64 0,.string ⟨#[]⟩,.slice (some ⟨w.heap.size + 1 + 1 + 1 + 1,0,none⟩) 1 1,.slice none 0 0]] W1 fun e w' => e = .returned (.int .i64 12) ∧ Below W1.heap.size W1 w') := fun W1 h => by
  have h1 := fits_any (nm := ⟨#[109]⟩) (SA.below h) awA_w awA_f (TZ.cel (Cel.ofBelow h)) (by decide) (by decide) awZ_s
  rw [awZ_v] at h1
  exact h1
 have HV2 : Hid (∀ W1,Below W.heap.size W W1 → Calls Tryz.prog 12 #[.agg #[.string ⟨#[97]⟩,.slice (some ⟨w.heap.size + 1,0,none⟩) 1 1,.slice none 0 0,.slice none 0 0],.string ⟨#[109]⟩,.agg #[.int .i64 3,.int .i64 0,.string ⟨#[]⟩,.slice none 0 0,.slice none 0 0]] W1 fun e w' => e = .returned (.int .i64 0) ∧ Below W1.heap.size W1 w') := fun W1 h => by
  have h1 := fits_any (nm := ⟨#[109]⟩) (SA.below h) awA_w awA_f (TM.cel (Cel.ofBelow h)) (by decide) (by decide) awM_s
  rw [awM_v] at h1
  exact h1
 have HB2 : Hid (Blk W (w.heap.size + 1 + 1) #[.string ⟨#[97]⟩,.slice (some ⟨w.heap.size + 1,0,none⟩) 1 1,.slice none 0 0,.slice none 0 0] 26) := B2
 have HB5 : Hid (Blk W (w.heap.size + 1 + 1 + 1 + 1 + 1) #[.int .i64 3,.int .i64 0,.string ⟨#[]⟩,.slice (some ⟨w.heap.size + 1 + 1 + 1 + 1,0,none⟩) 1 1,.slice none 0 0] 30) := B5
 clear B0 B1 B2 B3 B4 B5 FA SA TM TI TE TZ
 refine Calls.mono HGE.out ?_
 rintro e w1 ⟨r,rfl,hr,hb1⟩
 rw [awM_g] at hr ⊢
 simp only [Option.isSome_some,Option.getD_some] at hr ⊢
 obtain ⟨ra,rc,hre,hrc1,hrc2, -⟩ := RowP.open hr
 subst hre
 obtain ⟨g,off,x1,x2,x3,x4,x5,x6,rfl,k0, -⟩ := trsR_get hr (i := 0) rfl
 simp only [Nat.zero_mul,Nat.add_zero,List.length_cons,List.length_nil,Nat.zero_add] at k0 hrc1 ⊢
 unfold maxLen at hrc2
 clear hr HGE
 have B2 := HB2.out.below hb1
 have B5 := HB5.out.below hb1
 have s0 := (B2.cell 0).trans rfl
 have s1 := (B2.cell 1).trans rfl
 have s2 := (B2.cell 2).trans rfl
 have s3 := (B2.cell 3).trans rfl
 have z0 := (B5.cell 0).trans rfl
 have z1 := (B5.cell 1).trans rfl
 have z2 := (B5.cell 2).trans rfl
 have z3 := (B5.cell 3).trans rfl
 have z4 := (B5.cell 4).trans rfl
 clear B2 B5
 go_wp2_with fail
 refine (HV1.out w1 hb1).mono ?_
 rintro e w2 ⟨rfl,hb2⟩
 have hb12 : Below W.heap.size W w2 := hb1.trans (hb2.mono hb1.size)
 have B2 := HB2.out.below hb12
 have k0 := (hb2.cell (World.block_lt_of_cell? _ _ k0)).trans k0
 clear s0 s1 s2 s3 z0 z1 z2 z3 z4 hb1 hb2
 have s0 := (B2.cell 0).trans rfl
 have s1 := (B2.cell 1).trans rfl
 have s2 := (B2.cell 2).trans rfl
 have s3 := (B2.cell 3).trans rfl
 clear B2
 go_wp2_with fail
 refine (HV2.out w2 hb12).mono ?_
 rintro e w3 ⟨rfl,hb3⟩
 have hb13 : Below W.heap.size W w3 := hb12.trans (hb3.mono hb12.size)
 have k0 := (hb3.cell (World.block_lt_of_cell? _ _ k0)).trans k0
 clear s0 s1 s2 s3 hb12 hb3
 go_wp2_with fail
 go_ret
 exact ⟨rfl,hb0.trans (hb13.mono hb0.size)⟩
def PlMap (w : World) (b : Nat) (L : List (Value × Value)) : Prop := ∃ es clock,w.heap[b]? = some (.map es clock) ∧ es.toList.map (fun e => (e.key,e.val)) = L
theorem PlMap.lt {w : World} {b : Nat} {L : List (Value × Value)} (h : PlMap w b L) : b < w.heap.size := by
 obtain ⟨es,c,h,_⟩ := h
 exact (Array.getElem?_eq_some_iff.1 h).1
theorem PlMap.kp {S : Nat → Prop} {w w1 : World} {b : Nat} {L : List (Value × Value)} (h : PlMap w b L) (hk : Kp S w w1) (hs : ¬ S b) : PlMap w1 b L := by
 have hl := h.lt
 obtain ⟨es,c,h1,h2⟩ := h
 exact ⟨es,c,(hk.block b hl hs).trans h1,h2⟩
theorem PlMap.below {w w1 : World} {b : Nat} {L : List (Value × Value)} (h : PlMap w b L) (hk : Below w.heap.size w w1) : PlMap w1 b L := h.kp (S := fun _ => False) (Kp.ofBelow hk) (fun e => e)
theorem PlMap.made (w : World) : PlMap (w.alloc (.map #[] 0)) w.heap.size [] := ⟨#[],0,heap_alloc_new w _,rfl⟩
theorem PlMap.neB {w : World} {b : Nat} {L : List (Value × Value)} (h : PlMap w b L) {g : Nat} {cs : Array Value} {t : TypeId} {fz : Nat × Nat} (hc : w.heap[g]? = some (.cells cs t fz)) : g ≠ b := by
 rintro rfl
 obtain ⟨es,c,hb,_⟩ := h
 rw [hb] at hc; cases hc
section
variable {T MT : TypeId} {w : World} {k : Value}
theorem find_askM : ∀ (l : List MapEntry) (i : Nat),Told T w k (l.map MapEntry.key) →
  (∃ j e,(Instr.findAsking T k l i).run Tryz.prog w = .ok (some (i + j,e.val)) w ∧ l[j]? = some e ∧ e.key = k) ∨ ((Instr.findAsking T k l i).run Tryz.prog w = .ok none w ∧ k ∉ l.map MapEntry.key)
 | [],i,_ => .inr (by simp [Instr.findAsking])
 | e :: l,i,ht => by
  obtain ⟨h1,h2⟩ := ht e.key (List.mem_cons_self ..)
  by_cases hke : k = e.key
  ·refine .inl ⟨0,e,?_,rfl,hke.symm⟩
   unfold Instr.findAsking
   rw [Sem.run_bind,h1 hke]
   simp [Result.andThen]
  ·have hrun : (Instr.findAsking T k (e :: l) i).run Tryz.prog w = (Instr.findAsking T k l (i + 1)).run Tryz.prog w := by
    conv => lhs; unfold Instr.findAsking
    rw [Sem.run_bind,h2 hke]
    simp [Result.andThen]
   rcases find_askM l (i + 1) (fun q hq => ht q (List.mem_cons_of_mem _ hq)) with ⟨j,e',g1,g2,g3⟩ | ⟨g1,g2⟩
   ·exact .inl ⟨j + 1,e',by rw [hrun,g1]; congr 3; omega,by simpa using g2,g3⟩
   ·refine .inr ⟨hrun.trans g1,fun h => ?_⟩
    rcases List.mem_cons.1 h with h | h
    ·exact hke h
    ·exact g2 h
theorem find_keyM {fs : TypeDesc} (hu : Tryz.prog.underlying T = some fs) (hf : ∀ k q,Instr.sameNow fs (.agg k) q = none) {ks : Array Value} (hk : k = .agg ks) (l : List MapEntry) (ht : Told T w k (l.map MapEntry.key)) :
  (∃ j e,(Instr.findKey T k l).run Tryz.prog w = .ok (some (j,e.val)) w ∧ l[j]? = some e ∧ e.key = k) ∨ ((Instr.findKey T k l).run Tryz.prog w = .ok none w ∧ k ∉ l.map MapEntry.key) := by
 cases l with
 | nil => exact .inr (by simp [Instr.findKey,run_underlying hu,Instr.findNow])
 | cons e l =>
  have h1 : Instr.findNow fs k (e :: l) 0 = none := by rw [hk]; simp [Instr.findNow,hf]
  have h2 : (Instr.findKey T k (e :: l)).run Tryz.prog w = (Instr.findAsking T k (e :: l) 0).run Tryz.prog w := by
   simp [Instr.findKey,run_underlying hu,h1]
  rw [h2]
  have := find_askM (e :: l) 0 ht
  simpa using this
variable {E : TypeId} {L : List (Value × Value)} {b : Nat}
theorem keys_of {es : Array MapEntry} : (es.toList.map (fun e => (e.key,e.val))).map Prod.fst = es.toList.map MapEntry.key := by simp [Function.comp_def]
theorem look_map (hm : Tryz.prog.underlying MT = some (.map T E)) {z : Value} (hz : ∀ w,(zeroValue E).run Tryz.prog w = .ok z w) {fs : TypeDesc} (hu : Tryz.prog.underlying T = some fs) (hf : ∀ k q,Instr.sameNow fs (.agg k) q = none) {ks : Array Value} (hk : k = .agg ks)
  (hc : ∀ e,(Instr.checkKey e 10000 T k).run Tryz.prog w = .ok () w) (hs : PlMap w b L) (ht : Told T w k (L.map Prod.fst)) :
  (∃ v,(k,v) ∈ L ∧ (Instr.lookup MT (.map (some b)) k true).run Tryz.prog w = .ok (.tuple #[v,.bool true]) w) ∨ (k ∉ L.map Prod.fst ∧ (Instr.lookup MT (.map (some b)) k true).run Tryz.prog w = .ok (.tuple #[z,.bool false]) w) := by
 obtain ⟨es,c,h1,rfl⟩ := hs
 rw [keys_of] at ht ⊢
 have hgo : (getObj b).run Tryz.prog w = .ok (.map es c) w := by simp [getObj,Sem.run,h1]
 rcases find_keyM hu hf hk es.toList ht with ⟨j,e,hj,g2,g3⟩ | ⟨hj,g2⟩
 ·refine .inl ⟨e.val,List.mem_map.2 ⟨e,List.mem_of_getElem? g2,by rw [g3]⟩,?_⟩
  simp [Instr.lookup,run_underlying hm,hgo,hc,hj]
 ·refine .inr ⟨g2,?_⟩
  simp [Instr.lookup,run_underlying hm,hgo,hc,hj,hz]
theorem update_map (hm : Tryz.prog.underlying MT = some (.map T E)) {fs : TypeDesc} (hu : Tryz.prog.underlying T = some fs) (hf : ∀ k q,Instr.sameNow fs (.agg k) q = none) {ks : Array Value} (hk : k = .agg ks) (hsb : Instr.sameBits 10000 k k = true)
  (hc : ∀ e,(Instr.checkKey e 10000 T k).run Tryz.prog w = .ok () w) (hs : PlMap w b L) (ht : Told T w k (L.map Prod.fst)) (v : Value) :
  ∃ w' L',(Instr.mapUpdate MT (.map (some b)) k v).run Tryz.prog w = .ok () w' ∧ PlMap w' b L' ∧ (∀ p ∈ L',p ∈ L ∨ p = (k,v)) ∧ (k,v) ∈ L' ∧ (∀ p ∈ L,p.1 ≠ k → p ∈ L') ∧ Kp (fun q => q = b) w w' ∧ w'.heap.size = w.heap.size := by
 obtain ⟨es,c,h1,rfl⟩ := hs
 rw [keys_of] at ht
 have hgo : (getObj b).run Tryz.prog w = .ok (.map es c) w := by simp [getObj,Sem.run,h1]
 have hse : ∀ o,(setObj b o).run Tryz.prog w = .ok () { w with heap := w.heap.setIfInBounds b o } := fun o => by simp [setObj,Sem.run,h1]
 have hlt := (Array.getElem?_eq_some_iff.1 h1).1
 have hkp : ∀ o,Kp (fun q => q = b) w { w with heap := w.heap.setIfInBounds b o } := fun o => ⟨rfl,rfl,rfl,by simp,fun q hq hs => by
  simp only
  rw [Array.getElem?_setIfInBounds_ne (Ne.symm hs)]⟩
 rcases find_keyM hu hf hk es.toList ht with ⟨j,e,hj,g2,g3⟩ | ⟨hj,g2⟩
 ·have hej : es[j]? = some e := by simpa using g2
  have hkt : (Instr.keyThatStays (((es[j]?).map (·.key)).getD k) k).run Tryz.prog w = .ok k w := by
   rw [hej]
   simp [Instr.keyThatStays,g3,hsb]
  have hmem : ∀ x,x ∈ (es.modify j fun e => { e with key := k,val := v }).toList ↔ ∃ i y,es[i]? = some y ∧ x = if j = i then { y with key := k,val := v } else y := fun x => by
   rw [Array.mem_toList_iff,Array.mem_iff_getElem?]
   constructor
   ·rintro ⟨i,hi⟩
    rw [Array.getElem?_modify] at hi
    split at hi
    ·rename_i hij
     subst hij
     rw [hej] at hi
     simp at hi
     exact ⟨j,e,hej,by rw [if_pos rfl]; exact hi.symm⟩
    ·rename_i hij
     exact ⟨i,x,hi,by rw [if_neg hij]⟩
   ·rintro ⟨i,y,hi,rfl⟩
    refine ⟨i,?_⟩
    rw [Array.getElem?_modify]
    split
    ·rename_i hij
     rw [hi]; rfl
    ·exact hi
  refine ⟨{ w with heap := w.heap.setIfInBounds b (.map (es.modify j fun e => { e with key := k,val := v }) c) },_,?_,⟨es.modify j fun e => { e with key := k,val := v },c,?_,rfl⟩,?_,?_,?_,hkp _,by simp⟩
  ·simp [Instr.mapUpdate,run_underlying hm,hgo,hc,hj,hkt,hse]
  ·simp [hlt]
  ·intro p hp
   obtain ⟨x,hx,rfl⟩ := List.mem_map.1 hp
   obtain ⟨i,y,hi,rfl⟩ := (hmem x).1 hx
   split
   ·exact .inr rfl
   ·exact .inl (List.mem_map.2 ⟨y,by rw [Array.mem_toList_iff]; exact Array.mem_of_getElem? hi,rfl⟩)
  ·exact List.mem_map.2 ⟨{ e with key := k,val := v },(hmem _).2 ⟨j,e,hej,by rw [if_pos rfl]⟩,rfl⟩
  ·intro p hp hne
   obtain ⟨x,hx,rfl⟩ := List.mem_map.1 hp
   rw [Array.mem_toList_iff,Array.mem_iff_getElem?] at hx
   obtain ⟨i,hi⟩ := hx
   refine List.mem_map.2 ⟨x,(hmem _).2 ⟨i,x,hi,?_⟩,rfl⟩
   rw [if_neg]
   intro hij
   subst hij
   rw [hej] at hi
   obtain rfl : e = x := by simpa using hi
   exact hne g3
 ·refine ⟨{ w with heap := w.heap.setIfInBounds b (.map (es.push { key := k,val := v,born := c }) (c + 1)) },_,?_,⟨es.push { key := k,val := v,born := c },c + 1,?_,rfl⟩,?_,?_,?_,hkp _,by simp⟩
  ·simp [Instr.mapUpdate,run_underlying hm,hgo,hc,hj,hse]
  ·simp [hlt]
  ·intro p hp
   simp only [Array.toList_push,List.map_append,List.map_cons,List.map_nil,List.mem_append,List.mem_singleton] at hp
   exact hp
  ·simp
  ·intro p hp _
   simp only [Array.toList_push,List.map_append,List.mem_append]
   exact .inl hp
end
end
section
def topT (b : Bool) (t : Tr) : Tr := if b then ⟨t.kind,t.n,t.s,t.es,[]⟩ else t
def cutT (b : Bool) : Nat → Tr → Tr
 | 0,t => t
 | n + 1,t => ⟨t.kind,t.n,t.s,t.es.map fun e => (e.1,e.2.map (cutT b n)),if b then [] else t.rest⟩
theorem topT_kind (b : Bool) (t : Tr) : (topT b t).kind = t.kind := by cases b <;> rfl
theorem topT_n (b : Bool) (t : Tr) : (topT b t).n = t.n := by cases b <;> rfl
theorem topT_s (b : Bool) (t : Tr) : (topT b t).s = t.s := by cases b <;> rfl
theorem topT_es (b : Bool) (t : Tr) : (topT b t).es = t.es := by cases b <;> rfl
theorem topT_rest (b : Bool) (t : Tr) : (topT b t).rest = if b then [] else t.rest := by cases b <;> rfl
theorem topT_dp {b : Bool} {n : Nat} {t : Tr} (h : DpN n t) : DpN n (topT b t) := by
 cases n with
 | zero => exact h
 | succ n =>
  intro e he x hx
  rw [topT_es] at he
  exact h e he x hx
theorem topT_cnt (b : Bool) (n : Nat) (t : Tr) : cntN n (topT b t) = cntN n t := by
 cases n with
 | zero => rfl
 | succ n => simp only [cntN,topT_es]
theorem topT_sm {b : Bool} {n : Nat} {t : Tr} (h : SmN n t) : SmN n (topT b t) := by
 cases n with
 | zero => exact h
 | succ n =>
  cases b with
  | false => exact h
  | true => exact ⟨h.1,by simp [topT],h.2.2.1,(fun f hf => by simp [topT] at hf),h.2.2.2.2⟩
theorem cutT_top (b : Bool) (n : Nat) (t : Tr) (h : DpN n t) : cutT b n (topT b t) = cutT b n t := by
 cases n with
 | zero => exact h.elim
 | succ n => cases b <;> simp [cutT,topT]
theorem cutT_false : ∀ (n : Nat) (t : Tr),cutT false n t = t
 | 0,t => rfl
 | n + 1,t => by
  have h : (t.es.map fun e => (e.1,e.2.map (cutT false n))) = t.es := by
   conv => rhs; rw [← List.map_id t.es]
   refine List.map_congr_left fun e _ => ?_
   have : e.2.map (cutT false n) = e.2 := by
    conv => rhs; rw [← List.map_id e.2]
    exact List.map_congr_left fun x _ => cutT_false n x
   rw [this]; rfl
  rw [cutT,h]
  clear h
  cases t
  rfl
theorem cutT_kind (b : Bool) (n : Nat) (t : Tr) : (cutT b n t).kind = t.kind := by cases n <;> rfl
end
section
open Go.ChangeShapes Go.WideShapes Go.ChangeAt Go.RowKit
set_option maxRecDepth 20000
def idnV (x : Idn) : Value := .agg (idC x).toArray
theorem idnV_inj {x y : Idn} : idnV x = idnV y ↔ x = y := by
 obtain ⟨k,n,s,⟨p1,c1⟩,⟨p2,c2⟩⟩ := x
 obtain ⟨k',n',s',⟨p1',c1'⟩,⟨p2',c2'⟩⟩ := y
 simp [idnV,idC]
 intro _ _ _
 constructor
 ·rintro ⟨h4,h5,h6,h7⟩; exact ⟨⟨h4,by omega⟩,h6,by omega⟩
 ·rintro ⟨⟨h4,h5⟩,h6,h7⟩; exact ⟨h4,by omega,h6,by omega⟩
set_option maxHeartbeats 2000000 in
theorem eql_idn (w : World) (x y : Idn) (hx : IdOk w x) (hy : IdOk w y) : (Op.equal 116 (idnV x) (idnV y)).run Tryz.prog w = .ok (decide (x.kind = y.kind ∧ x.n = y.n ∧ x.s = y.s ∧ x.e = y.e ∧ x.r = y.r)) w := by
 obtain ⟨k,n,s,⟨p1,c1⟩,⟨p2,c2⟩⟩ := x
 obtain ⟨k',n',s',⟨p1',c1'⟩,⟨p2',c2'⟩⟩ := y
 have h1 := fun d => eql_ptr w d p1 p1' hx.1 hy.1
 have h2 := fun d => eql_ptrR w d p2 p2' hx.2 hy.2
 by_cases e2 : k = k'
 ·by_cases e3 : n = n'
  ·by_cases e4 : s = s'
   ·by_cases e5 : p1 = p1'
    ·by_cases e6 : c1 = c1'
     ·by_cases e7 : p2 = p2'
      ·by_cases e8 : c2 = c2'
       ·subst e2 e3 e4 e5 e6 e7 e8
        simp [idnV,idC,Op.equal,Op.maxDepth,go_sem,h1,h2]
       ·have e9 : ¬ (c2 : Int) = (c2' : Int) := by omega
        subst e2 e3 e4 e5 e6 e7
        simp [idnV,idC,Op.equal,Op.maxDepth,go_sem,h1,h2,e8,e9]
      ·subst e2 e3 e4 e5 e6
       simp [idnV,idC,Op.equal,Op.maxDepth,go_sem,h1,h2,e7]
     ·have e9 : ¬ (c1 : Int) = (c1' : Int) := by omega
      subst e2 e3 e4 e5
      simp [idnV,idC,Op.equal,Op.maxDepth,go_sem,h1,h2,e6,e9]
    ·subst e2 e3 e4
     simp [idnV,idC,Op.equal,Op.maxDepth,go_sem,h1,h2,e5]
   ·have e9 := toList_ne e4
    subst e2 e3
    simp [idnV,idC,Op.equal,Op.maxDepth,go_sem,h1,h2,e4,e9]
  ·subst e2
   simp [idnV,idC,Op.equal,Op.maxDepth,go_sem,h1,h2,e3]
 ·simp [idnV,idC,Op.equal,Op.maxDepth,go_sem,h1,h2,e2]
theorem check_idn (w : World) (b : Bool) (x : Idn) : (Instr.checkKey b 10000 116 (idnV x)).run Tryz.prog w = .ok () w := by kernel_rfl
theorem same_idn (n : Nat) (x : Idn) : Instr.sameBits (n + 1) (idnV x) (idnV x) = true := by
 simp [idnV,idC,Instr.sameBits]
 have hb : ∀ s : ByteArray,(s == s) = true := fun ⟨d⟩ => by show (d == d) = true; simp
 exact hb _
theorem uMadeT : Tryz.prog.underlying 84 = some (.map 116 30) := by kernel_rfl
theorem zeroTr (w : World) : (zeroValue 30).run Tryz.prog w = .ok (.agg #[.int .i64 0,.int .i64 0,.string ⟨#[]⟩,.slice none 0 0,.slice none 0 0]) w := by kernel_rfl
structure Rec where
 n : Nat
 u : Tr
 ve : Value
 vr : Value
 nw : Value
 rs : Value
def Rec.cells (r : Rec) : List Value := [.int .i64 r.u.kind,.int .i64 r.u.n,.string r.u.s,r.ve,r.vr]
def Rec.out (r : Rec) : List Value := [.int .i64 r.u.kind,.int .i64 r.u.n,.string r.u.s,r.nw,r.rs]
def Rec.idn (r : Rec) : Idn := idOf r.u r.ve r.vr
theorem told_idn {w : World} {x : Idn} {M : List Rec} (hx : IdOk w x) (hL : ∀ r ∈ M,IdOk w r.idn) : Told 116 w (idnV x) ((M.map fun r => (idnV r.idn,Value.agg r.out.toArray)).map Prod.fst) := by
 intro q hq
 obtain ⟨p,hp,rfl⟩ := List.mem_map.1 hq
 obtain ⟨y,hy,rfl⟩ := List.mem_map.1 hp
 have h := eql_idn w x y.idn hx (hL y hy)
 constructor
 ·intro e
  rw [h,decide_eq_true]
  rw [idnV_inj.1 e]
  exact ⟨rfl,rfl,rfl,rfl,rfl⟩
 ·intro e
  rw [h,decide_eq_false]
  rintro ⟨e1,e2,e3,e4,e5⟩
  refine e (idnV_inj.2 ?_)
  show x = y.idn
  generalize y.idn = z at *
  cases x; cases z; simp_all
def CelT (w w' : World) : Prop := ∀ (k : Nat) (cs : Array Value) (t : TypeId),(t = 58 ∨ t = 30 ∨ t = 60) → Blk w k cs t → Blk w' k cs t
theorem CelT.refl (w : World) : CelT w w := fun _ _ _ _ h => h
theorem CelT.trans {a b c : World} (h : CelT a b) (k : CelT b c) : CelT a c := fun i cs t ht e => k i cs t ht (h i cs t ht e)
theorem CelT.ofBelow {w w' : World} (h : Below w.heap.size w w') : CelT w w' := fun k cs t _ e => e.below h
theorem CelT.ofKp {S : Nat → Prop} {w w' : World} (h : Kp S w w') (hs : ∀ k cs t,S k → (t = 58 ∨ t = 30 ∨ t = 60) → ¬ Blk w k cs t) : CelT w w' := fun k cs t ht e => e.kp h fun hk => hs k cs t hk ht e
theorem Blk.ne {w : World} {g k : Nat} {cs cs' : Array Value} {t t' : TypeId} (h : Blk w g cs t) (h' : Blk w k cs' t') (ht : t ≠ t') : g ≠ k := by
 rintro rfl
 unfold Blk at h h'
 rw [h] at h'
 simp at h'
 exact ht h'.2
theorem own_kpT {S : Nat → Prop} {w w' : World} {base e s n : Nat} {v : Value} {xs : List Value} (h : w.ownsRow base e s v n xs) (hk : Kp S w w') (hs : ∀ k,v.ownBlock = some k → ¬ S k) : w'.ownsRow base e s v n xs := by
 refine ⟨h.1,h.2.imp id ?_⟩
 rintro ⟨g,cap,cur,rfl,h1,h2,h3⟩
 exact ⟨g,cap,cur,rfl,h1,(hk.block g (Array.getElem?_eq_some_iff.1 h2).1 (hs g rfl)).trans h2,h3⟩
theorem own_typ {w : World} {base e s n k : Nat} {v : Value} {xs : List Value} (h : w.ownsRow base e s v n xs) (hk : v.ownBlock = some k) : ∃ cs,Blk w k cs e ∧ base ≤ k := by
 rcases h.2 with ⟨rfl,_⟩ | ⟨g,cap,cur,rfl,h1,h2,h3⟩
 ·cases hk
 ·obtain rfl : g = k := by simpa [Value.ownBlock] using hk
  exact ⟨cur,h2,h1⟩
theorem own_ne {w : World} {base e s n g : Nat} {v : Value} {xs : List Value} {cs : Array Value} {t : TypeId} (h : w.ownsRow base e s v n xs) (hB : Blk w g cs t) (ht : e ≠ t) : v.ownBlock ≠ some g := fun hk => by
 obtain ⟨cs',h1,_⟩ := own_typ h hk
 exact h1.ne hB ht rfl
theorem own_baseT {w : World} {base base' e s n : Nat} {v : Value} {xs : List Value} (h : w.ownsRow base e s v n xs) (hb : base' ≤ base) : w.ownsRow base' e s v n xs := by
 refine ⟨h.1,h.2.imp id ?_⟩
 rintro ⟨g,cap,cur,rfl,h1,h2⟩
 exact ⟨g,cap,cur,rfl,by omega,h2⟩
theorem own_celT {w w' : World} {base e s n : Nat} {v : Value} {xs : List Value} (h : w.ownsRow base e s v n xs) (he : e = 58 ∨ e = 30 ∨ e = 60) (hc : CelT w w') : w'.ownsRow base e s v n xs := by
 refine ⟨h.1,h.2.imp id ?_⟩
 rintro ⟨g,cap,cur,rfl,h1,h2,h3⟩
 exact ⟨g,cap,cur,rfl,h1,hc g cur e he h2,h3⟩
def OutOf (b : Bool) (R : List Rec) (r : List Value) (x : Tr) : Prop :=
 ((topT b x).es = [] ∧ (topT b x).rest = [] ∧ r = [.int .i64 x.kind,.int .i64 x.n,.string x.s,.slice none 0 0,.slice none 0 0] ∧ Is64 x.kind ∧ Is64 x.n ∧ x.s.size ≤ 140737488351232) ∨ ∃ q ∈ R,q.u = topT b x ∧ r = q.out
theorem OutOf.mono {b : Bool} {R R' : List Rec} {r : List Value} {x : Tr} (h : OutOf b R r x) (hs : ∀ q ∈ R,q ∈ R') : OutOf b R' r x := by
 rcases h with h | ⟨q,h1,h2⟩
 ·exact .inl h
 ·exact .inr ⟨q,hs q h1,h2⟩
def TrsM (b : Bool) (W0 w : World) (R : List Rec) (vt : Value) (ts : List Tr) : Prop :=
 ∃ rows : List (List Value),w.ownsRow W0.heap.size 30 5 vt ts.length rows.flatten ∧ rows.length = ts.length ∧ (∀ r ∈ rows,r.length = 5) ∧ ∀ (i : Nat) (x : Tr),ts[i]? = some x → ∃ r,rows[i]? = some r ∧ OutOf b R r x
theorem TrsM.mono {b : Bool} {W0 w : World} {R R' : List Rec} {vt : Value} {ts : List Tr} (h : TrsM b W0 w R vt ts) (hs : ∀ q ∈ R,q ∈ R') : TrsM b W0 w R' vt ts := by
 obtain ⟨rows,h1,h2,h3,h4⟩ := h
 refine ⟨rows,h1,h2,h3,fun i x hx => ?_⟩
 obtain ⟨r,g1,g2⟩ := h4 i x hx
 exact ⟨r,g1,g2.mono hs⟩
theorem TrsM.celT {b : Bool} {W0 w w' : World} {R : List Rec} {vt : Value} {ts : List Tr} (h : TrsM b W0 w R vt ts) (hc : CelT w w') : TrsM b W0 w' R vt ts := by
 obtain ⟨rows,h1,h2⟩ := h
 exact ⟨rows,own_celT h1 (.inr (.inl rfl)) hc,h2⟩
theorem TrsM.kp {b : Bool} {W0 w w' : World} {R : List Rec} {vt : Value} {ts : List Tr} {g : Nat} {cs : Array Value} {t : TypeId} (h : TrsM b W0 w R vt ts) (hk : Kp (fun q => q = g) w w') (hB : Blk w g cs t) (ht : 30 ≠ t) : TrsM b W0 w' R vt ts := by
 obtain ⟨rows,h1,h2⟩ := h
 exact ⟨rows,own_kpT h1 hk fun k e1 e2 => by subst e2; exact own_ne h1 hB ht e1,h2⟩
def Fil (b : Bool) (W0 w : World) (R : List Rec) (r : Rec) (i : Nat) : Prop :=
 ∃ rows : List (List Value),w.ownsRow W0.heap.size 58 2 r.nw r.u.es.length rows.flatten ∧ rows.length = r.u.es.length ∧ (∀ q ∈ rows,q.length = 2) ∧ ∀ (k : Nat) (e : Int × List Tr),k < i → r.u.es[k]? = some e → ∃ vt,rows[k]? = some [.int .i64 e.1,vt] ∧ TrsM b W0 w R vt e.2
theorem Fil.mono {b : Bool} {W0 w : World} {R R' : List Rec} {r : Rec} {i : Nat} (h : Fil b W0 w R r i) (hs : ∀ q ∈ R,q ∈ R') : Fil b W0 w R' r i := by
 obtain ⟨rows,h1,h2,h3,h4⟩ := h
 refine ⟨rows,h1,h2,h3,fun k e hk he => ?_⟩
 obtain ⟨vt,g1,g2⟩ := h4 k e hk he
 exact ⟨vt,g1,g2.mono hs⟩
theorem Fil.zero {b : Bool} {W0 w : World} {R : List Rec} {r : Rec} {i : Nat} (h : Fil b W0 w R r i) (R' : List Rec) : Fil b W0 w R' r 0 := by
 obtain ⟨rows,h1,h2,h3,h4⟩ := h
 exact ⟨rows,h1,h2,h3,fun k e hk _ => by omega⟩
theorem Fil.celT {b : Bool} {W0 w w' : World} {R : List Rec} {r : Rec} {i : Nat} (h : Fil b W0 w R r i) (hc : CelT w w') : Fil b W0 w' R r i := by
 obtain ⟨rows,h1,h2,h3,h4⟩ := h
 refine ⟨rows,own_celT h1 (.inl rfl) hc,h2,h3,fun k e hk he => ?_⟩
 obtain ⟨vt,g1,g2⟩ := h4 k e hk he
 exact ⟨vt,g1,g2.celT hc⟩
theorem Fil.kp {b : Bool} {W0 w w' : World} {R : List Rec} {r : Rec} {i g : Nat} {cs : Array Value} (h : Fil b W0 w R r i) (hk : Kp (fun q => q = g) w w') (hB : Blk w g cs 58) (hne : r.nw.ownBlock ≠ some g) : Fil b W0 w' R r i := by
 obtain ⟨rows,h1,h2,h3,h4⟩ := h
 refine ⟨rows,own_kpT h1 hk fun k e1 e2 => by subst e2; exact hne e1,h2,h3,fun k e hk' he => ?_⟩
 obtain ⟨vt,g1,g2⟩ := h4 k e hk' he
 exact ⟨vt,g1,g2.kp hk hB (by decide)⟩
structure RecOk (b : Bool) (W0 w : World) (r : Rec) : Prop where
 src : TrR r.n W0 r.cells r.u
 rs : w.ownsRow W0.heap.size 60 4 r.rs r.u.rest.length (rawCells r.u.rest)
 room : Fil b W0 w [] r 0
 bare : b = true → r.u.rest = []
 sm : SmN r.n r.u
theorem RecOk.celT {b : Bool} {W0 w w' : World} {r : Rec} (h : RecOk b W0 w r) (hc : CelT w w') : RecOk b W0 w' r := ⟨h.src,own_celT h.rs (.inr (.inr rfl)) hc,h.room.celT hc,h.bare,h.sm⟩
structure CyS (b : Bool) (W0 w : World) (cb mb : Nat) (lv : Value) (R L : List Rec) : Prop where
 blk : Blk w cb #[.bool b,.map (some mb),lv] 87
 cb0 : W0.heap.size ≤ cb
 mb0 : W0.heap.size ≤ mb
 below : Below W0.heap.size W0 w
 made : ∃ M : List Rec,PlMap w mb (M.map fun r => (idnV r.idn,Value.agg r.out.toArray)) ∧ ∀ r ∈ M,r ∈ R
 left : w.ownsRow W0.heap.size 130 2 lv L.length (L.flatMap fun r => [r.ve,r.nw])
 sub : ∀ r ∈ L,r ∈ R ∧ r.u.es ≠ []
 recs : ∀ r ∈ R,RecOk b W0 w r
 apart : ∀ r ∈ R,∀ q ∈ R,∀ k,r.nw.ownBlock = some k → q.nw.ownBlock = some k → r = q
def FrU (lv lv' : Value) (w w' : World) : Prop := ∀ (k : Nat) (cs : Array Value),Blk w k cs 130 → lv.ownBlock ≠ some k → Blk w' k cs 130 ∧ lv'.ownBlock ≠ some k
theorem FrU.trans {l1 l2 l3 : Value} {a b c : World} (h : FrU l1 l2 a b) (k : FrU l2 l3 b c) : FrU l1 l3 a c := fun i cs h1 h2 => k i cs (h i cs h1 h2).1 (h i cs h1 h2).2
theorem FrU.ofBelow (lv : Value) {w w' : World} (h : Below w.heap.size w w') : FrU lv lv w w' := fun k cs h1 h2 => ⟨h1.below h,h2⟩
theorem FrU.ofKp (lv : Value) {w w' : World} {g : Nat} {cs : Array Value} {t : TypeId} (h : Kp (fun q => q = g) w w') (hB : Blk w g cs t) (ht : 130 ≠ t) : FrU lv lv w w' := fun k cs h1 h2 => ⟨h1.kp h (fun e => h1.ne hB ht e),h2⟩
def CelR (w w' : World) : Prop := ∀ (k : Nat) (cs : Array Value),Blk w k cs 30 → Blk w' k cs 30
theorem CelR.refl (w : World) : CelR w w := fun _ _ h => h
theorem CelR.trans {a b c : World} (h : CelR a b) (k : CelR b c) : CelR a c := fun i cs e => k i cs (h i cs e)
theorem CelT.celR {w w' : World} (h : CelT w w') : CelR w w' := fun k cs e => h k cs _ (.inr (.inl rfl)) e
theorem CelR.ofKp {w w' : World} {g : Nat} {cs : Array Value} {t : TypeId} (h : Kp (fun q => q = g) w w') (hB : Blk w g cs t) (ht : 30 ≠ t) : CelR w w' := fun k cs h1 => h1.kp h (fun e => h1.ne hB ht e)
theorem TrsM.celR {b : Bool} {W0 w w' : World} {R : List Rec} {vt : Value} {ts : List Tr} (h : TrsM b W0 w R vt ts) (hc : CelR w w') : TrsM b W0 w' R vt ts := by
 obtain ⟨rows,h1,h2⟩ := h
 refine ⟨rows,⟨h1.1,h1.2.imp id ?_⟩,h2⟩
 rintro ⟨g,cap,cur,rfl,k1,k2,k3⟩
 exact ⟨g,cap,cur,rfl,k1,hc g cur k2,k3⟩
theorem PlMap.neOwn {w : World} {mb : Nat} {L : List (Value × Value)} (h : PlMap w mb L) {base e s n : Nat} {v : Value} {xs : List Value} (ho : w.ownsRow base e s v n xs) : v.ownBlock ≠ some mb := fun hk => by
 obtain ⟨cs,h1,_⟩ := own_typ ho hk
 exact h.neB h1 rfl
theorem CyS.keep {b : Bool} {W0 w w' : World} {cb mb : Nat} {lv : Value} {R L : List Rec} {S : Nat → Prop} (h : CyS b W0 w cb mb lv R L) (hk : Kp S w w') (h0 : ∀ k,S k → W0.heap.size ≤ k) (h1 : ¬ S cb) (h2 : ¬ S mb) (h3 : ∀ k,S k → lv.ownBlock ≠ some k) (h4 : ∀ r ∈ R,RecOk b W0 w' r) : CyS b W0 w' cb mb lv R L := by
 obtain ⟨M,m1,m2⟩ := h.made
 exact ⟨h.blk.kp hk h1,h.cb0,h.mb0,h.below.trans (hk.toBelow h.below.size h0),⟨M,m1.kp hk h2,m2⟩,own_kpT h.left hk fun k e1 e2 => h3 k e2 e1,h.sub,h4,h.apart⟩
theorem CyS.mk_below {b : Bool} {W0 w w' : World} {cb mb : Nat} {lv : Value} {R L : List Rec} (h : CyS b W0 w cb mb lv R L) (hb : Below w.heap.size w w') : CyS b W0 w' cb mb lv R L :=
 h.keep (S := fun _ => False) (Kp.ofBelow hb) (fun _ e => e.elim) (fun e => e) (fun e => e) (fun _ e => e.elim) fun r hr => (h.recs r hr).celT (CelT.ofBelow hb)
theorem CyS.keepT {b : Bool} {W0 w w' : World} {cb mb : Nat} {lv : Value} {R L : List Rec} {g : Nat} {cs : Array Value} (h : CyS b W0 w cb mb lv R L) (hk : Kp (fun q => q = g) w w') (hB : Blk w g cs 30) (h0 : W0.heap.size ≤ g) : CyS b W0 w' cb mb lv R L := by
 obtain ⟨M,m1,m2⟩ := h.made
 refine h.keep hk (fun k e => by rw [e]; exact h0) (fun e => h.blk.ne hB (by decide) e) (fun e => m1.neB hB e.symm) (fun k e => by rw [e]; exact own_ne h.left hB (by decide)) fun r hr => ?_
 have hr' := h.recs r hr
 refine ⟨hr'.src,own_kpT hr'.rs hk fun k e1 e2 => by rw [e2] at e1; exact own_ne hr'.rs hB (by decide) e1,?_,hr'.bare,hr'.sm⟩
 obtain ⟨rows,q1,q2,q3,q4⟩ := hr'.room
 exact ⟨rows,own_kpT q1 hk fun k e1 e2 => by rw [e2] at e1; exact own_ne q1 hB (by decide) e1,q2,q3,fun k e hk _ => by omega⟩
theorem CyS.keepE {b : Bool} {W0 w w' : World} {cb mb : Nat} {lv : Value} {R L : List Rec} {g : Nat} {cs : Array Value} {c : Rec} (h : CyS b W0 w cb mb lv R L) (hk : Kp (fun q => q = g) w w') (hB : Blk w g cs 58) (hc : c ∈ R) (hg : c.nw.ownBlock = some g) {i : Nat} {R' : List Rec} (hf : Fil b W0 w' R' c i) : CyS b W0 w' cb mb lv R L := by
 obtain ⟨M,m1,m2⟩ := h.made
 have h0 : W0.heap.size ≤ g := by
  obtain ⟨rows,q1,_⟩ := (h.recs c hc).room
  obtain ⟨_,_,h1⟩ := own_typ q1 hg
  exact h1
 refine h.keep hk (fun k e => by rw [e]; exact h0) (fun e => h.blk.ne hB (by decide) e) (fun e => m1.neB hB e.symm) (fun k e => by rw [e]; exact own_ne h.left hB (by decide)) fun r hr => ?_
 have hr' := h.recs r hr
 refine ⟨hr'.src,own_kpT hr'.rs hk fun k e1 e2 => by rw [e2] at e1; exact own_ne hr'.rs hB (by decide) e1,?_,hr'.bare,hr'.sm⟩
 by_cases hrg : r.nw.ownBlock = some g
 ·obtain rfl := h.apart r hr c hc g hrg hg
  exact hf.zero []
 ·exact (hr'.room).kp hk hB hrg
theorem Rec.trI {W0 : World} {r : Rec} (h : TrR r.n W0 r.cells r.u) : TrI r.n W0 r.idn r.u := ⟨r.ve,r.vr,rfl,h⟩
theorem CyS.look {b : Bool} {W0 w : World} {cb mb n : Nat} {lv : Value} {R L : List Rec} (h : CyS b W0 w cb mb lv R L) {x : Idn} {u : Tr} (hu : TrI n W0 x u) :
  (∃ q ∈ R,q.u = u ∧ (Instr.lookup 84 (.map (some mb)) (idnV x) true).run Tryz.prog w = .ok (.tuple #[.agg q.out.toArray,.bool true]) w) ∨
  (Instr.lookup 84 (.map (some mb)) (idnV x) true).run Tryz.prog w = .ok (.tuple #[.agg #[.int .i64 0,.int .i64 0,.string ⟨#[]⟩,.slice none 0 0,.slice none 0 0],.bool false]) w := by
 obtain ⟨M,m1,m2⟩ := h.made
 have hc := Cel.ofBelow h.below
 have hT := told_idn (M := M) (hu.cel hc).ok fun r hr => ((Rec.trI (h.recs r (m2 r hr)).src).cel hc).ok
 rcases look_map (k := idnV x) uMadeT zeroTr Tryz.underlying116 (fun _ _ => rfl) (ks := (idC x).toArray) rfl (fun e => check_idn w e x) m1 hT with ⟨v,hv,hr⟩ | ⟨_,hr⟩
 ·obtain ⟨q,hq,e⟩ := List.mem_map.1 hv
  simp only [Prod.mk.injEq] at e
  obtain ⟨e1,rfl⟩ := e
  have hq' := Rec.trI (h.recs q (m2 q hq)).src
  rw [idnV_inj.1 e1] at hq'
  exact .inl ⟨q,m2 q hq,(hu.uniq hq').symm,hr⟩
 ·exact .inr hr
theorem CyS.update {b : Bool} {W0 w : World} {cb mb : Nat} {lv : Value} {R L : List Rec} (h : CyS b W0 w cb mb lv R L) {r : Rec} (hr : r ∈ R) :
  ∃ w',(Instr.mapUpdate 84 (.map (some mb)) (idnV r.idn) (.agg r.out.toArray)).run Tryz.prog w = .ok () w' ∧ CyS b W0 w' cb mb lv R L ∧ Kp (fun q => q = mb) w w' ∧ CelT w w' := by
 obtain ⟨M,m1,m2⟩ := h.made
 have hc := Cel.ofBelow h.below
 have hT := told_idn (M := M) ((Rec.trI (h.recs r hr).src).cel hc).ok fun r hr => ((Rec.trI (h.recs r (m2 r hr)).src).cel hc).ok
 obtain ⟨w',L',e1,e2,e3,_,_,e4,_⟩ := update_map (k := idnV r.idn) uMadeT Tryz.underlying116 (fun _ _ => rfl) (ks := (idC r.idn).toArray) rfl (same_idn 9999 r.idn) (fun e => check_idn w e r.idn) m1 hT (.agg r.out.toArray)
 have hall : ∀ l : List (Value × Value),(∀ p ∈ l,∃ q ∈ R,p = (idnV q.idn,Value.agg q.out.toArray)) → ∃ M' : List Rec,l = (M'.map fun r => (idnV r.idn,Value.agg r.out.toArray)) ∧ ∀ q ∈ M',q ∈ R := fun l => by
  induction l with
  | nil => exact fun _ => ⟨[],rfl,by simp⟩
  | cons p l ih =>
   intro hl
   obtain ⟨M',g1,g2⟩ := ih fun p hp => hl p (List.mem_cons_of_mem _ hp)
   obtain ⟨q,g3,g4⟩ := hl p (List.mem_cons_self ..)
   refine ⟨q :: M',by rw [List.map_cons,← g1,← g4],fun z hz => ?_⟩
   rcases List.mem_cons.1 hz with rfl | hz
   ·exact g3
   ·exact g2 z hz
 obtain ⟨M',g1,g2⟩ := hall L' fun p hp => by
  rcases e3 p hp with hp | rfl
  ·obtain ⟨q,hq,rfl⟩ := List.mem_map.1 hp
   exact ⟨q,m2 q hq,rfl⟩
  ·exact ⟨r,hr,rfl⟩
 have hcel : CelT w w' := CelT.ofKp e4 fun k cs t hk _ hB => m1.neB hB hk
 refine ⟨w',e1,?_,e4,hcel⟩
 exact ⟨h.blk.kp e4 (fun e => m1.neB h.blk e),h.cb0,h.mb0,h.below.trans (e4.toBelow h.below.size fun k e => by rw [e]; exact h.mb0),⟨M',g1 ▸ e2,g2⟩,own_kpT h.left e4 fun k k1 k2 => by rw [k2] at k1; exact m1.neOwn h.left k1,h.sub,fun q hq => (h.recs q hq).celT hcel,h.apart⟩
theorem flat_more (L : List Rec) (r : Rec) : ((L ++ [r]).flatMap fun r => [r.ve,r.nw]) = (L.flatMap fun r => [r.ve,r.nw]) ++ [r.ve,r.nw] := by simp
theorem CyS.add {b : Bool} {W0 w w' : World} {cb mb : Nat} {lv lv' : Value} {R L : List Rec} {r : Rec} (h : CyS b W0 w cb mb lv R L) (hk : Kp (fun q => q = cb ∨ lv.ownBlock = some q) w w') (hB : Blk w' cb #[.bool b,.map (some mb),lv'] 87)
  (hl : w'.ownsRow W0.heap.size 130 2 lv' (L.length + 1) ((L.flatMap fun r => [r.ve,r.nw]) ++ [r.ve,r.nw])) (hr : RecOk b W0 w' r) (hne : r.u.es ≠ []) (hnew : ∀ k,r.nw.ownBlock = some k → w.heap.size ≤ k) : CyS b W0 w' cb mb lv' (R ++ [r]) (L ++ [r]) ∧ CelT w w' := by
 obtain ⟨M,m1,m2⟩ := h.made
 have hcel : CelT w w' := CelT.ofKp hk fun k cs t hk' ht hB' => by
  rcases hk' with rfl | e
  ·exact h.blk.ne hB' (by rcases ht with rfl | rfl | rfl <;> decide) rfl
  ·exact own_ne h.left hB' (by rcases ht with rfl | rfl | rfl <;> decide) e
 have hold : ∀ q ∈ R,∀ k,q.nw.ownBlock = some k → k < w.heap.size := fun q hq k e => by
  obtain ⟨rows,q1,_⟩ := (h.recs q hq).room
  obtain ⟨cs,g1,_⟩ := own_typ q1 e
  exact g1.lt
 refine ⟨⟨hB,h.cb0,h.mb0,h.below.trans (hk.toBelow h.below.size fun k e => ?_),⟨M,m1.kp hk ?_,fun q hq => List.mem_append.2 (.inl (m2 q hq))⟩,?_,?_,?_,?_⟩,hcel⟩
 ·rcases e with rfl | e
  ·exact h.cb0
  ·obtain ⟨_,_,g⟩ := own_typ h.left e
   exact g
 ·rintro (e | e)
  ·exact m1.neB h.blk e.symm
  ·exact m1.neOwn h.left e
 ·rw [flat_more,List.length_append]; exact hl
 ·intro q hq
  rcases List.mem_append.1 hq with hq | hq
  ·exact ⟨List.mem_append.2 (.inl (h.sub q hq).1),(h.sub q hq).2⟩
  ·obtain rfl : q = r := by simpa using hq
   exact ⟨List.mem_append.2 (.inr (by simp)),hne⟩
 ·intro q hq
  rcases List.mem_append.1 hq with hq | hq
  ·exact (h.recs q hq).celT hcel
  ·obtain rfl : q = r := by simpa using hq
   exact hr
 ·intro p hp0 q hq0 k e1 e2
  rcases List.mem_append.1 hp0 with hp | hp
  ·rcases List.mem_append.1 hq0 with hq | hq
   ·exact h.apart p hp q hq k e1 e2
   ·have hqr := List.mem_singleton.1 hq
    have h1 := hold p hp k e1
    rw [hqr] at e2
    have h2 := hnew k e2
    omega
  ·have hpr := List.mem_singleton.1 hp
   rcases List.mem_append.1 hq0 with hq | hq
   ·have h1 := hold q hq k e2
    rw [hpr] at e1
    have h2 := hnew k e1
    omega
   ·rw [hpr,List.mem_singleton.1 hq]
theorem CyS.addR {b : Bool} {W0 w w' : World} {cb mb : Nat} {lv : Value} {R L : List Rec} {r : Rec} (h : CyS b W0 w cb mb lv R L) (hk : Below w.heap.size w w') (hr : RecOk b W0 w' r) (hto : r.nw = .slice none 0 0) : CyS b W0 w' cb mb lv (R ++ [r]) L := by
 have h' := h.mk_below hk
 obtain ⟨M,m1,m2⟩ := h'.made
 refine ⟨h'.blk,h'.cb0,h'.mb0,h'.below,⟨M,m1,fun q hq => List.mem_append.2 (.inl (m2 q hq))⟩,h'.left,fun q hq => ⟨List.mem_append.2 (.inl (h'.sub q hq).1),(h'.sub q hq).2⟩,fun q hq => ?_,fun p hp0 q hq0 k e1 e2 => ?_⟩
 ·rcases List.mem_append.1 hq with hq | hq
  ·exact h'.recs q hq
  ·rw [List.mem_singleton.1 hq]
   exact hr
 ·rcases List.mem_append.1 hp0 with hp | hp
  ·rcases List.mem_append.1 hq0 with hq | hq
   ·exact h'.apart p hp q hq k e1 e2
   ·rw [List.mem_singleton.1 hq,hto] at e2
    cases e2
  ·rw [List.mem_singleton.1 hp,hto] at e1
   cases e1
theorem own_shorter {w : World} {base e s n cap : Nat} {a : Option Addr} {xs ys : List Value} (h : w.ownsRow base e s (.slice a (n + 1) cap) (n + 1) (xs ++ ys)) (hx : xs.length = n * s) : w.ownsRow base e s (.slice a n cap) n xs := by
 rcases h.2 with ⟨e1,_⟩ | ⟨g,c,cur,e1,h1,h2,h3,h4,h5,h6⟩
 ·simp at e1
 ·simp only [Value.slice.injEq,true_and] at e1
  obtain ⟨rfl,rfl⟩ := e1
  refine ⟨hx,.inr ⟨g,cap,cur,rfl,h1,h2,by omega,h4,h5,?_⟩⟩
  have h7 := congrArg (List.take (n * s)) h6
  rw [List.take_take,Nat.min_eq_left (Nat.mul_le_mul_right _ (by omega)),List.take_left' hx] at h7
  exact h7
theorem flatM_len (L : List Rec) : (L.flatMap fun r => [r.ve,r.nw]).length = L.length * 2 := by
 induction L with
 | nil => rfl
 | cons r l ih => simp only [List.flatMap_cons,List.length_append,ih,List.length_cons,List.length_nil]; omega
theorem CyS.pop {b : Bool} {W0 w w' : World} {cb mb cap : Nat} {a : Option Addr} {R L : List Rec} {c : Rec} (h : CyS b W0 w cb mb (.slice a (L.length + 1) cap) R (L ++ [c])) (hk : Kp (fun q => q = cb) w w') (hB : Blk w' cb #[.bool b,.map (some mb),.slice a L.length cap] 87) : CyS b W0 w' cb mb (.slice a L.length cap) R L ∧ CelT w w' := by
 obtain ⟨M,m1,m2⟩ := h.made
 have hcel : CelT w w' := CelT.ofKp hk fun k cs t hk' ht hB' => by
  subst hk'
  exact h.blk.ne hB' (by rcases ht with rfl | rfl | rfl <;> decide) rfl
 have hl := h.left
 rw [flat_more,List.length_append] at hl
 have hl2 := own_shorter hl (flatM_len L)
 refine ⟨⟨hB,h.cb0,h.mb0,h.below.trans (hk.toBelow h.below.size fun k e => by rw [e]; exact h.cb0),⟨M,m1.kp hk (fun e => m1.neB h.blk e.symm),m2⟩,own_kpT hl2 hk fun k e1 e2 => ?_,fun q hq => h.sub q (List.mem_append.2 (.inl hq)),fun q hq => (h.recs q hq).celT hcel,h.apart⟩,hcel⟩
 rw [e2] at e1
 exact own_ne hl2 h.blk (by decide) e1
theorem fil_read {b : Bool} {W0 w : World} {R : List Rec} (hR : ∀ r ∈ R,RecOk b W0 w r ∧ Fil b W0 w R r r.u.es.length) : ∀ (n : Nat) (r : Rec),r ∈ R → DpN n r.u → TrR n w r.out (cutT b n r.u)
 | 0,_,_,h => h.elim
 | n + 1,r,hr,hd => by
  obtain ⟨hok,rows,f1,f2,f3,f4⟩ := hR r hr
  have hsrc := hok.src
  obtain ⟨m,hm⟩ : ∃ m,r.n = m + 1 := by
   cases h : r.n with
   | zero => rw [h] at hsrc; exact hsrc.elim
   | succ m => exact ⟨m,rfl⟩
  rw [hm] at hsrc
  obtain ⟨ve,vr,s1,s2,s3,s4,s5,s6,s7,s8,s9⟩ := hsrc
  have hrest : (cutT b (n + 1) r.u).rest = r.u.rest := by
   cases hb : b with
   | false => rfl
   | true => rw [hok.bare hb]; rfl
  refine ⟨r.nw,r.rs,rfl,s2,s3,s4,by rw [hrest]; exact s5,by rw [hrest]; exact own_rest hok.rs,⟨rows,(RowG.own f3 (by decide) f1).1,by rw [f2]; simp [cutT],fun i x hx => ?_⟩,own_pln f1,own_pln hok.rs⟩
  simp only [cutT,List.getElem?_map,Option.map_eq_some_iff] at hx
  obtain ⟨e,he,rfl⟩ := hx
  obtain ⟨vt,g1,rws,g2,g3,g4,g5⟩ := f4 i e (List.getElem?_eq_some_iff.1 he).1 he
  have hee := List.mem_of_getElem? he
  have h64 : Is64 e.1 := by
   obtain ⟨q,vt',_,h,_⟩ := s7.all e hee
   exact h
  refine ⟨_,g1,vt,rfl,h64,rws,(RowG.own g4 (by decide) g2).1,by rw [g3]; simp,fun j y hy => ?_⟩
  simp only [List.getElem?_map,Option.map_eq_some_iff] at hy
  obtain ⟨x,hx,rfl⟩ := hy
  obtain ⟨c,c1,c2⟩ := g5 j x hx
  refine ⟨c,c1,?_⟩
  have hdx : DpN n x := hd e hee x (List.mem_of_getElem? hx)
  rcases c2 with ⟨k1,k2,k3,k4,k5,k6⟩ | ⟨q,k1,k2,k3⟩
  ·cases n with
   | zero => exact hdx.elim
   | succ n =>
    rw [topT_es] at k1
    rw [topT_rest] at k2
    refine ⟨.slice none 0 0,.slice none 0 0,k3,k4,k5,k6,?_,?_,?_,(fun _ _ _ _ e => by cases e),fun _ _ _ _ e => by cases e⟩
    ·show Fd64 (if b then [] else x.rest)
     rw [k2]; intro f hf; cases hf
    ·show RowG w _ 4 (fdRows (if b then [] else x.rest))
     rw [k2]; exact RowG.nil _ _
    ·show RowP _ w 2 _ (x.es.map _)
     rw [k1]; exact RowP.nil _ _ _
  ·have hq := fil_read hR n q k1 (by rw [k2]; exact topT_dp hdx)
   rw [k3]
   rw [k2,cutT_top b n x hdx] at hq
   exact hq
theorem out_read {b : Bool} {W0 w : World} {R : List Rec} (hR : ∀ r ∈ R,RecOk b W0 w r ∧ Fil b W0 w R r r.u.es.length) {n : Nat} {c : List Value} {x : Tr} (hx : OutOf b R c x) (hd : DpN n x) : TrR n w c (cutT b n x) := by
 rcases hx with ⟨k1,k2,k3,k4,k5,k6⟩ | ⟨q,k1,k2,k3⟩
 ·cases n with
  | zero => exact hd.elim
  | succ n =>
   rw [topT_es] at k1
   rw [topT_rest] at k2
   refine ⟨.slice none 0 0,.slice none 0 0,k3,k4,k5,k6,?_,?_,?_,(fun _ _ _ _ e => by cases e),fun _ _ _ _ e => by cases e⟩
   ·show Fd64 (if b then [] else x.rest)
    rw [k2]; intro f hf; cases hf
   ·show RowG w _ 4 (fdRows (if b then [] else x.rest))
    rw [k2]; exact RowG.nil _ _
   ·show RowP _ w 2 _ (x.es.map _)
    rw [k1]; exact RowP.nil _ _ _
 ·have hq := fil_read hR n q k1 (by rw [k2]; exact topT_dp hd)
  rw [k3]
  rw [k2,cutT_top b n x hd] at hq
  exact hq
theorem trsM_read {b : Bool} {W0 w : World} {R : List Rec} (hR : ∀ r ∈ R,RecOk b W0 w r ∧ Fil b W0 w R r r.u.es.length) {n : Nat} {v : Value} {ts : List Tr} (h : TrsM b W0 w R v ts) (hd : ∀ x ∈ ts,DpN n x) : TrsR n w v (ts.map (cutT b n)) := by
 obtain ⟨rows,h1,h2,h3,h4⟩ := h
 refine ⟨rows,(RowG.own h3 (by decide) h1).1,by rw [h2]; simp,fun i y hy => ?_⟩
 simp only [List.getElem?_map,Option.map_eq_some_iff] at hy
 obtain ⟨x,hx,rfl⟩ := hy
 obtain ⟨c,c1,c2⟩ := h4 i x hx
 exact ⟨c,c1,out_read hR c2 (hd x (List.mem_of_getElem? hx))⟩
theorem own_low {w w' : World} {base e s n g : Nat} {v : Value} {xs : List Value} (h : w.ownsRow base e s v n xs) (hk : Kp (fun q => q = g) w w') (hg : g < base) : w'.ownsRow base e s v n xs := own_kpT h hk fun k e1 e2 => by
 obtain ⟨_,_,h1⟩ := own_typ h e1
 omega
theorem TrsM.low {b : Bool} {W0 w w' : World} {R : List Rec} {vt : Value} {ts : List Tr} {g : Nat} (h : TrsM b W0 w R vt ts) (hk : Kp (fun q => q = g) w w') (hg : g < W0.heap.size) : TrsM b W0 w' R vt ts := by
 obtain ⟨rows,h1,h2⟩ := h
 exact ⟨rows,own_low h1 hk hg,h2⟩
theorem Fil.low {b : Bool} {W0 w w' : World} {R : List Rec} {r : Rec} {i g : Nat} (h : Fil b W0 w R r i) (hk : Kp (fun q => q = g) w w') (hg : g < W0.heap.size) : Fil b W0 w' R r i := by
 obtain ⟨rows,h1,h2,h3,h4⟩ := h
 refine ⟨rows,own_low h1 hk hg,h2,h3,fun k e hk' he => ?_⟩
 obtain ⟨vt,g1,g2⟩ := h4 k e hk' he
 exact ⟨vt,g1,g2.low hk hg⟩
theorem RecOk.low {b : Bool} {W0 w w' : World} {r : Rec} {g : Nat} (h : RecOk b W0 w r) (hk : Kp (fun q => q = g) w w') (hg : g < W0.heap.size) : RecOk b W0 w' r := ⟨h.src,own_low h.rs hk hg,h.room.low hk hg,h.bare,h.sm⟩
def wgt (L : List Rec) : Nat := (L.map fun r => cntN r.n r.u).sum
theorem wgt_app (a b : List Rec) : wgt (a ++ b) = wgt a + wgt b := by simp [wgt]
theorem fdr_one (fs : List Fd) : ∀ u ∈ (fdRows fs).flatten,u.oneCell' = true := by
 rw [← rawCells_flat]; exact rawCells_one fs
set_option maxHeartbeats 1000000 in
theorem traws_any {w : World} {v : Value} {l : List Fd} (hr : RowG w v 4 (fdRows l)) (hl : l.length ≤ 900000) :
  Calls Tryz.prog 32 #[v] w fun e w' => ∃ r,e = .returned r ∧ w'.ownsRow w.heap.size 60 4 r l.length (rawCells l) ∧ Below w.heap.size w w' := by
 have hN : (fdRows l).length = l.length := by simp [fdRows]
 have HN : Hid ((fdRows l).length = l.length) := hN
 have HR : Hid (RowG w v 4 (fdRows l)) := hr
 have HL : Hid (l.length ≤ 900000) := hl
 clear hr hN hl
 go_enter Tryz.func32,Tryz.ntmps32
 go_wp2_with (first
  | (at_builtin; refine wpList_joinG rfl _ _ 28 60 4 40 _ rfl Tryz.underlying28 infoRaw rfl (by decide) w.heap.size (.slice none 0 0) 0 [] rfl (World.ownsRow_nil _ _ _ _) v (fdRows l) rfl HR.out (fdr_len l) (fdr_one l) ?c1 (by decide) (Nat.le_refl _) ?_)
  | fail)
 case c1 => have h1 := HN.out; have h2 := HL.out; omega
 intro r w1 ho hg
 have hb : Below w.heap.size w w1 := (Below.refl _ _).grown hg (Nat.le_refl _) (fun k hk => by cases hk)
 have HO : Hid (w1.ownsRow w.heap.size 60 4 r l.length (rawCells l)) := by
  show World.ownsRow _ _ _ _ _ _ _
  rw [rawCells_flat]
  rw [HN.out] at ho
  simpa using ho
 clear hg ho
 go_wp2_with fail
 go_ret
 exact ⟨_,rfl,HO.out,hb⟩
theorem own_empty {w : World} {g B : Nat} {e : TypeId} {s : Nat} (h : Blk w g #[] e) (hB : B ≤ g) : w.ownsRow B e s (.slice (some ⟨g,0,none⟩) 0 0) 0 [] :=
 ⟨by simp,.inr ⟨g,0,#[],rfl,hB,h,Nat.le_refl _,by decide,by simp,by simp⟩⟩
set_option maxHeartbeats 1000000 in
theorem clone_any {w : World} {v : Value} {l : List Fd} (hr : RowG w v 4 (fdRows l)) (hl : l.length ≤ 5000) :
  Calls Tryz.prog 69 #[v] w fun e w' => ∃ r,e = .returned r ∧ w'.ownsRow w.heap.size 60 4 r l.length (rawCells l) ∧ Below w.heap.size w w' := by
 obtain ⟨a,cap,rfl,h1,h2,h3,h4, -⟩ := rest_holds hr
 cases a with
 | none =>
  have hl0 : l = [] := by
   rcases h3 with h | ⟨g,off,e⟩
   ·exact h
   ·cases e
  subst hl0
  have := h4 rfl
  subst this
  have hq : ∀ W,(binOp .eql 28 (.slice none 0 0) (.slice none 0 0)).run Tryz.prog W = .ok (.bool true) W := fun W => by kernel_rfl
  simp only [List.length_nil]
  go_enter Tryz.func69,Tryz.ntmps69
  go_wp2_with fail
  go_ret
  exact ⟨_,rfl,World.ownsRow_nil _ _ _ _,Below.refl _ _⟩
 | some a =>
  have hN : (fdRows l).length = l.length := by simp [fdRows]
  have hal : Below w.heap.size w (w.alloc (Obj.cells #[] 60)) := (Below.refl _ _).alloc (Nat.le_refl _) _
  obtain ⟨v',W4,r1,r2,r3⟩ := run_joinG (w := w.alloc (Obj.cells #[] 60)) 28 28 60 4 40 _ Tryz.underlying28 infoRaw rfl (by decide) w.heap.size (.slice (some ⟨w.heap.size,0,none⟩) 0 0) 0 [] (own_empty (Blk.new w _ _) (Nat.le_refl _)) (.slice (some a) l.length cap) (fdRows l) (hr.below hal) (fdr_len l) (fdr_one l) (by omega) (by decide) hal.size
  have HRUN : Hid _ := r1
  rw [List.nil_append,hN,Nat.zero_add,← rawCells_flat] at r2
  have hb4 : Below w.heap.size w W4 := hal.grown r3 hal.size (fun q hq => by simp [Value.ownBlock] at hq; omega)
  have HO : Hid (W4.ownsRow w.heap.size 60 4 v' l.length (rawCells l)) := r2
  obtain ⟨na,nc,hv'⟩ := own_form r2
  subst hv'
  clear r1 r2 r3 hr h3 h4 hN hal
  generalize hLn : l.length = Ln at *
  have HLn : Hid (l.length = Ln) := hLn
  clear hLn
  have hq : ∀ W,(binOp .eql 28 (.slice (some a) Ln cap) (.slice none 0 0)).run Tryz.prog W = .ok (.bool false) W := fun W => by kernel_rfl
  go_enter Tryz.func69,Tryz.ntmps69
  go_wp2_with (first | (at_builtin; refine wpList_ran rfl (append_run rfl rfl rfl HRUN.out) ?_) | fail)
  go_ret
  exact ⟨_,rfl,HO.out,hb4⟩
section
variable {T MT : TypeId} {k : Value}
theorem find_askA : ∀ (l : List MapEntry) (i : Nat),∃ r : Option (Nat × Value),((∃ j e,r = some (i + j,e.val) ∧ l[j]? = some e ∧ e.key = k) ∨ (r = none ∧ k ∉ l.map MapEntry.key)) ∧
  ∀ w,Told T w k (l.map MapEntry.key) → (Instr.findAsking T k l i).run Tryz.prog w = .ok r w
 | [],i => ⟨none,.inr ⟨rfl,by simp⟩,fun w _ => by simp [Instr.findAsking]⟩
 | e :: l,i => by
  by_cases hke : k = e.key
  ·refine ⟨some (i + 0,e.val),.inl ⟨0,e,rfl,rfl,hke.symm⟩,fun w ht => ?_⟩
   have h1 := (ht e.key (List.mem_cons_self ..)).1
   unfold Instr.findAsking
   rw [Sem.run_bind,h1 hke]
   simp [Result.andThen]
  ·obtain ⟨r,h1,h2⟩ := find_askA l (i + 1)
   refine ⟨r,?_,fun w ht => ?_⟩
   ·rcases h1 with ⟨j,e',g1,g2,g3⟩ | ⟨g1,g2⟩
    ·exact .inl ⟨j + 1,e',by rw [g1]; congr 2; omega,by simpa using g2,g3⟩
    ·refine .inr ⟨g1,fun h => ?_⟩
     rcases List.mem_cons.1 h with h | h
     ·exact hke h
     ·exact g2 h
   ·have h3 := (ht e.key (List.mem_cons_self ..)).2
    have hrun : (Instr.findAsking T k (e :: l) i).run Tryz.prog w = (Instr.findAsking T k l (i + 1)).run Tryz.prog w := by
     conv => lhs; unfold Instr.findAsking
     rw [Sem.run_bind,h3 hke]
     simp [Result.andThen]
    rw [hrun]
    exact h2 w fun q hq => ht q (List.mem_cons_of_mem _ hq)
theorem find_keyA {fs : TypeDesc} (hu : Tryz.prog.underlying T = some fs) (hf : ∀ k q,Instr.sameNow fs (.agg k) q = none) {ks : Array Value} (hk : k = .agg ks) (l : List MapEntry) :
  ∃ r : Option (Nat × Value),((∃ j e,r = some (j,e.val) ∧ l[j]? = some e ∧ e.key = k) ∨ (r = none ∧ k ∉ l.map MapEntry.key)) ∧ ∀ w,Told T w k (l.map MapEntry.key) → (Instr.findKey T k l).run Tryz.prog w = .ok r w := by
 cases l with
 | nil => exact ⟨none,.inr ⟨rfl,by simp⟩,fun w _ => by simp [Instr.findKey,run_underlying hu,Instr.findNow]⟩
 | cons e l =>
  obtain ⟨r,h1,h2⟩ := find_askA (T := T) (k := k) (e :: l) 0
  refine ⟨r,by simpa using h1,fun w ht => ?_⟩
  have h3 : Instr.findNow fs k (e :: l) 0 = none := by rw [hk]; simp [Instr.findNow,hf]
  have h4 : (Instr.findKey T k (e :: l)).run Tryz.prog w = (Instr.findAsking T k (e :: l) 0).run Tryz.prog w := by
   simp [Instr.findKey,run_underlying hu,h3]
  rw [h4]
  exact h2 w ht
variable {E : TypeId} {L : List (Value × Value)} {b : Nat} {w : World}
theorem look_mapA (hm : Tryz.prog.underlying MT = some (.map T E)) {z : Value} (hz : ∀ w,(zeroValue E).run Tryz.prog w = .ok z w) {fs : TypeDesc} (hu : Tryz.prog.underlying T = some fs) (hf : ∀ k q,Instr.sameNow fs (.agg k) q = none) {ks : Array Value} (hk : k = .agg ks)
  (hc : ∀ w e,(Instr.checkKey e 10000 T k).run Tryz.prog w = .ok () w) (hs : PlMap w b L) :
  (∃ v,(k,v) ∈ L ∧ ∀ W,W.heap[b]? = w.heap[b]? → Told T W k (L.map Prod.fst) → (Instr.lookup MT (.map (some b)) k true).run Tryz.prog W = .ok (.tuple #[v,.bool true]) W) ∨
  (∀ W,W.heap[b]? = w.heap[b]? → Told T W k (L.map Prod.fst) → (Instr.lookup MT (.map (some b)) k true).run Tryz.prog W = .ok (.tuple #[z,.bool false]) W) := by
 obtain ⟨es,c,h1,rfl⟩ := hs
 have hgo : ∀ W,W.heap[b]? = w.heap[b]? → (getObj b).run Tryz.prog W = .ok (.map es c) W := fun W hW => by simp [getObj,Sem.run,hW,h1]
 obtain ⟨r,h2,h3⟩ := find_keyA hu hf hk es.toList
 rcases h2 with ⟨j,e,rfl,g2,g3⟩ | ⟨rfl,g2⟩
 ·refine .inl ⟨e.val,List.mem_map.2 ⟨e,List.mem_of_getElem? g2,by rw [g3]⟩,fun W hW ht => ?_⟩
  rw [keys_of] at ht
  simp [Instr.lookup,run_underlying hm,hgo W hW,hc,h3 W ht]
 ·refine .inr fun W hW ht => ?_
  rw [keys_of] at ht
  simp [Instr.lookup,run_underlying hm,hgo W hW,hc,h3 W ht,hz]
end
theorem lookup_run {MT : TypeId} {b : Nat} {k v : Value} {a : Act} {w : World} {o : Oper} {m x : Operand} (hop : o.op = Op.lookup MT m x true) (hmm : a.eval m = .map (some b)) (hx : a.eval x = k) (hr : (Instr.lookup MT (.map (some b)) k true).run Tryz.prog w = .ok v w) : (execOp a.eval o).run Tryz.prog w = .ok (.value v) w := by
 simp [execOp,hop,hmm,hx,hr,Result.andThen]
theorem update_run {MT : TypeId} {b : Nat} {k v : Value} {a : Act} {w w' : World} {o : Oper} {m x y : Operand} (hop : o.op = Op.mapUpdate MT m x y) (hmm : a.eval m = .map (some b)) (hx : a.eval x = k) (hy : a.eval y = v) (hr : (Instr.mapUpdate MT (.map (some b)) k v).run Tryz.prog w = .ok () w') : (execOp a.eval o).run Tryz.prog w = .ok .skip w' := by
 simp [execOp,hop,hmm,hx,hy,hr,Result.andThen]
end
section
section
variable {P : Program} {md : Region.Mode} {ops : Array Oper} {Q : Exit → Act → World → Prop} {T : World → Prop} {m : Nat}
theorem M_runA {oi : Oper} {fuel : Nat} {listed listed' : Array Bool} {a : Act} {w : World} (i d : Nat) (v : Value) (w' : World) (hi : ops[i]? = some oi) (hd : oi.dst = some d)
  (hr : Region.ready md ops listed = [i]) (hwt : Region.wanted oi (yielded ops a.tmps) = true) (hl : listed.setIfInBounds i true = listed') (hx : (execOp a.eval oi).run P w = .ok (.value v) w') (hm : listed'.getD m true = true)
  (h : wpAnyM P md ops Q T m fuel listed' { a with tmps := a.tmps.setIfInBounds d v } w') : wpAnyM P md ops Q T m (fuel + 1) listed a w := by
 subst hl
 refine ⟨fun h0 => (by rw [hr] at h0; cases h0),fun j hj => ?_⟩
 rw [hr,List.mem_singleton] at hj
 subst hj
 unfold wpOp
 simp only [hi]
 rw [if_pos hwt]
 refine .inl ?_
 unfold Oper.wp
 rw [hx,Oper.upon_value,hd]
 exact ⟨fun h0 => (by rw [hm] at h0; cases h0),h⟩
theorem M_storeT {oi : Oper} {fuel : Nat} {listed listed' : Array Bool} {a : Act} {w : World} (i : Nat) (w' : World) (hi : ops[i]? = some oi) (hd : oi.dst = none)
  (hr : Region.ready md ops listed = [i]) (hwt : Region.wanted oi (yielded ops a.tmps) = true) (hl : listed.setIfInBounds i true = listed') (hx : (execOp a.eval oi).run P w = .ok .skip w') (hT : T w')
  (h : wpAnyM P md ops Q T m fuel listed' a w') : wpAnyM P md ops Q T m (fuel + 1) listed a w := by
 subst hl
 refine ⟨fun h0 => (by rw [hr] at h0; cases h0),fun j hj => ?_⟩
 rw [hr,List.mem_singleton] at hj
 subst hj
 unfold wpOp
 simp only [hi]
 rw [if_pos hwt]
 refine .inl ?_
 unfold Oper.wp
 rw [hx,Oper.upon_skip,hd]
 exact ⟨fun _ => hT,h⟩
end
end
end Go.Proofs.YtfnjbbaphmmjlaaGreat
