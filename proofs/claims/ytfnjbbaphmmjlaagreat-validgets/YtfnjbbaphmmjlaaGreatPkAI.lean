/- Part 9 of what the proof stands on. -/
import Derived.Test.YtfnjbbaphmmjlaaGreatPkAH
namespace Go.Proofs.YtfnjbbaphmmjlaaGreat
open Go.ChangeShapes Go.WideShapes Go.ChangeAt Go.RowKit
set_option linter.unusedVariables false
set_option linter.unusedSimpArgs false
set_option maxRecDepth 20000
def awA : ScS := ⟨⟨#[97]⟩, [⟨⟨#[109]⟩, [⟨⟨#[120]⟩, 1, 1, 1, ⟨#[]⟩⟩], []⟩], [], []⟩
theorem flW_aw (n : ByteArray) (h : n.size ≤ 140737488351232) : FlW ⟨n, 1, 1, 1, ⟨#[]⟩⟩ := by
 have h1 : I64 1 := ⟨by decide, by decide⟩
 exact ⟨h, Nat.zero_le _, h1, h1, h1⟩
theorem awA_w : ScW awA := ⟨by decide, fun m hm => by simp [awA] at hm; subst hm; exact ⟨by decide, fun f hf => by simp at hf; subst hf; exact flW_aw _ (by decide), fun n hn => by simp at hn⟩, fun m hm => by simp [awA] at hm, fun m hm => by simp [awA] at hm⟩
theorem awA_f : FewL awA := ⟨by decide, by decide, by decide, fun m hm => by simp [awA] at hm; subst hm; exact ⟨by decide, by decide⟩, fun m hm => by simp [awA] at hm⟩
theorem trR_leaf (n : Nat) (w : World) (k : Int) (hk : Is64 k) : TrR (n + 1) w [.int .i64 k, .int .i64 0, .string ⟨#[]⟩, .slice none 0 0, .slice none 0 0] ⟨k, 0, ⟨#[]⟩, [], []⟩ :=
 ⟨.slice none 0 0, .slice none 0 0, rfl, hk, ⟨by show (-9223372036854775808 : Int) ≤ 0; decide, by show (0 : Int) ≤ 9223372036854775807; decide⟩, Nat.zero_le _, (fun f hf => by simp at hf), RowG.nil _ _, RowP.nil _ _ _, (fun g off n cap e => by cases e), fun g off n cap e => by cases e⟩
theorem Blk.pln {w : World} {b n c : Nat} {cs : Array Value} {t : TypeId} (h : Blk w b cs t) : PlnV w (.slice (some ⟨b, 0, none⟩) n c) := fun g off m cap e _ => by
 simp at e
 obtain ⟨⟨rfl, -⟩, -⟩ := e
 exact ⟨_, _, h⟩
theorem one64 : Is64 1 := ⟨by decide, by decide⟩
theorem three64 : Is64 3 := ⟨by decide, by decide⟩
def awZ : Tr := ⟨3, 0, ⟨#[]⟩, [(1, [⟨1, 0, ⟨#[]⟩, [], []⟩])], []⟩
def awM : Tr := ⟨3, 0, ⟨#[]⟩, [], []⟩
theorem awZ_v : validA 2 awA ⟨#[109]⟩ awZ = 12 := by decide +kernel
theorem awM_v : validA 2 awA ⟨#[109]⟩ awM = 0 := by decide +kernel
theorem awM_g : getA awA ⟨#[109]⟩ awM 1 = some [⟨1, 0, ⟨#[]⟩, [], []⟩] := by simp [getA, fieldA, msgOf, fldOf, awA, awM, undL, zeroL, kindT]
theorem awZ_s : SmN 2 awZ := by
 refine ⟨by decide, by decide, by decide, by simp [awZ], fun e he => ?_⟩
 simp [awZ] at he
 subst he
 exact ⟨by decide, fun x hx => by simp at hx; subst hx; exact ⟨by decide, by decide, by decide, by simp, by simp⟩⟩
theorem awM_s : SmN 2 awM := ⟨by decide, by decide, by decide, by simp [awM], by simp [awM]⟩
set_option maxHeartbeats 4000000 in
theorem awake_any (w : World) : Calls Tryz.prog 9 #[] w fun e w' => e = .returned (.bool true) ∧ Below w.heap.size w w' := by
 go_enter Tryz.func9, Tryz.ntmps9
 go_wp2_with fail
 have B0 : Blk ((((((w.alloc (Obj.cells #[.string ⟨#[120]⟩, .int .i64 1, .int .i64 1, .int .i64 1, .string ⟨#[]⟩] 54)).alloc (Obj.cells #[.string ⟨#[109]⟩, .slice (some ⟨w.heap.size, 0, none⟩) 1 1, .slice none 0 0] 50)).alloc (Obj.cells #[.string ⟨#[97]⟩, .slice (some ⟨w.heap.size + 1, 0, none⟩) 1 1, .slice none 0 0, .slice none 0 0] 26)).alloc (Obj.cells #[.int .i64 1, .int .i64 0, .string ⟨#[]⟩, .slice none 0 0, .slice none 0 0] 30)).alloc (Obj.cells #[.int .i64 1, .slice (some ⟨w.heap.size + 1 + 1 + 1, 0, none⟩) 1 1] 58)).alloc (Obj.cells #[.int .i64 3, .int .i64 0, .string ⟨#[]⟩, .slice (some ⟨w.heap.size + 1 + 1 + 1 + 1, 0, none⟩) 1 1, .slice none 0 0] 30)) (w.heap.size) #[.string ⟨#[120]⟩, .int .i64 1, .int .i64 1, .int .i64 1, .string ⟨#[]⟩] 54 := ((((((Blk.newAt (by simp)).up _).up _).up _).up _).up _)
 have B1 : Blk ((((((w.alloc (Obj.cells #[.string ⟨#[120]⟩, .int .i64 1, .int .i64 1, .int .i64 1, .string ⟨#[]⟩] 54)).alloc (Obj.cells #[.string ⟨#[109]⟩, .slice (some ⟨w.heap.size, 0, none⟩) 1 1, .slice none 0 0] 50)).alloc (Obj.cells #[.string ⟨#[97]⟩, .slice (some ⟨w.heap.size + 1, 0, none⟩) 1 1, .slice none 0 0, .slice none 0 0] 26)).alloc (Obj.cells #[.int .i64 1, .int .i64 0, .string ⟨#[]⟩, .slice none 0 0, .slice none 0 0] 30)).alloc (Obj.cells #[.int .i64 1, .slice (some ⟨w.heap.size + 1 + 1 + 1, 0, none⟩) 1 1] 58)).alloc (Obj.cells #[.int .i64 3, .int .i64 0, .string ⟨#[]⟩, .slice (some ⟨w.heap.size + 1 + 1 + 1 + 1, 0, none⟩) 1 1, .slice none 0 0] 30)) (w.heap.size + 1) #[.string ⟨#[109]⟩, .slice (some ⟨w.heap.size, 0, none⟩) 1 1, .slice none 0 0] 50 := (((((Blk.newAt (by simp)).up _).up _).up _).up _)
 have B2 : Blk ((((((w.alloc (Obj.cells #[.string ⟨#[120]⟩, .int .i64 1, .int .i64 1, .int .i64 1, .string ⟨#[]⟩] 54)).alloc (Obj.cells #[.string ⟨#[109]⟩, .slice (some ⟨w.heap.size, 0, none⟩) 1 1, .slice none 0 0] 50)).alloc (Obj.cells #[.string ⟨#[97]⟩, .slice (some ⟨w.heap.size + 1, 0, none⟩) 1 1, .slice none 0 0, .slice none 0 0] 26)).alloc (Obj.cells #[.int .i64 1, .int .i64 0, .string ⟨#[]⟩, .slice none 0 0, .slice none 0 0] 30)).alloc (Obj.cells #[.int .i64 1, .slice (some ⟨w.heap.size + 1 + 1 + 1, 0, none⟩) 1 1] 58)).alloc (Obj.cells #[.int .i64 3, .int .i64 0, .string ⟨#[]⟩, .slice (some ⟨w.heap.size + 1 + 1 + 1 + 1, 0, none⟩) 1 1, .slice none 0 0] 30)) (w.heap.size + 1 + 1) #[.string ⟨#[97]⟩, .slice (some ⟨w.heap.size + 1, 0, none⟩) 1 1, .slice none 0 0, .slice none 0 0] 26 := ((((Blk.newAt (by simp)).up _).up _).up _)
 have B3 : Blk ((((((w.alloc (Obj.cells #[.string ⟨#[120]⟩, .int .i64 1, .int .i64 1, .int .i64 1, .string ⟨#[]⟩] 54)).alloc (Obj.cells #[.string ⟨#[109]⟩, .slice (some ⟨w.heap.size, 0, none⟩) 1 1, .slice none 0 0] 50)).alloc (Obj.cells #[.string ⟨#[97]⟩, .slice (some ⟨w.heap.size + 1, 0, none⟩) 1 1, .slice none 0 0, .slice none 0 0] 26)).alloc (Obj.cells #[.int .i64 1, .int .i64 0, .string ⟨#[]⟩, .slice none 0 0, .slice none 0 0] 30)).alloc (Obj.cells #[.int .i64 1, .slice (some ⟨w.heap.size + 1 + 1 + 1, 0, none⟩) 1 1] 58)).alloc (Obj.cells #[.int .i64 3, .int .i64 0, .string ⟨#[]⟩, .slice (some ⟨w.heap.size + 1 + 1 + 1 + 1, 0, none⟩) 1 1, .slice none 0 0] 30)) (w.heap.size + 1 + 1 + 1) #[.int .i64 1, .int .i64 0, .string ⟨#[]⟩, .slice none 0 0, .slice none 0 0] 30 := (((Blk.newAt (by simp)).up _).up _)
 have B4 : Blk ((((((w.alloc (Obj.cells #[.string ⟨#[120]⟩, .int .i64 1, .int .i64 1, .int .i64 1, .string ⟨#[]⟩] 54)).alloc (Obj.cells #[.string ⟨#[109]⟩, .slice (some ⟨w.heap.size, 0, none⟩) 1 1, .slice none 0 0] 50)).alloc (Obj.cells #[.string ⟨#[97]⟩, .slice (some ⟨w.heap.size + 1, 0, none⟩) 1 1, .slice none 0 0, .slice none 0 0] 26)).alloc (Obj.cells #[.int .i64 1, .int .i64 0, .string ⟨#[]⟩, .slice none 0 0, .slice none 0 0] 30)).alloc (Obj.cells #[.int .i64 1, .slice (some ⟨w.heap.size + 1 + 1 + 1, 0, none⟩) 1 1] 58)).alloc (Obj.cells #[.int .i64 3, .int .i64 0, .string ⟨#[]⟩, .slice (some ⟨w.heap.size + 1 + 1 + 1 + 1, 0, none⟩) 1 1, .slice none 0 0] 30)) (w.heap.size + 1 + 1 + 1 + 1) #[.int .i64 1, .slice (some ⟨w.heap.size + 1 + 1 + 1, 0, none⟩) 1 1] 58 := ((Blk.newAt (by simp)).up _)
 have B5 : Blk ((((((w.alloc (Obj.cells #[.string ⟨#[120]⟩, .int .i64 1, .int .i64 1, .int .i64 1, .string ⟨#[]⟩] 54)).alloc (Obj.cells #[.string ⟨#[109]⟩, .slice (some ⟨w.heap.size, 0, none⟩) 1 1, .slice none 0 0] 50)).alloc (Obj.cells #[.string ⟨#[97]⟩, .slice (some ⟨w.heap.size + 1, 0, none⟩) 1 1, .slice none 0 0, .slice none 0 0] 26)).alloc (Obj.cells #[.int .i64 1, .int .i64 0, .string ⟨#[]⟩, .slice none 0 0, .slice none 0 0] 30)).alloc (Obj.cells #[.int .i64 1, .slice (some ⟨w.heap.size + 1 + 1 + 1, 0, none⟩) 1 1] 58)).alloc (Obj.cells #[.int .i64 3, .int .i64 0, .string ⟨#[]⟩, .slice (some ⟨w.heap.size + 1 + 1 + 1 + 1, 0, none⟩) 1 1, .slice none 0 0] 30)) (w.heap.size + 1 + 1 + 1 + 1 + 1) #[.int .i64 3, .int .i64 0, .string ⟨#[]⟩, .slice (some ⟨w.heap.size + 1 + 1 + 1 + 1, 0, none⟩) 1 1, .slice none 0 0] 30 := (Blk.newAt (by simp))
 have hb0 : Below w.heap.size w ((((((w.alloc (Obj.cells #[.string ⟨#[120]⟩, .int .i64 1, .int .i64 1, .int .i64 1, .string ⟨#[]⟩] 54)).alloc (Obj.cells #[.string ⟨#[109]⟩, .slice (some ⟨w.heap.size, 0, none⟩) 1 1, .slice none 0 0] 50)).alloc (Obj.cells #[.string ⟨#[97]⟩, .slice (some ⟨w.heap.size + 1, 0, none⟩) 1 1, .slice none 0 0, .slice none 0 0] 26)).alloc (Obj.cells #[.int .i64 1, .int .i64 0, .string ⟨#[]⟩, .slice none 0 0, .slice none 0 0] 30)).alloc (Obj.cells #[.int .i64 1, .slice (some ⟨w.heap.size + 1 + 1 + 1, 0, none⟩) 1 1] 58)).alloc (Obj.cells #[.int .i64 3, .int .i64 0, .string ⟨#[]⟩, .slice (some ⟨w.heap.size + 1 + 1 + 1 + 1, 0, none⟩) 1 1, .slice none 0 0] 30)) := by
  repeat' first | exact Below.refl _ _ | refine Below.alloc ?_ (by simp <;> omega) _
 generalize ((((((w.alloc (Obj.cells #[.string ⟨#[120]⟩, .int .i64 1, .int .i64 1, .int .i64 1, .string ⟨#[]⟩] 54)).alloc (Obj.cells #[.string ⟨#[109]⟩, .slice (some ⟨w.heap.size, 0, none⟩) 1 1, .slice none 0 0] 50)).alloc (Obj.cells #[.string ⟨#[97]⟩, .slice (some ⟨w.heap.size + 1, 0, none⟩) 1 1, .slice none 0 0, .slice none 0 0] 26)).alloc (Obj.cells #[.int .i64 1, .int .i64 0, .string ⟨#[]⟩, .slice none 0 0, .slice none 0 0] 30)).alloc (Obj.cells #[.int .i64 1, .slice (some ⟨w.heap.size + 1 + 1 + 1, 0, none⟩) 1 1] 58)).alloc (Obj.cells #[.int .i64 3, .int .i64 0, .string ⟨#[]⟩, .slice (some ⟨w.heap.size + 1 + 1 + 1 + 1, 0, none⟩) 1 1, .slice none 0 0] 30)) = W at *
 have FA : RowG W (.slice (some ⟨w.heap.size, 0, none⟩) 1 1) 5 (flRows [⟨⟨#[120]⟩, 1, 1, 1, ⟨#[]⟩⟩]) := RowG.blk B0 rfl (flr_len5 _) rfl (by decide)
 have SA : ScIn W (.agg #[.string ⟨#[97]⟩, .slice (some ⟨w.heap.size + 1, 0, none⟩) 1 1, .slice none 0 0, .slice none 0 0]) awA :=
  ⟨_, _, _, rfl, ⟨[[.string ⟨#[109]⟩, .slice (some ⟨w.heap.size, 0, none⟩) 1 1, .slice none 0 0]], RowG.blk B1 rfl (fun r hr => by simp at hr; subst hr; rfl) rfl (by decide), rfl, fun i m hm => by
   match i, hm with
   | 0, hm => simp [awA] at hm; subst hm; exact ⟨_, _, rfl, FA, RowG.nil _ _⟩
   | i + 1, hm => simp [awA] at hm⟩, ⟨[], RowG.nil _ _, rfl, fun i m hm => by simp [awA] at hm⟩, RowG.nil _ _⟩
 have TM : TrW 2 W (.agg #[.int .i64 3, .int .i64 0, .string ⟨#[]⟩, .slice none 0 0, .slice none 0 0]) awM := ⟨_, rfl, trR_leaf 1 W 3 three64⟩
 have TI : TrsR 1 W (.slice (some ⟨w.heap.size + 1 + 1 + 1, 0, none⟩) 1 1) [⟨1, 0, ⟨#[]⟩, [], []⟩] := ⟨[[.int .i64 1, .int .i64 0, .string ⟨#[]⟩, .slice none 0 0, .slice none 0 0]], RowG.blk B3 rfl (fun r hr => by simp at hr; subst hr; rfl) rfl (by decide), rfl, fun i x hx => by
   match i, hx with
   | 0, hx => simp at hx; subst hx; exact ⟨_, rfl, trR_leaf 0 W 1 one64⟩
   | i + 1, hx => simp at hx⟩
 have TE : EnsR 1 W (.slice (some ⟨w.heap.size + 1 + 1 + 1 + 1, 0, none⟩) 1 1) [(1, [⟨1, 0, ⟨#[]⟩, [], []⟩])] := ⟨[[.int .i64 1, .slice (some ⟨w.heap.size + 1 + 1 + 1, 0, none⟩) 1 1]], RowG.blk B4 rfl (fun r hr => by simp at hr; subst hr; rfl) rfl (by decide), rfl, fun i x hx => by
   match i, hx with
   | 0, hx => simp at hx; subst hx; exact ⟨_, rfl, _, rfl, one64, TI⟩
   | i + 1, hx => simp at hx⟩
 have TZ : TrW 2 W (.agg #[.int .i64 3, .int .i64 0, .string ⟨#[]⟩, .slice (some ⟨w.heap.size + 1 + 1 + 1 + 1, 0, none⟩) 1 1, .slice none 0 0]) awZ := ⟨_, rfl, _, _, rfl, three64, ⟨by decide, by decide⟩, by decide, (fun f hf => by simp [awZ] at hf), RowG.nil _ _, TE, B4.pln, fun g off n cap e => by cases e⟩
 have HGE : Hid (Calls Tryz.prog 23 #[.agg #[.string ⟨#[97]⟩, .slice (some ⟨w.heap.size + 1, 0, none⟩) 1 1, .slice none 0 0, .slice none 0 0], .string ⟨#[109]⟩, .agg #[.int .i64 3, .int .i64 0, .string ⟨#[]⟩, .slice none 0 0, .slice none 0 0], .int .i64 1] W (GetP 0 awA ⟨#[109]⟩ awM 1 W)) := get_step 0 SA awA_f.flds TM (fun e u W he => by simp [awM] at he)
 have HV1 : Hid (∀ W1, Below W.heap.size W W1 → Calls Tryz.prog 12 #[.agg #[.string ⟨#[97]⟩, .slice (some ⟨w.heap.size + 1, 0, none⟩) 1 1, .slice none 0 0, .slice none 0 0], .string ⟨#[109]⟩, .agg #[.int .i64 3, .int .i64 0, .string ⟨#[]⟩, .slice (some ⟨w.heap.size + 1 + 1 + 1 + 1, 0, none⟩) 1 1, .slice none 0 0]] W1 fun e w' => e = .returned (.int .i64 12) ∧ Below W1.heap.size W1 w') := fun W1 h => by
  have h1 := fits_any (nm := ⟨#[109]⟩) (SA.below h) awA_w awA_f (TZ.cel (Cel.ofBelow h)) (by decide) (by decide) awZ_s
  rw [awZ_v] at h1
  exact h1
 have HV2 : Hid (∀ W1, Below W.heap.size W W1 → Calls Tryz.prog 12 #[.agg #[.string ⟨#[97]⟩, .slice (some ⟨w.heap.size + 1, 0, none⟩) 1 1, .slice none 0 0, .slice none 0 0], .string ⟨#[109]⟩, .agg #[.int .i64 3, .int .i64 0, .string ⟨#[]⟩, .slice none 0 0, .slice none 0 0]] W1 fun e w' => e = .returned (.int .i64 0) ∧ Below W1.heap.size W1 w') := fun W1 h => by
  have h1 := fits_any (nm := ⟨#[109]⟩) (SA.below h) awA_w awA_f (TM.cel (Cel.ofBelow h)) (by decide) (by decide) awM_s
  rw [awM_v] at h1
  exact h1
 have HB2 : Hid (Blk W (w.heap.size + 1 + 1) #[.string ⟨#[97]⟩, .slice (some ⟨w.heap.size + 1, 0, none⟩) 1 1, .slice none 0 0, .slice none 0 0] 26) := B2
 have HB5 : Hid (Blk W (w.heap.size + 1 + 1 + 1 + 1 + 1) #[.int .i64 3, .int .i64 0, .string ⟨#[]⟩, .slice (some ⟨w.heap.size + 1 + 1 + 1 + 1, 0, none⟩) 1 1, .slice none 0 0] 30) := B5
 clear B0 B1 B2 B3 B4 B5 FA SA TM TI TE TZ
 refine Calls.mono HGE.out ?_
 rintro e w1 ⟨r, rfl, hr, hb1⟩
 rw [awM_g] at hr ⊢
 simp only [Option.isSome_some, Option.getD_some] at hr ⊢
 obtain ⟨ra, rc, hre, hrc1, hrc2, -⟩ := RowP.open hr
 subst hre
 obtain ⟨g, off, x1, x2, x3, x4, x5, x6, rfl, k0, -⟩ := trsR_get hr (i := 0) rfl
 simp only [Nat.zero_mul, Nat.add_zero, List.length_cons, List.length_nil, Nat.zero_add] at k0 hrc1 ⊢
 unfold maxLen at hrc2
 clear hr HGE
 have B2 := HB2.out.below hb1
 have B5 := HB5.out.below hb1
 have s0 := (B2.cell 0).trans rfl
 have s1 := (B2.cell 1).trans rfl
 have s2 := (B2.cell 2).trans rfl
 have s3 := (B2.cell 3).trans rfl
 have z0 := (B5.cell 0).trans rfl
 have z1 := (B5.cell 1).trans rfl
 have z2 := (B5.cell 2).trans rfl
 have z3 := (B5.cell 3).trans rfl
 have z4 := (B5.cell 4).trans rfl
 clear B2 B5
 go_wp2_with fail
 refine (HV1.out w1 hb1).mono ?_
 rintro e w2 ⟨rfl, hb2⟩
 have hb12 : Below W.heap.size W w2 := hb1.trans (hb2.mono hb1.size)
 have B2 := HB2.out.below hb12
 have k0 := (hb2.cell (World.block_lt_of_cell? _ _ k0)).trans k0
 clear s0 s1 s2 s3 z0 z1 z2 z3 z4 hb1 hb2
 have s0 := (B2.cell 0).trans rfl
 have s1 := (B2.cell 1).trans rfl
 have s2 := (B2.cell 2).trans rfl
 have s3 := (B2.cell 3).trans rfl
 clear B2
 go_wp2_with fail
 refine (HV2.out w2 hb12).mono ?_
 rintro e w3 ⟨rfl, hb3⟩
 have hb13 : Below W.heap.size W w3 := hb12.trans (hb3.mono hb12.size)
 have k0 := (hb3.cell (World.block_lt_of_cell? _ _ k0)).trans k0
 clear s0 s1 s2 s3 hb12 hb3
 go_wp2_with fail
 go_ret
 exact ⟨rfl, hb0.trans (hb13.mono hb0.size)⟩
end Go.Proofs.YtfnjbbaphmmjlaaGreat
namespace Go.Proofs.YtfnjbbaphmmjlaaGreat
open Go.ChangeShapes Go.WideShapes Go.ChangeAt Go.RowKit
set_option linter.unusedVariables false
set_option maxRecDepth 20000
set_option maxHeartbeats 1000000 in
theorem lawPlace_any (v n : Int) (w : World) (hv1 : -9223372036854775808 ≤ v) (hv2 : v ≤ 9223372036854775807) (hn1 : 1 ≤ n) (hn2 : n ≤ 4611686018427387904) :
  Calls Tryz.prog 25 #[.int .i64 v, .int .i64 n] w fun e w' => ∃ k : Nat, e = .returned (.int .i64 (k : Int)) ∧ (k : Int) < n ∧ w' = w := by
 have t1 := Int.tmod_lt_of_pos v (b := n) (by omega)
 have t2 := Int.lt_tmod_of_pos v (b := n) (by omega)
 have hz : (n == 0) = false := by rw [beq_eq_false_iff_ne]; omega
 by_cases h : v.tmod n < 0
 ·obtain ⟨k, hk⟩ := Int.eq_ofNat_of_zero_le (a := v.tmod n + n) (by omega)
  go_enter Tryz.func25, Tryz.ntmps25
  go_wp2_with fail
  go_ret
  exact ⟨k, by rw [← hk]; rfl, by omega, rfl⟩
 ·obtain ⟨k, hk⟩ := Int.eq_ofNat_of_zero_le (a := v.tmod n) (by omega)
  go_enter Tryz.func25, Tryz.ntmps25
  go_wp2_with fail
  go_ret
  exact ⟨k, by rw [← hk]; rfl, by omega, rfl⟩
end Go.Proofs.YtfnjbbaphmmjlaaGreat
namespace Go.Proofs.YtfnjbbaphmmjlaaGreat
open Go.ChangeShapes Go.WideShapes Go.ChangeAt Go.RowKit
set_option linter.unusedVariables false
set_option linter.unusedSimpArgs false
set_option maxRecDepth 20000
theorem and_small (x : Int) : ∃ v : Nat, v < 4611686018427387904 ∧ bits .and .i64 x 4611686018427387903 = (v : Int) := by
 have hv : (BitVec.ofInt 64 x &&& BitVec.ofInt 64 4611686018427387903).toNat < 4611686018427387904 := by
  rw [BitVec.toNat_and]
  have h2 : (BitVec.ofInt 64 4611686018427387903).toNat = 4611686018427387903 := by decide
  rw [h2]
  exact Nat.lt_of_le_of_lt Nat.and_le_right (by decide)
 refine ⟨(BitVec.ofInt 64 x &&& BitVec.ofInt 64 4611686018427387903).toNat, hv, ?_⟩
 show IntKind.i64.wrap ((BitVec.ofInt 64 x &&& BitVec.ofInt 64 4611686018427387903).toNat : Int) = _
 generalize (BitVec.ofInt 64 x &&& BitVec.ofInt 64 4611686018427387903).toNat = v at *
 rw [IntKind.wrap_i64]
 omega
def NxP (L ba a : Nat) (w : World) (e : Ending) (w' : World) : Prop := ∃ v a' : Nat, e = .returned (.int .i64 (v : Int)) ∧ v < 4611686018427387904 ∧ a ≤ a' ∧ a' ≤ a + 1 ∧ (L = 0 → v = 0) ∧ (L ≠ 0 → a' = a + 1) ∧ Blk w' ba #[.int .i64 (a' : Int)] 3 ∧ Kp (fun q => q = ba) w w'
set_option maxHeartbeats 2000000 in
theorem next_any (ls : List Int) (la : Option Addr) (lc L ba a : Nat) (w0 w : World) (hb : Below w0.heap.size w0 w) (hl : RowG w0 (.slice la L lc) 1 (inRows ls)) (hL : ls.length = L) (hL2 : L ≤ 100000) (hB : Blk w ba #[.int .i64 (a : Int)] 3) (ha : a ≤ 1000) (hba : w0.heap.size ≤ ba) :
  Calls Tryz.prog 82 #[.slice la L lc, .pointer (some ⟨ba, 0, none⟩)] w (NxP L ba a w) := by
 obtain ⟨a', cap', e1, h1, h2, -, h5⟩ := row_ints hl
 simp only [Value.slice.injEq] at e1
 obtain ⟨rfl, -, rfl⟩ := e1
 rw [hL] at h1
 have HL : Hid (ls.length = L) := hL
 have H5 : Hid (∀ g off, la = some ⟨g, off, none⟩ → ∀ (i : Nat) (n : Int), ls[i]? = some n → w0.cell? ⟨g, off + i, none⟩ = some (.int .i64 n)) := h5
 have HR : Hid (RowG w0 (.slice la L lc) 1 (inRows ls)) := hl
 unfold maxLen at h2
 have hlt := hB.lt
 have q0 := (hB.cell 0).trans rfl
 have z0 := hB.froz 0
 clear hL hl h5
 by_cases hL0 : L = 0
 ·subst hL0
  have HB : Hid (Blk w ba #[.int .i64 (a : Int)] 3) := hB
  clear hB
  go_enter Tryz.func82, Tryz.ntmps82
  go_wp2_with fail
  go_ret
  exact ⟨0, a, rfl, by decide, Nat.le_refl _, Nat.le_succ _, fun _ => rfl, fun h => absurd rfl h, HB.out, Kp.refl _ _⟩
 ·have d0 : ((L : Int) == 0) = false := by simp; omega
  have hLp : 0 < L := by omega
  obtain ⟨A, hA⟩ : ∃ z : Nat, z = a + 1 := ⟨_, rfl⟩
  have HA : Hid (A = a + 1) := hA
  have B1 : Blk (w.setCell ⟨ba, 0, none⟩ (.int .i64 (A : Int))) ba #[.int .i64 (A : Int)] 3 := hB.set 0 _ rfl
  have K1 : Kp (fun q => q = ba) w (w.setCell ⟨ba, 0, none⟩ (.int .i64 (A : Int))) := Kp.setCell (S := fun q => q = ba) (Kp.refl _ _) (p := ⟨ba, 0, none⟩) (fun _ => rfl) _
  have hA2 : (a : Int) + 1 = (A : Int) := by omega
  have hb1 : Below w0.heap.size w0 (w.setCell ⟨ba, 0, none⟩ (.int .i64 (A : Int))) := hb.trans (K1.toBelow hb.size (fun k e => by omega))
  have HB1 : Hid (Blk (w.setCell ⟨ba, 0, none⟩ (.int .i64 (A : Int))) ba #[.int .i64 (A : Int)] 3) := B1
  have HK1 : Hid (Kp (fun q => q = ba) w (w.setCell ⟨ba, 0, none⟩ (.int .i64 (A : Int)))) := K1
  have HB0 : Hid (Below w0.heap.size w0 (w.setCell ⟨ba, 0, none⟩ (.int .i64 (A : Int)))) := hb1
  have hAle : A ≤ 1001 := by omega
  have hA1 : 1 ≤ A := by omega
  clear hB hA B1 K1 hb1
  go_enter Tryz.func82, Tryz.ntmps82
  go_wp2_with fail
  clear q0 z0 hA2
  generalize (w.setCell ⟨ba, 0, none⟩ (.int .i64 (A : Int))) = W1 at *
  have hS : Below W1.heap.size W1 W1.drew := (Below.refl _ _).drew
  obtain ⟨D, hD⟩ : ∃ z : Nat, (A : Int) / (L : Int) = (z : Int) := ⟨A / L, by rw [Int.natCast_ediv]⟩
  have hD2 : D ≤ A := by
   have h3 : (A : Int) / (L : Int) ≤ (A : Int) := by rw [← Int.natCast_ediv]; exact Int.ofNat_le.2 (Nat.div_le_self A L)
   omega
  have HD : Hid ((A : Int) / (L : Int) = (D : Int)) := hD
  clear hD
  refine wp_region_held_drew (S := fun w' => Below W1.heap.size W1 w') (by kernel_rfl) hS (fun hS => ?_)
  refine rg_take 0 13 (.slice la L lc) _ rfl rfl (by kernel_rfl) (by kernel_rfl) (by kernel_rfl) (fun _ _ _ h => h) (by rfl) (fun w' hw' => ?_) hS (listed' := #[true, false, false, false, false, false, false, false, false, false, false, false, false, false, false, false, false, false, false]) (by kernel_rfl) rfl ?_
  ·go_simp
  simp only [List.setIfInBounds_toArray, List.set_cons_zero, List.set_cons_succ]
  refine rg_take 1 14 (.pointer (some ⟨ba, 0, none⟩)) _ rfl rfl (by kernel_rfl) (by kernel_rfl) (by kernel_rfl) (fun _ _ _ h => h) (by rfl) (fun w' hw' => ?_) hS (listed' := #[true, true, false, false, false, false, false, false, false, false, false, false, false, false, false, false, false, false, false]) (by kernel_rfl) rfl ?_
  ·go_simp
  simp only [List.setIfInBounds_toArray, List.set_cons_zero, List.set_cons_succ]
  refine rg_take 2 15 (.pointer (some ⟨ba, 0, none⟩)) _ rfl rfl (by kernel_rfl) (by kernel_rfl) (by kernel_rfl) (fun _ _ _ h => h) (by rfl) (fun w' hw' => ?_) hS (listed' := #[true, true, true, false, false, false, false, false, false, false, false, false, false, false, false, false, false, false, false]) (by kernel_rfl) rfl ?_
  ·go_simp
  simp only [List.setIfInBounds_toArray, List.set_cons_zero, List.set_cons_succ]
  refine rg_take 3 16 (.int .i64 (A : Int)) _ rfl rfl (by kernel_rfl) (by kernel_rfl) (by kernel_rfl) (fun _ _ _ h => h) (by rfl) (fun w' hw' => ?_) hS (listed' := #[true, true, true, true, false, false, false, false, false, false, false, false, false, false, false, false, false, false, false]) (by kernel_rfl) rfl ?_
  ·have f0 := (HB1.out.below hw').cell 0; go_simp
  simp only [List.setIfInBounds_toArray, List.set_cons_zero, List.set_cons_succ]
  refine rg_take 4 17 (.int .i64 ((A : Int) * 7)) _ rfl rfl (by kernel_rfl) (by kernel_rfl) (by kernel_rfl) (fun _ _ _ h => h) (by rfl) (fun w' hw' => ?_) hS (listed' := #[true, true, true, true, true, false, false, false, false, false, false, false, false, false, false, false, false, false, false]) (by kernel_rfl) rfl ?_
  ·go_simp; rw [IntKind.wrap_i64]; omega
  simp only [List.setIfInBounds_toArray, List.set_cons_zero, List.set_cons_succ]
  refine rg_take 5 18 (.pointer (some ⟨ba, 0, none⟩)) _ rfl rfl (by kernel_rfl) (by kernel_rfl) (by kernel_rfl) (fun _ _ _ h => h) (by rfl) (fun w' hw' => ?_) hS (listed' := #[true, true, true, true, true, true, false, false, false, false, false, false, false, false, false, false, false, false, false]) (by kernel_rfl) rfl ?_
  ·go_simp
  simp only [List.setIfInBounds_toArray, List.set_cons_zero, List.set_cons_succ]
  refine rg_take 6 19 (.pointer (some ⟨ba, 0, none⟩)) _ rfl rfl (by kernel_rfl) (by kernel_rfl) (by kernel_rfl) (fun _ _ _ h => h) (by rfl) (fun w' hw' => ?_) hS (listed' := #[true, true, true, true, true, true, true, false, false, false, false, false, false, false, false, false, false, false, false]) (by kernel_rfl) rfl ?_
  ·go_simp
  simp only [List.setIfInBounds_toArray, List.set_cons_zero, List.set_cons_succ]
  refine rg_take 7 20 (.int .i64 (A : Int)) _ rfl rfl (by kernel_rfl) (by kernel_rfl) (by kernel_rfl) (fun _ _ _ h => h) (by rfl) (fun w' hw' => ?_) hS (listed' := #[true, true, true, true, true, true, true, true, false, false, false, false, false, false, false, false, false, false, false]) (by kernel_rfl) rfl ?_
  ·have f0 := (HB1.out.below hw').cell 0; go_simp
  simp only [List.setIfInBounds_toArray, List.set_cons_zero, List.set_cons_succ]
  refine rg_take 8 21 (.slice la L lc) _ rfl rfl (by kernel_rfl) (by kernel_rfl) (by kernel_rfl) (fun _ _ _ h => h) (by rfl) (fun w' hw' => ?_) hS (listed' := #[true, true, true, true, true, true, true, true, true, false, false, false, false, false, false, false, false, false, false]) (by kernel_rfl) rfl ?_
  ·go_simp
  simp only [List.setIfInBounds_toArray, List.set_cons_zero, List.set_cons_succ]
  refine rg_take 9 22 (.int .i64 (L : Int)) _ rfl rfl (by kernel_rfl) (by kernel_rfl) (by kernel_rfl) (fun _ _ _ h => h) (by rfl) (fun w' hw' => ?_) hS (listed' := #[true, true, true, true, true, true, true, true, true, true, false, false, false, false, false, false, false, false, false]) (by kernel_rfl) rfl ?_
  ·go_simp
  simp only [List.setIfInBounds_toArray, List.set_cons_zero, List.set_cons_succ]
  refine rg_take 10 23 (.int .i64 (D : Int)) _ rfl rfl (by kernel_rfl) (by kernel_rfl) (by kernel_rfl) (fun _ _ _ h => h) (by rfl) (fun w' hw' => ?_) hS (listed' := #[true, true, true, true, true, true, true, true, true, true, true, false, false, false, false, false, false, false, false]) (by kernel_rfl) rfl ?_
  ·go_simp; rw [HD.out, IntKind.wrap_i64]; omega
  simp only [List.setIfInBounds_toArray, List.set_cons_zero, List.set_cons_succ]
  refine rg_take 11 24 (.int .i64 ((A : Int) * 7 + (D : Int))) _ rfl rfl (by kernel_rfl) (by kernel_rfl) (by kernel_rfl) (fun _ _ _ h => h) (by rfl) (fun w' hw' => ?_) hS (listed' := #[true, true, true, true, true, true, true, true, true, true, true, true, false, false, false, false, false, false, false]) (by kernel_rfl) rfl ?_
  ·go_simp; rw [IntKind.wrap_i64]; omega
  simp only [List.setIfInBounds_toArray, List.set_cons_zero, List.set_cons_succ]
  refine rg_take 12 25 (.slice la L lc) _ rfl rfl (by kernel_rfl) (by kernel_rfl) (by kernel_rfl) (fun _ _ _ h => h) (by rfl) (fun w' hw' => ?_) hS (listed' := #[true, true, true, true, true, true, true, true, true, true, true, true, true, false, false, false, false, false, false]) (by kernel_rfl) rfl ?_
  ·go_simp
  simp only [List.setIfInBounds_toArray, List.set_cons_zero, List.set_cons_succ]
  refine rg_take 13 26 (.int .i64 (L : Int)) _ rfl rfl (by kernel_rfl) (by kernel_rfl) (by kernel_rfl) (fun _ _ _ h => h) (by rfl) (fun w' hw' => ?_) hS (listed' := #[true, true, true, true, true, true, true, true, true, true, true, true, true, true, false, false, false, false, false]) (by kernel_rfl) rfl ?_
  ·go_simp
  simp only [List.setIfInBounds_toArray, List.set_cons_zero, List.set_cons_succ]
  have HPC : Hid (∀ W, Calls Tryz.prog 25 #[.int .i64 ((A : Int) * 7 + (D : Int)), .int .i64 (L : Int)] W fun e w' => ∃ k : Nat, e = .returned (.int .i64 (k : Int)) ∧ (k : Int) < (L : Int) ∧ w' = W) := fun W => lawPlace_any _ _ W (by omega) (by omega) (by omega) (by omega)
  refine rg_call 14 27 25 #[.int .i64 ((A : Int) * 7 + (D : Int)), .int .i64 (L : Int)] rfl rfl (by kernel_rfl) (by rfl) (listed' := #[true, true, true, true, true, true, true, true, true, true, true, true, true, true, true, false, false, false, false]) (by kernel_rfl) (fun W => by go_simp) ?_
  refine (HPC.out _).mono ?_
  rintro e W2 ⟨k, rfl, hk, hW2⟩
  subst hW2
  refine ⟨_, rfl, hS, ?_⟩
  simp only [List.setIfInBounds_toArray, List.set_cons_zero, List.set_cons_succ]
  obtain ⟨x, hx⟩ : ∃ r, ls[k]? = some r := ⟨_, List.getElem?_eq_getElem (by rw [HL.out]; omega)⟩
  obtain ⟨g, off, rfl⟩ : ∃ g off, la = some ⟨g, off, none⟩ := by
   have h6 := (row_ints HR.out)
   obtain ⟨a', cap', e1, _, _, h4, _⟩ := h6
   simp only [Value.slice.injEq] at e1
   obtain ⟨rfl, -, -⟩ := e1
   exact h4 (by intro e; rw [e] at hx; simp at hx)
  have HCX : Hid (∀ W : World, Below W1.heap.size W1 W → W.cell? ⟨g, off + k, none⟩ = some (.int .i64 x)) := fun W hW => by
   have h7 := (HB0.out.cell (World.block_lt_of_cell? _ _ (H5.out g off rfl k x hx))).trans (H5.out g off rfl k x hx)
   exact (hW.cell (World.block_lt_of_cell? _ _ h7)).trans h7
  obtain ⟨v, hv, hand⟩ := and_small x
  have HAN : Hid (bits .and .i64 x 4611686018427387903 = (v : Int)) := hand
  have hkl : k < L := by omega
  clear hand hx hk
  refine rg_take 15 28 (.pointer (some ⟨g, off + k, none⟩)) _ rfl rfl (by kernel_rfl) (by kernel_rfl) (by kernel_rfl) (fun _ _ _ h => h) (by rfl) (fun w' hw' => ?_) hS (listed' := #[true, true, true, true, true, true, true, true, true, true, true, true, true, true, true, true, false, false, false]) (by kernel_rfl) rfl ?_
  ·go_simp
  simp only [List.setIfInBounds_toArray, List.set_cons_zero, List.set_cons_succ]
  refine rg_take 16 29 (.int .i64 x) _ rfl rfl (by kernel_rfl) (by kernel_rfl) (by kernel_rfl) (fun _ _ _ h => h) (by rfl) (fun w' hw' => ?_) hS (listed' := #[true, true, true, true, true, true, true, true, true, true, true, true, true, true, true, true, true, false, false]) (by kernel_rfl) rfl ?_
  ·have f0 := HCX.out w' hw'; go_simp
  simp only [List.setIfInBounds_toArray, List.set_cons_zero, List.set_cons_succ]
  refine rg_take 17 30 (.int .i64 (v : Int)) _ rfl rfl (by kernel_rfl) (by kernel_rfl) (by kernel_rfl) (fun _ _ _ h => h) (by rfl) (fun w' hw' => ?_) hS (listed' := #[true, true, true, true, true, true, true, true, true, true, true, true, true, true, true, true, true, true, false]) (by kernel_rfl) rfl ?_
  ·go_simp; exact HAN.out
  simp only [List.setIfInBounds_toArray, List.set_cons_zero, List.set_cons_succ]
  refine rg_take 18 4 (.int .i64 (v : Int)) _ rfl rfl (by kernel_rfl) (by kernel_rfl) (by kernel_rfl) (fun _ _ _ h => h) (by rfl) (fun w' hw' => ?_) hS (listed' := #[true, true, true, true, true, true, true, true, true, true, true, true, true, true, true, true, true, true, true]) (by kernel_rfl) rfl ?_
  ·go_simp
  simp only [List.setIfInBounds_toArray, List.set_cons_zero, List.set_cons_succ]
  refine wpAnyH_done (by kernel_rfl) ?_ _
  go_wp2_with fail
  go_ret
  refine ⟨v, A, rfl, hv, by have := HA.out; omega, by have := HA.out; omega, fun h => absurd h hL0, fun _ => HA.out, ?_, ?_⟩
  ·exact HB1.out.below hS
  ·exact HK1.out.trans (Kp.ofBelow hS)
end Go.Proofs.YtfnjbbaphmmjlaaGreat
namespace Go.Proofs.YtfnjbbaphmmjlaaGreat
set_option linter.unusedVariables false
set_option linter.unusedSimpArgs false
structure OneT (n : Nat) (s : ScS) (f : FlS) (x : Tr) : Prop where
 val : treeV (msgV n s) f.kind f.tname x = 0
 ok : okN n x = true
 sm : SmN n x
 kind : x.kind = kindT f.kind
structure FitT (n : Nat) (s : ScS) (nm : ByteArray) (t : Tr) : Prop where
 form : t = ⟨3, 0, ⟨#[]⟩, t.es, []⟩
 val : msgV n s nm t = 0
 ok : okN n t = true
 sm : SmN n t
theorem FitT.one {n : Nat} {s : ScS} {f : FlS} {t : Tr} (h : FitT n s f.tname t) (hk : f.kind = 7) : OneT n s f t := by
 have h3 : t.kind = 3 := by rw [h.form]
 refine ⟨?_, h.ok, h.sm, ?_⟩
 ·rw [treeV, hk, if_neg (by rw [h3]; decide), if_neg (by rw [h3]; simp), if_neg (by simp), if_pos h3]
  exact h.val
 ·rw [h3, hk]; decide
theorem leaf_sm (n : Nat) (k v : Int) (s : ByteArray) (hs : s.size ≤ 5000) : SmN (n + 1) ⟨k, v, s, [], []⟩ := ⟨hs, by simp, by simp, by simp, by simp⟩
theorem leaf_cnt (n : Nat) (k v : Int) (s : ByteArray) : cntN (n + 1) ⟨k, v, s, [], []⟩ = 1 := by simp [cntN, subs]
theorem num_one (n : Nat) (s : ScS) (f : FlS) (v : Int) (hk : kindT f.kind = 1) (hv : nmrB f.kind v = true) (h4 : f.kind ≠ 4) : OneT (n + 1) s f ⟨1, v, ⟨#[]⟩, [], []⟩ := by
 refine ⟨?_, ?_, leaf_sm n 1 v _ (by decide), hk.symm⟩
 ·rw [treeV, hk, if_neg (by simp), if_neg (by simp [hv]), if_neg (by simp [h4]), if_neg (by simp)]
 ·simp [okN, lvB]
  rfl
theorem txt_one (n : Nat) (s : ScS) (f : FlS) (b : ByteArray) (hk : kindT f.kind = 2) (hv : validB b.data.toList = true) (hs : b.size ≤ 5000) : OneT (n + 1) s f ⟨2, 0, b, [], []⟩ := by
 refine ⟨?_, ?_, leaf_sm n 2 0 b hs, hk.symm⟩
 ·rw [treeV, hk, if_neg (by simp), if_neg (by simp), if_neg (by simp [hv]), if_neg (by simp)]
 ·simp [okN, lvB]
end Go.Proofs.YtfnjbbaphmmjlaaGreat
namespace Go.Proofs.YtfnjbbaphmmjlaaGreat
open Go.ChangeShapes Go.WideShapes Go.ChangeAt Go.RowKit
set_option linter.unusedVariables false
set_option linter.unusedSimpArgs false
set_option maxRecDepth 20000
theorem fdr_one (fs : List Fd) : ∀ u ∈ (fdRows fs).flatten, u.oneCell' = true := by
 rw [← rawCells_flat]; exact rawCells_one fs
set_option maxHeartbeats 1000000 in
theorem traws_any {w : World} {v : Value} {l : List Fd} (hr : RowG w v 4 (fdRows l)) (hl : l.length ≤ 900000) :
  Calls Tryz.prog 32 #[v] w fun e w' => ∃ r, e = .returned r ∧ w'.ownsRow w.heap.size 60 4 r l.length (rawCells l) ∧ Below w.heap.size w w' := by
 have hN : (fdRows l).length = l.length := by simp [fdRows]
 have HN : Hid ((fdRows l).length = l.length) := hN
 have HR : Hid (RowG w v 4 (fdRows l)) := hr
 have HL : Hid (l.length ≤ 900000) := hl
 clear hr hN hl
 go_enter Tryz.func32, Tryz.ntmps32
 go_wp2_with (first
  | (at_builtin; refine wpList_joinG rfl _ _ 28 60 4 40 _ rfl Tryz.underlying28 infoRaw rfl (by decide) w.heap.size (.slice none 0 0) 0 [] rfl (World.ownsRow_nil _ _ _ _) v (fdRows l) rfl HR.out (fdr_len l) (fdr_one l) ?c1 (by decide) (Nat.le_refl _) ?_)
  | fail)
 case c1 => have h1 := HN.out; have h2 := HL.out; omega
 intro r w1 ho hg
 have hb : Below w.heap.size w w1 := (Below.refl _ _).grown hg (Nat.le_refl _) (fun k hk => by cases hk)
 have HO : Hid (w1.ownsRow w.heap.size 60 4 r l.length (rawCells l)) := by
  show World.ownsRow _ _ _ _ _ _ _
  rw [rawCells_flat]
  rw [HN.out] at ho
  simpa using ho
 clear hg ho
 go_wp2_with fail
 go_ret
 exact ⟨_, rfl, HO.out, hb⟩
end Go.Proofs.YtfnjbbaphmmjlaaGreat
namespace Go.Proofs.YtfnjbbaphmmjlaaGreat
set_option linter.unusedVariables false
set_option linter.unusedSimpArgs false
section
variable {P : Program} {md : Region.Mode} {ops : Array Oper} {Q : Exit → Act → World → Prop} {T : World → Prop} {m : Nat}
theorem M_cab {o1 o2 ok : Oper} {fuel : Nat} {listed : Array Bool} {a : Act} {w : World} (i j k d1 d2 dk f : Nat) (vals : Array Value) (z : World → Value) (N : World → World) (F : Value → Value) (U : Value → Prop) (C : Value → Value → World → Prop)
  (h1 : ops[i]? = some o1) (h2 : ops[j]? = some o2) (hk : ops[k]? = some ok) (hd1 : o1.dst = some d1) (hd2 : o2.dst = some d2) (hdk : ok.dst = some dk) (hij : i ≠ j) (hjk : j ≠ k) (d12 : d1 ≠ d2) (d2k : d2 ≠ dk)
  (hr : Region.ready md ops listed = [i, j]) (hri : (Region.ready md ops (listed.setIfInBounds i true)).contains k = true) (hrik : Region.ready md ops ((listed.setIfInBounds i true).setIfInBounds k true) = [j])
  (hrj : Region.ready md ops (listed.setIfInBounds j true) = [i]) (hrji : Region.ready md ops ((listed.setIfInBounds j true).setIfInBounds i true) = [k])
  (hw1 : ∀ t, Region.wanted o1 t = true) (hw2 : ∀ t, Region.wanted o2 t = true) (hwk : ∀ t, Region.wanted ok t = true)
  (hs : Region.noSelect ops = true) (hfk : Region.free md ops (listed.setIfInBounds i true) k = true) (hmk : ((ops[m]?).any fun om => om.after.any fun e => Region.binds md e && e.on == k) = true) (hlm : (listed.setIfInBounds i true).getD m true = false)
  (hQ : ∀ v c a w, Q (.panic c) (a.put ok.dst v) w → Q (.panic c) a w)
  (hx1 : (execOp a.eval o1).run P w = .ok (.enter f vals) w) (hx1' : ∀ v w', (execOp (a.put (some d2) v).eval o1).run P w' = .ok (.enter f vals) w')
  (hx2 : ∀ (a' : Act) w', (execOp a'.eval o2).run P w' = .ok (.value (z w')) (N w'))
  (hA : Calls P f vals w fun e w1 => ∃ u, e = .returned u ∧ U u ∧ T w1 ∧ T (N w1) ∧ C u (z w1) (N w1))
  (hT : T (N w)) (hB : Calls P f vals (N w) fun e w1 => ∃ u, e = .returned u ∧ U u ∧ T w1 ∧ C u (z w) w1)
  (hxk : ∀ u w', U u → (execOp (a.put (some d1) u).eval ok).run P w' = .ok (.value (F u)) w') (hxk' : ∀ u v w', U u → (execOp ((a.put (some d2) v).put (some d1) u).eval ok).run P w' = .ok (.value (F u)) w')
  (h : ∀ u v w', U u → T w' → C u v w' → wpAnyM P md ops Q T m fuel (((listed.setIfInBounds i true).setIfInBounds k true).setIfInBounds j true) { a with tmps := ((a.tmps.setIfInBounds d1 u).setIfInBounds dk (F u)).setIfInBounds d2 v } w') : wpAnyM P md ops Q T m (fuel + 3) listed a w := by
 refine ⟨fun h0 => (by rw [hr] at h0; cases h0), fun q hq => ?_⟩
 rw [hr] at hq
 simp only [List.mem_cons, List.not_mem_nil, or_false] at hq
 rcases hq with rfl | rfl
 ·unfold wpOp
  simp only [h1]
  rw [if_pos (hw1 _)]
  refine .inl ?_
  unfold Oper.wp
  rw [hx1]
  refine Calls.mono hA ?_
  rintro e w1 ⟨u, rfl, uu, t1, t2, c1⟩
  rw [hd1]
  refine ⟨fun _ => t1, ?_⟩
  refine M_take k dk (F u) _ hk hdk hs hfk hri hmk hlm (fun c a w => hQ _ c a w) (hwk _) (fun w' _ => hxk u w' uu) t1 rfl rfl ?_
  exact M_run j d2 (z w1) (N w1) h2 hd2 hrik (hw2 _) rfl (hx2 _ w1) t2 (h u (z w1) (N w1) uu t2 c1)
 ·unfold wpOp
  simp only [h2]
  rw [if_pos (hw2 _)]
  refine .inl ?_
  unfold Oper.wp
  rw [hx2, Oper.upon_value, hd2]
  refine ⟨fun _ => hT, ?_⟩
  refine ⟨fun h0 => (by rw [hrj] at h0; cases h0), fun q hq => ?_⟩
  rw [hrj, List.mem_singleton] at hq
  subst hq
  unfold wpOp
  simp only [h1]
  rw [if_pos (hw1 _)]
  refine .inl ?_
  unfold Oper.wp
  rw [hx1']
  refine Calls.mono hB ?_
  rintro e w1 ⟨u, rfl, uu, t1, c1⟩
  rw [hd1]
  refine ⟨fun _ => t1, ?_⟩
  refine M_run k dk (F u) w1 hk hdk hrji (hwk _) rfl (hxk' u (z w) w1 uu) t1 ?_
  have hh := h u (z w) w1 uu t1 c1
  rw [Array.setIfInBounds_comm (xs := listed.setIfInBounds q true) _ _ (Ne.symm hjk), Array.setIfInBounds_comm (xs := listed) _ _ hij, set_comm2 (a.tmps.setIfInBounds d1 u) (Ne.symm d2k), set_comm2 a.tmps d12] at hh
  exact hh
end
end Go.Proofs.YtfnjbbaphmmjlaaGreat
