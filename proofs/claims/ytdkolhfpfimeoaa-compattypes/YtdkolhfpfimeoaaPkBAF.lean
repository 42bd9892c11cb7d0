/- Part 6 of what the proof stands on. -/
import Derived.Test.YtdkolhfpfimeoaaPkBAE
namespace Go.Proofs.Ytdkolhfpfimeoaa
set_option maxHeartbeats 8000000
set_option linter.unusedVariables false
set_option linter.unusedSimpArgs false
set_option maxRecDepth 20000
open Go.ChangeShapes Go.WideShapes Go.ChangeAt Go.RowKit Go.Maps
def zS : ScS := ⟨⟨#[]⟩,[],[],[]⟩
theorem zS_in (w : World) : SIn w (.agg #[.string ⟨#[]⟩,.slice none 0 0,.slice none 0 0,.slice none 0 0]) zS :=
 ⟨⟨_,_,_,rfl,⟨[],RowG.nil _ _,rfl,fun i m h => by simp [zS] at h⟩,⟨[],RowG.nil _ _,rfl,fun i m h => by simp [zS] at h⟩,RowG.nil _ _⟩,⟨by decide,by simp [zS],by simp [zS],by simp [zS]⟩,⟨by decide,by decide,by decide,by simp [zS],by simp [zS]⟩⟩
theorem fits_z {a b : Int} (h : a ≠ 6) : fitsY zS zS a ⟨#[]⟩ b ⟨#[]⟩ = decide (a = b ∨ a = 1 ∧ b = 2) := by
 unfold fitsY
 by_cases h1 : a = 1 ∧ b = 2
 ·rw [if_pos h1]; simp [h1]
 ·rw [if_neg h1]
  by_cases h2 : a = b
  ·subst h2; simp [h]
  ·rw [if_pos h2]; simp [h2]; intro e1 e2; exact h1 ⟨e1,e2⟩
theorem compatTypes_walk (w : World) :
  Calls Try.prog 8 #[] w fun e w' => e = .returned (.bool true) ∧ Below w.heap.size w w' := by
 have HEV : Hid EvolC := evolves_any;have HFT : Hid (∀ W k1 k2,Calls Try.prog 14 #[.agg #[.string ⟨#[]⟩,.slice none 0 0,.slice none 0 0,.slice none 0 0],.agg #[.string ⟨#[]⟩,.slice none 0 0,.slice none 0 0,.slice none 0 0],.agg #[.int .i64 k1,.string ⟨#[]⟩],.agg #[.int .i64 k2,.string ⟨#[]⟩]] W fun e w' => e = .returned (.bool (fitsY zS zS k1 ⟨#[]⟩ k2 ⟨#[]⟩)) ∧ Below W.heap.size W w') := fun W k1 k2 => cfits_any zS zS _ _ k1 k2 _ _ W (zS_in W) (zS_in W)
 have BX : Blk (w.alloc (Obj.cells #[.string ⟨#[]⟩,.slice none 0 0,.slice none 0 0,.slice none 0 0] 26)) w.heap.size #[.string ⟨#[]⟩,.slice none 0 0,.slice none 0 0,.slice none 0 0] 26 := Blk.new w _ _;have hal : Below w.heap.size w (w.alloc (Obj.cells #[.string ⟨#[]⟩,.slice none 0 0,.slice none 0 0,.slice none 0 0] 26)) := (Below.refl _ _).alloc (Nat.le_refl _) _
 go_enter Try.func8,Try.ntmps8
 go_wp2_with fail;generalize (w.alloc (Obj.cells #[.string ⟨#[]⟩,.slice none 0 0,.slice none 0 0,.slice none 0 0] 26)) = WA at *
 go_loopw [2] (fun av wr => ∃ a : Int,av = .int .i64 a ∧ -1 ≤ a ∧ a ≤ 9 ∧ Below w.heap.size w wr ∧ Hid (Blk wr w.heap.size #[.string ⟨#[]⟩,.slice none 0 0,.slice none 0 0,.slice none 0 0] 26)) (fun av _ => (9 - intOf av).toNat)
 case atStart => exact ⟨-1,rfl,by omega,by omega,hal,BX⟩
 case round =>
  clear hal BX;obtain ⟨a,rfl,ha1,ha2,hbel,HBX⟩ := hrel
  by_cases hle : a ≤ 8
  ·have hda : decide (a ≤ 8) = true := by simpa using hle
   go_wp2_with fail
   go_loopw [3] (fun bv wr => ∃ b : Int,bv = .int .i64 b ∧ -1 ≤ b ∧ b ≤ 9 ∧ Below w.heap.size w wr ∧ Hid (Blk wr w.heap.size #[.string ⟨#[]⟩,.slice none 0 0,.slice none 0 0,.slice none 0 0] 26)) (fun bv _ => (9 - intOf bv).toNat)
   case atStart => exact ⟨-1,rfl,by omega,by omega,hbel,HBX⟩
   case round =>
    clear hbel HBX;obtain ⟨b,rfl,hb1,hb2,hbel,HBX⟩ := hrel
    by_cases hlb : b ≤ 8
    ·have hdb : decide (b ≤ 8) = true := by simpa using hlb
     by_cases h6 : a = 6
     ·have e6 : (a == 6) = true := by simpa using h6
      go_wp2_with fail
      go_roundw
      case rel => exact ⟨b + 1,by go_num,by omega,by omega,hbel,HBX⟩
      case measure => simp [intOf]; omega
     ·have e6 : (a == 6) = false := by simpa using h6
      by_cases g6 : b = 6
      ·have f6 : (b == 6) = true := by simpa using g6
       go_wp2_with fail
       go_roundw
       case rel => exact ⟨b + 1,by go_num,by omega,by omega,hbel,HBX⟩
       case measure => simp [intOf]; omega
      ·have f6 : (b == 6) = false := by simpa using g6
       have BX := HBX.out;have x0 := (BX.cell 0).trans rfl;have x1 := (BX.cell 1).trans rfl;have x2 := (BX.cell 2).trans rfl;have x3 := (BX.cell 3).trans rfl;have HFF : Hid (fitsY zS zS a ⟨#[]⟩ b ⟨#[]⟩ = decide (a = b ∨ a = 1 ∧ b = 2)) := fits_z h6;clear BX;go_wp2_with fail;refine (HFT.out _ _ _).mono ?_;rintro e w2 ⟨rfl,hb⟩;have hbel2 : Below w.heap.size w w2 := hbel.trans (hb.mono hbel.size);have HBX2 : Hid (Blk w2 w.heap.size #[.string ⟨#[]⟩,.slice none 0 0,.slice none 0 0,.slice none 0 0] 26) := HBX.out.below hb;rw [HFF.out];obtain ⟨R,hR⟩ : ∃ z,decide (a = b ∨ a = 1 ∧ b = 2) = z := ⟨_,rfl⟩;rw [hR];clear hb hbel HBX x0 x1 x2 x3 HFF
       by_cases hab : a = b
       ·have e1 : (a == b) = true := by simpa using hab
        obtain rfl : R = true := by rw [← hR]; simp [hab]
        clear hR hab;go_wp2_with fail
        go_roundw
        case rel => exact ⟨b + 1,by go_num,by omega,by omega,hbel2,HBX2⟩
        case measure => simp [intOf]; omega
       ·have e1 : (a == b) = false := by simpa using hab
        by_cases h1 : a = 1
        ·have e3 : (a == 1) = true := by simpa using h1
         by_cases h2 : b = 2
         ·have e4 : (b == 2) = true := by simpa using h2
          obtain rfl : R = true := by rw [← hR]; simp [h1,h2]
          clear hR h1 h2;go_wp2_with fail
          go_roundw
          case rel => exact ⟨b + 1,by go_num,by omega,by omega,hbel2,HBX2⟩
          case measure => simp [intOf]; omega
         ·have e4 : (b == 2) = false := by simpa using h2
          obtain rfl : R = false := by rw [← hR]; simp [hab,h2]
          clear hR h1;go_wp2_with fail
          go_roundw
          case rel => exact ⟨b + 1,by go_num,by omega,by omega,hbel2,HBX2⟩
          case measure => simp [intOf]; omega
        ·have e3 : (a == 1) = false := by simpa using h1
         obtain rfl : R = false := by rw [← hR]; simp [hab,h1]
         clear hR;go_wp2_with fail
         go_roundw
         case rel => exact ⟨b + 1,by go_num,by omega,by omega,hbel2,HBX2⟩
         case measure => simp [intOf]; omega
    ·have hdb : decide (b ≤ 8) = false := by simpa using hlb
     go_wp2_with fail
     go_roundw
     case rel => exact ⟨a + 1,by go_num,by omega,by omega,hbel,HBX⟩
     case measure => simp [intOf]; omega
  ·have hda : decide (a ≤ 8) = false := by simpa using hle
   go_wp2_with fail;refine (evawake_any HEV.out _).mono ?_;rintro e wz ⟨rfl,hbz⟩;have hbwz : Below w.heap.size w wz := hbel.trans (hbz.mono hbel.size);clear hbz;go_wp2_with fail;go_ret;exact ⟨rfl,hbwz⟩
end Go.Proofs.Ytdkolhfpfimeoaa
