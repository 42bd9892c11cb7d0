/- Part 4 of what the proof stands on. -/
import Derived.Test.YtdkolhfpfimeoaaPkFAC
namespace Go.Proofs.Ytdkolhfpfimeoaa
set_option maxHeartbeats 8000000
set_option linter.unusedVariables false
set_option linter.unusedSimpArgs false
set_option maxRecDepth 20000
section
open Go.ChangeShapes Go.WideShapes Go.ChangeAt Go.RowKit Go.Maps
theorem cfield_any {w : World} {snm : ByteArray} {nm : Int} {am : Option Addr} {M cm : Nat} {vt : Value} {ts : List FlS} (hr : RowG w vt 5 (flRows ts)) :
  Calls Try.prog 64 #[.agg #[.string snm,vt,.slice am M cm],.int .i64 nm] w fun e w' => e = .returned (.tuple #[flV ((ts.find? fun m => decide (m.tag = nm)).getD zeroF),.bool (ts.find? fun m => decide (m.tag = nm)).isSome]) ∧ Below w.heap.size w w' := by
 obtain ⟨a,c,rfl,q1,q2⟩ := hr.form2
 have hN : (flRows ts).length = ts.length := by simp [flRows]
 rw [hN] at hr q1 ⊢;clear hN;obtain ⟨N,hN⟩ : ∃ N,ts.length = N := ⟨_,rfl⟩;rw [hN] at hr q1 ⊢;have HN : Hid (ts.length = N) := hN;have HR : Hid (RowG w (.slice a N c) 5 (flRows ts)) := hr;clear hN hr;obtain ⟨A,hA⟩ : ∃ A,(ts.find? fun m => decide (m.tag = nm)) = A := ⟨_,rfl⟩;rw [hA];have HA : Hid (A = ((ts.drop 0).find? fun m => decide (m.tag = nm))) := hA.symm;clear hA;have BX0 : Blk ((w.alloc (.cells #[.string snm,.slice a N c,.slice am M cm] 40)).alloc (.cells #[.string ⟨#[]⟩,.int .i64 0,.int .i64 0,.int .i64 0,.string ⟨#[]⟩] 42)) w.heap.size #[.string snm,.slice a N c,.slice am M cm] 40 := (Blk.new w _ _).below ((Below.refl _ _).alloc (Nat.le_refl _) _)
 have BR0 : Blk ((w.alloc (.cells #[.string snm,.slice a N c,.slice am M cm] 40)).alloc (.cells #[.string ⟨#[]⟩,.int .i64 0,.int .i64 0,.int .i64 0,.string ⟨#[]⟩] 42)) (w.heap.size + 1) #[.string ⟨#[]⟩,.int .i64 0,.int .i64 0,.int .i64 0,.string ⟨#[]⟩] 42 := by
  have := Blk.new (w.alloc (.cells #[.string snm,.slice a N c,.slice am M cm] 40)) #[.string ⟨#[]⟩,.int .i64 0,.int .i64 0,.int .i64 0,.string ⟨#[]⟩] 42
  rwa [show (w.alloc (.cells #[.string snm,.slice a N c,.slice am M cm] 40)).heap.size = w.heap.size + 1 by simp] at this
 have hb0 : Below w.heap.size w ((w.alloc (.cells #[.string snm,.slice a N c,.slice am M cm] 40)).alloc (.cells #[.string ⟨#[]⟩,.int .i64 0,.int .i64 0,.int .i64 0,.string ⟨#[]⟩] 42)) := ((Below.refl _ _).alloc (Nat.le_refl _) _).alloc (by simp) _
 go_enter Try.func64,Try.ntmps64
 go_wp2_with fail
 go_loopw [11] (fun iv wr => ∃ k : Nat,iv = .int .i64 (k : Int) ∧ k ≤ N ∧ Hid (A = ((ts.drop k).find? fun m => decide (m.tag = nm))) ∧ Below w.heap.size w wr ∧ Blk wr (w.heap.size + 1) #[.string ⟨#[]⟩,.int .i64 0,.int .i64 0,.int .i64 0,.string ⟨#[]⟩] 42) (fun iv _ => N - (intOf iv).toNat)
 case atStart => exact ⟨0,rfl,by omega,HA,hb0,BR0⟩
 case round =>
  obtain ⟨k,rfl,hk,HAk,hbel,BR⟩ := hrel;clear BX0 BR0 hb0;have hlt2 : w.heap.size + 1 < wr.heap.size := BR.lt;have r0 := (BR.cell 0).trans rfl;have z0 := BR.froz 0;have r1 := (BR.cell 1).trans rfl;have z1 := BR.froz 1;have r2 := (BR.cell 2).trans rfl;have z2 := BR.froz 2;have r3 := (BR.cell 3).trans rfl;have z3 := BR.froz 3;have r4 := (BR.cell 4).trans rfl;have z4 := BR.froz 4
  by_cases hlt : k < N
  ·obtain ⟨f,hf⟩ : ∃ n,ts[k]? = some n := ⟨_,List.getElem?_eq_getElem (by rw [HN.out]; exact hlt)⟩
   have hrr : (flRows ts)[k]? = some f.cells := by simp [flRows,hf]
   obtain ⟨g,off,rfl,c1⟩ := (HR.out.below hbel).get hrr;obtain ⟨f0,f1,f2,f3,f4⟩ := f
   have HA2 : Hid (A = if decide (f1 = nm) = true then some ⟨f0,f1,f2,f3,f4⟩ else ((ts.drop (k + 1)).find? fun m => decide (m.tag = nm))) := by
    show _ = _
    rw [HAk.out,drop_at hf,List.find?_cons]
    cases decide (f1 = nm) <;> rfl
   have p0 := c1 0 _ rfl;have p1 := c1 1 _ rfl;have p2 := c1 2 _ rfl;have p3 := c1 3 _ rfl;have p4 := c1 4 _ rfl;simp only [Nat.add_zero] at p0 p1 p2 p3 p4;clear c1 hrr hf HAk
   by_cases he : f1 = nm
   ·subst he;go_wp2_with fail;refine bodyPost_ret (results_two rfl _ _ _ ⟨w.heap.size + 1,0,none⟩ (.agg #[.string f0,.int .i64 f1,.int .i64 f2,.int .i64 f3,.string f4]) (by go_simp) (by go_simp)) rfl ?_;exact ⟨ret_two (by rw [HA2.out,if_pos (by simp)]; rfl) (by rw [HA2.out,if_pos (by simp)]; rfl),(Below.alloc (Below.setCell (Below.setCell (Below.setCell (Below.setCell (Below.setCell hbel (by simp) _) (by simp) _) (by simp) _) (by simp) _) (by simp) _) (by simp; omega) _)⟩
   ·have hq : (f1 == nm) = false := by simpa using he
    have HA3 : Hid (A = ((ts.drop (k + 1)).find? fun m => decide (m.tag = nm))) := by show _ = _; rw [HA2.out,if_neg (by simpa using he)]
    have hb2 : Below w.heap.size w (wr.alloc (.cells #[.string f0,.int .i64 f1,.int .i64 f2,.int .i64 f3,.string f4] 42)) := hbel.alloc (by omega) _;have BR2 : Blk (wr.alloc (.cells #[.string f0,.int .i64 f1,.int .i64 f2,.int .i64 f3,.string f4] 42)) (w.heap.size + 1) #[.string ⟨#[]⟩,.int .i64 0,.int .i64 0,.int .i64 0,.string ⟨#[]⟩] 42 := BR.below ((Below.refl _ _).alloc (Nat.le_refl _) _);go_wp2_with fail
    go_roundw
    case rel => exact ⟨k + 1,by go_num,by omega,HA3,hb2,BR2⟩
    case measure => simp [intOf]; omega
  ·have HA2 : Hid (A = none) := by show _ = _; rw [HAk.out,drop_end (by rw [HN.out]; omega)]; rfl
   go_wp2_with fail;refine bodyPost_ret (results_two rfl _ _ _ ⟨w.heap.size + 1,0,none⟩ (.agg #[.string ⟨#[]⟩,.int .i64 0,.int .i64 0,.int .i64 0,.string ⟨#[]⟩]) (by go_simp) (by go_simp)) rfl ?_;exact ⟨ret_two (by rw [HA2.out]; rfl) (by rw [HA2.out]; rfl),(Below.setCell (Below.setCell (Below.setCell (Below.setCell (Below.setCell hbel (by simp) _) (by simp) _) (by simp) _) (by simp) _) (by simp) _)⟩
theorem cmethod_any {w : World} {snm nm : ByteArray} {am ae : Option Addr} {M cm E ce : Nat} {vt : Value} {ts : List MtS} (hr : RowG w vt 3 (mtRows ts)) :
  Calls Try.prog 19 #[.agg #[.string snm,.slice am M cm,.slice ae E ce,vt],.string nm] w fun e w' => e = .returned (.tuple #[mtV ((ts.find? fun m => decide (m.name = nm)).getD zeroT),.bool (ts.find? fun m => decide (m.name = nm)).isSome]) ∧ Below w.heap.size w w' := by
 obtain ⟨a,c,rfl,q1,q2⟩ := hr.form2
 have hN : (mtRows ts).length = ts.length := by simp [mtRows]
 rw [hN] at hr q1 ⊢;clear hN;obtain ⟨N,hN⟩ : ∃ N,ts.length = N := ⟨_,rfl⟩;rw [hN] at hr q1 ⊢;have HN : Hid (ts.length = N) := hN;have HR : Hid (RowG w (.slice a N c) 3 (mtRows ts)) := hr;clear hN hr;obtain ⟨A,hA⟩ : ∃ A,(ts.find? fun m => decide (m.name = nm)) = A := ⟨_,rfl⟩;rw [hA];have HA : Hid (A = ((ts.drop 0).find? fun m => decide (m.name = nm))) := hA.symm;clear hA;have BX0 : Blk ((w.alloc (.cells #[.string snm,.slice am M cm,.slice ae E ce,.slice a N c] 26)).alloc (.cells #[.string ⟨#[]⟩,.string ⟨#[]⟩,.string ⟨#[]⟩] 47)) w.heap.size #[.string snm,.slice am M cm,.slice ae E ce,.slice a N c] 26 := (Blk.new w _ _).below ((Below.refl _ _).alloc (Nat.le_refl _) _)
 have BR0 : Blk ((w.alloc (.cells #[.string snm,.slice am M cm,.slice ae E ce,.slice a N c] 26)).alloc (.cells #[.string ⟨#[]⟩,.string ⟨#[]⟩,.string ⟨#[]⟩] 47)) (w.heap.size + 1) #[.string ⟨#[]⟩,.string ⟨#[]⟩,.string ⟨#[]⟩] 47 := by
  have := Blk.new (w.alloc (.cells #[.string snm,.slice am M cm,.slice ae E ce,.slice a N c] 26)) #[.string ⟨#[]⟩,.string ⟨#[]⟩,.string ⟨#[]⟩] 47
  rwa [show (w.alloc (.cells #[.string snm,.slice am M cm,.slice ae E ce,.slice a N c] 26)).heap.size = w.heap.size + 1 by simp] at this
 have hb0 : Below w.heap.size w ((w.alloc (.cells #[.string snm,.slice am M cm,.slice ae E ce,.slice a N c] 26)).alloc (.cells #[.string ⟨#[]⟩,.string ⟨#[]⟩,.string ⟨#[]⟩] 47)) := ((Below.refl _ _).alloc (Nat.le_refl _) _).alloc (by simp) _
 go_enter Try.func19,Try.ntmps19
 go_wp2_with fail
 go_loopw [11] (fun iv wr => ∃ k : Nat,iv = .int .i64 (k : Int) ∧ k ≤ N ∧ Hid (A = ((ts.drop k).find? fun m => decide (m.name = nm))) ∧ Below w.heap.size w wr ∧ Blk wr (w.heap.size + 1) #[.string ⟨#[]⟩,.string ⟨#[]⟩,.string ⟨#[]⟩] 47) (fun iv _ => N - (intOf iv).toNat)
 case atStart => exact ⟨0,rfl,by omega,HA,hb0,BR0⟩
 case round =>
  obtain ⟨k,rfl,hk,HAk,hbel,BR⟩ := hrel;clear BX0 BR0 hb0;have hlt2 : w.heap.size + 1 < wr.heap.size := BR.lt;have r0 := (BR.cell 0).trans rfl;have z0 := BR.froz 0;have r1 := (BR.cell 1).trans rfl;have z1 := BR.froz 1;have r2 := (BR.cell 2).trans rfl;have z2 := BR.froz 2
  by_cases hlt : k < N
  ·obtain ⟨f,hf⟩ : ∃ n,ts[k]? = some n := ⟨_,List.getElem?_eq_getElem (by rw [HN.out]; exact hlt)⟩
   have hrr : (mtRows ts)[k]? = some f.cells := by simp [mtRows,hf]
   obtain ⟨g,off,rfl,c1⟩ := (HR.out.below hbel).get hrr;obtain ⟨f0,f1,f2⟩ := f
   have HA2 : Hid (A = if decide (f0 = nm) = true then some ⟨f0,f1,f2⟩ else ((ts.drop (k + 1)).find? fun m => decide (m.name = nm))) := by
    show _ = _
    rw [HAk.out,drop_at hf,List.find?_cons]
    cases decide (f0 = nm) <;> rfl
   have p0 := c1 0 _ rfl;have p1 := c1 1 _ rfl;have p2 := c1 2 _ rfl;simp only [Nat.add_zero] at p0 p1 p2;clear c1 hrr hf HAk
   by_cases he : f0 = nm
   ·subst he;go_wp2_with fail;refine bodyPost_ret (results_two rfl _ _ _ ⟨w.heap.size + 1,0,none⟩ (.agg #[.string f0,.string f1,.string f2]) (by go_simp) (by go_simp)) rfl ?_;exact ⟨ret_two (by rw [HA2.out,if_pos (by simp)]; rfl) (by rw [HA2.out,if_pos (by simp)]; rfl),(Below.alloc (Below.setCell (Below.setCell (Below.setCell hbel (by simp) _) (by simp) _) (by simp) _) (by simp; omega) _)⟩
   ·have hq := bytes_ne he
    have HA3 : Hid (A = ((ts.drop (k + 1)).find? fun m => decide (m.name = nm))) := by show _ = _; rw [HA2.out,if_neg (by simpa using he)]
    have hb2 : Below w.heap.size w (wr.alloc (.cells #[.string f0,.string f1,.string f2] 47)) := hbel.alloc (by omega) _;have BR2 : Blk (wr.alloc (.cells #[.string f0,.string f1,.string f2] 47)) (w.heap.size + 1) #[.string ⟨#[]⟩,.string ⟨#[]⟩,.string ⟨#[]⟩] 47 := BR.below ((Below.refl _ _).alloc (Nat.le_refl _) _);go_wp2_with fail
    go_roundw
    case rel => exact ⟨k + 1,by go_num,by omega,HA3,hb2,BR2⟩
    case measure => simp [intOf]; omega
  ·have HA2 : Hid (A = none) := by show _ = _; rw [HAk.out,drop_end (by rw [HN.out]; omega)]; rfl
   go_wp2_with fail;refine bodyPost_ret (results_two rfl _ _ _ ⟨w.heap.size + 1,0,none⟩ (.agg #[.string ⟨#[]⟩,.string ⟨#[]⟩,.string ⟨#[]⟩]) (by go_simp) (by go_simp)) rfl ?_;exact ⟨ret_two (by rw [HA2.out]; rfl) (by rw [HA2.out]; rfl),(Below.setCell (Below.setCell (Below.setCell hbel (by simp) _) (by simp) _) (by simp) _)⟩
end
section
open Go.ChangeShapes Go.WideShapes Go.ChangeAt Go.RowKit
theorem freshF_any {w : World} {v : Value} {fs : List FlS} (hr : RowG w v 5 (flRows fs)) (hl : fs.length ≤ 100) :
  Calls Try.prog 59 #[v] w fun e w' => ∃ r,e = .returned r ∧ w'.ownsRow w.heap.size 42 5 r fs.length (flRows fs).flatten ∧ Below w.heap.size w w' := by
 have hN : (flRows fs).length = fs.length := by simp [flRows]
 have HN : Hid ((flRows fs).length = fs.length) := hN;have HR : Hid (RowG w v 5 (flRows fs)) := hr;have HL : Hid (fs.length ≤ 100) := hl;clear hr hN hl
 go_enter Try.func59,Try.ntmps59
 go_wp2_with (first
  | (at_builtin; refine wpList_joinG rfl _ _ 37 42 5 56 _ rfl Try.underlying37 infoFl rfl (by decide) w.heap.size (.slice none 0 0) 0 [] rfl (World.ownsRow_nil _ _ _ _) v (flRows fs) rfl HR.out (flr_len fs) (flr_one fs) ?c1 (by decide) (Nat.le_refl _) ?_)
  | fail)
 case c1 => have h1 := HN.out; have h2 := HL.out; omega
 intro r w1 ho hg;have hb : Below w.heap.size w w1 := (Below.refl _ _).grown hg (Nat.le_refl _) (fun k hk => by cases hk)
 have HO : Hid (w1.ownsRow w.heap.size 42 5 r fs.length (flRows fs).flatten) := by
  show World.ownsRow _ _ _ _ _ _ _
  rw [HN.out] at ho;exact ho
 clear hg ho;go_wp2_with fail;go_ret;exact ⟨_,rfl,HO.out,hb⟩
theorem freshI_any {w : World} {v : Value} {fs : List Int} (hr : RowG w v 1 (inRows fs)) (hl : fs.length ≤ 100) :
  Calls Try.prog 60 #[v] w fun e w' => ∃ r,e = .returned r ∧ w'.ownsRow w.heap.size 3 1 r fs.length (inRows fs).flatten ∧ Below w.heap.size w w' := by
 have hN : (inRows fs).length = fs.length := by simp [inRows]
 have HN : Hid ((inRows fs).length = fs.length) := hN;have HR : Hid (RowG w v 1 (inRows fs)) := hr;have HL : Hid (fs.length ≤ 100) := hl;clear hr hN hl
 go_enter Try.func60,Try.ntmps60
 go_wp2_with (first
  | (at_builtin; refine wpList_joinG rfl _ _ 38 3 1 8 _ rfl Try.underlying38 infoIn rfl (by decide) w.heap.size (.slice none 0 0) 0 [] rfl (World.ownsRow_nil _ _ _ _) v (inRows fs) rfl HR.out (inr_len fs) (inr_one fs) ?c1 (by decide) (Nat.le_refl _) ?_)
  | fail)
 case c1 => have h1 := HN.out; have h2 := HL.out; omega
 intro r w1 ho hg;have hb : Below w.heap.size w w1 := (Below.refl _ _).grown hg (Nat.le_refl _) (fun k hk => by cases hk)
 have HO : Hid (w1.ownsRow w.heap.size 3 1 r fs.length (inRows fs).flatten) := by
  show World.ownsRow _ _ _ _ _ _ _
  rw [HN.out] at ho;exact ho
 clear hg ho;go_wp2_with fail;go_ret;exact ⟨_,rfl,HO.out,hb⟩
theorem freshN_any {w : World} {v : Value} {fs : List NmS} (hr : RowG w v 2 (nmRows fs)) (hl : fs.length ≤ 100) :
  Calls Try.prog 65 #[v] w fun e w' => ∃ r,e = .returned r ∧ w'.ownsRow w.heap.size 53 2 r fs.length (nmRows fs).flatten ∧ Below w.heap.size w w' := by
 have hN : (nmRows fs).length = fs.length := by simp [nmRows]
 have HN : Hid ((nmRows fs).length = fs.length) := hN;have HR : Hid (RowG w v 2 (nmRows fs)) := hr;have HL : Hid (fs.length ≤ 100) := hl;clear hr hN hl
 go_enter Try.func65,Try.ntmps65
 go_wp2_with (first
  | (at_builtin; refine wpList_joinG rfl _ _ 49 53 2 24 _ rfl Try.underlying49 infoNm rfl (by decide) w.heap.size (.slice none 0 0) 0 [] rfl (World.ownsRow_nil _ _ _ _) v (nmRows fs) rfl HR.out (nmr_len fs) (nmr_one fs) ?c1 (by decide) (Nat.le_refl _) ?_)
  | fail)
 case c1 => have h1 := HN.out; have h2 := HL.out; omega
 intro r w1 ho hg;have hb : Below w.heap.size w w1 := (Below.refl _ _).grown hg (Nat.le_refl _) (fun k hk => by cases hk)
 have HO : Hid (w1.ownsRow w.heap.size 53 2 r fs.length (nmRows fs).flatten) := by
  show World.ownsRow _ _ _ _ _ _ _
  rw [HN.out] at ho;exact ho
 clear hg ho;go_wp2_with fail;go_ret;exact ⟨_,rfl,HO.out,hb⟩
end
section
open Go.ChangeShapes Go.WideShapes Go.ChangeAt Go.RowKit Go.Maps
theorem cmessage_any {w : World} {snm nm : ByteArray} {ae at' : Option Addr} {E ce T ct : Nat} {vm : Value} {ms : List MsS} (hr : MsIn w vm ms) (hl : ∀ m ∈ ms,m.fields.length ≤ 20 ∧ m.reserved.length ≤ 40) :
  Calls Try.prog 37 #[.agg #[.string snm,vm,.slice ae E ce,.slice at' T ct],.string nm] w fun e w' => ∃ vf vr,e = .returned (.tuple #[.agg #[.string ((ms.find? (fun m => decide (m.name = nm))).getD zeroM).name,vf,vr],.bool (ms.find? (fun m => decide (m.name = nm))).isSome]) ∧ w'.ownsRow w.heap.size 42 5 vf ((ms.find? (fun m => decide (m.name = nm))).getD zeroM).fields.length (flRows ((ms.find? (fun m => decide (m.name = nm))).getD zeroM).fields).flatten ∧ w'.ownsRow w.heap.size 3 1 vr ((ms.find? (fun m => decide (m.name = nm))).getD zeroM).reserved.length (inRows ((ms.find? (fun m => decide (m.name = nm))).getD zeroM).reserved).flatten ∧ Below w.heap.size w w' := by
 obtain ⟨a,c,rfl,q1,q2⟩ := hr.form2;have HR : Hid (MsIn w (.slice a ms.length c) ms) := hr;obtain ⟨N,hN⟩ : ∃ N,ms.length = N := ⟨_,rfl⟩;rw [hN] at HR q1 ⊢;have HN : Hid (ms.length = N) := hN;clear hN hr;have HL : Hid (∀ m ∈ ms,m.fields.length ≤ 20 ∧ m.reserved.length ≤ 40) := hl;clear hl;obtain ⟨A,hA⟩ : ∃ A,(ms.find? (fun m => decide (m.name = nm))) = A := ⟨_,rfl⟩;rw [hA];have HA : Hid (A = ((ms.drop 0).find? (fun m => decide (m.name = nm)))) := hA.symm;clear hA;have BX0 : Blk ((w.alloc (.cells #[.string snm,.slice a N c,.slice ae E ce,.slice at' T ct] 26)).alloc (.cells #[.string ⟨#[]⟩,.slice none 0 0,.slice none 0 0] 40)) w.heap.size #[.string snm,.slice a N c,.slice ae E ce,.slice at' T ct] 26 := (Blk.new w _ _).below ((Below.refl _ _).alloc (Nat.le_refl _) _)
 have BR0 : Blk ((w.alloc (.cells #[.string snm,.slice a N c,.slice ae E ce,.slice at' T ct] 26)).alloc (.cells #[.string ⟨#[]⟩,.slice none 0 0,.slice none 0 0] 40)) (w.heap.size + 1) #[.string ⟨#[]⟩,.slice none 0 0,.slice none 0 0] 40 := by
  have := Blk.new (w.alloc (.cells #[.string snm,.slice a N c,.slice ae E ce,.slice at' T ct] 26)) #[.string ⟨#[]⟩,.slice none 0 0,.slice none 0 0] 40
  rwa [show (w.alloc (.cells #[.string snm,.slice a N c,.slice ae E ce,.slice at' T ct] 26)).heap.size = w.heap.size + 1 by simp] at this
 have hb0 : Below w.heap.size w ((w.alloc (.cells #[.string snm,.slice a N c,.slice ae E ce,.slice at' T ct] 26)).alloc (.cells #[.string ⟨#[]⟩,.slice none 0 0,.slice none 0 0] 40)) := ((Below.refl _ _).alloc (Nat.le_refl _) _).alloc (by simp) _
 go_enter Try.func37,Try.ntmps37
 go_wp2_with fail
 go_loopw [11] (fun iv wr => ∃ k : Nat,iv = .int .i64 (k : Int) ∧ k ≤ N ∧ Hid (A = ((ms.drop k).find? (fun m => decide (m.name = nm)))) ∧ Below w.heap.size w wr ∧ Blk wr (w.heap.size + 1) #[.string ⟨#[]⟩,.slice none 0 0,.slice none 0 0] 40) (fun iv _ => N - (intOf iv).toNat)
 case atStart => exact ⟨0,rfl,by omega,HA,hb0,BR0⟩
 case round =>
  obtain ⟨k,rfl,hk,HAk,hbel,BR⟩ := hrel;clear BX0 BR0 hb0;have hlt2 : w.heap.size + 1 < wr.heap.size := BR.lt;have r0 := (BR.cell 0).trans rfl;have z0 := BR.froz 0;have r1 := (BR.cell 1).trans rfl;have z1 := BR.froz 1;have r2 := (BR.cell 2).trans rfl;have z2 := BR.froz 2
  by_cases hlt : k < N
  ·obtain ⟨f,hf⟩ : ∃ n,ms[k]? = some n := ⟨_,List.getElem?_eq_getElem (by rw [HN.out]; exact hlt)⟩;obtain ⟨g,off,vf,vr,rfl,c0',c1',c2',hrf,hrr⟩ := HR.out.get hf;have c0 := (hbel.cell (World.block_lt_of_cell? _ _ c0')).trans c0';have c1 := (hbel.cell (World.block_lt_of_cell? _ _ c1')).trans c1';have c2 := (hbel.cell (World.block_lt_of_cell? _ _ c2')).trans c2';clear c0' c1' c2';have HF : Hid (RowG w vf 5 (flRows f.fields)) := hrf;have HV : Hid (RowG w vr 1 (inRows f.reserved)) := hrr;obtain ⟨a3,c3,rfl,_,_⟩ := hrf.form2;obtain ⟨a4,c4,rfl,_,_⟩ := hrr.form2;have HF : Hid (RowG w (.slice a3 (flRows f.fields).length c3) 5 (flRows f.fields)) := HF;have HV : Hid (RowG w (.slice a4 (inRows f.reserved).length c4) 1 (inRows f.reserved)) := HV;have HLf : Hid _ := HL.out f (List.mem_of_getElem? hf)
   have HA2 : Hid (A = if decide (f.name = nm) = true then some f else ((ms.drop (k + 1)).find? (fun m => decide (m.name = nm)))) := by
    show _ = _
    rw [HAk.out,drop_at hf,List.find?_cons]
    cases decide (f.name = nm) <;> rfl
   obtain ⟨f0,ff,fr⟩ := f;simp only at c0 c1 c2 HA2 HF HV HLf;generalize hnF : (flRows ff).length = nF at *;generalize hnR : (inRows fr).length = nR at *;clear hrf hrr hf HAk hnF hnR
   by_cases he : f0 = nm
   ·subst he
    have HA3 : Hid (A = some ⟨f0,ff,fr⟩) := by show _ = _; rw [HA2.out,if_pos (by simp)]
    clear HA2;go_wp2_with fail;refine wp_region_held_drew (S := fun _ => True) (by kernel_rfl) trivial (fun hS => ?_);have hba : Below w.heap.size w (wr.alloc (.cells #[.string f0,.slice a3 nF c3,.slice a4 nR c4] 40)).drew := below_drewN 1 (hbel.alloc (by omega) _);have BT : Blk (wr.alloc (.cells #[.string f0,.slice a3 nF c3,.slice a4 nR c4] 40)).drew wr.heap.size #[.string f0,.slice a3 nF c3,.slice a4 nR c4] 40 := Blk.new wr #[.string f0,.slice a3 nF c3,.slice a4 nR c4] 40;have BR2 : Blk (wr.alloc (.cells #[.string f0,.slice a3 nF c3,.slice a4 nR c4] 40)).drew (w.heap.size + 1) #[.string ⟨#[]⟩,.slice none 0 0,.slice none 0 0] 40 := BR.below (below_drewN 1 ((Below.refl _ _).alloc (Nat.le_refl _) _))
    have HSZ : Hid ((wr.alloc (.cells #[.string f0,.slice a3 nF c3,.slice a4 nR c4] 40)).drew.heap.size = wr.heap.size + 1) := by show _ = _; simp [World.drew]
    generalize (wr.alloc (.cells #[.string f0,.slice a3 nF c3,.slice a4 nR c4] 40)).drew = W0 at *;obtain ⟨bt,hbt⟩ : ∃ n,wr.heap.size = n := ⟨_,rfl⟩;rw [hbt] at BT HSZ hlt2 ⊢;clear hbt c0 c1 c2 r0 r1 r2 z0 z1 z2 hS;have t1 : W0.cell? ⟨bt,1,none⟩ = some (.slice a3 nF c3) := BT.cell 1;have t2 : W0.cell? ⟨bt,2,none⟩ = some (.slice a4 nR c4) := BT.cell 2;refine rg_take 0 19 (.pointer (some ⟨bt,1,none⟩)) _ rfl rfl (by kernel_rfl) (by kernel_rfl) (by kernel_rfl) (fun _ _ _ h => h) (by rfl) (fun w' hw' => ?_) trivial (listed' := bts 10 1) (by kernel_rfl) rfl ?_
    ·go_simp
    simp only [zsA,zsZ,zsS];refine rg_take 3 22 (.pointer (some ⟨bt,2,none⟩)) _ rfl rfl (by kernel_rfl) (by kernel_rfl) (by kernel_rfl) (fun _ _ _ h => h) (by rfl) (fun w' hw' => ?_) trivial (listed' := bts 10 9) (by kernel_rfl) rfl ?_
    ·go_simp
    simp only [zsA,zsZ,zsS];refine rg_llc 1 4 2 20 23 21 (.slice a3 nF c3) (.slice a4 nR c4) 59 #[.slice a3 nF c3] (fun W => W.cell? ⟨bt,2,none⟩ = some (.slice a4 nR c4)) rfl rfl rfl rfl rfl rfl (by kernel_rfl) (by kernel_rfl) (by kernel_rfl) (by kernel_rfl) (by kernel_rfl) (fun _ => rfl) (fun _ => rfl) (fun _ => rfl) (by decide) (by decide) (by decide) (by decide) (by go_simp) (by go_simp) (by go_simp) (by go_simp) (fun v W hLD => by go_simp) (fun W => by go_simp) (fun W => by go_simp) ?_;refine (freshF_any (HF.out.below hba) (by have := HLf.out; omega)).mono ?_;rintro e w2 ⟨rv,rfl,ho,hb2⟩;have BT2 := BT.below hb2;have BR3 := BR2.below hb2;have hbw2 : Below w.heap.size w w2 := hba.trans (hb2.mono hba.size);refine ⟨_,rfl,BT2.cell 2,?_⟩;simp only [zsA,zsZ,zsS];clear t1 t2;refine rg_take 6 25 (.pointer (some ⟨bt,1,none⟩)) _ rfl rfl (by kernel_rfl) (by kernel_rfl) (by kernel_rfl) (fun _ _ _ h => h) (by rfl) (fun w' hw' => ?_) trivial (listed' := bts 10 95) (by kernel_rfl) rfl ?_
    ·go_simp
    simp only [zsA,zsZ,zsS];refine rg_call 5 24 60 #[.slice a4 nR c4] rfl rfl (by kernel_rfl) (by rfl) (listed' := bts 10 127) (by kernel_rfl) (fun W => by go_simp) ?_;refine (freshI_any (HV.out.below hbw2) (by have := HLf.out; omega)).mono ?_;rintro e w3 ⟨rw,rfl,ho2,hb3⟩;refine ⟨_,rfl,trivial,?_⟩;simp only [zsA,zsZ,zsS];have BT3 := BT2.below hb3;have BR4 := BR3.below hb3;have hbw : Below w.heap.size w w3 := hbw2.trans (hb3.mono hbw2.size)
    have HO1 : Hid (w3.ownsRow (bt + 1) 42 5 rv ff.length (flRows ff).flatten) := by show World.ownsRow _ _ _ _ _ _ _; rw [HSZ.out] at ho; exact own_below ho hb3
    have HO2 : Hid (w3.ownsRow (bt + 1) 3 1 rw fr.length (inRows fr).flatten) := own_base ho2 (by have := hb2.size; have := HSZ.out; omega);obtain ⟨ra,rc,hrv⟩ := own_form ho;obtain ⟨qa,qc,hqv⟩ := own_form ho2;subst hrv hqv;have HO1 : Hid (w3.ownsRow (bt + 1) 42 5 (.slice ra ff.length rc) ff.length (flRows ff).flatten) := HO1;have HO2 : Hid (w3.ownsRow (bt + 1) 3 1 (.slice qa fr.length qc) fr.length (inRows fr).flatten) := HO2;obtain ⟨nFF,hNL⟩ : ∃ x,ff.length = x := ⟨_,rfl⟩;obtain ⟨nRR,hRL⟩ : ∃ x,fr.length = x := ⟨_,rfl⟩;rw [hNL] at HO1 ⊢;rw [hRL] at HO2 ⊢;have HNL : Hid (ff.length = nFF) := hNL;have HRL : Hid (fr.length = nRR) := hRL;clear hNL hRL;have hlt3 : bt < w3.heap.size := BT3.lt;clear ho ho2 hb2 hb3 BT BT2 BR2 BR3 hba hbw2 hbel HSZ BR;have t0 : w3.cell? ⟨bt,0,none⟩ = some (.string f0) := BT3.cell 0;have t1 : w3.cell? ⟨bt,1,none⟩ = some (.slice a3 nF c3) := BT3.cell 1;have t2 : w3.cell? ⟨bt,2,none⟩ = some (.slice a4 nR c4) := BT3.cell 2;have y1 := BT3.froz 1;have y2 := BT3.froz 2;have r0 := (BR4.cell 0).trans rfl;have r1 := (BR4.cell 1).trans rfl;have r2 := (BR4.cell 2).trans rfl;have z0 := BR4.froz 0;have z1 := BR4.froz 1;have z2 := BR4.froz 2
    have hdd : w.heap.size + 1 ≠ bt := by omega
    refine rg_store 7 (w3.setCell ⟨bt,1,none⟩ (.slice ra nFF rc)) rfl rfl (by kernel_rfl) (by rfl) (listed' := bts 10 255) (by kernel_rfl) (by go_simp) trivial ?_;refine rg_take 8 26 (.pointer (some ⟨bt,2,none⟩)) _ rfl rfl (by kernel_rfl) (by kernel_rfl) (by kernel_rfl) (fun _ _ _ h => h) (by rfl) (fun w' hw' => ?_) trivial (listed' := bts 10 511) (by kernel_rfl) rfl ?_
    ·go_simp
    simp only [zsA,zsZ,zsS];refine rg_store 9 ((w3.setCell ⟨bt,1,none⟩ (.slice ra nFF rc)).setCell ⟨bt,2,none⟩ (.slice qa nRR qc)) rfl rfl (by kernel_rfl) (by rfl) (listed' := bts 10 1023) (by kernel_rfl) (by go_simp) trivial ?_;refine wpAnyH_done (by kernel_rfl) ?_ _;go_wp2_with fail;refine bodyPost_ret (results_two rfl _ _ _ ⟨w.heap.size + 1,0,none⟩ (.agg #[.string f0,.slice ra nFF rc,.slice qa nRR qc]) (by go_simp) (by go_simp)) rfl ?_;refine ⟨.slice ra nFF rc,.slice qa nRR qc,ret_two (by rw [HA3.out]; rfl) (by rw [HA3.out]; rfl),?_,?_,?_⟩
    ·rw [HA3.out];rw [show ((some (⟨f0,ff,fr⟩ : MsS)).getD zeroM).fields.length = nFF from HNL.out];refine own_base (own_kp HO1.out (S := fun k => k = bt ∨ k = w.heap.size + 1) ?_ (fun k hk => by omega)) (by omega)
     repeat' first | exact Kp.refl _ _ | refine Kp.setCell ?_ (fun _ => by simp) _
    ·rw [HA3.out];rw [show ((some (⟨f0,ff,fr⟩ : MsS)).getD zeroM).reserved.length = nRR from HRL.out];refine own_base (own_kp HO2.out (S := fun k => k = bt ∨ k = w.heap.size + 1) ?_ (fun k hk => by omega)) (by omega)
     repeat' first | exact Kp.refl _ _ | refine Kp.setCell ?_ (fun _ => by simp) _
    ·repeat' first | exact hbw | refine Below.setCell ?_ (by first | (simp; done) | (simp; omega)) _
   ·have hq := bytes_ne he
    have HA3 : Hid (A = ((ms.drop (k + 1)).find? (fun m => decide (m.name = nm)))) := by show _ = _; rw [HA2.out,if_neg (by simpa using he)]
    have hb2 : Below w.heap.size w (wr.alloc (.cells #[.string f0,.slice a3 nF c3,.slice a4 nR c4] 40)) := hbel.alloc (by omega) _;have BR2 : Blk (wr.alloc (.cells #[.string f0,.slice a3 nF c3,.slice a4 nR c4] 40)) (w.heap.size + 1) #[.string ⟨#[]⟩,.slice none 0 0,.slice none 0 0] 40 := BR.below ((Below.refl _ _).alloc (Nat.le_refl _) _);go_wp2_with fail
    go_roundw
    case rel => exact ⟨k + 1,by go_num,by omega,HA3,hb2,BR2⟩
    case measure => simp [intOf]; omega
  ·have HA2 : Hid (A = none) := by show _ = _; rw [HAk.out,drop_end (by rw [HN.out]; omega)]; rfl
   go_wp2_with fail;refine bodyPost_ret (results_two rfl _ _ _ ⟨w.heap.size + 1,0,none⟩ (.agg #[.string ⟨#[]⟩,.slice none 0 0,.slice none 0 0]) (by go_simp) (by go_simp)) rfl ?_;exact ⟨.slice none 0 0,.slice none 0 0,ret_two (by rw [HA2.out]; rfl) (by rw [HA2.out]; rfl),by rw [HA2.out]; exact World.ownsRow_nil _ _ _ _,by rw [HA2.out]; exact World.ownsRow_nil _ _ _ _,(Below.setCell (Below.setCell (Below.setCell hbel (by simp) _) (by simp) _) (by simp) _)⟩
theorem cenumf_any {w : World} {snm nm : ByteArray} {am at' : Option Addr} {M cm T ct : Nat} {ve : Value} {ms : List EnS} (hr : EnIn w ve ms) (hl : ∀ m ∈ ms,m.values.length ≤ 24) :
  Calls Try.prog 42 #[.agg #[.string snm,.slice am M cm,ve,.slice at' T ct],.string nm] w fun e w' => ∃ vv,e = .returned (.tuple #[.agg #[.string ((ms.find? (fun m => decide (m.name = nm))).getD zeroN).name,vv],.bool (ms.find? (fun m => decide (m.name = nm))).isSome]) ∧ w'.ownsRow w.heap.size 53 2 vv ((ms.find? (fun m => decide (m.name = nm))).getD zeroN).values.length (nmRows ((ms.find? (fun m => decide (m.name = nm))).getD zeroN).values).flatten ∧ Below w.heap.size w w' := by
 obtain ⟨a,c,rfl,q1,q2⟩ := hr.form2;have HR : Hid (EnIn w (.slice a ms.length c) ms) := hr;obtain ⟨N,hN⟩ : ∃ N,ms.length = N := ⟨_,rfl⟩;rw [hN] at HR q1 ⊢;have HN : Hid (ms.length = N) := hN;clear hN hr;have HL : Hid (∀ m ∈ ms,m.values.length ≤ 24) := hl;clear hl;obtain ⟨A,hA⟩ : ∃ A,(ms.find? (fun m => decide (m.name = nm))) = A := ⟨_,rfl⟩;rw [hA];have HA : Hid (A = ((ms.drop 0).find? (fun m => decide (m.name = nm)))) := hA.symm;clear hA;have BX0 : Blk ((w.alloc (.cells #[.string snm,.slice am M cm,.slice a N c,.slice at' T ct] 26)).alloc (.cells #[.string ⟨#[]⟩,.slice none 0 0] 51)) w.heap.size #[.string snm,.slice am M cm,.slice a N c,.slice at' T ct] 26 := (Blk.new w _ _).below ((Below.refl _ _).alloc (Nat.le_refl _) _)
 have BR0 : Blk ((w.alloc (.cells #[.string snm,.slice am M cm,.slice a N c,.slice at' T ct] 26)).alloc (.cells #[.string ⟨#[]⟩,.slice none 0 0] 51)) (w.heap.size + 1) #[.string ⟨#[]⟩,.slice none 0 0] 51 := by
  have := Blk.new (w.alloc (.cells #[.string snm,.slice am M cm,.slice a N c,.slice at' T ct] 26)) #[.string ⟨#[]⟩,.slice none 0 0] 51
  rwa [show (w.alloc (.cells #[.string snm,.slice am M cm,.slice a N c,.slice at' T ct] 26)).heap.size = w.heap.size + 1 by simp] at this
 have hb0 : Below w.heap.size w ((w.alloc (.cells #[.string snm,.slice am M cm,.slice a N c,.slice at' T ct] 26)).alloc (.cells #[.string ⟨#[]⟩,.slice none 0 0] 51)) := ((Below.refl _ _).alloc (Nat.le_refl _) _).alloc (by simp) _
 go_enter Try.func42,Try.ntmps42
 go_wp2_with fail
 go_loopw [11] (fun iv wr => ∃ k : Nat,iv = .int .i64 (k : Int) ∧ k ≤ N ∧ Hid (A = ((ms.drop k).find? (fun m => decide (m.name = nm)))) ∧ Below w.heap.size w wr ∧ Blk wr (w.heap.size + 1) #[.string ⟨#[]⟩,.slice none 0 0] 51) (fun iv _ => N - (intOf iv).toNat)
 case atStart => exact ⟨0,rfl,by omega,HA,hb0,BR0⟩
 case round =>
  obtain ⟨k,rfl,hk,HAk,hbel,BR⟩ := hrel;clear BX0 BR0 hb0;have hlt2 : w.heap.size + 1 < wr.heap.size := BR.lt;have r0 := (BR.cell 0).trans rfl;have z0 := BR.froz 0;have r1 := (BR.cell 1).trans rfl;have z1 := BR.froz 1
  by_cases hlt : k < N
  ·obtain ⟨f,hf⟩ : ∃ n,ms[k]? = some n := ⟨_,List.getElem?_eq_getElem (by rw [HN.out]; exact hlt)⟩;obtain ⟨g,off,vv,rfl,c0',c1',hrf⟩ := HR.out.get hf;have c0 := (hbel.cell (World.block_lt_of_cell? _ _ c0')).trans c0';have c1 := (hbel.cell (World.block_lt_of_cell? _ _ c1')).trans c1';clear c0' c1';have HF : Hid (RowG w vv 2 (nmRows f.values)) := hrf;obtain ⟨a3,c3,rfl,_,_⟩ := hrf.form2;have HF : Hid (RowG w (.slice a3 (nmRows f.values).length c3) 2 (nmRows f.values)) := HF;have HLf : Hid _ := HL.out f (List.mem_of_getElem? hf)
   have HA2 : Hid (A = if decide (f.name = nm) = true then some f else ((ms.drop (k + 1)).find? (fun m => decide (m.name = nm)))) := by
    show _ = _
    rw [HAk.out,drop_at hf,List.find?_cons]
    cases decide (f.name = nm) <;> rfl
   obtain ⟨f0,ff⟩ := f;simp only at c0 c1 HA2 HF HLf;generalize hnF : (nmRows ff).length = nF at *;clear hrf hf HAk hnF
   by_cases he : f0 = nm
   ·subst he
    have HA3 : Hid (A = some ⟨f0,ff⟩) := by show _ = _; rw [HA2.out,if_pos (by simp)]
    clear HA2;go_wp2_with fail;have hba : Below w.heap.size w (wr.alloc (.cells #[.string f0,.slice a3 nF c3] 51)) := hbel.alloc (by omega) _;have hbn : Below wr.heap.size wr (wr.alloc (.cells #[.string f0,.slice a3 nF c3] 51)) := (Below.refl _ _).alloc (Nat.le_refl _) _;have BT := Blk.new wr #[.string f0,.slice a3 nF c3] 51;have BR2 := BR.below hbn;clear c0 c1 r0 r1 z0 z1;refine (freshN_any (HF.out.below hba) (by have := HLf.out; omega)).mono ?_;rintro e w2 ⟨r,rfl,ho,hb2⟩;have hbw : Below w.heap.size w w2 := hba.trans (hb2.mono hba.size);have BT2 := BT.below hb2;have BR3 := BR2.below hb2;have hlt3 : wr.heap.size < w2.heap.size := BT2.lt
    have hnb : ∀ k,(wr.alloc (.cells #[.string f0,.slice a3 nF c3] 51)).heap.size ≤ k → ¬ (k = wr.heap.size ∨ k = w.heap.size + 1) := fun k hk => by simp at hk; omega
    have HO : Hid (w2.ownsRow (wr.alloc (.cells #[.string f0,.slice a3 nF c3] 51)).heap.size 53 2 r ff.length (nmRows ff).flatten) := ho;have HB : Hid (∀ k,(wr.alloc (.cells #[.string f0,.slice a3 nF c3] 51)).heap.size ≤ k → ¬ (k = wr.heap.size ∨ k = w.heap.size + 1)) := hnb;obtain ⟨ra,rc,hrv⟩ := own_form ho;subst hrv;have HO : Hid (w2.ownsRow (wr.alloc (.cells #[.string f0,.slice a3 nF c3] 51)).heap.size 53 2 (.slice ra ff.length rc) ff.length (nmRows ff).flatten) := HO;have t0 := (BT2.cell 0).trans rfl;have t1 := (BT2.cell 1).trans rfl;have y0 := BT2.froz 0;have y1 := BT2.froz 1;have r0 := (BR3.cell 0).trans rfl;have r1 := (BR3.cell 1).trans rfl;have z0 := BR3.froz 0;have z1 := BR3.froz 1
    have hWB0 : (wr.alloc (.cells #[.string f0,.slice a3 nF c3] 51)).heap.size = wr.heap.size + 1 := by simp
    generalize (wr.alloc (.cells #[.string f0,.slice a3 nF c3] 51)).heap.size = WB at *
    have HWB : Hid (w.heap.size ≤ WB) := by show _ ≤ _; omega
    obtain ⟨nFF,hNL⟩ : ∃ x,ff.length = x := ⟨_,rfl⟩;rw [hNL] at HO ⊢;have HNL : Hid (ff.length = nFF) := hNL;clear hNL;clear ho hb2 hnb BT BR2 BT2 BR3 hba hbn hbel;go_wp2_with fail;refine bodyPost_ret (results_two rfl _ _ _ ⟨w.heap.size + 1,0,none⟩ (.agg #[.string f0,.slice ra nFF rc]) (by go_simp) (by go_simp)) rfl ?_;refine ⟨.slice ra nFF rc,ret_two (by rw [HA3.out]; rfl) (by rw [HA3.out]; rfl),?_,?_⟩
    ·rw [HA3.out];rw [show ((some (⟨f0,ff⟩ : EnS)).getD zeroN).values.length = nFF from HNL.out];refine own_base (own_kp HO.out (S := fun k => k = wr.heap.size ∨ k = w.heap.size + 1) ?_ HB.out) HWB.out
     repeat' first | exact Kp.refl _ _ | refine Kp.setCell ?_ (fun _ => by simp) _
    ·repeat' first | exact hbw | refine Below.setCell ?_ (by first | (simp; done) | (simp; omega)) _
   ·have hq := bytes_ne he
    have HA3 : Hid (A = ((ms.drop (k + 1)).find? (fun m => decide (m.name = nm)))) := by show _ = _; rw [HA2.out,if_neg (by simpa using he)]
    have hb2 : Below w.heap.size w (wr.alloc (.cells #[.string f0,.slice a3 nF c3] 51)) := hbel.alloc (by omega) _;have BR2 : Blk (wr.alloc (.cells #[.string f0,.slice a3 nF c3] 51)) (w.heap.size + 1) #[.string ⟨#[]⟩,.slice none 0 0] 51 := BR.below ((Below.refl _ _).alloc (Nat.le_refl _) _);go_wp2_with fail
    go_roundw
    case rel => exact ⟨k + 1,by go_num,by omega,HA3,hb2,BR2⟩
    case measure => simp [intOf]; omega
  ·have HA2 : Hid (A = none) := by show _ = _; rw [HAk.out,drop_end (by rw [HN.out]; omega)]; rfl
   go_wp2_with fail;refine bodyPost_ret (results_two rfl _ _ _ ⟨w.heap.size + 1,0,none⟩ (.agg #[.string ⟨#[]⟩,.slice none 0 0]) (by go_simp) (by go_simp)) rfl ?_;exact ⟨.slice none 0 0,ret_two (by rw [HA2.out]; rfl) (by rw [HA2.out]; rfl),by rw [HA2.out]; exact World.ownsRow_nil _ _ _ _,(Below.setCell (Below.setCell hbel (by simp) _) (by simp) _)⟩
theorem SIn.open {w : World} {v : Value} {s : ScS} (h : SIn w v s) : ∃ am M cm ae E ce at' T ct,v = .agg #[.string s.name,.slice am M cm,.slice ae E ce,.slice at' T ct] ∧ MsIn w (.slice am M cm) s.msgs ∧ EnIn w (.slice ae E ce) s.enums ∧ RowG w (.slice at' T ct) 3 (mtRows s.methods) := by
 obtain ⟨vm,ve,vt,rfl,h1,h2,h3⟩ := h.row;obtain ⟨am,cm,rfl, -, -⟩ := h1.form2;obtain ⟨ae,ce,rfl, -, -⟩ := h2.form2;obtain ⟨at',ct,rfl, -, -⟩ := h3.form2;exact ⟨_,_,_,_,_,_,_,_,_,rfl,h1,h2,h3⟩
theorem enm_few {s : ScS} (h : FewL s) (nm : ByteArray) : ((enmOf s nm).getD zEn).values.length ≤ 30000 := by
 cases hq : enmOf s nm with
 | none => simp [zEn]
 | some e => exact Nat.le_trans (h.vals e (List.mem_of_find?_eq_some hq)) (by decide)
theorem enm_w {s : ScS} (h : ScW s) (nm : ByteArray) : ∀ x ∈ ((enmOf s nm).getD zEn).values,NmW x := by
 cases hq : enmOf s nm with
 | none => simp [zEn]
 | some e => exact (h.enums e (List.mem_of_find?_eq_some hq)).2
theorem cenumf2 {s t : ScS} {sv tv : Value} {w : World} (hs : SIn w sv s) (ht : SIn w tv t) (n1 n2 : ByteArray) : Calls Try.prog 26 #[sv,tv,.string n1,.string n2] w fun e w' => e = .returned (.bool (fitsY s t 6 n1 6 n2)) ∧ Below w.heap.size w w' := by
 have HF1 := enm_few hs.few n1;have HF2 := enm_few ht.few n2;have HW1 := enm_w hs.wf n1;have HW2 := enm_w ht.wf n2;have HL1 : Hid (∀ m ∈ s.enums,m.values.length ≤ 24) := hs.few.vals;have HL2 : Hid (∀ m ∈ t.enums,m.values.length ≤ 24) := ht.few.vals;have HR : Hid (fitsY s t 6 n1 6 n2 = ((enmOf s n1).isSome && (enmOf t n2).isSome && ((enmOf s n1).getD zEn).values.all fun v => inVs v ((enmOf t n2).getD zEn).values)) := (by simp [fitsY] : _ = _);obtain ⟨am,M,cm,ae,E,ce,at',T,ct,rfl, -,hE1, -⟩ := hs.open;obtain ⟨am2,M2,cm2,ae2,E2,ce2,at2,T2,ct2,rfl, -,hE2, -⟩ := ht.open;have HC1 : Hid (∀ W,Below w.heap.size w W → Calls Try.prog 42 #[.agg #[.string s.name,.slice am M cm,.slice ae E ce,.slice at' T ct],.string n1] W fun e w' => ∃ vv,e = .returned (.tuple #[.agg #[.string ((enmOf s n1).getD zEn).name,vv],.bool (enmOf s n1).isSome]) ∧ w'.ownsRow W.heap.size 53 2 vv ((enmOf s n1).getD zEn).values.length (nmRows ((enmOf s n1).getD zEn).values).flatten ∧ Below W.heap.size W w') := fun W hW => cenumf_any (hE1.below hW) HL1.out
 have HC2 : Hid (∀ W,Below w.heap.size w W → Calls Try.prog 42 #[.agg #[.string t.name,.slice am2 M2 cm2,.slice ae2 E2 ce2,.slice at2 T2 ct2],.string n2] W fun e w' => ∃ vv,e = .returned (.tuple #[.agg #[.string ((enmOf t n2).getD zEn).name,vv],.bool (enmOf t n2).isSome]) ∧ w'.ownsRow W.heap.size 53 2 vv ((enmOf t n2).getD zEn).values.length (nmRows ((enmOf t n2).getD zEn).values).flatten ∧ Below W.heap.size W w') := fun W hW => cenumf_any (hE2.below hW) HL2.out
 rw [HR.out];generalize enmOf s n1 = X at *;generalize enmOf t n2 = Y at *;generalize s.name = sn at *;generalize t.name = tn at *;clear hs ht hE1 hE2 HL1 HL2 HR;have HAI : Hid (∀ W va vb B1 B2,Below w.heap.size w W → W.ownsRow B1 53 2 va (X.getD zEn).values.length (nmRows (X.getD zEn).values).flatten → W.ownsRow B2 53 2 vb (Y.getD zEn).values.length (nmRows (Y.getD zEn).values).flatten → Calls Try.prog 43 #[va,vb] W fun e w' => e = .returned (.bool ((X.getD zEn).values.all fun v => inVs v (Y.getD zEn).values)) ∧ Below W.heap.size W w') := fun W va vb B1 B2 _ h1 h2 => allin_any (own_rowN h1) (own_rowN h2) HF1 HF2 HW1 HW2
 clear HF1 HF2 HW1 HW2;generalize ((X.getD zEn).values.all fun v => inVs v (Y.getD zEn).values) = Z at *;obtain ⟨XE,hXE⟩ : ∃ z,X.getD zEn = z := ⟨_,rfl⟩;obtain ⟨YE,hYE⟩ : ∃ z,Y.getD zEn = z := ⟨_,rfl⟩;rw [hXE] at HC1 HAI;rw [hYE] at HC2 HAI;obtain ⟨xb,hxb⟩ : ∃ z,X.isSome = z := ⟨_,rfl⟩;obtain ⟨yb,hyb⟩ : ∃ z,Y.isSome = z := ⟨_,rfl⟩;rw [hxb] at HC1 ⊢;rw [hyb] at HC2 ⊢;clear hXE hYE hxb hyb;have hba : Below w.heap.size w ((w.alloc (.cells #[.string sn,.slice am M cm,.slice ae E ce,.slice at' T ct] 26)).alloc (.cells #[.string tn,.slice am2 M2 cm2,.slice ae2 E2 ce2,.slice at2 T2 ct2] 26)) := ((Below.refl _ _).alloc (Nat.le_refl _) _).alloc (by simp) _
 have BY : Blk ((w.alloc (.cells #[.string sn,.slice am M cm,.slice ae E ce,.slice at' T ct] 26)).alloc (.cells #[.string tn,.slice am2 M2 cm2,.slice ae2 E2 ce2,.slice at2 T2 ct2] 26)) (w.heap.size + 1) #[.string tn,.slice am2 M2 cm2,.slice ae2 E2 ce2,.slice at2 T2 ct2] 26 := by
  have := Blk.new (w.alloc (.cells #[.string sn,.slice am M cm,.slice ae E ce,.slice at' T ct] 26)) #[.string tn,.slice am2 M2 cm2,.slice ae2 E2 ce2,.slice at2 T2 ct2] 26
  rwa [show (w.alloc (.cells #[.string sn,.slice am M cm,.slice ae E ce,.slice at' T ct] 26)).heap.size = w.heap.size + 1 by simp] at this
 go_enter Try.func26,Try.ntmps26
 go_wp2_with fail;refine (HC1.out _ hba).mono ?_;rintro e w1 ⟨v1,rfl,ho1,hb1⟩;obtain ⟨p1,r1,rfl⟩ := own_form ho1;have BY1 := BY.below hb1;have hbw1 := hba.trans (hb1.mono hba.size);have y0 := (BY1.cell 0).trans rfl;have y1 := (BY1.cell 1).trans rfl;have y2 := (BY1.cell 2).trans rfl;have y3 := (BY1.cell 3).trans rfl;have hbl : w.heap.size + 1 < w1.heap.size := BY1.lt;obtain ⟨xn,xv⟩ := XE;obtain ⟨yn,yv⟩ := YE;simp only at HC1 HC2 HAI ho1;have HO1 : Hid _ := ho1;clear hba BY hb1 HC1 ho1 BY1;generalize xv.length = XL at *;go_wp2_with fail;have hal : Below w1.heap.size w1 (w1.alloc (.cells #[.string xn,.slice p1 XL r1] 51)) := (Below.refl _ _).alloc (Nat.le_refl _) _;have hbw1a := hbw1.trans (hal.mono hbw1.size);refine Calls.mono (HC2.out _ hbw1a) ?_;rintro e w2 ⟨v2,rfl,ho2,hb2⟩;obtain ⟨p2,r2,rfl⟩ := own_form ho2;have hbw2 := hbw1a.trans (hb2.mono hbw1a.size);have BX2 := (Blk.new w1 #[.string xn,.slice p1 XL r1] 51).below hb2;have HO1' : Hid _ := own_below (own_below HO1.out hal) hb2;have HO2 : Hid _ := ho2;clear hal hb2 HC2 ho2 HO1 hbw1 hbw1a y0 y1 y2 y3 hbl;obtain ⟨bx,hbx⟩ : ∃ z,w1.heap.size = z := ⟨_,rfl⟩;rw [hbx] at BX2;simp only [hbx];generalize yv.length = YL at *;have x1 := (BX2.cell 1).trans rfl;have hbl : bx < w2.heap.size := BX2.lt;clear hbx BX2
 cases xb with
 | false =>
  go_wp2_with fail;go_ret;exact ⟨rfl,hbw2.alloc hbw2.size _⟩
 | true =>
  cases yb with
  | false =>
   go_wp2_with fail;go_ret;exact ⟨rfl,hbw2.alloc hbw2.size _⟩
  | true =>
   go_wp2_with fail;have hal : Below w2.heap.size w2 (w2.alloc (.cells #[.string yn,.slice p2 YL r2] 51)) := (Below.refl _ _).alloc (Nat.le_refl _) _;have hbw3 := hbw2.trans (hal.mono hbw2.size);refine Calls.mono (HAI.out _ _ _ _ _ hbw3 (own_below HO1'.out hal) (own_below HO2.out hal)) ?_;rintro e w3 ⟨rfl,hb3⟩;have hbw4 := hbw3.trans (hb3.mono hbw3.size);go_wp2_with fail;go_ret;exact ⟨rfl,hbw4⟩
theorem cfits_any : FitsC := by
 intro s t sv tv k1 k2 n1 n2 w hs ht;have HEF : Hid (∀ W,Below w.heap.size w W → Calls Try.prog 26 #[sv,tv,.string n1,.string n2] W fun e w' => e = .returned (.bool (fitsY s t 6 n1 6 n2)) ∧ Below W.heap.size W w') := fun W hW => cenumf2 (hs.below hW) (ht.below hW) n1 n2
 obtain ⟨am,M,cm,ae,E,ce,at',T,ct,rfl, -, -, -⟩ := hs.open;obtain ⟨am2,M2,cm2,ae2,E2,ce2,at2,T2,ct2,rfl, -, -, -⟩ := ht.open;obtain ⟨R,hR⟩ : ∃ z,fitsY s t k1 n1 k2 n2 = z := ⟨_,rfl⟩;rw [hR]
 have HR : Hid (R = if k1 = 1 ∧ k2 = 2 then true else if k1 ≠ k2 then false else if k1 ≠ 6 then true else fitsY s t 6 n1 6 n2) := (by
  rw [← hR]
  by_cases h1 : k1 = 1 ∧ k2 = 2
  ·simp [fitsY,h1]
  ·by_cases h2 : k1 = k2
   ·subst h2
    by_cases h3 : k1 = 6
    ·subst h3; simp [h1]
    ·simp [fitsY,h1,h3]
   ·simp [fitsY,h1,h2] : R = _)
 generalize fitsY s t 6 n1 6 n2 = G at *;generalize s.name = sn at *;generalize t.name = tn at *;clear hs ht hR;have hba : Below w.heap.size w ((((w.alloc (.cells #[.string sn,.slice am M cm,.slice ae E ce,.slice at' T ct] 26)).alloc (.cells #[.string tn,.slice am2 M2 cm2,.slice ae2 E2 ce2,.slice at2 T2 ct2] 26)).alloc (.cells #[.int .i64 k1,.string n1] 28)).alloc (.cells #[.int .i64 k2,.string n2] 28)) := ((((Below.refl _ _).alloc (Nat.le_refl _) _).alloc (by simp) _).alloc (by simp; omega) _).alloc (by simp; omega) _
 by_cases h1 : k1 = 1
 ·subst h1
  by_cases h2 : k2 = 2
  ·subst h2;have HR2 : Hid (R = true) := (by rw [HR.out]; simp : R = true)
   go_enter Try.func14,Try.ntmps14
   go_wp2_with fail;go_ret;exact ⟨ret_bool HR2.out.symm,hba⟩
  ·by_cases h3 : k2 = 1
   ·subst h3;have HR2 : Hid (R = true) := (by rw [HR.out]; simp : R = true)
    go_enter Try.func14,Try.ntmps14
    go_wp2_with fail;go_ret;exact ⟨ret_bool HR2.out.symm,hba⟩
   ·have HR2 : Hid (R = false) := (by rw [HR.out]; simp [h2,Ne.symm h3] : R = false)
    have e1 : (k2 == 2) = false := by simpa using h2
    have e2 : ((1 : Int) != k2) = true := by simpa using Ne.symm h3
    go_enter Try.func14,Try.ntmps14
    go_wp2_with fail;go_ret;exact ⟨ret_bool HR2.out.symm,hba⟩
 ·have e1 : (k1 == 1) = false := by simpa using h1
  by_cases h3 : k1 = k2
  ·subst h3
   by_cases h6 : k1 = 6
   ·subst h6;have HR2 : Hid (R = G) := (by rw [HR.out]; simp : R = G)
    go_enter Try.func14,Try.ntmps14
    go_wp2_with fail;refine (HEF.out _ hba).mono ?_;rintro e w1 ⟨rfl,hb1⟩;have hb2 := hba.trans (hb1.mono hba.size);go_wp2_with fail;go_ret;exact ⟨ret_bool HR2.out.symm,hb2⟩
   ·have HR2 : Hid (R = true) := (by rw [HR.out]; simp [h1,h6] : R = true)
    have e2 : (k1 == 6) = false := by simpa using h6
    have e3 : (k1 != k1) = false := by simp
    go_enter Try.func14,Try.ntmps14
    go_wp2_with fail;go_ret;exact ⟨ret_bool HR2.out.symm,hba⟩
  ·have HR2 : Hid (R = false) := (by rw [HR.out]; simp [h1,h3] : R = false)
   have e2 : (k1 != k2) = true := by simpa using h3
   go_enter Try.func14,Try.ntmps14
   go_wp2_with fail;go_ret;exact ⟨ret_bool HR2.out.symm,hba⟩
end
section
structure Clo (s t : ScS) (R : Pr → Prop) : Prop where
 meth : ∀ m ∈ s.methods,∃ k,mtOf t m.name = some k ∧ R (m.inn,k.inn) ∧ R (m.out,k.out)
 pair : ∀ p,R p → ∀ tag : Int,1 ≤ tag → tag ≤ 500 → OkAt s t R p tag
theorem msG_field {s : ScS} (hs : OkS s) {A : ByteArray} {tag : Int} {f : FlS} (h : fldOf (msG s A).fields tag = some f) : typeB s.mn s.en f.kind f.tname = true := by
 have hm := (fldP h).2;unfold msG at hm
 cases hq : msgOf s A with
 | none => rw [hq] at hm; cases hm
 | some m =>
  rw [hq] at hm;exact ((hs.msgs m (List.mem_of_find?_eq_some hq)).2.2.2.2.1 f hm).1.2.2.2
theorem type7 {mn en : List ByteArray} {n : ByteArray} (h : typeB mn en 7 n = true) : n ∈ mn := by
 simp [typeB,memB_iff] at h
 exact h
theorem type6 {mn en : List ByteArray} {n : ByteArray} (h : typeB mn en 6 n = true) : n ∈ en := by
 simp [typeB,memB_iff] at h
 exact h
theorem fits_kind {s t : ScS} {k1 k2 : Int} {n1 n2 : ByteArray} (h : fitsY s t k1 n1 k2 n2 = true) : k1 = 1 ∧ k2 = 2 ∨ k1 = k2 := by
 unfold fitsY at h
 split at h
 ·rename_i h1; exact .inl h1
 ·split at h
  ·cases h
  ·rename_i h2; exact .inr (by simpa using h2)
theorem at_pair {s t : ScS} (hs : OkS s) (ht : OkS t) {A B : ByteArray} {tag : Int} {q : Pr} (h : atE s t (msG s A) (msG t B) tag = some (some q)) : q.1 ∈ s.mn ∧ q.2 ∈ t.mn := by
 unfold atE at h
 split at h
 ·split at h <;> simp at h
 ·cases hf : fldOf (msG s A).fields tag with
  | none => rw [hf] at h; simp at h
  | some f =>
   rw [hf] at h;simp only at h
   split at h
   ·simp at h
   ·cases hg : fldOf (msG t B).fields tag with
    | none => rw [hg] at h; simp at h
    | some g =>
     rw [hg] at h;simp only at h
     split at h
     ·rename_i hc
      by_cases h7 : f.kind = 7
      ·rw [if_pos h7] at h;simp only [Option.some.injEq] at h;subst h;have h1 := msG_field hs hf;have h2 := msG_field ht hg
       have hk : g.kind = 7 := by rcases fits_kind hc.2 with h3 | h3 <;> omega
       rw [h7] at h1;rw [hk] at h2;exact ⟨type7 h1,type7 h2⟩
      ·rw [if_neg h7] at h; simp at h
     ·cases h
theorem rowE_all {s t : ScS} {m n : MsS} {Q : Pr → Prop} (hq : ∀ tag q,atE s t m n tag = some (some q) → Q q) : ∀ (k : Nat) (tag : Int) (l : List Pr),(∀ x ∈ l,Q x) → ∀ x ∈ (rowE s t m n k tag l).1,Q x
 | 0,_,l,h => h
 | k + 1,tag,l,h => by
  unfold rowE
  cases ha : atE s t m n tag with
  | none => exact h
  | some o => exact rowE_all hq k (tag + 1) (addO l o) (addO_of h fun q e => hq tag q (e ▸ ha))
theorem rowE_nodup {s t : ScS} {m n : MsS} : ∀ (k : Nat) (tag : Int) (l : List Pr),l.Nodup → (rowE s t m n k tag l).1.Nodup
 | 0,_,l,h => h
 | k + 1,tag,l,h => by
  unfold rowE
  cases ha : atE s t m n tag with
  | none => exact h
  | some o => exact rowE_nodup k (tag + 1) (addO l o) (addO_nodup h)
theorem row_inE {s t : ScS} (hs : OkS s) (ht : OkS t) {A B : ByteArray} (k : Nat) (tag : Int) {l : List Pr} (h : PrIn s t l) : PrIn s t (rowE s t (msG s A) (msG t B) k tag l).1 :=
 ⟨rowE_nodup k tag l h.1,rowE_all (Q := fun p => p.1 ∈ s.mn ∧ p.2 ∈ t.mn) (fun tag q e => at_pair hs ht e) k tag l h.2⟩
theorem rowE_pre {s t : ScS} {m n : MsS} : ∀ (k : Nat) (tag : Int) (l : List Pr),∃ r,(rowE s t m n k tag l).1 = l ++ r
 | 0,_,l => ⟨[],by simp [rowE]⟩
 | k + 1,tag,l => by
  unfold rowE
  cases ha : atE s t m n tag with
  | none => exact ⟨[],by simp⟩
  | some o =>
   obtain ⟨r,hr⟩ := rowE_pre (s := s) (t := t) (m := m) (n := n) k (tag + 1) (addO l o);obtain ⟨r0,hr0⟩ := addO_pre (l := l) (o := o);exact ⟨r0 ++ r,by simp only; rw [hr,hr0,List.append_assoc]⟩
theorem okS_len {s : ScS} (h : OkS s) : s.msgs.length ≤ 15 := by
 have := h.big
 simp [bigS] at this
 omega
theorem loop_closed {s t : ScS} (hs : OkS s) (ht : OkS t) : ∀ (k i : Nat) (l : List Pr),PrIn s t l → 226 ≤ k + i → i ≤ l.length → (loopE s t k i l).2.2 = true → ∃ l',(∃ r,l' = l ++ r) ∧ ∀ j p,i ≤ j → l'[j]? = some p → ∀ tag : Int,1 ≤ tag → tag ≤ 500 → OkAt s t (fun q => q ∈ l') p tag
 | 0,i,l,hp,hk,hi,_ => by have := hp.len (okS_len hs) (okS_len ht); omega
 | k + 1,i,l,hp,hk,hi,h => by
  unfold loopE at h
  cases hl : l[i]? with
  | none =>
   refine ⟨l,⟨[],by simp⟩,fun j p hj hjp => ?_⟩;have := (List.getElem?_eq_some_iff.1 hjp).1;have := List.getElem?_eq_none_iff.1 hl
   omega
  | some p =>
   rw [hl] at h;simp only at h;have hpr := row_inE hs ht (A := p.1) (B := p.2) 500 1 hp;obtain ⟨r0,hr0⟩ := rowE_pre (s := s) (t := t) (m := msG s p.1) (n := msG t p.2) 500 1 l
   cases hr : rowE s t (msG s p.1) (msG t p.2) 500 1 l with
   | mk l1 o =>
    rw [hr] at h hpr hr0;simp only at hpr hr0
    cases o with
    | some tag => simp at h
    | none =>
     simp only at h;have hil : i < l.length := (List.getElem?_eq_some_iff.1 hl).1;obtain ⟨l',⟨r,hlr⟩,hc⟩ := loop_closed hs ht k (i + 1) l1 hpr (by omega) (by rw [hr0,List.length_append]; omega) h;refine ⟨l',⟨r0 ++ r,by rw [hlr,hr0,List.append_assoc]⟩,fun j q hj hjq => ?_⟩
     by_cases hij : j = i
     ·subst hij
      have hpq : q = p := by
       rw [hlr,hr0,List.append_assoc,List.getElem?_append_left hil,hl] at hjq;exact (Option.some.inj hjq).symm
      subst hpq;obtain ⟨-, -,h3⟩ := rowE_ok _ _ _ _ hr;intro tag g1 g2;obtain ⟨o,ho,hq⟩ := h3 tag g1 (by omega);exact ⟨o,ho,fun q e => by rw [hlr]; exact List.mem_append.2 (.inl (hq q e))⟩
     ·exact hc j q (by omega) hjq
theorem loop_in {s t : ScS} {R : Pr → Prop} (hR : ∀ p,R p → ∀ tag : Int,1 ≤ tag → tag ≤ 500 → OkAt s t R p tag) : ∀ (k i : Nat) (l : List Pr),(∀ x ∈ l,R x) → loopE s t k i l = (⟨#[]⟩,0,true)
 | 0,i,l,_ => rfl
 | k + 1,i,l,h => by
  unfold loopE
  cases hl : l[i]? with
  | none => rfl
  | some p =>
   obtain ⟨l',h1,h2⟩ := rowE_in 500 1 l h fun j g1 g2 => hR p (h p (List.mem_of_getElem? hl)) j g1 (by omega)
   simp only [h1];exact loop_in hR k (i + 1) l' h2
theorem loop_bad {s t : ScS} (hs : OkS s) (ht : OkS t) {R : Pr → Prop} {p0 : Pr} {tag0 : Int} (hR : ∀ p,R p → p ≠ p0 → ∀ tag : Int,1 ≤ tag → tag ≤ 500 → OkAt s t R p tag) (h0 : ∀ tag : Int,1 ≤ tag → tag < tag0 → OkAt s t R p0 tag) (hb : atE s t (msG s p0.1) (msG t p0.2) tag0 = none) (ht1 : 1 ≤ tag0) (ht2 : tag0 ≤ 500) :
  ∀ (k i : Nat) (l : List Pr),PrIn s t l → 226 ≤ k + i → (∀ x ∈ l,R x) → (∃ j,i ≤ j ∧ l[j]? = some p0) → loopE s t k i l = (p0.1,tag0,false)
 | 0,i,l,hp,hk,_,⟨j,hj,hj2⟩ => by
  have := hp.len (okS_len hs) (okS_len ht);have := (List.getElem?_eq_some_iff.1 hj2).1
  omega
 | k + 1,i,l,hp,hk,h,⟨j,hj,hj2⟩ => by
  have hil : i < l.length := Nat.lt_of_le_of_lt hj (List.getElem?_eq_some_iff.1 hj2).1;unfold loopE;obtain ⟨p,hl⟩ : ∃ p,l[i]? = some p := ⟨_,List.getElem?_eq_getElem hil⟩;simp only [hl]
  by_cases hpp : p = p0
  ·subst hpp;have hrow := rowE_bad (s := s) (t := t) (R := R) (p := p) (tag0 := tag0) 500 1 l h0 hb ht1 (by omega)
   cases hr : rowE s t (msG s p.1) (msG t p.2) 500 1 l with
   | mk l1 o =>
    rw [hr] at hrow;simp only at hrow;subst hrow
    rfl
  ·obtain ⟨l',g1,g2⟩ := rowE_in 500 1 l h fun j g1 g2 => hR p (h p (List.mem_of_getElem? hl)) hpp j g1 (by omega)
   simp only [g1];have hpr := row_inE hs ht (A := p.1) (B := p.2) 500 1 hp;obtain ⟨r0,hr0⟩ := rowE_pre (s := s) (t := t) (m := msG s p.1) (n := msG t p.2) 500 1 l;rw [g1] at hpr hr0;simp only at hpr hr0;refine loop_bad hs ht hR h0 hb ht1 ht2 k (i + 1) l' hpr (by omega) g2 ⟨j,?_,by rw [hr0,List.getElem?_append_left (List.getElem?_eq_some_iff.1 hj2).1]; exact hj2⟩
   rcases Nat.lt_or_ge i j with h5 | h5
   ·exact h5
   ·have : i = j := by omega
    subst this;rw [hl] at hj2;exact absurd (Option.some.inj hj2) hpp
theorem start_ok {t : ScS} : ∀ (ms : List MtS) (l l' : List Pr),startE t ms l = (l',none) → (∀ x ∈ l,x ∈ l') ∧ ∀ m ∈ ms,∃ k,mtOf t m.name = some k ∧ (m.inn,k.inn) ∈ l' ∧ (m.out,k.out) ∈ l'
 | [],l,l',h => by
  simp only [startE,Prod.mk.injEq,and_true] at h;subst h;exact ⟨fun _ e => e,fun m hm => by cases hm⟩
 | m :: ms,l,l',h => by
  unfold startE at h
  cases hm : mtOf t m.name with
  | none => rw [hm] at h; simp at h
  | some k =>
   rw [hm] at h;simp only at h;obtain ⟨h1,h2⟩ := start_ok ms _ l' h;refine ⟨fun x hx => h1 x (addP_sub _ (addP_sub _ hx)),fun q hq => ?_⟩
   rcases List.mem_cons.1 hq with rfl | hq
   ·exact ⟨k,hm,h1 _ (addP_sub _ addP_mem),h1 _ addP_mem⟩
   ·exact h2 q hq
theorem start_in {t : ScS} {R : Pr → Prop} : ∀ (ms : List MtS) (l : List Pr),(∀ x ∈ l,R x) → (∀ m ∈ ms,∃ k,mtOf t m.name = some k ∧ R (m.inn,k.inn) ∧ R (m.out,k.out)) → ∃ l',startE t ms l = (l',none) ∧ ∀ x ∈ l',R x
 | [],l,h,_ => ⟨l,rfl,h⟩
 | m :: ms,l,h,hm => by
  obtain ⟨k,h1,h2,h3⟩ := hm m (List.mem_cons_self ..);unfold startE;simp only [h1];exact start_in ms _ (addP_of (addP_of h h2) h3) fun q hq => hm q (List.mem_cons_of_mem _ hq)
theorem mt_inE {t : ScS} (ht : OkS t) {nm : ByteArray} {k : MtS} (h : mtOf t nm = some k) : k.inn ∈ t.mn ∧ k.out ∈ t.mn := (ht.meths k (List.mem_of_find?_eq_some h)).2
theorem start_pr {s t : ScS} (ht : OkS t) : ∀ (ms : List MtS) (l : List Pr),(∀ m ∈ ms,m.inn ∈ s.mn ∧ m.out ∈ s.mn) → PrIn s t l → PrIn s t (startE t ms l).1
 | [],l,_,h => h
 | m :: ms,l,hm,h => by
  unfold startE
  cases hk : mtOf t m.name with
  | none => exact h
  | some k =>
   have h1 := hm m (List.mem_cons_self ..);have h2 := mt_inE ht hk;exact start_pr ht ms _ (fun q hq => hm q (List.mem_cons_of_mem _ hq)) ⟨addP_nodup (addP_nodup h.1),addP_of (R := fun p => p.1 ∈ s.mn ∧ p.2 ∈ t.mn) (addP_of (R := fun p => p.1 ∈ s.mn ∧ p.2 ∈ t.mn) h.2 ⟨h1.1,h2.1⟩) ⟨h1.2,h2.2⟩⟩
theorem PrIn.nil (s t : ScS) : PrIn s t [] := ⟨List.nodup_nil,by simp⟩
theorem evol_of {s t : ScS} {R : Pr → Prop} (hs : OkS s) (ht : OkS t) (h : Clo s t R) : evolA s t = (⟨#[]⟩,0,true) := by
 obtain ⟨l,h1,h2⟩ := start_in (t := t) (R := R) s.methods [] (by simp) h.meth;unfold evolA;rw [if_pos ⟨(checkA_ok s).2 hs,(checkA_ok t).2 ht⟩,h1];exact loop_in h.pair 300 0 l h2
theorem evol_clo {s t : ScS} (h : (evolA s t).2.2 = true) : OkS s ∧ OkS t ∧ ∃ R,Clo s t R := by
 unfold evolA at h
 split at h
 ·rename_i hc
  have hs := (checkA_ok s).1 hc.1;have ht := (checkA_ok t).1 hc.2;refine ⟨hs,ht,?_⟩;have hpr := start_pr (s := s) ht s.methods [] (fun m hm => (hs.meths m hm).2) (PrIn.nil s t)
  cases hr : startE t s.methods [] with
  | mk l o =>
   rw [hr] at h hpr
   cases o with
   | some nm => simp at h
   | none =>
    simp only at h hpr;obtain ⟨l',⟨r,hlr⟩,hc⟩ := loop_closed hs ht 300 0 l hpr (by omega) (Nat.zero_le _) h;obtain ⟨-,hm⟩ := start_ok _ _ _ hr;refine ⟨fun p => p ∈ l',fun m hmm => ?_,fun p hp tag g1 g2 => ?_⟩
    ·obtain ⟨k,q1,q2,q3⟩ := hm m hmm;exact ⟨k,q1,by rw [hlr]; exact List.mem_append.2 (.inl q2),by rw [hlr]; exact List.mem_append.2 (.inl q3)⟩
    ·obtain ⟨j,hj⟩ := List.getElem?_of_mem hp;exact hc j p (Nat.zero_le _) hj tag g1 g2
 ·simp at h
theorem okAt_iff {s t : ScS} {R : Pr → Prop} {p : Pr} {tag : Int} : OkAt s t R p tag ↔ (tag ∈ (msG s p.1).reserved → tag ∈ (msG t p.2).reserved) ∧ (tag ∉ (msG s p.1).reserved → ∀ f,fldOf (msG s p.1).fields tag = some f → tag ∉ (msG t p.2).reserved → ∃ g,fldOf (msG t p.2).fields tag = some g ∧ f.label = g.label ∧ fitsY s t f.kind f.tname g.kind g.tname = true ∧ (f.kind = 7 → R (f.tname,g.tname))) := by
 unfold OkAt atE
 by_cases h1 : tag ∈ (msG s p.1).reserved
 ·rw [if_pos h1]
  by_cases h2 : tag ∈ (msG t p.2).reserved
  ·rw [if_pos h2]; simp [h1,h2]
  ·rw [if_neg h2]; simp [h1,h2]
 ·rw [if_neg h1]
  cases hf : fldOf (msG s p.1).fields tag with
  | none => simp [h1]
  | some f =>
   simp only
   by_cases h2 : tag ∈ (msG t p.2).reserved
   ·rw [if_pos h2]; simp [h1,h2]
   ·rw [if_neg h2]
    cases hg : fldOf (msG t p.2).fields tag with
    | none => simp [h1,h2]
    | some g =>
     simp only
     by_cases h3 : f.label = g.label ∧ fitsY s t f.kind f.tname g.kind g.tname = true
     ·rw [if_pos h3]
      by_cases h7 : f.kind = 7
      ·have h4 := h3.2;rw [h7] at h4;rw [if_pos h7]; simp [h1,h2,h3.1,h4,h7]
      ·rw [if_neg h7]; simp [h1,h2,h3.1,h3.2,h7]
     ·rw [if_neg h3];simp only [reduceCtorEq,false_and,exists_false,false_iff];rintro ⟨-,h4⟩;obtain ⟨g',e1,e2,e3, -⟩ := h4 h1 f rfl h2;obtain rfl : g = g' := Option.some.inj e1;exact h3 ⟨e2,e3⟩
structure Ext (s t : ScS) : Prop where
 meth : ∀ m ∈ s.methods,∃ k,mtOf t m.name = some k ∧ k.inn = m.inn ∧ k.out = m.out
 res : ∀ A (tag : Int),tag ∈ (msG s A).reserved → tag ∈ (msG t A).reserved
 fld : ∀ A (tag : Int) f,fldOf (msG s A).fields tag = some f → tag ∈ (msG t A).reserved ∨ ∃ g,fldOf (msG t A).fields tag = some g ∧ g.label = f.label ∧ g.kind = f.kind ∧ g.tname = f.tname
 enm : ∀ nm x,enmOf s nm = some x → ∃ y,enmOf t nm = some y ∧ ∀ v ∈ x.values,v ∈ y.values
theorem inVs_of {v : NmS} {l : List NmS} (h : v ∈ l) : inVs v l = true := by
 unfold inVs;rw [List.any_eq_true];exact ⟨v,h,by simp⟩
theorem enm_in {s : ScS} {nm : ByteArray} (h : nm ∈ s.en) : ∃ x,enmOf s nm = some x := by
 obtain ⟨e,he,rfl⟩ := List.mem_map.1 h
 cases hq : enmOf s e.name with
 | some x => exact ⟨x,rfl⟩
 | none => exact absurd (List.find?_eq_none.1 hq e he) (by simp)
theorem Ext.fits {s t : ScS} (h : Ext s t) {k : Int} {n : ByteArray} (hk : k = 6 → n ∈ s.en) : fitsY s t k n k n = true := by
 unfold fitsY
 by_cases h1 : k = 1 ∧ k = 2
 ·omega
 ·rw [if_neg h1,if_neg (by simp)]
  by_cases h6 : k = 6
  ·obtain ⟨x,hx⟩ := enm_in (hk h6);obtain ⟨y,hy,hv⟩ := h.enm n x hx;rw [if_neg (by simpa using h6),hx,hy];simp only [Option.isSome_some,Option.getD_some,Bool.true_and,List.all_eq_true];exact fun v hvv => inVs_of (hv v hvv)
  ·rw [if_pos h6]
theorem Ext.clo {s t : ScS} (hs : OkS s) (h : Ext s t) : Clo s t (fun p => p.1 = p.2) := by
 refine ⟨fun m hm => ?_,fun p hp tag g1 g2 => ?_⟩
 ·obtain ⟨k,h1,h2,h3⟩ := h.meth m hm;exact ⟨k,h1,h2.symm,h3.symm⟩
 ·obtain ⟨A,B⟩ := p;obtain rfl : A = B := hp;refine okAt_iff.2 ⟨fun e => h.res A tag e,fun e f hf hn => ?_⟩
  rcases h.fld A tag f hf with h1 | ⟨g,h1,h2,h3,h4⟩
  ·exact absurd h1 hn
  ·refine ⟨g,h1,h2.symm,?_,fun _ => h4.symm⟩;rw [h3,h4];refine h.fits fun e6 => ?_
   have h5 := msG_field hs hf;rw [e6] at h5;exact type6 h5
theorem evol_ext {s t : ScS} (hs : OkS s) (ht : OkS t) (h : Ext s t) : evolA s t = (⟨#[]⟩,0,true) := evol_of hs ht (h.clo hs)
theorem evol_bad {s t : ScS} {R : Pr → Prop} {p0 : Pr} {tag0 : Int} (hs : OkS s) (ht : OkS t) (hm : ∀ m ∈ s.methods,∃ k,mtOf t m.name = some k ∧ R (m.inn,k.inn) ∧ R (m.out,k.out)) (hR : ∀ p,R p → p ≠ p0 → ∀ tag : Int,1 ≤ tag → tag ≤ 500 → OkAt s t R p tag) (h0 : ∀ tag : Int,1 ≤ tag → tag < tag0 → OkAt s t R p0 tag) (hb : atE s t (msG s p0.1) (msG t p0.2) tag0 = none) (ht1 : 1 ≤ tag0) (ht2 : tag0 ≤ 500)
  (hin : ∃ m k,m ∈ s.methods ∧ mtOf t m.name = some k ∧ p0 = (m.inn,k.inn)) : evolA s t = (p0.1,tag0,false) := by
 obtain ⟨l,g1,g2⟩ := start_in (t := t) (R := R) s.methods [] (by simp) hm;have hpr := start_pr (s := s) ht s.methods [] (fun m hm => (hs.meths m hm).2) (PrIn.nil s t);obtain ⟨-,g3⟩ := start_ok _ _ _ g1;rw [g1] at hpr;obtain ⟨m,k,e1,e2,e3⟩ := hin;obtain ⟨k',q1,q2, -⟩ := g3 m e1;rw [e2] at q1;obtain rfl := Option.some.inj q1;rw [← e3] at q2;obtain ⟨j,hj⟩ := List.getElem?_of_mem q2;unfold evolA;rw [if_pos ⟨(checkA_ok s).2 hs,(checkA_ok t).2 ht⟩,g1];exact loop_bad hs ht hR h0 hb ht1 ht2 300 0 l hpr (by omega) g2 ⟨j,Nat.zero_le _,hj⟩
def tagsM (m : MsS) : List Int := (m.reserved ++ m.fields.map FlS.tag).mergeSort fun x y => decide (x ≤ y)
def rowT (s t : ScS) (m n : MsS) : List Int → List Pr → List Pr × Option Int
 | [],l => (l,none)
 | tag :: ts,l => match atE s t m n tag with
  | none => (l,some tag)
  | some o => rowT s t m n ts (addO l o)
theorem row_at {s t : ScS} {m n : MsS} : ∀ (k : Nat) (tag : Int) (ts : List Int) (l : List Pr),ts.Pairwise (· < ·) → (∀ x ∈ ts,tag ≤ x ∧ x < tag + k) → (∀ j : Int,tag ≤ j → j < tag + k → j ∉ ts → atE s t m n j = some none) → rowE s t m n k tag l = rowT s t m n ts l
 | 0,tag,ts,l,_,h,_ => by
  cases ts with
  | nil => rfl
  | cons x ts => have := h x (List.mem_cons_self ..); omega
 | k + 1,tag,ts,l,hp,h,hn => by
  cases ts with
  | nil =>
   unfold rowE;rw [hn tag (Int.le_refl _) (by omega) (by simp)];exact row_at k (tag + 1) [] l hp (by simp) fun j h1 h2 _ => hn j (by omega) (by omega) (by simp)
  | cons x ts =>
   rw [List.pairwise_cons] at hp;have hx := h x (List.mem_cons_self ..)
   by_cases he : x = tag
   ·subst he;unfold rowE rowT
    cases ha : atE s t m n x with
    | none => rfl
    | some o =>
     simp only;refine row_at k (x + 1) ts _ hp.2 (fun y hy => ?_) fun j h1 h2 h3 => hn j (by omega) (by omega) ?_
     ·have := hp.1 y hy;have := h y (List.mem_cons_of_mem _ hy)
      omega
     ·intro hj
      rcases List.mem_cons.1 hj with hj | hj
      ·omega
      ·exact h3 hj
   ·have hnt : tag ∉ x :: ts := by
     intro hj
     rcases List.mem_cons.1 hj with hj | hj
     ·exact he hj.symm
     ·have := hp.1 tag hj; omega
    unfold rowE;rw [hn tag (Int.le_refl _) (by omega) hnt];refine row_at k (tag + 1) (x :: ts) l (List.pairwise_cons.2 hp) (fun y hy => ?_) fun j h1 h2 h3 => hn j (by omega) (by omega) h3
    have h4 := h y hy;have : y ≠ tag := fun e => hnt (e ▸ hy)
    omega
structure TagOk (m : MsS) : Prop where
 rng : ∀ x ∈ m.reserved ++ m.fields.map FlS.tag,1 ≤ x ∧ x ≤ 500
 once : (m.reserved ++ m.fields.map FlS.tag).Nodup
theorem tagOk_of {mn en : List ByteArray} {m : MsS} (h : msgOk mn en m) : TagOk m := by
 obtain ⟨h1,h2,h3,h4,h5,h6⟩ := h;refine ⟨fun x hx => ?_,?_⟩
 ·rcases List.mem_append.1 hx with hx | hx
  ·have := h2 x hx
   simpa [tagR] using this
  ·obtain ⟨f,hf,rfl⟩ := List.mem_map.1 hx;have := (h4 f hf).1
   simpa [fieldOk,tagR] using this.2.1
 ·rw [List.nodup_append];refine ⟨h3,h6,fun a ha b hb e => ?_⟩;obtain ⟨f,hf,rfl⟩ := List.mem_map.1 hb;exact (h4 f hf).2 (e ▸ ha)
theorem tagOk_msG {s : ScS} (hs : OkS s) (A : ByteArray) : TagOk (msG s A) := by
 unfold msG
 cases hq : msgOf s A with
 | none => exact ⟨by simp [zMs],by simp [zMs]⟩
 | some m => exact tagOk_of (hs.msgs m (List.mem_of_find?_eq_some hq)).2
theorem tagsM_perm (m : MsS) : (tagsM m).Perm (m.reserved ++ m.fields.map FlS.tag) := List.mergeSort_perm _ _
theorem tagsM_mem {m : MsS} {x : Int} : x ∈ tagsM m ↔ x ∈ m.reserved ∨ ∃ f ∈ m.fields,f.tag = x := by
 rw [(tagsM_perm m).mem_iff,List.mem_append,List.mem_map]
theorem tagsM_len (m : MsS) : (tagsM m).length = m.reserved.length + m.fields.length := by
 rw [(tagsM_perm m).length_eq,List.length_append,List.length_map]
theorem tagsM_rise {m : MsS} (h : TagOk m) : (tagsM m).Pairwise (· < ·) := by
 have h1 : (tagsM m).Pairwise fun x y => decide (x ≤ y) = true := List.pairwise_mergeSort (fun a b c h1 h2 => by simp at h1 h2 ⊢; omega) (fun a b => by simp; omega) _
 have h2 : (tagsM m).Pairwise (· ≠ ·) := (tagsM_perm m).symm.nodup h.once;refine (h1.and h2).imp fun ⟨h3,h4⟩ => ?_
 simp at h3
 omega
theorem row_tags {s t : ScS} {m n : MsS} (h : TagOk m) (l : List Pr) : rowE s t m n 500 1 l = rowT s t m n (tagsM m) l := by
 refine row_at 500 1 _ l (tagsM_rise h) (fun x hx => ?_) fun j h1 h2 h3 => ?_
 ·have := h.rng x ((tagsM_perm m).mem_iff.1 hx)
  omega
 ·rw [tagsM_mem] at h3;unfold atE;rw [if_neg fun e => h3 (.inl e)]
  cases hf : fldOf m.fields j with
  | none => rfl
  | some f => exact absurd (.inr ⟨f,(fldP hf).2,(fldP hf).1⟩) h3
def keepA (s t : ScS) (m n : MsS) (tag : Int) : Option (Option Pr) :=
 if tag ∈ n.reserved then some none else match fldOf m.fields tag,fldOf n.fields tag with
  | some f,some g => if f.label = g.label ∧ fitsY s t f.kind f.tname g.kind g.tname = true then some (if f.kind = 7 then some (f.tname,g.tname) else none) else none
  | _,_ => none
theorem keep_at {s t : ScS} {m n : MsS} {tag : Int} (h : TagOk m) (hx : tag ∈ tagsM m) : keepA s t m n tag = atE s t m n tag := by
 rw [tagsM_mem] at hx;unfold keepA atE
 by_cases hr : tag ∈ m.reserved
 ·have hf : fldOf m.fields tag = none := by
   cases hf : fldOf m.fields tag with
   | none => rfl
   | some f =>
    have h1 := fldP hf;have h2 := h.once;rw [List.nodup_append] at h2;exact absurd h1.1.symm (h2.2.2 tag hr f.tag (List.mem_map.2 ⟨f,h1.2,rfl⟩))
  rw [if_pos hr,hf]
 ·rw [if_neg hr]
  cases hf : fldOf m.fields tag with
  | none =>
   rcases hx with hx | ⟨f,hf1,hf2⟩
   ·exact absurd hx hr
   ·have := List.find?_eq_none.1 hf f hf1
    simp [hf2] at this
  | some f =>
   simp only
   split
   ·rfl
   ·cases hg : fldOf n.fields tag <;> rfl
end
section
open Go.ChangeShapes Go.WideShapes Go.ChangeAt Go.RowKit Go.Maps
theorem memI_cons (x y : Int) (l : List Int) : memI x (y :: l) = (decide (x = y) || memI x l) := by simp [memI,Bool.decide_or]
theorem index_any {w : World} {v : Value} {ns : List Int} (t : Int) (hr : RowG w v 1 (inRows ns)) :
  Calls Try.prog 94 #[v,.int .i64 t] w fun e w' => (∃ n : Int,e = .returned (.int .i64 n) ∧ decide (0 ≤ n) = memI t ns) ∧ Below w.heap.size w w' := by
 obtain ⟨a,c,rfl,q1,q2⟩ := hr.form2
 have hN : (inRows ns).length = ns.length := by simp [inRows]
 rw [hN] at hr q1 ⊢;clear hN;obtain ⟨N,hN⟩ : ∃ N,ns.length = N := ⟨_,rfl⟩;rw [hN] at hr q1 ⊢;have HN : Hid (ns.length = N) := hN;have HR : Hid (RowG w (.slice a N c) 1 (inRows ns)) := hr;clear hN hr;obtain ⟨A,hA⟩ : ∃ A,memI t ns = A := ⟨_,rfl⟩;rw [hA];have HA : Hid (A = memI t ns) := hA.symm;clear hA
 go_enter Try.func94,Try.ntmps94
 go_wp2_with fail
 go_loopw [8] (fun iv wr => ∃ k : Nat,iv = .int .i64 (k : Int) ∧ k ≤ N ∧ Hid (A = memI t (ns.drop k)) ∧ Below w.heap.size w wr) (fun iv _ => N - (intOf iv).toNat)
 case atStart => exact ⟨0,rfl,by omega,HA,Below.refl _ _⟩
 case round =>
  obtain ⟨k,rfl,hk,HAk,hbel⟩ := hrel
  by_cases hlt : k < N
  ·obtain ⟨f,hf⟩ : ∃ n,ns[k]? = some n := ⟨_,List.getElem?_eq_getElem (by rw [HN.out]; exact hlt)⟩
   have hrr : (inRows ns)[k]? = some [.int .i64 f] := by simp [inRows,hf]
   obtain ⟨g,off,rfl,c1⟩ := (HR.out.below hbel).get hrr
   have HA2 : Hid (A = (decide (t = f) || memI t (ns.drop (k + 1)))) := by
    show _ = _
    rw [HAk.out,drop_at hf,memI_cons]
   have p0 := c1 0 _ rfl;simp only [Nat.mul_one,Nat.add_zero] at p0;clear c1 hrr hf HAk
   by_cases he : t = f
   ·subst he
    have HA3 : Hid (A = true) := by show _ = _; rw [HA2.out,decide_eq_true rfl]; rfl
    clear HA2;go_wp2_with fail;go_ret;exact ⟨⟨(k : Int),rfl,by rw [HA3.out,decide_eq_true (by omega)]⟩,hbel⟩
   ·have hq : (t == f) = false := by simpa using he
    have HA3 : Hid (A = memI t (ns.drop (k + 1))) := by show _ = _; rw [HA2.out,decide_eq_false he]; rfl
    go_wp2_with fail
    go_roundw
    case rel => exact ⟨k + 1,by go_num,by omega,HA3,hbel⟩
    case measure => simp [intOf]; omega
  ·go_wp2_with fail;go_ret;exact ⟨⟨-1,rfl,by rw [HAk.out,drop_end (by rw [HN.out]; omega)]; rfl⟩,hbel⟩
theorem contains_any {w : World} {v : Value} {ns : List Int} (t : Int) (hr : RowG w v 1 (inRows ns)) :
  Calls Try.prog 78 #[v,.int .i64 t] w fun e w' => e = .returned (.bool (memI t ns)) ∧ Below w.heap.size w w' := by
 have HC := index_any t hr;clear hr
 go_enter Try.func78,Try.ntmps78
 go_wp2_with fail;refine HC.mono ?_;rintro e w1 ⟨⟨n,rfl,hn⟩,hb1⟩;have HN : Hid _ := hn;clear hn;go_wp2_with fail;go_ret;exact ⟨ret_bool HN.out,hb1⟩
theorem creserved_any {w : World} {v : Value} {ns : List Int} {snm : ByteArray} {af : Option Addr} {F cf : Nat} (t : Int) (hr : RowG w v 1 (inRows ns)) :
  Calls Try.prog 63 #[.agg #[.string snm,.slice af F cf,v],.int .i64 t] w fun e w' => e = .returned (.bool (memI t ns)) ∧ Below w.heap.size w w' := by
 obtain ⟨a,c,rfl,q1,q2⟩ := hr.form2;have HR : Hid (RowG w (.slice a (inRows ns).length c) 1 (inRows ns)) := hr;clear hr;generalize (inRows ns).length = N at *;have hba : Below w.heap.size w (w.alloc (.cells #[.string snm,.slice af F cf,.slice a N c] 40)) := (Below.refl _ _).alloc (Nat.le_refl _) _
 go_enter Try.func63,Try.ntmps63
 go_wp2_with fail;refine (contains_any t (HR.out.below hba)).mono ?_;rintro e w1 ⟨rfl,hb1⟩;go_wp2_with fail;go_ret;exact ⟨rfl,hba.trans (hb1.mono hba.size)⟩
end
end Go.Proofs.Ytdkolhfpfimeoaa
