/- Part 5 of what the proof stands on. -/
import Derived.Test.YtiajaocckkghgaaGreatPkEAD
namespace Go.Proofs.YtiajaocckkghgaaGreat
set_option maxHeartbeats 8000000
set_option linter.unusedVariables false
set_option linter.unusedSimpArgs false
set_option maxRecDepth 20000
section
open Go.ChangeShapes Go.WideShapes Go.ChangeAt Go.RowKit Go.Maps
theorem cfield_any {w : World} {snm : ByteArray} {nm : Int} {am : Option Addr} {M cm : Nat} {vt : Value} {ts : List FlS} (hr : RowG w vt 5 (flRows ts)) :
  Calls Tryz.prog 58 #[.agg #[.string snm,vt,.slice am M cm],.int .i64 nm] w fun e w' => e = .returned (.tuple #[flV ((ts.find? fun m => decide (m.tag = nm)).getD zeroF),.bool (ts.find? fun m => decide (m.tag = nm)).isSome]) ∧ Below w.heap.size w w' := by
 obtain ⟨a,c,rfl,q1,q2⟩ := hr.form2
 have hN : (flRows ts).length = ts.length := by simp [flRows]
 rw [hN] at hr q1 ⊢;clear hN;obtain ⟨N,hN⟩ : ∃ N,ts.length = N := ⟨_,rfl⟩;rw [hN] at hr q1 ⊢;have HN : Hid (ts.length = N) := hN;have HR : Hid (RowG w (.slice a N c) 5 (flRows ts)) := hr;clear hN hr;obtain ⟨A,hA⟩ : ∃ A,(ts.find? fun m => decide (m.tag = nm)) = A := ⟨_,rfl⟩;rw [hA];have HA : Hid (A = ((ts.drop 0).find? fun m => decide (m.tag = nm))) := hA.symm;clear hA;have BX0 : Blk ((w.alloc (.cells #[.string snm,.slice a N c,.slice am M cm] 50)).alloc (.cells #[.string ⟨#[]⟩,.int .i64 0,.int .i64 0,.int .i64 0,.string ⟨#[]⟩] 58)) w.heap.size #[.string snm,.slice a N c,.slice am M cm] 50 := (Blk.new w _ _).below (bra _)
 have BR0 : Blk ((w.alloc (.cells #[.string snm,.slice a N c,.slice am M cm] 50)).alloc (.cells #[.string ⟨#[]⟩,.int .i64 0,.int .i64 0,.int .i64 0,.string ⟨#[]⟩] 58)) (w.heap.size + 1) #[.string ⟨#[]⟩,.int .i64 0,.int .i64 0,.int .i64 0,.string ⟨#[]⟩] 58 := by
  have := Blk.new (w.alloc (.cells #[.string snm,.slice a N c,.slice am M cm] 50)) #[.string ⟨#[]⟩,.int .i64 0,.int .i64 0,.int .i64 0,.string ⟨#[]⟩] 58
  rwa [show (w.alloc (.cells #[.string snm,.slice a N c,.slice am M cm] 50)).heap.size = w.heap.size + 1 by simp] at this
 have hb0 : Below w.heap.size w ((w.alloc (.cells #[.string snm,.slice a N c,.slice am M cm] 50)).alloc (.cells #[.string ⟨#[]⟩,.int .i64 0,.int .i64 0,.int .i64 0,.string ⟨#[]⟩] 58)) := (bra _).alloc (by simp) _
 go_enter Tryz.func58,Tryz.ntmps58
 go_wp2_with fail
 go_loopw [11] (fun iv wr => ∃ k : Nat,iv = .int .i64 (k : Int) ∧ k ≤ N ∧ Hid (A = ((ts.drop k).find? fun m => decide (m.tag = nm))) ∧ Below w.heap.size w wr ∧ Blk wr (w.heap.size + 1) #[.string ⟨#[]⟩,.int .i64 0,.int .i64 0,.int .i64 0,.string ⟨#[]⟩] 58) (fun iv _ => N - (intOf iv).toNat)
 case atStart => exact ⟨0,rfl,by omega,HA,hb0,BR0⟩
 case round =>
  obtain ⟨k,rfl,hk,HAk,hbel,BR⟩ := hrel;clear BX0 BR0 hb0;have hlt2 : w.heap.size + 1 < wr.heap.size := BR.lt;obtain ⟨r0,r1,r2,r3,r4⟩ := cl5 BR;obtain ⟨z0,z1,z2,z3,z4⟩ := fz5 BR
  by_cases hlt : k < N
  ·obtain ⟨f,hf⟩ : ∃ n,ts[k]? = some n := ⟨_,List.getElem?_eq_getElem (by rw [HN.out]; exact hlt)⟩
   have hrr : (flRows ts)[k]? = some f.cells := by simp [flRows,hf]
   obtain ⟨g,off,rfl,c1⟩ := (HR.out.below hbel).get hrr;obtain ⟨f0,f1,f2,f3,f4⟩ := f
   have HA2 : Hid (A = if decide (f1 = nm) = true then some ⟨f0,f1,f2,f3,f4⟩ else ((ts.drop (k + 1)).find? fun m => decide (m.tag = nm))) := by
    show _ = _
    rw [HAk.out,drop_at hf,List.find?_cons]
    cases decide (f1 = nm) <;> rfl
   have p0 := c1 0 _ rfl;have p1 := c1 1 _ rfl;have p2 := c1 2 _ rfl;have p3 := c1 3 _ rfl;have p4 := c1 4 _ rfl;simp only [Nat.add_zero] at p0 p1 p2 p3 p4;clear c1 hrr hf HAk
   by_cases he : f1 = nm
   ·subst he;go_wp2_with fail;refine bodyPost_ret (results_two rfl _ _ _ ⟨w.heap.size + 1,0,none⟩ (.agg #[.string f0,.int .i64 f1,.int .i64 f2,.int .i64 f3,.string f4]) (by go_simp) (by go_simp)) rfl ?_;exact ⟨ret_two (by rw [HA2.out,if_pos (by simp)]; rfl) (by rw [HA2.out,if_pos (by simp)]; rfl),(Below.alloc (Below.setCell (Below.setCell (Below.setCell (Below.setCell (Below.setCell hbel (by simp) _) (by simp) _) (by simp) _) (by simp) _) (by simp) _) (by simp; omega) _)⟩
   ·have hq : (f1 == nm) = false := by simpa using he
    have HA3 : Hid (A = ((ts.drop (k + 1)).find? fun m => decide (m.tag = nm))) := by show _ = _; rw [HA2.out,if_neg (by simpa using he)]
    have hb2 : Below w.heap.size w (wr.alloc (.cells #[.string f0,.int .i64 f1,.int .i64 f2,.int .i64 f3,.string f4] 58)) := hbel.alloc (by omega) _;have BR2 : Blk (wr.alloc (.cells #[.string f0,.int .i64 f1,.int .i64 f2,.int .i64 f3,.string f4] 58)) (w.heap.size + 1) #[.string ⟨#[]⟩,.int .i64 0,.int .i64 0,.int .i64 0,.string ⟨#[]⟩] 58 := BR.below (bra _);go_wp2_with fail
    go_roundw
    case rel => exact ⟨k + 1,by go_num,by omega,HA3,hb2,BR2⟩
    case measure => simp [intOf]; omega
  ·have HA2 : Hid (A = none) := by show _ = _; rw [HAk.out,drop_end (by rw [HN.out]; omega)]; rfl
   go_wp2_with fail;refine bodyPost_ret (results_two rfl _ _ _ ⟨w.heap.size + 1,0,none⟩ (.agg #[.string ⟨#[]⟩,.int .i64 0,.int .i64 0,.int .i64 0,.string ⟨#[]⟩]) (by go_simp) (by go_simp)) rfl ?_;exact ⟨ret_two (by rw [HA2.out]; rfl) (by rw [HA2.out]; rfl),(Below.setCell (Below.setCell (Below.setCell (Below.setCell (Below.setCell hbel (by simp) _) (by simp) _) (by simp) _) (by simp) _) (by simp) _)⟩
end
section
open Go.ChangeShapes Go.WideShapes Go.ChangeAt Go.RowKit
theorem number_any (k n : Int) (nm : ByteArray) (w : World) : Calls Tryz.prog 108 #[.agg #[.int .i64 k,.string nm],.int .i64 n] w fun e w' => e = .returned (.bool (nmrB k n)) ∧ Below w.heap.size w w' := by
 have hb : Below w.heap.size w (w.alloc (Obj.cells #[.int .i64 k,.string nm] 56)) := bra _
 have rng : n < -2147483648 ∨ (-2147483648 ≤ n ∧ n < 0) ∨ (0 ≤ n ∧ n ≤ 1) ∨ (1 < n ∧ n ≤ 2147483647) ∨ 2147483647 < n := by omega
 have kk : k = 3 ∨ k = 6 ∨ k = 1 ∨ k = 2 ∨ (¬ k = 3 ∧ ¬ k = 6 ∧ ¬ k = 1 ∧ ¬ k = 2) := by omega
 rcases rng with g | g | g | g | g
 ·have f1 : decide (1 < n) = false := by simp; omega
  have f2 : decide (n < 0) = true := by simp; omega
  have f3 : decide (n < -2147483648) = true := by simp; omega
  have f4 : decide (2147483647 < n) = false := by simp; omega
  rcases kk with rfl | rfl | rfl | rfl | ⟨h3,h6,h1,h2⟩
  ·have hr : nmrB 3 n = false := by simp [nmrB]; omega
   rw [hr];clear hr g
   go_enter Tryz.func108,Tryz.ntmps108
   go_wp2_with fail;go_ret;exact ⟨rfl,hb⟩
  ·have hr : nmrB 6 n = false := by simp [nmrB]; omega
   rw [hr];clear hr g
   go_enter Tryz.func108,Tryz.ntmps108
   go_wp2_with fail;go_ret;exact ⟨rfl,hb⟩
  ·have hr : nmrB 1 n = false := by simp [nmrB]; omega
   rw [hr];clear hr g
   go_enter Tryz.func108,Tryz.ntmps108
   go_wp2_with fail;go_ret;exact ⟨rfl,hb⟩
  ·have hr : nmrB 2 n = true := by simp [nmrB]
   rw [hr];clear hr g
   go_enter Tryz.func108,Tryz.ntmps108
   go_wp2_with fail;go_ret;exact ⟨rfl,hb⟩
  ·have e1 : (k == 1) = false := by simpa using h1
   have e2 : (k == 2) = false := by simpa using h2
   have e3 : (k == 3) = false := by simpa using h3
   have e6 : (k == 6) = false := by simpa using h6
   have hr : nmrB k n = false := by simp [nmrB,h3,h6,h1,h2]
   rw [hr];clear h1 h2 h3 h6 hr g
   go_enter Tryz.func108,Tryz.ntmps108
   go_wp2_with fail;go_ret;exact ⟨rfl,hb⟩
 ·have f1 : decide (1 < n) = false := by simp; omega
  have f2 : decide (n < 0) = true := by simp; omega
  have f3 : decide (n < -2147483648) = false := by simp; omega
  have f4 : decide (2147483647 < n) = false := by simp; omega
  rcases kk with rfl | rfl | rfl | rfl | ⟨h3,h6,h1,h2⟩
  ·have hr : nmrB 3 n = false := by simp [nmrB]; omega
   rw [hr];clear hr g
   go_enter Tryz.func108,Tryz.ntmps108
   go_wp2_with fail;go_ret;exact ⟨rfl,hb⟩
  ·have hr : nmrB 6 n = false := by simp [nmrB]; omega
   rw [hr];clear hr g
   go_enter Tryz.func108,Tryz.ntmps108
   go_wp2_with fail;go_ret;exact ⟨rfl,hb⟩
  ·have hr : nmrB 1 n = true := by simp [nmrB]; omega
   rw [hr];clear hr g
   go_enter Tryz.func108,Tryz.ntmps108
   go_wp2_with fail;go_ret;exact ⟨rfl,hb⟩
  ·have hr : nmrB 2 n = true := by simp [nmrB]
   rw [hr];clear hr g
   go_enter Tryz.func108,Tryz.ntmps108
   go_wp2_with fail;go_ret;exact ⟨rfl,hb⟩
  ·have e1 : (k == 1) = false := by simpa using h1
   have e2 : (k == 2) = false := by simpa using h2
   have e3 : (k == 3) = false := by simpa using h3
   have e6 : (k == 6) = false := by simpa using h6
   have hr : nmrB k n = false := by simp [nmrB,h3,h6,h1,h2]
   rw [hr];clear h1 h2 h3 h6 hr g
   go_enter Tryz.func108,Tryz.ntmps108
   go_wp2_with fail;go_ret;exact ⟨rfl,hb⟩
 ·have f1 : decide (1 < n) = false := by simp; omega
  have f2 : decide (n < 0) = false := by simp; omega
  have f3 : decide (n < -2147483648) = false := by simp; omega
  have f4 : decide (2147483647 < n) = false := by simp; omega
  rcases kk with rfl | rfl | rfl | rfl | ⟨h3,h6,h1,h2⟩
  ·have hr : nmrB 3 n = true := by simp [nmrB]; omega
   rw [hr];clear hr g
   go_enter Tryz.func108,Tryz.ntmps108
   go_wp2_with fail;go_ret;exact ⟨rfl,hb⟩
  ·have hr : nmrB 6 n = true := by simp [nmrB]; omega
   rw [hr];clear hr g
   go_enter Tryz.func108,Tryz.ntmps108
   go_wp2_with fail;go_ret;exact ⟨rfl,hb⟩
  ·have hr : nmrB 1 n = true := by simp [nmrB]; omega
   rw [hr];clear hr g
   go_enter Tryz.func108,Tryz.ntmps108
   go_wp2_with fail;go_ret;exact ⟨rfl,hb⟩
  ·have hr : nmrB 2 n = true := by simp [nmrB]
   rw [hr];clear hr g
   go_enter Tryz.func108,Tryz.ntmps108
   go_wp2_with fail;go_ret;exact ⟨rfl,hb⟩
  ·have e1 : (k == 1) = false := by simpa using h1
   have e2 : (k == 2) = false := by simpa using h2
   have e3 : (k == 3) = false := by simpa using h3
   have e6 : (k == 6) = false := by simpa using h6
   have hr : nmrB k n = false := by simp [nmrB,h3,h6,h1,h2]
   rw [hr];clear h1 h2 h3 h6 hr g
   go_enter Tryz.func108,Tryz.ntmps108
   go_wp2_with fail;go_ret;exact ⟨rfl,hb⟩
 ·have f1 : decide (1 < n) = true := by simp; omega
  have f2 : decide (n < 0) = false := by simp; omega
  have f3 : decide (n < -2147483648) = false := by simp; omega
  have f4 : decide (2147483647 < n) = false := by simp; omega
  rcases kk with rfl | rfl | rfl | rfl | ⟨h3,h6,h1,h2⟩
  ·have hr : nmrB 3 n = false := by simp [nmrB]; omega
   rw [hr];clear hr g
   go_enter Tryz.func108,Tryz.ntmps108
   go_wp2_with fail;go_ret;exact ⟨rfl,hb⟩
  ·have hr : nmrB 6 n = true := by simp [nmrB]; omega
   rw [hr];clear hr g
   go_enter Tryz.func108,Tryz.ntmps108
   go_wp2_with fail;go_ret;exact ⟨rfl,hb⟩
  ·have hr : nmrB 1 n = true := by simp [nmrB]; omega
   rw [hr];clear hr g
   go_enter Tryz.func108,Tryz.ntmps108
   go_wp2_with fail;go_ret;exact ⟨rfl,hb⟩
  ·have hr : nmrB 2 n = true := by simp [nmrB]
   rw [hr];clear hr g
   go_enter Tryz.func108,Tryz.ntmps108
   go_wp2_with fail;go_ret;exact ⟨rfl,hb⟩
  ·have e1 : (k == 1) = false := by simpa using h1
   have e2 : (k == 2) = false := by simpa using h2
   have e3 : (k == 3) = false := by simpa using h3
   have e6 : (k == 6) = false := by simpa using h6
   have hr : nmrB k n = false := by simp [nmrB,h3,h6,h1,h2]
   rw [hr];clear h1 h2 h3 h6 hr g
   go_enter Tryz.func108,Tryz.ntmps108
   go_wp2_with fail;go_ret;exact ⟨rfl,hb⟩
 ·have f1 : decide (1 < n) = true := by simp; omega
  have f2 : decide (n < 0) = false := by simp; omega
  have f3 : decide (n < -2147483648) = false := by simp; omega
  have f4 : decide (2147483647 < n) = true := by simp; omega
  rcases kk with rfl | rfl | rfl | rfl | ⟨h3,h6,h1,h2⟩
  ·have hr : nmrB 3 n = false := by simp [nmrB]; omega
   rw [hr];clear hr g
   go_enter Tryz.func108,Tryz.ntmps108
   go_wp2_with fail;go_ret;exact ⟨rfl,hb⟩
  ·have hr : nmrB 6 n = false := by simp [nmrB]; omega
   rw [hr];clear hr g
   go_enter Tryz.func108,Tryz.ntmps108
   go_wp2_with fail;go_ret;exact ⟨rfl,hb⟩
  ·have hr : nmrB 1 n = false := by simp [nmrB]; omega
   rw [hr];clear hr g
   go_enter Tryz.func108,Tryz.ntmps108
   go_wp2_with fail;go_ret;exact ⟨rfl,hb⟩
  ·have hr : nmrB 2 n = true := by simp [nmrB]
   rw [hr];clear hr g
   go_enter Tryz.func108,Tryz.ntmps108
   go_wp2_with fail;go_ret;exact ⟨rfl,hb⟩
  ·have e1 : (k == 1) = false := by simpa using h1
   have e2 : (k == 2) = false := by simpa using h2
   have e3 : (k == 3) = false := by simpa using h3
   have e6 : (k == 6) = false := by simpa using h6
   have hr : nmrB k n = false := by simp [nmrB,h3,h6,h1,h2]
   rw [hr];clear h1 h2 h3 h6 hr g
   go_enter Tryz.func108,Tryz.ntmps108
   go_wp2_with fail;go_ret;exact ⟨rfl,hb⟩
theorem size_empty {s : ByteArray} (h : s.size = 0) : s = ⟨#[]⟩ := by
 obtain ⟨⟨l⟩⟩ := s
 cases l with
 | nil => rfl
 | cons a l => simp [ByteArray.size] at h
theorem zero_any (t : Tr) (a1 a2 : Option Addr) (n1 c1 n2 c2 : Nat) (w : World) (h1 : n1 = t.es.length) (h2 : n2 = t.rest.length) : Calls Tryz.prog 111 #[.agg #[.int .i64 t.kind,.int .i64 t.n,.string t.s,.slice a1 n1 c1,.slice a2 n2 c2]] w fun e w' => e = .returned (.bool (zroB t)) ∧ Below w.heap.size w w' := by
 have hb : Below w.heap.size w (w.alloc (Obj.cells #[.int .i64 t.kind,.int .i64 t.n,.string t.s,.slice a1 n1 c1,.slice a2 n2 c2] 33)) := bra _
 have hz : zroB t = (decide (t.kind = 1 ∨ t.kind = 2 ∨ t.kind = 3) && decide (t.n = 0) && decide (t.s.size = 0) && decide (n1 = 0) && decide (n2 = 0)) := by rw [zroB,h1,h2]
 rw [hz];clear hz h1 h2;generalize t.kind = K at *;generalize t.n = N at *;generalize t.s = S at *
 have kk : K = 1 ∨ K = 2 ∨ K = 3 ∨ (¬ K = 1 ∧ ¬ K = 2 ∧ ¬ K = 3) := by omega
 rcases kk with rfl | rfl | rfl | ⟨h1,h2,h3⟩
 ·by_cases hN : N = 0
  ·subst hN
   by_cases hS : S.size = 0
   ·obtain rfl := size_empty hS
    by_cases h1 : n1 = 0
    ·subst h1
     by_cases h2 : n2 = 0
     ·subst h2
      go_enter Tryz.func111,Tryz.ntmps111
      go_wp2_with fail;go_ret;exact ⟨rfl,hb⟩
     ·have d2 : ((n2 : Int) == 0) = false := by simp; omega
      simp only [decide_eq_false h2,Bool.and_false];clear h2
      go_enter Tryz.func111,Tryz.ntmps111
      go_wp2_with fail;go_ret;exact ⟨rfl,hb⟩
    ·have d1 : ((n1 : Int) == 0) = false := by simp; omega
     simp only [decide_eq_false h1,Bool.and_false,Bool.false_and];clear h1
     go_enter Tryz.func111,Tryz.ntmps111
     go_wp2_with fail;go_ret;exact ⟨rfl,hb⟩
   ·have dS : (S.toList == ([] : List UInt8)) = false := by rw [ByteArray.toList_eq]; simp; intro e; exact hS (by rw [← ByteArray.size_data,e]; rfl)
    simp only [decide_eq_false hS,Bool.and_false,Bool.false_and];clear hS
    go_enter Tryz.func111,Tryz.ntmps111
    go_wp2_with fail;go_ret;exact ⟨rfl,hb⟩
  ·have dN : (N == 0) = false := by simpa using hN
   simp only [decide_eq_false hN,Bool.and_false,Bool.false_and];clear hN
   go_enter Tryz.func111,Tryz.ntmps111
   go_wp2_with fail;go_ret;exact ⟨rfl,hb⟩
 ·by_cases hN : N = 0
  ·subst hN
   by_cases hS : S.size = 0
   ·obtain rfl := size_empty hS
    by_cases h1 : n1 = 0
    ·subst h1
     by_cases h2 : n2 = 0
     ·subst h2
      go_enter Tryz.func111,Tryz.ntmps111
      go_wp2_with fail;go_ret;exact ⟨rfl,hb⟩
     ·have d2 : ((n2 : Int) == 0) = false := by simp; omega
      simp only [decide_eq_false h2,Bool.and_false];clear h2
      go_enter Tryz.func111,Tryz.ntmps111
      go_wp2_with fail;go_ret;exact ⟨rfl,hb⟩
    ·have d1 : ((n1 : Int) == 0) = false := by simp; omega
     simp only [decide_eq_false h1,Bool.and_false,Bool.false_and];clear h1
     go_enter Tryz.func111,Tryz.ntmps111
     go_wp2_with fail;go_ret;exact ⟨rfl,hb⟩
   ·have dS : (S.toList == ([] : List UInt8)) = false := by rw [ByteArray.toList_eq]; simp; intro e; exact hS (by rw [← ByteArray.size_data,e]; rfl)
    simp only [decide_eq_false hS,Bool.and_false,Bool.false_and];clear hS
    go_enter Tryz.func111,Tryz.ntmps111
    go_wp2_with fail;go_ret;exact ⟨rfl,hb⟩
  ·have dN : (N == 0) = false := by simpa using hN
   simp only [decide_eq_false hN,Bool.and_false,Bool.false_and];clear hN
   go_enter Tryz.func111,Tryz.ntmps111
   go_wp2_with fail;go_ret;exact ⟨rfl,hb⟩
 ·by_cases hN : N = 0
  ·subst hN
   by_cases hS : S.size = 0
   ·obtain rfl := size_empty hS
    by_cases h1 : n1 = 0
    ·subst h1
     by_cases h2 : n2 = 0
     ·subst h2
      go_enter Tryz.func111,Tryz.ntmps111
      go_wp2_with fail;go_ret;exact ⟨rfl,hb⟩
     ·have d2 : ((n2 : Int) == 0) = false := by simp; omega
      simp only [decide_eq_false h2,Bool.and_false];clear h2
      go_enter Tryz.func111,Tryz.ntmps111
      go_wp2_with fail;go_ret;exact ⟨rfl,hb⟩
    ·have d1 : ((n1 : Int) == 0) = false := by simp; omega
     simp only [decide_eq_false h1,Bool.and_false,Bool.false_and];clear h1
     go_enter Tryz.func111,Tryz.ntmps111
     go_wp2_with fail;go_ret;exact ⟨rfl,hb⟩
   ·have dS : (S.toList == ([] : List UInt8)) = false := by rw [ByteArray.toList_eq]; simp; intro e; exact hS (by rw [← ByteArray.size_data,e]; rfl)
    simp only [decide_eq_false hS,Bool.and_false,Bool.false_and];clear hS
    go_enter Tryz.func111,Tryz.ntmps111
    go_wp2_with fail;go_ret;exact ⟨rfl,hb⟩
  ·have dN : (N == 0) = false := by simpa using hN
   simp only [decide_eq_false hN,Bool.and_false,Bool.false_and];clear hN
   go_enter Tryz.func111,Tryz.ntmps111
   go_wp2_with fail;go_ret;exact ⟨rfl,hb⟩
 ·have e1 : (K == 1) = false := by simpa using h1
  have e2 : (K == 2) = false := by simpa using h2
  have e3 : (K == 3) = false := by simpa using h3
  have hk : decide (K = 1 ∨ K = 2 ∨ K = 3) = false := by simp [h1,h2,h3]
  simp only [hk,Bool.false_and];clear h1 h2 h3 hk
  go_enter Tryz.func111,Tryz.ntmps111
  go_wp2_with fail;go_ret;exact ⟨rfl,hb⟩
end
section
section
variable {P : Program} {md : Region.Mode} {ops : Array Oper} {Q : Exit → Act → World → Prop} {T : World → Prop} {m : Nat}
theorem M_runA {oi : Oper} {fuel : Nat} {listed listed' : Array Bool} {a : Act} {w : World} (i d : Nat) (v : Value) (w' : World) (hi : ops[i]? = some oi) (hd : oi.dst = some d)
  (hr : Region.ready md ops listed = [i]) (hwt : Region.wanted oi (yielded ops a.tmps) = true) (hl : listed.setIfInBounds i true = listed') (hx : (execOp a.eval oi).run P w = .ok (.value v) w') (hm : listed'.getD m true = true)
  (h : wpAnyM P md ops Q T m fuel listed' { a with tmps := a.tmps.setIfInBounds d v } w') : wpAnyM P md ops Q T m (fuel + 1) listed a w := by
 subst hl;refine ⟨fun h0 => (by rw [hr] at h0; cases h0),fun j hj => ?_⟩;rw [hr,List.mem_singleton] at hj;subst hj;unfold wpOp;simp only [hi];rw [if_pos hwt];refine .inl ?_;unfold Oper.wp;rw [hx,Oper.upon_value,hd];exact ⟨fun h0 => (by rw [hm] at h0; cases h0),h⟩
theorem M_rA {oi : Oper} {fuel : Nat} {listed : Array Bool} {a : Act} {w : World} (i d : Nat) (v : Value) (w' : World) (listed' : Array Bool) (hi : ops[i]? = some oi) (hx : (execOp a.eval oi).run P w = .ok (.value v) w')
  (h : wpAnyM P md ops Q T m fuel listed' { a with tmps := a.tmps.setIfInBounds d v } w') (hd : oi.dst = some d := by rfl) (hr : Region.ready md ops listed = [i] := by kernel_rfl) (hwt : Region.wanted oi (yielded ops a.tmps) = true := by rfl) (hl : listed.setIfInBounds i true = listed' := by kernel_rfl) (hm : listed'.getD m true = true := by kernel_rfl) : wpAnyM P md ops Q T m (fuel + 1) listed a w :=
 M_runA i d v w' hi hd hr hwt hl hx hm h
theorem M_storeT {oi : Oper} {fuel : Nat} {listed listed' : Array Bool} {a : Act} {w : World} (i : Nat) (w' : World) (hi : ops[i]? = some oi) (hd : oi.dst = none)
  (hr : Region.ready md ops listed = [i]) (hwt : Region.wanted oi (yielded ops a.tmps) = true) (hl : listed.setIfInBounds i true = listed') (hx : (execOp a.eval oi).run P w = .ok .skip w') (hT : T w')
  (h : wpAnyM P md ops Q T m fuel listed' a w') : wpAnyM P md ops Q T m (fuel + 1) listed a w := by
 subst hl;refine ⟨fun h0 => (by rw [hr] at h0; cases h0),fun j hj => ?_⟩;rw [hr,List.mem_singleton] at hj;subst hj;unfold wpOp;simp only [hi];rw [if_pos hwt];refine .inl ?_;unfold Oper.wp;rw [hx,Oper.upon_skip,hd];exact ⟨fun _ => hT,h⟩
theorem M_sT {oi : Oper} {fuel : Nat} {listed : Array Bool} {a : Act} {w : World} (i : Nat) (w' : World) (listed' : Array Bool) (hi : ops[i]? = some oi) (hx : (execOp a.eval oi).run P w = .ok .skip w') (hT : T w') (h : wpAnyM P md ops Q T m fuel listed' a w') (hd : oi.dst = none := by rfl) (hr : Region.ready md ops listed = [i] := by kernel_rfl) (hwt : Region.wanted oi (yielded ops a.tmps) = true := by rfl) (hl : listed.setIfInBounds i true = listed' := by kernel_rfl) : wpAnyM P md ops Q T m (fuel + 1) listed a w :=
 M_storeT i w' hi hd hr hwt hl hx hT h
end
end
section
open Go.ChangeShapes Go.WideShapes Go.ChangeAt Go.RowKit
def PutP (n B bR bm c : Nat) (vr : Value) (rest : List Fd) (R : List (Int × List Tr) × Int) (w : World) (e : Ending) (w' : World) : Prop :=
 ∃ K' c',e = .returned (.int .i64 R.2) ∧ c' ≤ c + 1 ∧ (R.2 = 0 → esK K' = R.1) ∧ DcS n B bR bm c' K' vr rest w' ∧ Kp (fun q => B ≤ q ∨ q = bm) w w'
theorem wpList_del {ops : Array Oper} {rest : List Oper} {o : Oper} {a : Act} {Q : Exit → Act → World → Prop} {w w' : World} {b : Nat} {z : Int} (hgd : o.guard = none) (m x : Operand) (hop : o.op = Op.call { callee := Callee.builtin Builtin.delete,args := #[m,x],argTypes := #[106,3] })
  (hmm : a.eval m = .map (some b)) (hx : a.eval x = .int .i64 z) (hr : (Builtin.delete_ #[106,3] o.type #[.map (some b),.int .i64 z]).run Tryz.prog w = .ok (.tuple #[]) w') (h : wpList Tryz.prog ops Q rest (a.put o.dst (.tuple #[])) w') : wpList Tryz.prog ops Q (o :: rest) a w :=
 wpList_plain hgd fun K hK => by
  unfold Oper.wp
  simp [execOp,hop,resolve,invoke,builtin,hmm,hx,hr,Result.andThen]
  exact hK _ _ h
section
variable {n B bR bm c : Nat} {K : List KE} {vr : Value} {rest : List Fd} {w : World} {r : List Value} {x : Tr} {bs : List Nat}
theorem TrO.lens (hx : TrO n B w r x bs) : ∃ a1 c1 a2 c2,r = [.int .i64 x.kind,.int .i64 x.n,.string x.s,.slice a1 x.es.length c1,.slice a2 x.rest.length c2] := by
 cases n with
 | zero => exact hx.elim
 | succ n =>
  obtain ⟨ve,vq,rows,bss,rfl,_,_,_,_,h6,h7,_⟩ := hx;obtain ⟨a1,c1,rfl⟩ := own_form h7.own;obtain ⟨a2,c2,rfl⟩ := own_form h6;exact ⟨a1,c1,a2,c2,rfl⟩
theorem dput_one (h : DcS n B bR bm c K vr rest w) (hc : c ≤ 1000000) (fn : ByteArray) (ft fl fk : Int) (ftn : ByteArray) (h64 : Is64 ft) (hx : TrO n B w r x bs) (hap : Apt B w ((fpK K ++ blkOf vr) ++ bs)) (hB : B ≤ w.heap.size) (h3 : fl ≠ 3) :
  Calls Tryz.prog 60 #[.map (some bm),.agg #[.string fn,.int .i64 ft,.int .i64 fl,.int .i64 fk,.string ftn],.agg r.toArray] w (PutP n B bR bm c vr rest (putD ⟨fn,ft,fl,fk,ftn⟩ x (esK K)) w) := by
 have hcm : c < maxLen := by unfold maxLen; omega
 obtain ⟨R,hR⟩ : ∃ R,putD ⟨fn,ft,fl,fk,ftn⟩ x (esK K) = R := ⟨_,rfl⟩;rw [hR];have hx' := hx;obtain ⟨a1,c1,a2,c2,hr⟩ := hx.lens;obtain ⟨n1,hn1⟩ : ∃ n1,x.es.length = n1 := ⟨_,rfl⟩;obtain ⟨n2,hn2⟩ : ∃ n2,x.rest.length = n2 := ⟨_,rfl⟩;rw [hn1,hn2] at hr;have HZ : Hid (∀ W,Calls Tryz.prog 111 #[.agg #[.int .i64 x.kind,.int .i64 x.n,.string x.s,.slice a1 n1 c1,.slice a2 n2 c2]] W fun e w' => e = .returned (.bool (zroB x)) ∧ Below W.heap.size W w') := fun W => zero_any x a1 a2 n1 c1 n2 c2 W hn1.symm hn2.symm
 have HX : Hid (TrO n B w r x bs) := hx';have al2 : Below w.heap.size w ((w.alloc (Obj.cells #[.string fn,.int .i64 ft,.int .i64 fl,.int .i64 fk,.string ftn] 58)).alloc (Obj.cells #[.int .i64 x.kind,.int .i64 x.n,.string x.s,.slice a1 n1 c1,.slice a2 n2 c2] 33)) := (bra _).alloc (by simp) _;have BF : Blk ((w.alloc (Obj.cells #[.string fn,.int .i64 ft,.int .i64 fl,.int .i64 fk,.string ftn] 58)).alloc (Obj.cells #[.int .i64 x.kind,.int .i64 x.n,.string x.s,.slice a1 n1 c1,.slice a2 n2 c2] 33)) w.heap.size #[.string fn,.int .i64 ft,.int .i64 fl,.int .i64 fk,.string ftn] 58 := (Blk.new w _ _).below (bra _);have BT : Blk ((w.alloc (Obj.cells #[.string fn,.int .i64 ft,.int .i64 fl,.int .i64 fk,.string ftn] 58)).alloc (Obj.cells #[.int .i64 x.kind,.int .i64 x.n,.string x.s,.slice a1 n1 c1,.slice a2 n2 c2] 33)) (w.heap.size + 1) #[.int .i64 x.kind,.int .i64 x.n,.string x.s,.slice a1 n1 c1,.slice a2 n2 c2] 33 := (by have := Blk.new (w.alloc (Obj.cells #[.string fn,.int .i64 ft,.int .i64 fl,.int .i64 fk,.string ftn] 58)) #[.int .i64 x.kind,.int .i64 x.n,.string x.s,.slice a1 n1 c1,.slice a2 n2 c2] 33; rwa [World.size_alloc] at this)
 have KEEP : ∀ W,Below w.heap.size w W → ∃ w5,(Instr.mapUpdate 106 (.map (some bm)) (.int .i64 ft) (.slice (some ⟨W.heap.size,0,none⟩) 1 1)).run Tryz.prog (W.alloc (Obj.cells #[.int .i64 x.kind,.int .i64 x.n,.string x.s,.slice a1 n1 c1,.slice a2 n2 c2] 33)) = .ok () w5 ∧ (∃ K',esK K' = setE ft [x] (esK K) ∧ DcS n B bR bm (c + 1) K' vr rest w5) ∧ Kp (fun q => B ≤ q ∨ q = bm) w w5 := fun W hW => by
  have hbs : Sm w W bs := Sm.below hW fun k hk => (hap.2 k (List.mem_append.2 (.inr hk))).2
  obtain ⟨w5,g1,g2,g3⟩ := (h.below hW).one (Nat.le_trans hB hW.size) h64 (HX.out.sm hbs) (hap.mono hW.size) hcm;rw [hr] at g1 g3;refine ⟨w5,g1,⟨_,by rw [esK_set],g2⟩,?_⟩;exact ((Kp.ofBelow hW).alloc _).trans2 (g3.weak fun i _ e => .inr e) fun i _ e => e
 rw [hr];clear hx hx' hn1 hn2
 have d3 : (fl == 3) = false := by simpa using h3
 have hR0 : R = if fl = 1 ∧ zroB x = true then (delE ft (esK K),0) else (setE ft [x] (esK K),0) := by rw [← hR]; simp only [putD,if_neg h3]
 have HR0 : Hid (R = if fl = 1 ∧ zroB x = true then (delE ft (esK K),0) else (setE ft [x] (esK K),0)) := hR0;clear hR hR0 h3 hr
 by_cases h1 : fl = 1
 ·subst h1;have HR1 : Hid (R = if zroB x = true then (delE ft (esK K),0) else (setE ft [x] (esK K),0)) := hid (by have := HR0.out; simpa using this);clear HR0;have HK0 : Hid (∀ W,Below w.heap.size w W → ∃ w5,(Instr.mapUpdate 106 (.map (some bm)) (.int .i64 ft) (.slice (some ⟨W.heap.size,0,none⟩) 1 1)).run Tryz.prog (W.alloc (Obj.cells #[.int .i64 x.kind,.int .i64 x.n,.string x.s,.slice a1 n1 c1,.slice a2 n2 c2] 33)) = .ok () w5 ∧ (∃ K',esK K' = setE ft [x] (esK K) ∧ DcS n B bR bm (c + 1) K' vr rest w5) ∧ Kp (fun q => B ≤ q ∨ q = bm) w w5) := KEEP;have HH : Hid (DcS n B bR bm c K vr rest w) := h;have HI : Hid (I64 ft) := i64_of h64;clear KEEP h hap hB hc hcm h64 HX;obtain ⟨Z,hZ⟩ : ∃ Z,zroB x = Z := ⟨_,rfl⟩;rw [hZ] at HZ HR1;clear hZ d3
  go_enter Tryz.func60,Tryz.ntmps60
  go_wp2_with fail;refine Calls.mono (HZ.out _) ?_;rintro e w3 ⟨rfl,hb3⟩;have BF3 := BF.below hb3;have BT3 := BT.below hb3;have al3 : Below w.heap.size w w3 := al2.trans (hb3.mono al2.size);have f1 := (BF3.cell 1).trans rfl;obtain ⟨t0,t1,t2,t3,t4⟩ := cl5 BT3
  cases Z with
  | true =>
   obtain ⟨w5,g1,g2,g3⟩ := (HH.out.map.below al3).del HI.out 0;have HD : Hid (DcS n B bR bm c (delE ft K) vr rest w5) := (HH.out.below al3).setDel ft g3 g2;have HP : Hid (Kp (fun q => B ≤ q ∨ q = bm) w w5) := (Kp.ofBelow al3).trans2 (g3.weak fun i _ e => .inr e) fun i _ e => e
   have HG : Hid ((Builtin.delete_ #[106,3] 0 #[.map (some bm),.int .i64 ft]).run Tryz.prog w3 = .ok (.tuple #[]) w5) := g1;clear g1 g2 g3 BF BT BF3 BT3 al2 hb3 al3 HK0 HZ
   go_wp2_with (first | (at_delete; refine wpList_del rfl _ _ rfl rfl rfl HG.out ?_) | fail)
   go_ret;have := HR1.out;simp only [if_true] at this;subst this;exact ⟨_,c,rfl,by omega,fun _ => esK_del ft K,HD.out,HP.out⟩
  | false =>
   obtain ⟨w5,g1,⟨K',g2,g4⟩,g3⟩ := HK0.out w3 al3;have HD : Hid (esK K' = setE ft [x] (esK K) ∧ DcS n B bR bm (c + 1) K' vr rest w5 ∧ Kp (fun q => B ≤ q ∨ q = bm) w w5) := ⟨g2,g4,g3⟩;have HG : Hid ((Instr.mapUpdate 106 (.map (some bm)) (.int .i64 ft) (.slice (some ⟨w3.heap.size,0,none⟩) 1 1)).run Tryz.prog (w3.alloc (Obj.cells #[.int .i64 x.kind,.int .i64 x.n,.string x.s,.slice a1 n1 c1,.slice a2 n2 c2] 33)) = .ok () w5) := g1;clear g1 g2 g3 g4 BF BT BF3 BT3 al2 hb3 al3 HK0 HZ
   go_wp2_with (first | (at_mapUpdate; refine wpList_update_pl rfl _ _ _ rfl rfl rfl rfl HG.out ?_) | fail)
   go_ret;have := HR1.out;simp only [Bool.false_eq_true,if_false] at this;subst this;exact ⟨_,c + 1,rfl,by omega,fun _ => HD.out.1,HD.out.2⟩
 ·have d1 : (fl == 1) = false := by simpa using h1
  obtain ⟨w5,g1,⟨K',g2,g4⟩,g3⟩ := KEEP _ al2;have HD : Hid (esK K' = setE ft [x] (esK K) ∧ DcS n B bR bm (c + 1) K' vr rest w5 ∧ Kp (fun q => B ≤ q ∨ q = bm) w w5) := ⟨g2,g4,g3⟩;have HR1 : Hid (R = (setE ft [x] (esK K),0)) := hid (by have := HR0.out; rwa [if_neg (fun e => h1 e.1)] at this);simp only [World.size_alloc] at g1;have HG : Hid ((Instr.mapUpdate 106 (.map (some bm)) (.int .i64 ft) (.slice (some ⟨w.heap.size + 1 + 1,0,none⟩) 1 1)).run Tryz.prog (((w.alloc (Obj.cells #[.string fn,.int .i64 ft,.int .i64 fl,.int .i64 fk,.string ftn] 58)).alloc (Obj.cells #[.int .i64 x.kind,.int .i64 x.n,.string x.s,.slice a1 n1 c1,.slice a2 n2 c2] 33)).alloc (Obj.cells #[.int .i64 x.kind,.int .i64 x.n,.string x.s,.slice a1 n1 c1,.slice a2 n2 c2] 33)) = .ok () w5) := g1;clear g1 g2 g3 g4 BF BT al2 KEEP HZ HR0 h hap hB hc hcm h64 h1 HX
  go_enter Tryz.func60,Tryz.ntmps60
  go_wp2_with (first | (at_mapUpdate; refine wpList_update_pl rfl _ _ _ rfl rfl rfl rfl HG.out ?_) | fail)
  go_ret;have := HR1.out;subst this;exact ⟨_,c + 1,rfl,by omega,fun _ => HD.out.1,HD.out.2⟩
theorem dput_rep (h : DcS n B bR bm c K vr rest w) (hc : c ≤ 1000000) (fn : ByteArray) (ft fk : Int) (ftn : ByteArray) (h64 : Is64 ft) (hx : TrO n B w r x bs) (hap : Apt B w ((fpK K ++ blkOf vr) ++ bs)) (hB : B ≤ w.heap.size) (hl : (undE (esK K) ft).length ≤ 64) :
  Calls Tryz.prog 60 #[.map (some bm),.agg #[.string fn,.int .i64 ft,.int .i64 3,.int .i64 fk,.string ftn],.agg r.toArray] w (PutP n B bR bm c vr rest (putD ⟨fn,ft,3,fk,ftn⟩ x (esK K)) w) := by
 have hcm : c < maxLen := by unfold maxLen; omega
 have hR : putD ⟨fn,ft,3,fk,ftn⟩ x (esK K) = if (undE (esK K) ft).length = 64 then (esK K,4) else (setE ft (undE (esK K) ft ++ [x]) (esK K),0) := by simp [putD]
 rw [hR];obtain ⟨rows,bss,g1, -⟩ := h.at ft;obtain ⟨la,lc,hv⟩ := own_form g1.own;have hgeb : ∀ k ∈ blkOf (lookE (vsK K) ft),B ≤ k := fun k hk => (own_lt g1.own (mem_blkOf.1 hk)).1
 obtain ⟨a1,c1,a2,c2,hr⟩ := hx.lens;generalize x.es.length = n1 at hr;generalize x.rest.length = n2 at hr;obtain ⟨Ln,hLn⟩ : ∃ Ln,(undE (esK K) ft).length = Ln := ⟨_,rfl⟩;rw [hLn] at hv hl ⊢;rw [hv] at hgeb;have al2 : Below w.heap.size w ((w.alloc (Obj.cells #[.string fn,.int .i64 ft,.int .i64 3,.int .i64 fk,.string ftn] 58)).alloc (Obj.cells #[.int .i64 x.kind,.int .i64 x.n,.string x.s,.slice a1 n1 c1,.slice a2 n2 c2] 33)) := (bra _).alloc (by simp) _
 have hlk : (Instr.lookup 106 (.map (some bm)) (.int .i64 ft) false).run Tryz.prog ((w.alloc (Obj.cells #[.string fn,.int .i64 ft,.int .i64 3,.int .i64 fk,.string ftn] 58)).alloc (Obj.cells #[.int .i64 x.kind,.int .i64 x.n,.string x.s,.slice a1 n1 c1,.slice a2 n2 c2] 33)) = .ok (.slice la Ln lc) ((w.alloc (Obj.cells #[.string fn,.int .i64 ft,.int .i64 3,.int .i64 fk,.string ftn] 58)).alloc (Obj.cells #[.int .i64 x.kind,.int .i64 x.n,.string x.s,.slice a1 n1 c1,.slice a2 n2 c2] 33)) := (by
  have := (h.map.below al2).look (i64_of h64)
  rwa [hv] at this)
 by_cases h4 : Ln = 64
 ·subst h4;rw [if_pos rfl];have HD : Hid (DcS n B bR bm c K vr rest ((w.alloc (Obj.cells #[.string fn,.int .i64 ft,.int .i64 3,.int .i64 fk,.string ftn] 58)).alloc (Obj.cells #[.int .i64 x.kind,.int .i64 x.n,.string x.s,.slice a1 n1 c1,.slice a2 n2 c2] 33)) ∧ Kp (fun q => B ≤ q ∨ q = bm) w ((w.alloc (Obj.cells #[.string fn,.int .i64 ft,.int .i64 3,.int .i64 fk,.string ftn] 58)).alloc (Obj.cells #[.int .i64 x.kind,.int .i64 x.n,.string x.s,.slice a1 n1 c1,.slice a2 n2 c2] 33))) := ⟨h.below al2,Kp.ofBelow al2⟩;rw [hr];clear h hc h64 hx hap hB hl hcm hR g1 hv hgeb hr hLn al2
  go_enter Tryz.func60,Tryz.ntmps60
  go_wp2_with fail;go_ret;exact ⟨K,c,rfl,by omega,(fun e => absurd (show (4 : Int) = 0 from e) (by decide)),HD.out⟩
 ·rw [if_neg h4]
  have d4 : ((Ln : Int) == 64) = false := by simp; omega
  have BF : Blk ((w.alloc (Obj.cells #[.string fn,.int .i64 ft,.int .i64 3,.int .i64 fk,.string ftn] 58)).alloc (Obj.cells #[.int .i64 x.kind,.int .i64 x.n,.string x.s,.slice a1 n1 c1,.slice a2 n2 c2] 33)) w.heap.size #[.string fn,.int .i64 ft,.int .i64 3,.int .i64 fk,.string ftn] 58 := (Blk.new w _ _).below (bra _);have BT : Blk ((w.alloc (Obj.cells #[.string fn,.int .i64 ft,.int .i64 3,.int .i64 fk,.string ftn] 58)).alloc (Obj.cells #[.int .i64 x.kind,.int .i64 x.n,.string x.s,.slice a1 n1 c1,.slice a2 n2 c2] 33)) (w.heap.size + 1) #[.int .i64 x.kind,.int .i64 x.n,.string x.s,.slice a1 n1 c1,.slice a2 n2 c2] 33 := (by have := Blk.new (w.alloc (Obj.cells #[.string fn,.int .i64 ft,.int .i64 3,.int .i64 fk,.string ftn] 58)) #[.int .i64 x.kind,.int .i64 x.n,.string x.s,.slice a1 n1 c1,.slice a2 n2 c2] 33; rwa [World.size_alloc] at this)
  have nF : ¬ w.heap.size ∈ blkOf (.slice la Ln lc) := fun e => by have := own_lt g1.own (mem_blkOf.1 (by rw [hv]; exact e)); omega
  have nT : ¬ w.heap.size + 1 ∈ blkOf (.slice la Ln lc) := fun e => by have := own_lt g1.own (mem_blkOf.1 (by rw [hv]; exact e)); omega
  have nM : ¬ bm ∈ blkOf (.slice la Ln lc) := fun e => by have := hgeb _ e; have := h.ltm; omega
  rw [hr];have HR : Hid (r = [.int .i64 x.kind,.int .i64 x.n,.string x.s,.slice a1 n1 c1,.slice a2 n2 c2]) := hr;have HH : Hid (DcS n B bR bm c K vr rest w ∧ c < maxLen ∧ Is64 ft ∧ TrO n B w r x bs ∧ Apt B w ((fpK K ++ blkOf vr) ++ bs) ∧ B ≤ w.heap.size ∧ (undE (esK K) ft).length ≤ 64 ∧ lookE (vsK K) ft = .slice la Ln lc ∧ (∀ k ∈ blkOf (.slice la Ln lc),B ≤ k)) := ⟨h,hcm,h64,hx,hap,hB,by omega,hv,hgeb⟩;clear h hc h64 hx hap hB hl hcm hR g1 hv hgeb hr hLn h4
  go_enter Tryz.func60,Tryz.ntmps60
  go_upto_region 5 with fail
  clear hlk d4;generalize ((w.alloc (Obj.cells #[.string fn,.int .i64 ft,.int .i64 3,.int .i64 fk,.string ftn] 58)).alloc (Obj.cells #[.int .i64 x.kind,.int .i64 x.n,.string x.s,.slice a1 n1 c1,.slice a2 n2 c2] 33)) = W2 at *;obtain ⟨b4,hb4⟩ : ∃ z,w.heap.size = z := ⟨_,rfl⟩;rw [hb4] at BF nF BT nT;simp only [hb4];clear hb4
  have HLK : Hid (∀ W,Kp (fun q => q ∈ blkOf (.slice la Ln lc)) W2 W → (Instr.lookup 106 (.map (some bm)) (.int .i64 ft) false).run Tryz.prog W = .ok (.slice la Ln lc) W) := hid (fun W hW => by
   have := ((HH.out.1.map.below al2).kp hW nM).look (i64_of HH.out.2.2.1)
   rwa [HH.out.2.2.2.2.2.2.2.1] at this)
  have HMO : Hid (∃ va vn vc W' w5,(Builtin.append_ #[78,78] 78 #[.slice la Ln lc,.slice (some ⟨W2.heap.size,0,none⟩) 1 1]).run Tryz.prog (W2.drew.alloc (Obj.cells #[.int .i64 x.kind,.int .i64 x.n,.string x.s,.slice a1 n1 c1,.slice a2 n2 c2] 33)) = .ok (.slice va vn vc) W' ∧ Kp (fun q => q ∈ blkOf (.slice la Ln lc)) W2 W' ∧ (Instr.mapUpdate 106 (.map (some bm)) (.int .i64 ft) (.slice va vn vc)).run Tryz.prog W' = .ok () w5 ∧ PutP n B bR bm c vr rest (setE ft (undE (esK K) ft ++ [x]) (esK K),0) w (.returned (.int .i64 0)) w5) := (by
   obtain ⟨h,hcm,h64,hx,hap,hB,hl,hv,hgeb⟩ := HH.out;have ald : Below w.heap.size w W2.drew := al2.drew;have al3 : Below w.heap.size w (W2.drew.alloc (Obj.cells #[.int .i64 x.kind,.int .i64 x.n,.string x.s,.slice a1 n1 c1,.slice a2 n2 c2] 33)) := ald.alloc ald.size _;have hbs : Sm w (W2.drew.alloc (Obj.cells #[.int .i64 x.kind,.int .i64 x.n,.string x.s,.slice a1 n1 c1,.slice a2 n2 c2] 33)) bs := Sm.below al3 fun k hk => (hap.2 k (List.mem_append.2 (.inr hk))).2
   have BZ : Blk (W2.drew.alloc (Obj.cells #[.int .i64 x.kind,.int .i64 x.n,.string x.s,.slice a1 n1 c1,.slice a2 n2 c2] 33)) W2.heap.size r.toArray 33 := (by rw [HR.out]; exact Blk.new W2.drew _ _);obtain ⟨v',W',w5,bs',e1,e2,e3,e4,e5⟩ := (h.below al3).more (Nat.le_trans hB al3.size) h64 (hx.sm hbs) (hap.mono al3.size) hcm hl BZ;rw [hv] at e1 e2;have k2 : Kp (fun q => q ∈ blkOf (.slice la Ln lc)) W2 W' := (((Kp.refl _ W2).drewN 1).alloc _).trans e2;have e1' := e1;obtain ⟨rows,bss,q1, -⟩ := e4.at ft;obtain ⟨va,vc,hvv⟩ := own_form q1.own
   have hlo : lookE (vsK (setE ft (v',undE (esK K) ft ++ [x],bs') K)) ft = v' := (by
    have e0 : vsK (setE ft (v',undE (esK K) ft ++ [x],bs') K) = setE ft v' (vsK K) := vsK_set ft _ K;have hrv : RisE (vsK K) := List.pairwise_map.2 h.ris;have e2 : List.find? (fun e => decide (e.1 = ft)) (setE ft v' (vsK K)) = some (ft,v') := find_mem (hrv.set ft v') (p := (ft,v')) (mem_setE.2 (.inl rfl));rw [e0];unfold lookE;rw [e2]
    rfl)
   rw [hlo] at hvv;obtain ⟨vn,hvn⟩ : ∃ z,(undE (esK (setE ft (v',undE (esK K) ft ++ [x],bs') K)) ft).length = z := ⟨_,rfl⟩;rw [hvn] at hvv;clear hvn hlo q1 e1';subst hvv;refine ⟨va,vn,vc,W',w5,e1,k2,e3,_,c + 1,rfl,by omega,fun _ => esK_set ft _ K,e4,?_⟩
   exact ((Kp.ofBelow al2).trans2 (k2.weak fun i _ e => .inl (hgeb i e)) fun i _ e => e).trans (e5.weak fun i _ e => .inr e))
  obtain ⟨va,vn,vc,W',w5,e1,k2,e3,e4⟩ := HMO.out;have HAP : Hid ((Builtin.append_ #[78,78] 78 #[.slice la Ln lc,.slice (some ⟨W2.heap.size,0,none⟩) 1 1]).run Tryz.prog (W2.drew.alloc (Obj.cells #[.int .i64 x.kind,.int .i64 x.n,.string x.s,.slice a1 n1 c1,.slice a2 n2 c2] 33)) = .ok (.slice va vn vc) W') := e1;have HUP : Hid ((Instr.mapUpdate 106 (.map (some bm)) (.int .i64 ft) (.slice va vn vc)).run Tryz.prog W' = .ok () w5) := e3;have HPP : Hid (PutP n B bR bm c vr rest (setE ft (undE (esK K) ft ++ [x]) (esK K),0) w (.returned (.int .i64 0)) w5) := e4;have HK2 : Hid (Kp (fun q => q ∈ blkOf (.slice la Ln lc)) W2 W') := k2;clear e1 e3 e4 k2 HMO HH HR al2;refine M_region (T := fun W => Kp (fun q => q ∈ blkOf (.slice la Ln lc)) W2 W) (m := 10) (by kernel_rfl) ?_;have hS : Kp (fun q => q ∈ blkOf (.slice la Ln lc)) W2 W2.drew := (Kp.refl _ W2).drewN 1;refine M_tk 0 22 (.map (some bm)) (fun w' hw' => ?_) hS (bts 11 1) ?_
  ·go_simp
  refine M_tk 1 23 (.pointer (some ⟨b4,1,none⟩)) (fun w' hw' => ?_) hS (bts 11 3) ?_
  ·go_simp
  refine M_tk 2 24 (.int .i64 ft) (fun w' hw' => ?_) hS (bts 11 7) ?_
  ·have f1 : w'.cell? ⟨b4,1,none⟩ = some (.int .i64 ft) := ((BF.kp hw' nF).cell 1).trans rfl; go_simp
  refine M_tk 3 25 (.map (some bm)) (fun w' hw' => ?_) hS (bts 11 15) ?_
  ·go_simp
  refine M_tk 4 26 (.pointer (some ⟨b4,1,none⟩)) (fun w' hw' => ?_) hS (bts 11 31) ?_
  ·go_simp
  refine M_tk 5 27 (.int .i64 ft) (fun w' hw' => ?_) hS (bts 11 63) ?_
  ·have f1 : w'.cell? ⟨b4,1,none⟩ = some (.int .i64 ft) := ((BF.kp hw' nF).cell 1).trans rfl; go_simp
  refine M_tk 6 28 (.slice la Ln lc) (fun w' hw' => ?_) hS (bts 11 127) ?_
  ·have hlk := HLK.out w' hw'; go_simp
  refine M_tk 7 29 (.agg #[.int .i64 x.kind,.int .i64 x.n,.string x.s,.slice a1 n1 c1,.slice a2 n2 c2]) (fun w' hw' => ?_) hS (bts 11 255) ?_
  ·have BT' := BT.kp hw' nT; have t0 : w'.cell? ⟨b4 + 1,0,none⟩ = some (.int .i64 x.kind) := (BT'.cell 0).trans rfl; have t1 : w'.cell? ⟨b4 + 1,1,none⟩ = some (.int .i64 x.n) := (BT'.cell 1).trans rfl; have t2 : w'.cell? ⟨b4 + 1,2,none⟩ = some (.string x.s) := (BT'.cell 2).trans rfl; have t3 : w'.cell? ⟨b4 + 1,3,none⟩ = some (.slice a1 n1 c1) := (BT'.cell 3).trans rfl; have t4 : w'.cell? ⟨b4 + 1,4,none⟩ = some (.slice a2 n2 c2) := (BT'.cell 4).trans rfl; go_simp
  refine M_rn 8 30 (.slice (some ⟨W2.heap.size,0,none⟩) 1 1) ((W2.drew.alloc (Obj.cells #[.int .i64 x.kind,.int .i64 x.n,.string x.s,.slice a1 n1 c1,.slice a2 n2 c2] 33))) (bts 11 511) rfl (by go_simp) (hS.alloc _) ?_;simp only [zsA,zsZ,zsS];refine M_rn 9 31 (.slice va vn vc) (W') (bts 11 1023) rfl (append_run rfl rfl rfl HAP.out) HK2.out ?_;simp only [zsA,zsZ,zsS];refine M_store 10 w5 rfl rfl (by kernel_rfl) (by rfl) (listed' := bts 11 2047) (by kernel_rfl) (by have q := HUP.out; go_simp) (by kernel_rfl) ?_;refine M_done (by kernel_rfl) ?_ _;clear hS HLK HAP HUP HK2 BF BT nF nT nM;go_wp2_with fail;go_ret;exact HPP.out
end
end
section
section
variable {P : Program} {md : Region.Mode} {ops : Array Oper} {Q : Exit → Act → World → Prop} {T : World → Prop} {m : Nat}
theorem M_firstA {i : Nat} {oi : Oper} {v : Value} (hi : ops[i]? = some oi) (hsel : ∀ (j : Nat) (o : Oper) cs b,ops[j]? = some o → o.op ≠ .select cs b)
  (hQ : ∀ c a w,Q (.panic c) (a.put oi.dst v) w → Q (.panic c) a w) (him : i ≠ m) :
  ∀ (fuel : Nat) (listed : Array Bool) (a : Act) (w : World),
   (∀ j oj,ops[j]? = some oj → j ≠ i → listed.getD j true = false → (∀ e ∈ oj.after,Region.binds md e = true → e.on ≠ i) → oi.apart ops oj = true) →
   i ∈ Region.ready md ops listed → YieldsIf P ops (fun _ => True) oi v a → (listed.getD m true = false → T w) →
   wpAnyM P md ops Q T m fuel (listed.setIfInBounds i true) (a.put oi.dst v) w → wpAnyM P md ops Q T m (fuel + 1) listed a w := by
 intro fuel
 induction fuel with
 | zero =>
  intro listed a w _ hr hy hT H;refine ⟨fun h => (by rw [h] at hr; cases hr),fun j hj => ?_⟩
  by_cases hji : j = i
  ·subst hji; exact hy.wpOp hi trivial ⟨fun h => hT (by rw [getD_set_ne true him] at h; exact h),H⟩
  ·have h0 := ready_mono hj hji;rw [H.1] at h0
   cases h0
 | succ fuel ih =>
  intro listed a w hfree hr hy hT H;refine ⟨fun h => (by rw [h] at hr; cases hr),fun j hj => ?_⟩
  by_cases hji : j = i
  ·subst hji; exact hy.wpOp hi trivial ⟨fun h => hT (by rw [getD_set_ne true him] at h; exact h),H⟩
  ·have hH := H.2 j (ready_mono hj hji);obtain ⟨hjun,oj,hoj,hall⟩ := mem_ready.1 hj
   have hnot : ∀ e ∈ oj.after,Region.binds md e = true → e.on ≠ i := fun e he hb heq => by
    have hx := hall e he hb;have h0 := (mem_ready.1 hr).1;rw [heq] at hx
    rcases Nat.lt_or_ge i listed.size with h' | h'
    ·simp [h'] at h0 hx; rw [h0] at hx; cases hx
    ·simp [Array.getElem?_eq_none h'] at hx
   have h2 := wpOp_putIf hoj (hfree j oj hoj hji hjun hnot) (fun cs b => hsel i oi cs b hi) (fun cs b => hsel j oj cs b hoj) hQ hy hH
   have hfree' : ∀ k ok,ops[k]? = some ok → k ≠ i → (listed.setIfInBounds j true).getD k true = false → (∀ e ∈ ok.after,Region.binds md e = true → e.on ≠ i) → oi.apart ops ok = true := fun k ok hk hki hun hno => by
    refine hfree k ok hk hki ?_ hno
    by_cases hjk : j = k
    ·subst hjk; exact hjun
    ·rw [getD_set_ne true hjk] at hun; exact hun
   have hm : ∀ b,(listed.setIfInBounds j true).getD m true = b → ((listed.setIfInBounds i true).setIfInBounds j true).getD m true = b := fun b h => by
    rw [Array.setIfInBounds_comm _ _ (Ne.symm hji),getD_set_ne true him]; exact h
   refine wpOp_mono (fun a' w' h3 => ⟨fun h => h3.2.1 (hm _ h),ih (listed.setIfInBounds j true) a' w' hfree' (ready_mono hr (Ne.symm hji)) h3.1 (fun h => h3.2.1 (hm _ h)) ?_⟩) h2;rw [Array.setIfInBounds_comm _ _ hji];exact h3.2.2
theorem M_takeA {oi : Oper} {fuel : Nat} {listed listed' : Array Bool} {a : Act} {w : World} (i d : Nat) (v : Value) (tmps' : Array Value) (hi : ops[i]? = some oi) (hd : oi.dst = some d)
  (hs : Region.noSelect ops = true) (hf : Region.free md ops listed i = true) (hr : (Region.ready md ops listed).contains i = true) (him : (i == m) = false)
  (hQ : ∀ c a w,Q (.panic c) (a.put oi.dst v) w → Q (.panic c) a w) (hwt : Region.wanted oi (yielded ops a.tmps) = true) (hy : ∀ w : World,True → (execOp a.eval oi).run P w = .ok (.value v) w) (hT : T w)
  (hl : listed.setIfInBounds i true = listed') (ht : a.tmps.setIfInBounds d v = tmps')
  (h : wpAnyM P md ops Q T m fuel listed' { a with tmps := tmps' } w) : wpAnyM P md ops Q T m (fuel + 1) listed a w := by
 subst hl ht;refine M_firstA hi (Region.noSelect_spec hs) hQ (by simpa using him) fuel listed a w (Region.free_spec hi hf) (by simpa using hr) (.inl ⟨hwt,hy⟩) (fun _ => hT) ?_;rw [hd];exact h
theorem M_tA {oi : Oper} {fuel : Nat} {listed : Array Bool} {a : Act} {w : World} (i d : Nat) (v : Value) {tmps' : Array Value} (hy : ∀ w : World,True → (execOp a.eval oi).run P w = .ok (.value v) w) (hT : T w) (listed' : Array Bool)
  (h : wpAnyM P md ops Q T m fuel listed' { a with tmps := tmps' } w) (hi : ops[i]? = some oi := by rfl) (hd : oi.dst = some d := by rfl) (hs : Region.noSelect ops = true := by kernel_rfl) (hf : Region.free md ops listed i = true := by kernel_rfl) (hr : (Region.ready md ops listed).contains i = true := by kernel_rfl)
  (him : (i == m) = false := by kernel_rfl) (hQ : ∀ c a w,Q (.panic c) (a.put oi.dst v) w → Q (.panic c) a w := by exact fun _ _ _ h => h) (hwt : Region.wanted oi (yielded ops a.tmps) = true := by rfl)
  (hl : listed.setIfInBounds i true = listed' := by kernel_rfl) (ht : a.tmps.setIfInBounds d v = tmps' := by simp only [zsA,zsZ,zsS]; rfl) : wpAnyM P md ops Q T m (fuel + 1) listed a w :=
 M_takeA i d v tmps' hi hd hs hf hr him hQ hwt hy hT hl ht h
end
end
end Go.Proofs.YtiajaocckkghgaaGreat
