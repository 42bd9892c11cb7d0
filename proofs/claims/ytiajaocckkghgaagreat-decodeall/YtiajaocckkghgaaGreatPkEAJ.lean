/- Part 10 of what the proof stands on. -/
import Derived.Test.YtiajaocckkghgaaGreatPkEAI
import Derived.Laws.CopyRow
import Derived.Laws.IdiomCopy
import Derived.RegionTactic
import Derived.ChangeAlike
namespace Go.Proofs.YtiajaocckkghgaaGreat
set_option maxHeartbeats 8000000
set_option linter.unusedVariables false
set_option linter.unusedSimpArgs false
set_option maxRecDepth 20000
open Go.ChangeShapes Go.WideShapes Go.ChangeAt Go.RowKit
theorem rrget_any (a : Option Addr) (ns : List Nat) (N cap : Nat) (w : World) (hN : ns.length = N) (hh : Holds w a ns) (hlt : ∀ n ∈ ns,n < 256) (hc : N ≤ cap) (hm : cap ≤ maxLen) (hadr : ns = [] ∨ ∃ g off,a = some ⟨g,off,none⟩) :
  Calls Tryz.prog 62 #[.slice a N cap] w fun e w' => ∃ v,e = .returned (.tuple #[v,.int .i64 ((getL ns).2 : Int)]) ∧ w'.ownsRow w.heap.size 61 4 v (getL ns).1.length (rawCells (getL ns).1) ∧ Below w.heap.size w w' := by
 have HM : Hid (cap ≤ maxLen) := hm;unfold maxLen at hm;obtain ⟨R,hR⟩ : ∃ R,getL ns = R := ⟨_,rfl⟩;rw [hR]
 by_cases hbig : 4096 < N
 ·have : R = ([],4) := by rw [← hR,getL,if_pos (by omega)]
  subst this;clear hR hh hlt
  go_enter Tryz.func62,Tryz.ntmps62
  go_wp2_with fail
  go_ret2
  exact ⟨_,rfl,World.ownsRow_nil _ _ _ _,Below.refl _ _⟩
 ·have HR : Hid (joinA [] (getA ns 0) = R) := by
   show _ = _
   rw [joinA_nil _ (getA_nil ns 0),← hR,getL,if_neg (by omega)]
  have HN : Hid (ns.length = N) := hN;have HH : Hid (Holds w a ns) := hh;have HT : Hid (∀ n ∈ ns,n < 256) := hlt;have HA : Hid (ns = [] ∨ ∃ g off,a = some ⟨g,off,none⟩) := hadr;obtain ⟨i0,hi,hz0,hz1,hz2⟩ := info_parts infoRaw;clear hR hN hh hlt hadr
  go_enter Tryz.func62,Tryz.ntmps62
  go_wp2_with fail
  go_loopw [4,5] (fun out pv wr => ∃ (acc : List Fd) (p : Nat),pv = .int .i64 (p : Int) ∧ p ≤ N ∧ acc.length ≤ p ∧ Hid (joinA acc (getA ns p) = R) ∧ Hid (wr.ownsRow w.heap.size 61 4 out acc.length (rawCells acc)) ∧ Below w.heap.size w wr)
   (fun _ pv _ => N - (intOf pv).toNat)
  case atStart => exact ⟨[],0,rfl,by omega,by simp,HR,World.ownsRow_nil _ _ _ _,Below.refl _ _⟩
  case round =>
   obtain ⟨acc,p,rfl,hp,hacc,HJ,HO,hbel⟩ := hrel;have hws := hbel.size
   by_cases hpn : p < N
   ·rcases HA.out with h0 | ⟨g,off,rfl⟩
    ·exact absurd hpn (by have := HN.out; rw [h0] at this; simp at this; omega)
    have HG : Hid (∀ W q,Below w.heap.size w W → q ≤ N → Calls Tryz.prog 114 #[.slice (some ⟨g,off,none⟩) N cap,.int .i64 (q : Int)] W fun e w' => e = .returned (getV (getF (ns.drop q) 0 0 q)) ∧ w' = W) := fun W q hW hq => by
     have := rget_any (some ⟨g,off,none⟩) ns cap (q : Int) W (.inr ⟨_,_,rfl⟩) (by rw [HN.out]; exact hc) HM.out (by rw [HN.out]; omega) (HH.out.below hW) HT.out;rw [getR_in (by rw [HN.out]; exact hq),HN.out] at this;exact this
    have HC : Hid (∀ W q v,Below w.heap.size w W → q + v ≤ N → ∀ c,(convert 27 9 (.slice (some ⟨g,off + q,none⟩) v c)).run Tryz.prog W = .ok (.string (strN ((ns.drop q).take v))) W) := fun W q v hW hq c => by
     have hl' : ((ns.drop q).take v).length = v := by have := HN.out; simp; omega
     have := conv_holds W (some ⟨g,off + q,none⟩) ((ns.drop q).take v) c (fun h => by cases h) (Holds.of fun j hj => by
      have := (HH.out.below hW).at (q + j) (by rw [HN.out]; omega);rw [← Nat.add_assoc] at this;rw [this]
      simp [List.getD_eq_getElem?_getD,List.getElem?_take,List.getElem?_drop,show j < v by omega])
     rw [hl'] at this;exact this
    obtain ⟨⟨h,q1,e1⟩,g1⟩ : ∃ x,getF (ns.drop p) 0 0 p = x := ⟨_,rfl⟩;have hg1 := HG.out wr p hbel (by omega);rw [g1] at hg1;simp only [getV] at hg1;have G1 : Hid (getF (ns.drop p) 0 0 p = (h,q1,e1)) := g1
    have hh64 : e1 = 0 → p < q1 ∧ q1 ≤ N ∧ h < 18446744073709551616 := by
     rintro rfl;have := getF_at_bd g1 HT.out (by rw [HN.out]; omega);rw [HN.out] at this;exact this
    clear g1
    by_cases he1 : e1 = 0
    ·subst he1;obtain ⟨hq1,hq2,hh64⟩ := hh64 rfl
     by_cases ht : h / 2 = 0 ∨ 500 < h / 2
     ·have HX : Hid (nextN ns p = (fd0,0,7)) := next_tag G1.out ht;clear G1
      have hR : R = ([],7) := by rw [← HJ.out,getA_err (by rw [HN.out]; exact hpn) HX.out (by omega),joinA,if_neg (by first | (simp; done) | (simp; omega))]
      subst hR;clear HJ HX HR HO
      by_cases ht0 : h / 2 = 0
      ·have hd : decide ((h : Int) / 2 < 1) = true := by simp; omega
       go_wp2_with fail;refine hg1.mono ?_;rintro e w1 ⟨rfl,rfl⟩;clear hg1;go_wp2_with fail
       go_ret2
       exact ⟨_,rfl,World.ownsRow_nil _ _ _ _,hbel⟩
      ·have hd : decide ((h : Int) / 2 < 1) = false := by simp; omega
       have hd5 : decide (500 < (h : Int) / 2) = true := by simp; omega
       go_wp2_with fail;refine hg1.mono ?_;rintro e w1 ⟨rfl,rfl⟩;clear hg1;go_wp2_with fail
       go_ret2
       exact ⟨_,rfl,World.ownsRow_nil _ _ _ _,hbel⟩
     ·have hd : decide ((h : Int) / 2 < 1) = false := by simp; omega
      have hd5 : decide (500 < (h : Int) / 2) = false := by simp; omega
      obtain ⟨⟨v,q2,e2⟩,g2⟩ : ∃ x,getF (ns.drop q1) 0 0 q1 = x := ⟨_,rfl⟩;have hg2 := HG.out wr q1 hbel (by omega);rw [g2] at hg2;simp only [getV] at hg2;have G2 : Hid (getF (ns.drop q1) 0 0 q1 = (v,q2,e2)) := g2
      have hv64 : e2 = 0 → q1 < q2 ∧ q2 ≤ N ∧ v < 18446744073709551616 := by
       rintro rfl;have := getF_at_bd g2 HT.out (by rw [HN.out]; omega);rw [HN.out] at this;exact this
      clear g2
      by_cases he2 : e2 = 0
      ·subst he2;obtain ⟨hq3,hq4,hv64⟩ := hv64 rfl;obtain ⟨m,hm2⟩ : ∃ m,h % 2 = m := ⟨_,rfl⟩
       have hmi : (h : Int) % 2 = (m : Int) := by omega
       obtain ⟨t,ht2⟩ : ∃ t,h / 2 = t := ⟨_,rfl⟩
       have hti : (h : Int) / 2 = (t : Int) := by omega
       have hdt : decide ((t : Int) < 1) = false := by simp; omega
       have hdt5 : decide (500 < (t : Int)) = false := by simp; omega
       have ht500 : t ≤ 500 := by omega
       clear hd hd5
       by_cases hw : m = 0
       ·subst hw
        have HX : Hid (nextN ns p = (⟨(t : Nat),0,zagN v,⟨#[]⟩⟩,q2,0)) := by
         show _ = _
         rw [next_num G1.out ht G2.out hm2,ht2]
        clear G1 G2 hm2 ht2
        have HJ2 : Hid (joinA (acc ++ [⟨(t : Nat),0,zagN v,⟨#[]⟩⟩]) (getA ns (q2)) = R) := by
         show _ = _
         rw [← joinA_join,← getA_on (by rw [HN.out]; exact hpn) HX.out HT.out];exact HJ.out
        clear HJ HX;go_wp2_with fail;refine hg1.mono ?_;rintro e w1 ⟨rfl,rfl⟩;clear hg1;go_wp2_with fail;refine hg2.mono ?_;rintro e w1 ⟨rfl,rfl⟩;clear hg2;go_wp2_with fail;refine (rzag_any v _ (by omega) (by omega)).mono ?_;rintro e w1 ⟨rfl,rfl⟩;have hz := zagN_bd v (by omega) (by omega);generalize zagN v = z at *;have hcv := hz
        go_wp2_with (first
         | (at_builtin; refine wpList_append_own _ rfl _ _ 31 rfl w.heap.size 61 i0 _ 4 40 Tryz.underlying31 hi hz0 hz1 hz2 rfl (by decide) _ _ _ rfl ((HO.out.alloc _).alloc _) ⟨w1.heap.size + 1,0,none⟩ 1 1 (Fd.cells ⟨(t : Int),0,z,⟨#[]⟩⟩) rfl rfl ?c1 ?c2 ?c3 ?c4 ?c5 ?_)
         | fail)
        case c1 =>
         intro j u hj
         match j,hj with
         | 0,hj | 1,hj | 2,hj | 3,hj => simp [Fd.cells] at hj; subst hj; simp [Addr.add]
        case c2 => intro u hu; simp [Fd.cells] at hu; rcases hu with rfl | rfl | rfl | rfl <;> rfl
        case c3 => unfold maxLen; omega
        case c4 => omega
        case c5 => simp; omega
        intro vv w2 ho2 hg2 _;have hb2 : Below w.heap.size w w2 := ((hbel.alloc hws _).alloc (by simp; omega) _).grown hg2 (by simp; omega) (fun k hk => (HO.out.lt k hk).1)
        have HO2 : Hid (w2.ownsRow w.heap.size 61 4 vv (acc ++ [(⟨(t : Int),0,z,⟨#[]⟩⟩ : Fd)]).length (rawCells (acc ++ [⟨(t : Int),0,z,⟨#[]⟩⟩]))) := by
         show World.ownsRow _ _ _ _ _ _ _
         rw [(rawCells_snoc acc _).1,(rawCells_snoc acc _).2];exact ho2
        have hlen : (acc ++ [(⟨(t : Int),0,z,⟨#[]⟩⟩ : Fd)]).length ≤ q2 := by simp; omega
        clear HO ho2 hg2 hbel hcv;go_wp2_with fail
        go_roundw
        case rel => exact ⟨acc ++ [⟨(t : Int),0,z,⟨#[]⟩⟩],q2,by first | rfl | go_num,by omega,hlen,HJ2,HO2,hb2⟩
        case measure => simp [intOf]; omega
       ·obtain rfl : m = 1 := by omega
        by_cases hs : N - q2 < v
        ·have HX : Hid (nextN ns p = (fd0,0,2)) := next_short G1.out ht G2.out (by omega) (by rw [HN.out]; exact hs);clear G1 G2 hm2 ht2
         have hR : R = ([],2) := by rw [← HJ.out,getA_err (by rw [HN.out]; exact hpn) HX.out (by omega),joinA,if_neg (by first | (simp; done) | (simp; omega))]
         subst hR;clear HJ HX HR HO
         have hdv : decide ((N : Int) - (q2 : Int) < (v : Int)) = true := by simp; omega
         have hb2 : ∀ o,Below w.heap.size w (wr.alloc o) := fun o => hbel.alloc hws o
         go_wp2_with fail;refine hg1.mono ?_;rintro e w1 ⟨rfl,rfl⟩;clear hg1;go_wp2_with fail;refine hg2.mono ?_;rintro e w1 ⟨rfl,rfl⟩;clear hg2;go_wp2_with fail
         go_ret2
         exact ⟨_,rfl,World.ownsRow_nil _ _ _ _,hb2 _⟩
        ·have HX : Hid (nextN ns p = (⟨(t : Nat),1,0,strN ((ns.drop q2).take v)⟩,q2 + v,0)) := by
          show _ = _
          rw [next_text G1.out ht G2.out (by omega) (by rw [HN.out]; omega),ht2]
         clear G1 G2 hm2 ht2
         have hdv : decide ((N : Int) - (q2 : Int) < (v : Int)) = false := by simp; omega
         obtain ⟨S,hS⟩ : ∃ S,strN ((ns.drop q2).take v) = S := ⟨_,rfl⟩;rw [hS] at HX
         have HJ2 : Hid (joinA (acc ++ [⟨(t : Nat),1,0,S⟩]) (getA ns (q2 + v)) = R) := by
          show _ = _
          rw [← joinA_join,← getA_on (by rw [HN.out]; exact hpn) HX.out HT.out];exact HJ.out
         clear HJ HX
         by_cases hqc : q2 = cap
         ·obtain rfl : v = 0 := by omega
          have hS0 : strN [] = S := by rw [← hS]; simp
          have hcv : ∀ o1 c,(convert 27 9 (.slice (some ⟨g,off,none⟩) 0 c)).run Tryz.prog (wr.alloc o1) = .ok (.string S) (wr.alloc o1) := fun o1 c => by
           have := conv_holds (wr.alloc o1) (some ⟨g,off,none⟩) [] c (fun h => by cases h) Holds.nil;rw [hS0] at this;exact this
          clear hS hS0;subst hqc;go_wp2_with fail;refine hg1.mono ?_;rintro e w1 ⟨rfl,rfl⟩;clear hg1;go_wp2_with fail;refine hg2.mono ?_;rintro e w1 ⟨rfl,rfl⟩;clear hg2
          go_wp2_with (first
           | (at_builtin; refine wpList_append_own _ rfl _ _ 31 rfl w.heap.size 61 i0 _ 4 40 Tryz.underlying31 hi hz0 hz1 hz2 rfl (by decide) _ _ _ rfl ((HO.out.alloc _).alloc _) ⟨w1.heap.size + 1,0,none⟩ 1 1 (Fd.cells ⟨(t : Int),1,0,S⟩) rfl rfl ?c1 ?c2 ?c3 ?c4 ?c5 ?_)
           | fail)
          case c1 =>
           intro j u hj
           match j,hj with
           | 0,hj | 1,hj | 2,hj | 3,hj => simp [Fd.cells] at hj; subst hj; simp [Addr.add]
          case c2 => intro u hu; simp [Fd.cells] at hu; rcases hu with rfl | rfl | rfl | rfl <;> rfl
          case c3 => unfold maxLen; omega
          case c4 => omega
          case c5 => simp; omega
          intro vv w2 ho2 hg2 _;have hb2 : Below w.heap.size w w2 := ((hbel.alloc hws _).alloc (by simp; omega) _).grown hg2 (by simp; omega) (fun k hk => (HO.out.lt k hk).1)
          have HO2 : Hid (w2.ownsRow w.heap.size 61 4 vv (acc ++ [(⟨(t : Int),1,0,S⟩ : Fd)]).length (rawCells (acc ++ [⟨(t : Int),1,0,S⟩]))) := by
           show World.ownsRow _ _ _ _ _ _ _
           rw [(rawCells_snoc acc _).1,(rawCells_snoc acc _).2];exact ho2
          have hlen : (acc ++ [(⟨(t : Int),1,0,S⟩ : Fd)]).length ≤ q2 + 0 := by simp; omega
          clear HO ho2 hg2 hbel hcv;go_wp2_with fail
          go_roundw
          case rel => exact ⟨acc ++ [⟨(t : Int),1,0,S⟩],q2 + 0,by first | rfl | go_num,by omega,hlen,HJ2,HO2,hb2⟩
          case measure => simp [intOf]; omega
         ·have hcv : ∀ o1 c,(convert 27 9 (.slice (some ⟨g,off + q2,none⟩) v c)).run Tryz.prog (wr.alloc o1) = .ok (.string S) (wr.alloc o1) := fun o1 c => by
           have := HC.out (wr.alloc o1) q2 v (hbel.alloc hws o1) (by omega) c;rw [hS] at this;exact this
          clear hS;go_wp2_with fail;refine hg1.mono ?_;rintro e w1 ⟨rfl,rfl⟩;clear hg1;go_wp2_with fail;refine hg2.mono ?_;rintro e w1 ⟨rfl,rfl⟩;clear hg2
          go_wp2_with (first
           | (at_builtin; refine wpList_append_own _ rfl _ _ 31 rfl w.heap.size 61 i0 _ 4 40 Tryz.underlying31 hi hz0 hz1 hz2 rfl (by decide) _ _ _ rfl ((HO.out.alloc _).alloc _) ⟨w1.heap.size + 1,0,none⟩ 1 1 (Fd.cells ⟨(t : Int),1,0,S⟩) rfl rfl ?c1 ?c2 ?c3 ?c4 ?c5 ?_)
           | fail)
          case c1 =>
           intro j u hj
           match j,hj with
           | 0,hj | 1,hj | 2,hj | 3,hj => simp [Fd.cells] at hj; subst hj; simp [Addr.add]
          case c2 => intro u hu; simp [Fd.cells] at hu; rcases hu with rfl | rfl | rfl | rfl <;> rfl
          case c3 => unfold maxLen; omega
          case c4 => omega
          case c5 => simp; omega
          intro vv w2 ho2 hg2 _;have hb2 : Below w.heap.size w w2 := ((hbel.alloc hws _).alloc (by simp; omega) _).grown hg2 (by simp; omega) (fun k hk => (HO.out.lt k hk).1)
          have HO2 : Hid (w2.ownsRow w.heap.size 61 4 vv (acc ++ [(⟨(t : Int),1,0,S⟩ : Fd)]).length (rawCells (acc ++ [⟨(t : Int),1,0,S⟩]))) := by
           show World.ownsRow _ _ _ _ _ _ _
           rw [(rawCells_snoc acc _).1,(rawCells_snoc acc _).2];exact ho2
          have hlen : (acc ++ [(⟨(t : Int),1,0,S⟩ : Fd)]).length ≤ q2 + v := by simp; omega
          clear HO ho2 hg2 hbel hcv;go_wp2_with fail
          go_roundw
          case rel => exact ⟨acc ++ [⟨(t : Int),1,0,S⟩],q2 + v,by first | rfl | go_num,by omega,hlen,HJ2,HO2,hb2⟩
          case measure => simp [intOf]; omega
      ·have HX : Hid (nextN ns p = (fd0,0,e2)) := next_e2 G1.out ht G2.out he2;clear G1 G2 hv64
       have hR : R = ([],e2) := by rw [← HJ.out,getA_err (by rw [HN.out]; exact hpn) HX.out (by omega),joinA,if_neg (by first | (simp; done) | (simp; omega))]
       subst hR;clear HJ HX HR HO
       have hne : ((e2 : Int) != 0) = true := by simp; omega
       go_wp2_with fail;refine hg1.mono ?_;rintro e w1 ⟨rfl,rfl⟩;clear hg1;go_wp2_with fail;refine hg2.mono ?_;rintro e w1 ⟨rfl,rfl⟩;clear hg2;go_wp2_with fail
       go_ret2
       exact ⟨_,rfl,World.ownsRow_nil _ _ _ _,hbel⟩
    ·have HX : Hid (nextN ns p = (fd0,0,e1)) := next_e1 G1.out he1;clear G1 hh64
     have hR : R = ([],e1) := by rw [← HJ.out,getA_err (by rw [HN.out]; exact hpn) HX.out (by omega),joinA,if_neg (by first | (simp; done) | (simp; omega))]
     subst hR;clear HJ HX HR HO
     have hne : ((e1 : Int) != 0) = true := by simp; omega
     go_wp2_with fail;refine hg1.mono ?_;rintro e w1 ⟨rfl,rfl⟩;clear hg1;go_wp2_with fail
     go_ret2
     exact ⟨_,rfl,World.ownsRow_nil _ _ _ _,hbel⟩
   ·have hR : R = (acc,0) := by rw [← HJ.out,getA_end (by rw [HN.out]; omega),joinA,if_pos rfl,List.append_nil]
    subst hR;clear HJ HR;go_wp2_with fail
    go_ret2
    exact ⟨_,rfl,HO.out,hbel⟩
theorem rrising_any (a : Option Addr) (rs : List Fd) (N cap : Nat) (w : World) (hN : rs.length = N) (hadr : rs = [] ∨ ∃ g off,a = some ⟨g,off,none⟩) (hc : N ≤ cap) (hm : cap ≤ maxLen) (hh : HoldsR w a rs) :
  Calls Tryz.prog 158 #[.slice a N cap] w fun e w' => e = .returned (.bool (risesB rs)) ∧ Below w.heap.size w w' := by
 have HN : Hid (rs.length = N) := hN;have HA : Hid (rs = [] ∨ ∃ g off,a = some ⟨g,off,none⟩) := hadr;have HH : Hid (HoldsR w a rs) := hh;obtain ⟨R,hR⟩ : ∃ R,risesB rs = R := ⟨_,rfl⟩;rw [hR];have HR : Hid (risesB rs = R) := hR;unfold maxLen at hm;clear hN hadr hh hR
 go_enter Tryz.func158,Tryz.ntmps158
 go_wp2_with fail
 go_loopw [3] (fun iv wr => ∃ i : Nat,iv = .int .i64 ((i : Int) + 1) ∧ i ≤ N ∧ Hid (∀ j x y,j < i → rs[j]? = some x → rs[j + 1]? = some y → x.tag ≤ y.tag) ∧ Below w.heap.size w wr) (fun iv _ => N + 1 - (intOf iv).toNat)
 case atStart => exact ⟨0,rfl,by omega,(fun j x y hj => absurd hj (by omega) : ∀ j x y,j < 0 → rs[j]? = some x → rs[j + 1]? = some y → x.tag ≤ y.tag),Below.refl _ _⟩
 case round =>
  obtain ⟨i,rfl,hi,HT,hbel⟩ := hrel
  by_cases hlt : i + 1 < N
  ·have hr : rs[i]? = some (rs[i]'(by rw [HN.out]; omega)) := List.getElem?_eq_getElem _;generalize rs[i]'(by rw [HN.out]; omega) = r at hr;have hs : rs[i + 1]? = some (rs[i + 1]'(by rw [HN.out]; exact hlt)) := List.getElem?_eq_getElem _;generalize rs[i + 1]'(by rw [HN.out]; exact hlt) = s at hs
   rcases HA.out with h0 | ⟨g,off,rfl⟩
   ·exact absurd hlt (by have := HN.out; rw [h0] at this; simp at this; omega)
   obtain ⟨p0, -, -, -⟩ := (HH.out.below hbel).at hr;obtain ⟨q0, -, -, -⟩ := (HH.out.below hbel).at hs;have HK : Hid (rs[i]? = some r) := hr;have HK2 : Hid (rs[i + 1]? = some s) := hs;obtain ⟨x,hx⟩ : ∃ q,r.tag = q := ⟨_,rfl⟩;obtain ⟨y,hy⟩ : ∃ q,s.tag = q := ⟨_,rfl⟩;rw [hx] at p0;rw [hy] at q0;have HX : Hid (r.tag = x) := hx;have HY : Hid (s.tag = y) := hy
   have hlti : (i : Int) + 1 < (N : Int) := by omega
   clear hr hs hx hy
   by_cases hle : y < x
   ·have hd : decide (y < x) = true := by simp [hle]
    obtain rfl : R = false := by rw [← HR.out]; exact rises_break i r s HK.out HK2.out (by rw [HX.out,HY.out]; exact hle)
    clear HT HK HK2 HX HY HR;go_wp2_with fail
    go_quiet (fail)
    have hbn := below_drewN nq hbel;clear p0 q0 hbel;go_wp2_with fail;go_ret;exact ⟨rfl,hbn⟩
   ·have hd : decide (y < x) = false := by simp; omega
    have HT2 : Hid (∀ j u v,j < i + 1 → rs[j]? = some u → rs[j + 1]? = some v → u.tag ≤ v.tag) := fun j u v hj hu hv => by
     by_cases hji : j = i
     ·subst hji;rw [HK.out] at hu;rw [HK2.out] at hv
      obtain rfl : r = u := by simpa using hu
      obtain rfl : s = v := by simpa using hv
      rw [HX.out,HY.out]; omega
     ·exact HT.out j u v (by omega) hu hv
    clear HT HK HK2 HX HY;go_wp2_with fail
    go_quiet (fail)
    have hbn := below_drewN nq hbel;clear p0 q0 hbel;go_wp2_with fail
    go_roundw
    case rel => exact ⟨i + 1,by go_num,by omega,HT2,hbn⟩
    case measure => simp [intOf]; omega
  ·obtain rfl : R = true := by
    rw [← HR.out];refine rises_steps fun j x y hx hy => HT.out j x y ?_ hx hy
    have := (List.getElem?_eq_some_iff.1 hy).1;rw [HN.out] at this
    omega
   have hnl : ¬ (i : Int) + 1 < (N : Int) := by omega
   clear HT HR;go_wp2_with fail;go_ret;exact ⟨rfl,hbel⟩
theorem rising_any (a : Option Addr) (rs : List Fd) (N cap : Nat) (w : World) (hN : rs.length = N) (hadr : rs = [] ∨ ∃ g off,a = some ⟨g,off,none⟩) (hc : N ≤ cap) (hm : cap ≤ maxLen) (hh : HoldsR w a rs) :
  Calls Tryz.prog 49 #[.slice a N cap] w fun e w' => e = .returned (.bool (risesB rs)) ∧ Below w.heap.size w w' := by
 have HN : Hid (rs.length = N) := hN;have HA : Hid (rs = [] ∨ ∃ g off,a = some ⟨g,off,none⟩) := hadr;have HH : Hid (HoldsR w a rs) := hh;obtain ⟨R,hR⟩ : ∃ R,risesB rs = R := ⟨_,rfl⟩;rw [hR];have HR : Hid (risesB rs = R) := hR;unfold maxLen at hm;clear hN hadr hh hR
 go_enter Tryz.func49,Tryz.ntmps49
 go_wp2_with fail
 go_loopw [3] (fun iv wr => ∃ i : Nat,iv = .int .i64 ((i : Int) + 1) ∧ i ≤ N ∧ Hid (∀ j x y,j < i → rs[j]? = some x → rs[j + 1]? = some y → x.tag ≤ y.tag) ∧ Below w.heap.size w wr) (fun iv _ => N + 1 - (intOf iv).toNat)
 case atStart => exact ⟨0,rfl,by omega,(fun j x y hj => absurd hj (by omega) : ∀ j x y,j < 0 → rs[j]? = some x → rs[j + 1]? = some y → x.tag ≤ y.tag),Below.refl _ _⟩
 case round =>
  obtain ⟨i,rfl,hi,HT,hbel⟩ := hrel
  by_cases hlt : i + 1 < N
  ·have hr : rs[i]? = some (rs[i]'(by rw [HN.out]; omega)) := List.getElem?_eq_getElem _;generalize rs[i]'(by rw [HN.out]; omega) = r at hr;have hs : rs[i + 1]? = some (rs[i + 1]'(by rw [HN.out]; exact hlt)) := List.getElem?_eq_getElem _;generalize rs[i + 1]'(by rw [HN.out]; exact hlt) = s at hs
   rcases HA.out with h0 | ⟨g,off,rfl⟩
   ·exact absurd hlt (by have := HN.out; rw [h0] at this; simp at this; omega)
   obtain ⟨p0, -, -, -⟩ := (HH.out.below hbel).at hr;obtain ⟨q0, -, -, -⟩ := (HH.out.below hbel).at hs;have HK : Hid (rs[i]? = some r) := hr;have HK2 : Hid (rs[i + 1]? = some s) := hs;obtain ⟨x,hx⟩ : ∃ q,r.tag = q := ⟨_,rfl⟩;obtain ⟨y,hy⟩ : ∃ q,s.tag = q := ⟨_,rfl⟩;rw [hx] at p0;rw [hy] at q0;have HX : Hid (r.tag = x) := hx;have HY : Hid (s.tag = y) := hy
   have hlti : (i : Int) + 1 < (N : Int) := by omega
   clear hr hs hx hy
   by_cases hle : y < x
   ·have hd : decide (y < x) = true := by simp [hle]
    obtain rfl : R = false := by rw [← HR.out]; exact rises_break i r s HK.out HK2.out (by rw [HX.out,HY.out]; exact hle)
    clear HT HK HK2 HX HY HR;go_wp2_with fail
    go_quiet (fail)
    have hbn := below_drewN nq hbel;clear p0 q0 hbel;go_wp2_with fail;go_ret;exact ⟨rfl,hbn⟩
   ·have hd : decide (y < x) = false := by simp; omega
    have HT2 : Hid (∀ j u v,j < i + 1 → rs[j]? = some u → rs[j + 1]? = some v → u.tag ≤ v.tag) := fun j u v hj hu hv => by
     by_cases hji : j = i
     ·subst hji;rw [HK.out] at hu;rw [HK2.out] at hv
      obtain rfl : r = u := by simpa using hu
      obtain rfl : s = v := by simpa using hv
      rw [HX.out,HY.out]; omega
     ·exact HT.out j u v (by omega) hu hv
    clear HT HK HK2 HX HY;go_wp2_with fail
    go_quiet (fail)
    have hbn := below_drewN nq hbel;clear p0 q0 hbel;go_wp2_with fail
    go_roundw
    case rel => exact ⟨i + 1,by go_num,by omega,HT2,hbn⟩
    case measure => simp [intOf]; omega
  ·obtain rfl : R = true := by
    rw [← HR.out];refine rises_steps fun j x y hx hy => HT.out j x y ?_ hx hy
    have := (List.getElem?_eq_some_iff.1 hy).1;rw [HN.out] at this
    omega
   have hnl : ¬ (i : Int) + 1 < (N : Int) := by omega
   clear HT HR;go_wp2_with fail;go_ret;exact ⟨rfl,hbel⟩
def OutAt (w : World) (g : Nat) (done : List Fd) (m : Nat) : Prop := ∃ junk : List Value,w.heap[g]? = some (.cells (rawCells done ++ junk).toArray 61 (0,0)) ∧ junk.length = m * 4
theorem OutAt.below {w w1 : World} {g : Nat} {done : List Fd} {m : Nat} (h : OutAt w g done m) (hb : Below w.heap.size w w1) : OutAt w1 g done m := by
 obtain ⟨junk,h1,h2⟩ := h;exact ⟨junk,(hb.block g (Array.getElem?_eq_some_iff.1 h1).1).trans h1,h2⟩
theorem OutAt.lt {w : World} {g : Nat} {done : List Fd} {m : Nat} (h : OutAt w g done m) : g < w.heap.size := by
 obtain ⟨junk,h1,h2⟩ := h;exact (Array.getElem?_eq_some_iff.1 h1).1
theorem OutAt.room {w : World} {g : Nat} {done : List Fd} {m : Nat} (h : OutAt w g done m) (j : Nat) (hj : j < m * 4) : (∃ u,w.cell? ⟨g,done.length * 4 + j,none⟩ = some u) ∧ w.frozen? ⟨g,done.length * 4 + j,none⟩ = false := by
 obtain ⟨junk,h1,h2⟩ := h
 constructor
 ·refine ⟨junk[j]'(by omega),?_⟩;have hl : (rawCells done).length = done.length * 4 := rawCells_len done;simp only [World.cell?,h1]
  simp [List.getElem?_append_right,hl,List.getElem?_eq_getElem (show j < junk.length by omega)]
 ·exact frozen_of_row w g _ _ _ h1
theorem run_copyR (w : World) (ty : TypeId) (g o dLen dCap : Nat) (a : Addr) (sLen sCap : Nat) (cur : Array Value) (t : TypeId) (cs : List Value)
  (hg : w.heap[g]? = some (.cells cur t (0,0))) (hn : cs.length = Nat.min sLen dLen * 4)
  (hsrc : ∀ j v,cs[j]? = some v → w.cell? (a.add j) = some v) (hfit : o + cs.length ≤ cur.size) (h1 : ∀ v ∈ cs,v.oneCell' = true) :
  (Builtin.copy_ #[31,31] ty #[.slice (some ⟨g,o,none⟩) dLen dCap,.slice (some a) sLen sCap]).run Tryz.prog w =
   .ok (goInt (Nat.min sLen dLen)) (w.setRow g (cur.toList.take o ++ cs ++ cur.toList.drop (o + cs.length)).toArray) := by
 obtain ⟨i0,hi,hz0,hz1,hz2⟩ := info_parts infoRaw;have hl := run_loadCells_list (P := Tryz.prog) w a cs hsrc;have hst := run_storeCells_at Tryz.prog g o t cs 0 cur w hg (by simpa using hfit) h1
 simp [Builtin.copy_,run_underlying Tryz.underlying31,Builtin.lenOf,Builtin.firstCells,sizeOf,typeInfo,hi,hz1,← hn,hl,hst]
theorem run_copy0 (w : World) (ty : TypeId) (d a : Option Addr) (dLen dCap sLen sCap : Nat) (hn : Nat.min sLen dLen = 0) :
  (Builtin.copy_ #[31,31] ty #[.slice d dLen dCap,.slice a sLen sCap]).run Tryz.prog w = .ok (goInt 0) w := by
 obtain ⟨i0,hi,hz0,hz1,hz2⟩ := info_parts infoRaw
 have hl : ∀ (x : Addr),(loadCells x 0).run Tryz.prog w = .ok #[] w := fun x => by simpa using run_loadCells_list (P := Tryz.prog) w x [] (by simp)
 cases d <;> cases a <;> simp [Builtin.copy_,run_underlying Tryz.underlying31,Builtin.lenOf,Builtin.firstCells,sizeOf,typeInfo,hi,hz1,hn,storeCells,hl]
theorem wpList_copyR {w : World} {ops : Array Oper} {rest : List Oper} {o : Oper} {a : Act} {Q : Exit → Act → World → Prop} (hgd : o.guard = none) (d s : Operand)
  (ho : o.op = .call { callee := .builtin .copy,args := #[d,s],argTypes := #[31,31] })
  (dp sp : Option Addr) (dLen dCap sLen sCap : Nat) (hd : a.eval d = .slice dp dLen dCap) (hs : a.eval s = .slice sp sLen sCap)
  (g : Nat) (done : List Fd) (m : Nat) (hg : OutAt w g done m) (cs : List Fd) (hn : cs.length = Nat.min sLen dLen) (hm : cs.length ≤ m)
  (hpos : cs ≠ [] → dp = some ⟨g,done.length * 4,none⟩ ∧ ∃ ad,sp = some ad ∧ HoldsR w (some ad) cs)
  (h : ∀ w',Hid (OutAt w' g (done ++ cs) (m - cs.length)) → w.grownBy w' (some g) → wpList Tryz.prog ops Q rest (a.put o.dst (goInt cs.length)) w') :
  wpList Tryz.prog ops Q (o :: rest) a w := by
 refine wpList_plain hgd fun K hK => ?_
 by_cases h0 : cs = []
 ·subst h0;have hrun := run_copy0 w o.type dp sp dLen dCap sLen sCap (by simpa using hn.symm);unfold Oper.wp
  simp [execOp,ho,resolve,invoke,builtin,hd,hs,hrun,Result.andThen]
  exact hK _ _ (h w (show OutAt _ _ _ _ by simpa using hg) ⟨rfl,rfl,rfl,Nat.le_refl _,fun _ _ _ => rfl⟩)
 ·obtain ⟨rfl,ad,rfl,hsrc⟩ := hpos h0;obtain ⟨junk,h1,h2⟩ := hg;have hl : (rawCells done).length = done.length * 4 := rawCells_len done;have hlc : (rawCells cs).length = cs.length * 4 := rawCells_len cs;have hrun := run_copyR w o.type g (done.length * 4) dLen dCap ad sLen sCap _ _ (rawCells cs) h1 (by rw [hlc,hn]) (hsrc ad rfl) (by simp [hl,hlc,h2]; omega) (rawCells_one cs)
  have et : (rawCells done ++ junk).take (done.length * 4) = rawCells done := by rw [← hl]; exact List.take_left
  have ed : (rawCells done ++ junk).drop (done.length * 4 + (rawCells cs).length) = junk.drop (cs.length * 4) := by
   rw [← List.drop_drop,← hl,List.drop_left,hlc]
  simp only [List.toList_toArray,et,ed] at hrun;unfold Oper.wp
  simp [execOp,ho,resolve,invoke,builtin,hd,hs,hrun,Result.andThen]
  rw [← hn];refine hK _ _ (h _ ⟨junk.drop (cs.length * 4),?_,by rw [List.length_drop,h2]; omega⟩ ⟨rfl,rfl,rfl,by simp [World.setRow],fun k _ hk => setRow_other w g k _ (fun e => hk (by rw [e]))⟩);rw [rawCells_app];have := setRow_heap w g _ (rawCells done ++ rawCells cs ++ junk.drop (cs.length * 4)).toArray _ _ h1
  simpa [List.append_assoc] using this
theorem gb_refl (w : World) (r : Option Nat) : w.grownBy w r := ⟨rfl,rfl,rfl,Nat.le_refl _,fun _ _ _ => rfl⟩
theorem gb_trans {w w1 w2 : World} {r : Option Nat} (h1 : w.grownBy w1 r) (h2 : w1.grownBy w2 r) : w.grownBy w2 r :=
 ⟨h2.os.trans h1.os,h2.tape.trans h1.tape,h2.output.trans h1.output,Nat.le_trans h1.size h2.size,fun k hk hr => (h2.block k (Nat.lt_of_lt_of_le hk h1.size) hr).trans (h1.block k hk hr)⟩
theorem gb_drewN {w w1 : World} {r : Option Nat} (n : Nat) (h : w.grownBy w1 r) : w.grownBy (w1.drewN n) r := gb_trans h ⟨rfl,rfl,rfl,Nat.le_refl _,fun _ _ _ => rfl⟩
theorem HoldsR.grown {w w' : World} {a : Option Addr} {rs : List Fd} {g : Nat} (h : HoldsR w a rs) (hg : w.grownBy w' (some g)) (hne : ∀ x,a = some x → x.block ≠ g) : HoldsR w' a rs := by
 intro b hb j u hu;refine hg.cell (h b hb j u hu) ?_;intro e
 have hblk : (b.add j).block = b.block := by unfold Addr.add; split <;> rfl
 rw [hblk] at e;exact hne b hb (by simpa using e)
theorem fourF : ∀ l : List Value,4 ≤ l.length → ∃ a b c d r,l = a :: b :: c :: d :: r
 | a :: b :: c :: d :: r,_ => ⟨a,b,c,d,r,rfl⟩
 | [],h => by simp at h
 | [_],h => by simp at h
 | [_,_],h => by simp at h
 | [_,_,_],h => by simp at h
theorem OutAt.put {w : World} {g : Nat} {done : List Fd} {m : Nat} (h : OutAt w g done (m + 1)) (t k n : Int) (b : ByteArray) (o : Nat) (ho : o = done.length * 4) :
  OutAt ((((w.setCell ⟨g,o,none⟩ (.int .i64 t)).setCell ⟨g,o + 1,none⟩ (.int .i64 k)).setCell ⟨g,o + 2,none⟩ (.int .i64 n)).setCell ⟨g,o + 3,none⟩ (.string b)) g (done ++ [⟨t,k,n,b⟩]) m ∧
  w.grownBy ((((w.setCell ⟨g,o,none⟩ (.int .i64 t)).setCell ⟨g,o + 1,none⟩ (.int .i64 k)).setCell ⟨g,o + 2,none⟩ (.int .i64 n)).setCell ⟨g,o + 3,none⟩ (.string b)) (some g) := by
 obtain ⟨junk,h1,h2⟩ := h;have hl : (rawCells done).length = done.length * 4 := rawCells_len done
 have step : ∀ (W : World) (i : Nat) (v : Value),W.grownBy (W.setCell ⟨g,i,none⟩ v) (some g) := fun W i v =>
  ⟨rfl,rfl,rfl,by simp,fun k _ hk => heap_setCell_other W ⟨g,i,none⟩ k v (fun e => hk (by rw [e]))⟩
 refine ⟨?_,gb_trans (gb_trans (gb_trans (step _ _ _) (step _ _ _)) (step _ _ _)) (step _ _ _)⟩;obtain ⟨j0,j1,j2,j3,rest,rfl⟩ := fourF junk (by omega);refine ⟨rest,?_,by simp at h2; omega⟩;have e1 := heap_setCell_same w g o _ _ (.int .i64 t) h1;have e2 := heap_setCell_same _ g (o + 1) _ _ (.int .i64 k) e1;have e3 := heap_setCell_same _ g (o + 2) _ _ (.int .i64 n) e2;have e4 := heap_setCell_same _ g (o + 3) _ _ (.string b) e3;rw [e4];refine congrArg (fun x => some (Obj.cells x 61 (0,0))) ?_
 apply Array.ext'
 rw [ho,← hl,rawCells_app,rawCells_cons,rawCells_nil];generalize rawCells done = D;simp only [Array.toList_setIfInBounds,List.toList_toArray,Fd.cells,List.append_nil]
 have sb : ∀ (l : List Value) (j : Nat) (v : Value),(D ++ l).set (D.length + j) v = D ++ l.set j v := fun l j v => by rw [List.set_append,if_neg (by omega),Nat.add_sub_cancel_left]
 have s0 : ∀ (l : List Value) (v : Value),(D ++ l).set D.length v = D ++ l.set 0 v := fun l v => sb l 0 v
 rw [s0,sb,sb,sb]
 simp
theorem upto_any (a : Option Addr) (rs : List Fd) (t : Int) (N cap : Nat) (w : World) (hN : rs.length = N) (hadr : rs = [] ∨ ∃ g off,a = some ⟨g,off,none⟩) (hc : N ≤ cap) (hm : cap ≤ maxLen) (hh : HoldsR w a rs) :
  Calls Tryz.prog 96 #[.slice a N cap,.int .i64 t] w fun e w' => e = .returned (.int .i64 (upN rs t : Int)) ∧ w' = w := by
 have HN : Hid (rs.length = N) := hN;have HA : Hid (rs = [] ∨ ∃ g off,a = some ⟨g,off,none⟩) := hadr;have HH : Hid (HoldsR w a rs) := hh;obtain ⟨R,hR⟩ : ∃ R,upN rs t = R := ⟨_,rfl⟩;rw [hR];have HR : Hid (upN rs t = R) := hR;unfold maxLen at hm;clear hN hadr hh hR
 go_enter Tryz.func96,Tryz.ntmps96
 go_wp2_with fail
 go_loop [5] (fun iv => ∃ i : Nat,iv = .int .i64 (i : Int) ∧ i ≤ N ∧ Hid (∀ j x,j < i → rs[j]? = some x → x.tag ≤ t)) (fun iv => N - (intOf iv).toNat)
 case atStart => exact ⟨0,rfl,by omega,(fun j x hj => absurd hj (by omega) : ∀ j x,j < 0 → rs[j]? = some x → x.tag ≤ t)⟩
 case round =>
  obtain ⟨i,rfl,hi,HT⟩ := hrel
  by_cases hlt : i < N
  ·have hr : rs[i]? = some (rs[i]'(by rw [HN.out]; exact hlt)) := List.getElem?_eq_getElem _;generalize rs[i]'(by rw [HN.out]; exact hlt) = r at hr
   rcases HA.out with h0 | ⟨g,off,rfl⟩
   ·exact absurd hlt (by have := HN.out; rw [h0] at this; simp at this; omega)
   obtain ⟨p0, -, -, -⟩ := HH.out.at hr;have HK : Hid (rs[i]? = some r) := hr;obtain ⟨q,hq⟩ : ∃ q,r.tag = q := ⟨_,rfl⟩;rw [hq] at p0;have HQ : Hid (r.tag = q) := hq;clear hr hq
   by_cases hle : q ≤ t
   ·have HT2 : Hid (∀ j x,j < i + 1 → rs[j]? = some x → x.tag ≤ t) := fun j x hj hx => by
     by_cases hji : j = i
     ·subst hji;rw [HK.out] at hx
      obtain rfl : r = x := by simpa using hx
      rw [HQ.out]; exact hle
     ·exact HT.out j x (by omega) hx
    clear HT HK HQ;go_wp2_with fail
    go_round
    case rel => exact ⟨i + 1,by go_num,by omega,HT2⟩
    case measure => simp [intOf]; omega
   ·obtain rfl : R = i := by rw [← HR.out]; exact upN_step HT.out (.inr ⟨r,HK.out,by rw [HQ.out]; exact hle⟩)
    clear HT HK HQ HR;go_wp2_with fail;go_ret;exact ⟨rfl,rfl⟩
  ·obtain rfl : i = N := by omega
   obtain rfl : R = i := by rw [← HR.out]; exact upN_step HT.out (.inl HN.out.symm)
   clear HT HR;go_wp2_with fail;go_ret;exact ⟨rfl,rfl⟩
def insA (rs : List Fd) : List Fd := rs.foldl (fun m x => mergeF m [x]) []
theorem insA_snoc (rs : List Fd) (x : Fd) : insA (rs ++ [x]) = mergeF (insA rs) [x] := by simp [insA]
theorem ins_all : ∀ (rs m : List Fd),Rises m → Rises (rs.foldl (fun m x => mergeF m [x]) m) ∧ (rs.foldl (fun m x => mergeF m [x]) m).length = m.length + rs.length ∧ ∀ t : Int,(rs.foldl (fun m x => mergeF m [x]) m).filter (fun x => x.tag == t) = m.filter (fun x => x.tag == t) ++ rs.filter (fun x => x.tag == t)
 | [],m,h => ⟨h,by simp,fun t => by simp⟩
 | x :: rs,m,h => by
  obtain ⟨h1,h2,h3⟩ := ins_all rs (mergeF m [x]) (mergeF_rises _ _ h (by simp [Rises]));refine ⟨h1,?_,fun t => ?_⟩
  ·rw [List.foldl_cons,h2,mergeF_len]; simp; omega
  ·rw [List.foldl_cons,h3 t,mergeF_filter t _ _ h,List.append_assoc,← List.filter_append]
   rfl
theorem insA_all (rs : List Fd) : Rises (insA rs) ∧ (insA rs).length = rs.length ∧ ∀ t : Int,(insA rs).filter (fun x => x.tag == t) = rs.filter (fun x => x.tag == t) := by
 obtain ⟨h1,h2,h3⟩ := ins_all rs [] (by simp [Rises]);unfold insA;exact ⟨h1,by simpa using h2,fun t => by simpa using h3 t⟩
theorem insA_sortF (rs : List Fd) : insA rs = sortF rs := by
 have h1 := insA_all rs;have h2 := sortF_all _ rs (Nat.le_refl _)
 exact rises_uniq _ _ h1.1 h2.1 fun t => by rw [h1.2.2 t,h2.2.2.2 t]
theorem insA_at {m p q : List Fd} {x : Fd} (hm : m = p ++ q) (hr : Rises m) (hq : ∀ y ∈ q,x.tag < y.tag) (hp : ∀ y,p.getLast? = some y → y.tag ≤ x.tag) : mergeF m [x] = p ++ x :: q := by
 have hall : ∀ y ∈ p,y.tag ≤ x.tag := by
  intro y hy
  rcases List.eq_nil_or_concat p with rfl | ⟨p',z,rfl⟩
  ·simp at hy
  ·have hz := hp z (by simp);rw [List.concat_eq_append,List.mem_append] at hy
   rcases hy with hy | hy
   ·have hr' : Rises (p' ++ [z]) := by
     rw [hm,List.concat_eq_append] at hr;exact hr.sublist (List.sublist_append_left _ _)
    have := (List.pairwise_append.1 hr').2.2 y hy z (by simp)
    omega
   ·obtain rfl : y = z := by simpa using hy
    exact hz
 have hu : upN m x.tag = p.length := by
  refine upN_step (fun j y hj hy => hall y ?_) ?_
  ·rw [hm,List.getElem?_append_left hj] at hy;exact List.mem_of_getElem? hy
  ·cases q with
   | nil => left; rw [hm]; simp
   | cons z q => right; exact ⟨z,by rw [hm]; simp,by have := hq z (by simp); omega⟩
 rw [mergeF,hu,hm]
 simp [mergeF]
theorem swap_own {w : World} {B g n cap : Nat} {p q : List Fd} {y x : Fd} (h : w.ownsRow B 61 4 (.slice (some ⟨g,0,none⟩) n cap) n (rawCells (p ++ y :: x :: q))) (o : Nat) (ho : o = p.length * 4) (o2 : Nat) (ho2 : o2 = o + 4) :
  ((((((((w.setCell ⟨g,o,none⟩ (.int .i64 x.tag)).setCell ⟨g,o + 1,none⟩ (.int .i64 x.wire)).setCell ⟨g,o + 2,none⟩ (.int .i64 x.n)).setCell ⟨g,o + 3,none⟩ (.string x.b)).setCell ⟨g,o2,none⟩ (.int .i64 y.tag)).setCell ⟨g,o2 + 1,none⟩ (.int .i64 y.wire)).setCell ⟨g,o2 + 2,none⟩ (.int .i64 y.n)).setCell ⟨g,o2 + 3,none⟩ (.string y.b)).ownsRow B 61 4 (.slice (some ⟨g,0,none⟩) n cap) n (rawCells (p ++ x :: y :: q)) := by
 have s1 := (h.stored o (.int .i64 x.tag)).1;have s2 := (s1.stored (o + 1) (.int .i64 x.wire)).1;have s3 := (s2.stored (o + 2) (.int .i64 x.n)).1;have s4 := (s3.stored (o + 3) (.string x.b)).1;have s5 := (s4.stored o2 (.int .i64 y.tag)).1;have s6 := (s5.stored (o2 + 1) (.int .i64 y.wire)).1;have s7 := (s6.stored (o2 + 2) (.int .i64 y.n)).1;have s8 := (s7.stored (o2 + 3) (.string y.b)).1
 have e : rawCells (p ++ x :: y :: q) = ((((((((rawCells (p ++ y :: x :: q)).set o (.int .i64 x.tag)).set (o + 1) (.int .i64 x.wire)).set (o + 2) (.int .i64 x.n)).set (o + 3) (.string x.b)).set o2 (.int .i64 y.tag)).set (o2 + 1) (.int .i64 y.wire)).set (o2 + 2) (.int .i64 y.n)).set (o2 + 3) (.string y.b) := by
  have hl : (rawCells p).length = p.length * 4 := rawCells_len p;rw [ho2,ho,← hl,rawCells_app,rawCells_app,rawCells_cons,rawCells_cons,rawCells_cons,rawCells_cons];generalize rawCells p = D;generalize rawCells q = E
  have sb : ∀ (l : List Value) (j : Nat) (v : Value),(D ++ l).set (D.length + j) v = D ++ l.set j v := fun l j v => by rw [List.set_append,if_neg (by omega),Nat.add_sub_cancel_left]
  have s0 : ∀ (l : List Value) (v : Value),(D ++ l).set D.length v = D ++ l.set 0 v := fun l v => sb l 0 v
  simp only [Nat.add_assoc,s0,sb,Fd.cells]
  simp
 rw [e];exact s8
theorem below_set {B g : Nat} {w W : World} (h : Below B w W) (hg : B ≤ g) (o : Nat) (v : Value) : Below B w (W.setCell ⟨g,o,none⟩ v) :=
 h.trans ⟨rfl,rfl,rfl,by simp,fun k hk => heap_setCell_other W ⟨g,o,none⟩ k v (by show k ≠ g; omega)⟩
theorem rsorted_any (a : Option Addr) (rs : List Fd) (N cap : Nat) (w : World) (hN : rs.length = N) (hl : N ≤ 1000000) (hadr : rs = [] ∨ ∃ g off,a = some ⟨g,off,none⟩) (hc : N ≤ cap) (hm : cap ≤ maxLen) (hh : HoldsR w a rs) :
  Calls Tryz.prog 66 #[.slice a N cap] w fun e w' => ∃ v,e = .returned v ∧ w'.ownsRow w.heap.size 61 4 v N (rawCells (sortF rs)) ∧ Below w.heap.size w w' := by
 obtain ⟨i0,hi0,hz0,hz1,hz2⟩ := info_parts infoRaw;have HN : Hid (rs.length = N) := hN;have HADR : Hid (rs = [] ∨ ∃ g off,a = some ⟨g,off,none⟩) := hadr;have HH : Hid (HoldsR w a rs) := hh;unfold maxLen at hm;clear hN hadr hh
 go_enter Tryz.func66,Tryz.ntmps66
 go_wp2_with fail
 go_loopw [3,4] (fun mv iv wr => ∃ i : Nat,iv = .int .i64 (i : Int) ∧ i ≤ N ∧ Hid (wr.ownsRow w.heap.size 61 4 mv i (rawCells (insA (rs.take i)))) ∧ Below w.heap.size w wr) (fun _ iv _ => N - (intOf iv).toNat)
 case atStart => exact ⟨0,rfl,by omega,by rw [List.take_zero]; exact World.ownsRow_nil _ _ _ _,Below.refl _ _⟩
 case round =>
  obtain ⟨i,rfl,hi,HO,hbel⟩ := hrel;have hws := hbel.size
  by_cases hlt : i < N
  ·have hr : rs[i]? = some (rs[i]'(by rw [HN.out]; exact hlt)) := List.getElem?_eq_getElem _;generalize rs[i]'(by rw [HN.out]; exact hlt) = r at hr
   rcases HADR.out with h0 | ⟨g,off,rfl⟩
   ·exact absurd hlt (by have := HN.out; rw [h0] at this; simp at this; omega)
   obtain ⟨p0,p1,p2,p3⟩ := (HH.out.below hbel).at hr
   have HNX : Hid (insA (rs.take (i + 1)) = mergeF (insA (rs.take i)) [r]) := by
    show _ = _
    rw [List.take_add_one,hr];exact insA_snoc _ _
   have hML := insA_all (rs.take i);obtain ⟨M,hM⟩ : ∃ M,insA (rs.take i) = M := ⟨_,rfl⟩;rw [hM] at HNX HO hML;have HRI : Hid (Rises M) := hML.1
   have HMLn : Hid (M.length = i) := by show _ = _; rw [hML.2.1,List.length_take,HN.out]; omega
   clear hr hM hML;obtain ⟨aM,cM,hv, -⟩ := own_openR HO.out;have e0 := HMLn.out;rw [e0] at hv;subst hv;clear e0;obtain ⟨t,kk,nn,bb⟩ := r;simp only at p0 p1 p2 p3
   go_wp2_with (first
    | (at_builtin; refine wpList_append_own _ rfl _ _ 31 rfl w.heap.size 61 i0 _ 4 40 Tryz.underlying31 hi0 hz0 hz1 hz2 rfl (by decide) _ _ _ rfl (HO.out.alloc _) ⟨_,0,none⟩ 1 1 (Fd.cells ⟨t,kk,nn,bb⟩) rfl rfl ?c1 ?c2 ?c3 ?c4 ?c5 ?_)
    | fail)
   case c1 =>
    intro j u hj
    match j,hj with
    | 0,hj | 1,hj | 2,hj | 3,hj => simp [Fd.cells] at hj; subst hj; simp [Addr.add]
   case c2 => intro u hu; simp [Fd.cells] at hu; rcases hu with rfl | rfl | rfl | rfl <;> rfl
   case c3 => unfold maxLen; omega
   case c4 => omega
   case c5 => simp; omega
   intro v w8 ho8 hg8 _;have hb8 : Below w.heap.size w w8 := (hbel.alloc hws _).grown hg8 (by simp; omega) (fun k hk => (HO.out.lt k hk).1)
   have ho8' : w8.ownsRow w.heap.size 61 4 v (i + 1) (rawCells (M ++ [⟨t,kk,nn,bb⟩])) := by
    rw [(rawCells_snoc M _).2];exact ho8
   obtain ⟨a9,c9,hv9, -,h91 | ⟨g9,rfl, -, -⟩,h92,h93, -⟩ := own_openR ho8'
   ·exact absurd h91.2.1 (by simp)
   rw [show (M ++ [(⟨t,kk,nn,bb⟩ : Fd)]).length = i + 1 by rw [List.length_append,HMLn.out]; rfl] at hv9 h92;subst hv9;unfold maxLen at h93;have HO8 : Hid (w8.ownsRow w.heap.size 61 4 (.slice (some ⟨g9,0,none⟩) (i + 1) c9) (i + 1) (rawCells (M ++ [⟨t,kk,nn,bb⟩]))) := ho8';clear HO ho8 ho8' hg8 hbel p0 p1 p2 p3;go_wp2_with fail
   go_loopw [5] (fun kv wi => ∃ (p q : List Fd) (k : Nat),kv = .int .i64 (k : Int) ∧ k ≤ i ∧ Hid (p.length = k) ∧ Hid (M = p ++ q) ∧ Hid (∀ y ∈ q,t < y.tag) ∧ Hid (wi.ownsRow w.heap.size 61 4 (.slice (some ⟨g9,0,none⟩) (i + 1) c9) (i + 1) (rawCells (p ++ ⟨t,kk,nn,bb⟩ :: q))) ∧ Below w.heap.size w wi) (fun kv _ => (intOf kv).toNat)
   case atStart => exact ⟨M,[],i,rfl,Nat.le_refl _,HMLn,(by simp : M = M ++ []),(by simp : ∀ y ∈ ([] : List Fd),t < y.tag),HO8,hb8⟩
   case round =>
    obtain ⟨p,q,k,rfl,hki,HPL,HMP,HQ,HOW,hbi⟩ := hrel
    cases k with
    | zero =>
     obtain rfl : p = [] := List.eq_nil_of_length_eq_zero HPL.out
     have HEND : Hid (insA (rs.take (i + 1)) = [] ++ ⟨t,kk,nn,bb⟩ :: q) := by show _ = _; rw [HNX.out]; exact insA_at HMP.out HRI.out HQ.out (by simp)
     clear HPL HMP HQ HNX HRI HMLn HO8;go_wp2_with fail
     go_quiet (fail)
     have hbn := below_drewN nq hbi;go_wp2_with fail
     go_roundw
     case rel => exact ⟨i + 1,by go_num,by omega,by rw [HEND.out]; exact HOW.out,hbn⟩
     case measure => simp [intOf]; omega
    | succ j =>
     have hwj : IntKind.i64.wrap (j : Int) = (j : Int) := by rw [IntKind.wrap_i64]; omega
     obtain ⟨p',y,rfl⟩ : ∃ p' y,p = p' ++ [y] := by
      rcases List.eq_nil_or_concat p with h | ⟨p',y,h⟩
      ·have := HPL.out; rw [h] at this; simp at this
      ·exact ⟨p',y,by rw [h,List.concat_eq_append]⟩
     have HPL' : Hid (p'.length = j) := by show _ = _; have := HPL.out; simpa using this
     have hre : p' ++ [y] ++ ⟨t,kk,nn,bb⟩ :: q = p' ++ y :: ⟨t,kk,nn,bb⟩ :: q := by simp
     rw [hre] at HOW
     have hH : HoldsR wr (some ⟨g9,0,none⟩) (p' ++ y :: ⟨t,kk,nn,bb⟩ :: q) := by
      intro b hb jj u hu
      obtain rfl : ⟨g9,0,none⟩ = b := by simpa using hb
      exact HOW.out.cells (g := g9) rfl jj u hu
     obtain ⟨c0,c1,c2,c3⟩ := hH.at (i := j) (r := y) (by rw [List.getElem?_append_right (by rw [HPL'.out]; exact Nat.le_refl _),HPL'.out]; simp);obtain ⟨d0,d1,d2,d3⟩ := hH.at (i := j + 1) (r := ⟨t,kk,nn,bb⟩) (by rw [List.getElem?_append_right (by rw [HPL'.out]; omega),HPL'.out]; simp);simp only [Nat.zero_add] at c0 c1 c2 c3 d0 d1 d2 d3;have fz : ∀ o,wr.frozen? ⟨g9,o,none⟩ = false := fun o => HOW.out.frozenAt o
     obtain ⟨yt,yk,yn,yb⟩ := y;simp only at c0 c1 c2 c3;clear hH hre HPL HO8
     by_cases hyt : t < yt
     ·have hd : decide (t < yt) = true := by simp [hyt]
      have HQ2 : Hid (∀ z ∈ (⟨yt,yk,yn,yb⟩ : Fd) :: q,t < z.tag) := by
       intro z hz
       rcases List.mem_cons.1 hz with rfl | hz
       ·exact hyt
       ·exact HQ.out z hz
      have HMP2 : Hid (M = p' ++ ⟨yt,yk,yn,yb⟩ :: q) := by show _ = _; rw [HMP.out]; simp
      clear HQ HMP;go_wp2_with fail
      go_quiet (fail)
      go_wp2_with fail
      go_region
      have hg9 : w.heap.size ≤ g9 := (HOW.out.lt g9 rfl).1;have hsw := swap_own (w := wr.drewN (nq + 1)) (p := p') (q := q) (y := ⟨yt,yk,yn,yb⟩) (x := ⟨t,kk,nn,bb⟩) HOW.out (j * 4) (by rw [HPL'.out]) ((j + 1) * 4) (by omega);have hbs := (below_set (below_set (below_set (below_set (below_set (below_set (below_set (below_set (below_drewN (nq + 1) hbi) hg9 (j * 4) (.int .i64 t)) hg9 (j * 4 + 1) (.int .i64 kk)) hg9 (j * 4 + 2) (.int .i64 nn)) hg9 (j * 4 + 3) (.string bb)) hg9 ((j + 1) * 4) (.int .i64 yt)) hg9 ((j + 1) * 4 + 1) (.int .i64 yk)) hg9 ((j + 1) * 4 + 2) (.int .i64 yn)) hg9 ((j + 1) * 4 + 3) (.string yb));simp only at hsw;generalize ((((((((wr.drewN (nq + 1)).setCell ⟨g9,j * 4,none⟩ (.int .i64 t)).setCell ⟨g9,j * 4 + 1,none⟩ (.int .i64 kk)).setCell ⟨g9,j * 4 + 2,none⟩ (.int .i64 nn)).setCell ⟨g9,j * 4 + 3,none⟩ (.string bb)).setCell ⟨g9,(j + 1) * 4,none⟩ (.int .i64 yt)).setCell ⟨g9,(j + 1) * 4 + 1,none⟩ (.int .i64 yk)).setCell ⟨g9,(j + 1) * 4 + 2,none⟩ (.int .i64 yn)).setCell ⟨g9,(j + 1) * 4 + 3,none⟩ (.string yb) = w9 at *;have HSW : Hid (w9.ownsRow w.heap.size 61 4 (.slice (some ⟨g9,0,none⟩) (i + 1) c9) (i + 1) (rawCells (p' ++ ⟨t,kk,nn,bb⟩ :: (⟨yt,yk,yn,yb⟩ : Fd) :: q))) := hsw;clear c0 c1 c2 c3 d0 d1 d2 d3 fz HOW hsw;go_wp2_with fail
      go_roundw
      case rel => exact ⟨p',⟨yt,yk,yn,yb⟩ :: q,j,by first | rfl | go_num,by omega,HPL',HMP2,HQ2,HSW,hbs⟩
      case measure => simp [intOf]
     ·have hd : decide (t < yt) = false := by simp; omega
      have HEND : Hid (insA (rs.take (i + 1)) = (p' ++ [⟨yt,yk,yn,yb⟩]) ++ ⟨t,kk,nn,bb⟩ :: q) := by
       show _ = _
       rw [HNX.out];exact insA_at HMP.out HRI.out HQ.out (by intro z hz; simp at hz; subst hz; simp; omega)
      have HOW2 : Hid (wr.ownsRow w.heap.size 61 4 (.slice (some ⟨g9,0,none⟩) (i + 1) c9) (i + 1) (rawCells ((p' ++ [⟨yt,yk,yn,yb⟩]) ++ ⟨t,kk,nn,bb⟩ :: q))) := by
       show World.ownsRow _ _ _ _ _ _ _
       have := HOW.out
       simpa using this
      clear HQ HMP HNX HRI HMLn HOW;go_wp2_with fail
      go_quiet (fail)
      have hbn := below_drewN nq hbi;clear c0 c1 c2 c3 d0 d1 d2 d3 fz;go_wp2_with fail
      go_roundw
      case rel => exact ⟨i + 1,by go_num,by omega,by rw [HEND.out]; exact HOW2.out,hbn⟩
      case measure => simp [intOf]; omega
  ·obtain rfl : N = i := by omega
   have h1 := HO.out;rw [List.take_of_length_le (by rw [HN.out]; exact Nat.le_refl _),insA_sortF] at h1;have HF := (show Hid _ from h1);clear h1 HO;go_wp2_with fail;go_ret;exact ⟨_,rfl,HF.out,hbel⟩
theorem own_adr {B : Nat} {w : World} {a : Option Addr} {cap : Nat} {ns : List Nat} (h : (a = none ∧ ns = [] ∧ cap = 0) ∨ ∃ g,a = some ⟨g,0,none⟩ ∧ B ≤ g ∧ g < w.heap.size) : ns = [] ∨ ∃ g off,a = some ⟨g,off,none⟩ := by
 rcases h with h | ⟨g,h,_⟩
 ·exact .inl h.2.1
 ·exact .inr ⟨g,0,h⟩
theorem own_nil {B : Nat} {w : World} {a : Option Addr} {cap : Nat} {ns : List Nat} (h : (a = none ∧ ns = [] ∧ cap = 0) ∨ ∃ g,a = some ⟨g,0,none⟩ ∧ B ≤ g ∧ g < w.heap.size) : a = none → ns = [] := by
 rcases h with h | ⟨g,h,_⟩
 ·exact fun _ => h.2.1
 ·exact fun e => by rw [h] at e; cases e
theorem own_adrR {B : Nat} {w : World} {a : Option Addr} {cap : Nat} {rs : List Fd} (h : (a = none ∧ rs = [] ∧ cap = 0) ∨ ∃ g,a = some ⟨g,0,none⟩ ∧ B ≤ g ∧ g < w.heap.size) : rs = [] ∨ ∃ g off,a = some ⟨g,off,none⟩ := by
 rcases h with h | ⟨g,h,_⟩
 ·exact .inl h.2.1
 ·exact .inr ⟨g,0,h⟩
theorem conv_own {B : Nat} {w : World} {r : Value} {n : Nat} {ns : List Nat} (ho : w.ownsRow B 5 1 r n (byteCells ns)) : (convert 27 9 r).run Tryz.prog w = .ok (.string (strN ns)) w := by
 obtain ⟨a,cap,rfl, -,h1,h2,h3,h4⟩ := own_open ho;exact conv_holds w a ns cap (own_nil h1) h4
end Go.Proofs.YtiajaocckkghgaaGreat
