/- Part 2 of what the proof stands on. -/
import Derived.Test.YtiajaocckkghgaaGreatPkEAA
import Derived.Lib.AppendStr
import Derived.Laws.OwnMore
import Derived.BigQuiet
import Derived.Maps.OwnSet
import Derived.DeepKeys4
import Derived.Shelf.SlIterI.Nil
import Derived.Shelf.SortM.Plain
import Derived.Shelf.SortM.SortNone
import Derived.Ground.GgzProg
import Derived.Ground.SlgmProg
import Derived.Lib.SlKeysI
namespace Go.Proofs.YtiajaocckkghgaaGreat
set_option maxHeartbeats 8000000
set_option linter.unusedVariables false
set_option linter.unusedSimpArgs false
set_option maxRecDepth 20000
section
open Go.ChangeShapes Go.WideShapes Go.ChangeAt Go.RowKit
def getV (r : Nat × Nat × Nat) : Value := .tuple #[.int .u64 (r.1 : Int),.int .i64 (r.2.1 : Int),.int .i64 (r.2.2 : Int)]
theorem getR_out {ns : List Nat} {at' : Int} (h : at' < 0 ∨ (ns.length : Int) < at') : getR ns at' = (0,0,1) := by rw [getR,if_pos h]
theorem getR_in {ns : List Nat} {p : Nat} (h : p ≤ ns.length) : getR ns (p : Int) = getF (ns.drop p) 0 0 p := by
 rw [getR,if_neg (by omega),Int.toNat_natCast]
theorem and_not (c : Nat) (h : c < 256) : bits .andNot .u8 (c : Int) 128 = ((c % 128 : Nat) : Int) := by
 rw [show (128 : Int) = ((128 : Nat) : Int) from rfl,u8_andNot_nat _ _ h (by decide),show 255 - 128 = 127 from rfl,nat_mask7]
theorem or_add (v d k : Nat) (hv : v < 128 ^ k) (hd : d < 128) (hk : k ≤ 8 ∨ (k = 9 ∧ d ≤ 1)) : d * 128 ^ k < 18446744073709551616 ∧ v < 18446744073709551616 ∧ v + d * 128 ^ k < 128 ^ (k + 1) ∧ bits .or .u64 (v : Int) ((d * 128 ^ k : Nat) : Int) = ((v + d * 128 ^ k : Nat) : Int) := by
 have h9 : (128 : Nat) ^ 9 = 9223372036854775808 := by decide
 have hp : 128 ^ k ≤ 128 ^ 9 := Nat.pow_le_pow_right (by decide) (by omega)
 have h1 : d * 128 ^ k < 18446744073709551616 := by
  rcases hk with h | ⟨rfl,h⟩
  ·have hp8 : 128 ^ k ≤ 128 ^ 8 := Nat.pow_le_pow_right (by decide) (by omega);have := Nat.mul_le_mul (show d ≤ 127 by omega) hp8
   have h8 : (127 : Nat) * 128 ^ 8 = 9151314442816847872 := by decide
   omega
  ·have := Nat.mul_le_mul_right (128 ^ 9) h
   omega
 have h2 : v < 18446744073709551616 := by omega
 refine ⟨h1,h2,?_,?_⟩
 ·rw [Nat.pow_succ];have := Nat.mul_le_mul_right (128 ^ k) (show d + 1 ≤ 128 by omega);rw [Nat.add_mul] at this
  omega
 ·rw [u64_or_nat _ _ h2 h1]
  have e : 128 ^ k = 2 ^ (7 * k) := by rw [Nat.pow_mul]
  have := nat_join (7 * k) (d * 128 ^ k) v (by rw [e]; exact Nat.mul_mod_left _ _) (by rw [← e]; exact hv);rw [Nat.or_comm,this]
  congr 1
  omega
theorem or_walk (v d k : Nat) (hv : v < 128 ^ k) (hd : d < 128) (hk : k ≤ 8) : bits .or .u64 (v : Int) (IntKind.u64.wrap ((d : Int) * 2 ^ (7 * k))) = ((v + d * 128 ^ k : Nat) : Int) := by
 obtain ⟨h1,h2,_,h4⟩ := or_add v d k hv hd (.inl hk)
 have e : (d : Int) * 2 ^ (7 * k) = ((d * 128 ^ k : Nat) : Int) := by
  rw [show (128 : Nat) ^ k = 2 ^ (7 * k) by rw [Nat.pow_mul]]
  push_cast
  rfl
 rw [e,IntKind.wrap_u64,Int.emod_eq_of_lt (by omega) (by omega),h4]
theorem or_walk9 (v d : Nat) (hv : v < 128 ^ 9) (hd : d ≤ 1) : bits .or .u64 (v : Int) ((d : Int) * 9223372036854775808) = ((v + d * 128 ^ 9 : Nat) : Int) := by
 obtain ⟨h1,h2,_,h4⟩ := or_add v d 9 hv (by omega) (.inr ⟨rfl,hd⟩);rw [← h4]
 congr 1
theorem ret_get {x y e : Int} {r : Nat × Nat × Nat} {a b c : Nat} (hr : r = (a,b,c)) (h1 : x = a) (h2 : y = b) (h3 : e = c) : Ending.returned (.tuple #[.int .u64 x,.int .i64 y,.int .i64 e]) = .returned (getV r) := by
 subst hr h1 h2 h3; rfl
theorem get_out (a : Option Addr) (len cap : Nat) (at' : Int) (w : World) (h : at' < 0 ∨ (len : Int) < at') :
  Calls Tryz.prog 144 #[.slice a len cap,.int .i64 at'] w fun e w' => e = .returned (.tuple #[.int .u64 0,.int .i64 0,.int .i64 1]) ∧ w' = w := by
 rcases h with h | h
 ·go_enter Tryz.func144,Tryz.ntmps144
  go_wp2_with fail
  go_ret3
  exact ⟨rfl,rfl⟩
 ·by_cases h0 : at' < 0
  all_goals
   go_enter Tryz.func144,Tryz.ntmps144
   go_wp2_with fail
   go_ret3
   exact ⟨rfl,rfl⟩
theorem get_in (g off : Nat) (ns : List Nat) (cap p : Nat) (w : World) (hc : ns.length ≤ cap) (hm : cap ≤ maxLen) (hp : p ≤ ns.length) (hpc : p < cap) (hl : ns.length ≤ 140737488355328)
  (hh : ∀ j,j < ns.length → w.cell? ⟨g,off + j,none⟩ = some (.int .u8 ((ns.getD j 0 : Nat) : Int))) (hb : ∀ n ∈ ns,n < 256) :
  Calls Tryz.prog 144 #[.slice (some ⟨g,off,none⟩) ns.length cap,.int .i64 (p : Int)] w fun e w' => e = .returned (getV (getF (ns.drop p) 0 0 p)) ∧ w' = w := by
 have HH : Hid (∀ j,j < ns.length → w.cell? ⟨g,off + j,none⟩ = some (.int .u8 ((ns.getD j 0 : Nat) : Int))) := hh;have HB : Hid (∀ n ∈ ns,n < 256) := hb;unfold maxLen at hm
 have hd0 : decide ((p : Int) < 0) = false := by simp
 have hpc2 : ¬ p = cap := by omega
 clear hh hb
 go_enter Tryz.func144,Tryz.ntmps144
 go_wp2_with fail
 go_loop [7,22] (fun vv iv => ∃ k v : Nat,iv = .int .i64 (k : Int) ∧ vv = .int .u64 (v : Int) ∧ k ≤ 9 ∧ p + k ≤ ns.length ∧ v < 128 ^ k ∧ Hid (getF (ns.drop p) 0 0 p = getF (ns.drop (p + k)) k v p))
  (fun _ iv => ns.length - p - (intOf iv).toNat)
 case atStart => exact ⟨0,0,rfl,rfl,by omega,by omega,by decide,rfl⟩
 case round =>
  obtain ⟨k,v,rfl,rfl,hk,hpk,hv,HG⟩ := hrel
  by_cases hlt : p + k < ns.length
  ·have hcell := HH.out (p + k) hlt;have hc256 : ns.getD (p + k) 0 < 256 := HB.out _ (by rw [List.getD_eq_getElem?_getD,List.getElem?_eq_getElem hlt,Option.getD_some]; exact List.getElem_mem hlt)
   have HD : Hid (ns.drop (p + k) = ns.getD (p + k) 0 :: ns.drop (p + k + 1)) := by show _ = _; rw [List.drop_eq_getElem_cons hlt,List.getD_eq_getElem?_getD,List.getElem?_eq_getElem hlt,Option.getD_some]
   have HG' : Hid (getF (ns.drop p) 0 0 p = getF (ns.getD (p + k) 0 :: ns.drop (p + k + 1)) k v p) := by show _ = _; rw [HG.out,HD.out]
   clear HD HG;generalize ns.getD (p + k) 0 = c at *;have han := and_not c hc256
   have hdv : c % 128 < 128 := by omega
   rw [← Nat.add_assoc] at hcell
   by_cases h9 : k = 9
   ·subst h9
    by_cases hc1 : 1 < c
    ·have HX : Hid (getF (ns.drop p) 0 0 p = (0,0,3)) := by show _ = _; rw [HG'.out]; exact getF_ten _ _ _ rfl hc1
     clear HG' han;go_wp2_with fail
     go_ret3
     exact ⟨ret_get HX.out rfl rfl rfl,rfl⟩
    ·obtain ⟨d,hd⟩ : ∃ d,c % 128 = d := ⟨_,rfl⟩;have hor := or_walk9 v d hv (by omega)
     have hd1 : d ≤ 1 := by omega
     by_cases hc0 : c = 0
     ·have HX : Hid (getF (ns.drop p) 0 0 p = (0,0,3)) := by show _ = _; rw [HG'.out]; exact getF_zero _ _ _ (by omega) hc0 (by omega)
      clear HG';rw [hd] at han;clear hd;go_wp2_with fail
      go_ret3
      exact ⟨ret_get HX.out rfl rfl rfl,rfl⟩
     ·have HX : Hid (getF (ns.drop p) 0 0 p = (v + d * 128 ^ 9,p + 9 + 1,0)) := by show _ = _; rw [HG'.out,← hd,Nat.mod_eq_of_lt (by omega)]; exact getF_end _ _ _ (by omega) (by omega) (by omega)
      clear HG';rw [hd] at han;clear hd;generalize v + d * 128 ^ 9 = s at *;go_wp2_with fail
      go_ret3
      exact ⟨ret_get HX.out rfl (by omega) rfl,rfl⟩
   ·have hk8 : k ≤ 8 := by omega
    obtain ⟨d,hd⟩ : ∃ d,c % 128 = d := ⟨_,rfl⟩
    have hd128 : d < 128 := by omega
    have hor := or_walk v d k hv (by omega) hk8;have hs := (or_add v d k hv (by omega) (.inl hk8)).2.2.1
    have h9i : ((k : Int) == 9) = false := by simp; omega
    by_cases hc128 : 128 ≤ c
    ·have HX : Hid (getF (ns.drop p) 0 0 p = getF (ns.drop (p + (k + 1))) (k + 1) (v + d * 128 ^ k) p) := by show _ = _; rw [HG'.out,← hd,← Nat.add_assoc]; exact getF_on _ _ _ (by omega) hc128
     clear HG';rw [hd] at han;clear hd;generalize v + d * 128 ^ k = s at *;have HS : Hid (s < 128 ^ (k + 1)) := hs;clear hs;go_wp2_with fail
     go_round
     case rel => exact ⟨k + 1,s,by go_num,rfl,by omega,by omega,HS.out,HX⟩
     case measure => simp [intOf]; omega
    ·by_cases hc0 : c = 0
     ·by_cases hk0 : k = 0
      ·subst hk0
       obtain rfl : v = 0 := by simp at hv; omega
       subst hc0
       have HX : Hid (getF (ns.drop p) 0 0 p = (0,p + 0 + 1,0)) := by show _ = _; rw [HG'.out]; exact getF_end _ _ _ (by omega) (by omega) (by omega)
       have hcell' : w.cell? ⟨g,off + p,none⟩ = some (.int .u8 0) := hcell;clear HG' hd hs hor hcell han h9i hdv hv hc256;go_wp2_with fail
       go_ret3
       exact ⟨ret_get HX.out rfl (by omega) rfl,rfl⟩
      ·have HX : Hid (getF (ns.drop p) 0 0 p = (0,0,3)) := by show _ = _; rw [HG'.out]; exact getF_zero _ _ _ (by omega) hc0 (by omega)
       clear HG';rw [hd] at han;clear hd hs;generalize v + d * 128 ^ k = s at *
       have hz : decide (0 < (k : Int)) = true := by simp; omega
       go_wp2_with fail
       go_ret3
       exact ⟨ret_get HX.out rfl rfl rfl,rfl⟩
     ·have HX : Hid (getF (ns.drop p) 0 0 p = (v + d * 128 ^ k,p + k + 1,0)) := by show _ = _; rw [HG'.out,← hd,Nat.mod_eq_of_lt (by omega)]; exact getF_end _ _ _ (by omega) (by omega) (by omega)
      clear HG';rw [hd] at han;clear hd hs;generalize v + d * 128 ^ k = s at *;go_wp2_with fail
      go_ret3
      exact ⟨ret_get HX.out rfl (by omega) rfl,rfl⟩
  ·have HX : Hid (getF (ns.drop p) 0 0 p = (0,0,2)) := by
    show _ = _
    rw [HG.out,List.drop_of_length_le (by omega)]
    rfl
   clear HG;go_wp2_with fail
   go_ret3
   exact ⟨ret_get HX.out rfl rfl rfl,rfl⟩
theorem get_full (a : Option Addr) (p : Nat) (w : World) (ha : a = none → p = 0) (hm : p ≤ maxLen) :
  Calls Tryz.prog 144 #[.slice a p p,.int .i64 (p : Int)] w fun e w' => e = .returned (getV (0,0,2)) ∧ w' = w := by
 unfold maxLen at hm
 have hd0 : decide ((p : Int) < 0) = false := by simp
 go_enter Tryz.func144,Tryz.ntmps144
 go_wp2_with fail
 go_loop [22] (fun iv => iv = .int .i64 0) (fun _ => 0)
 case atStart => rfl
 case round =>
  subst hrel;go_wp2_with fail
  go_ret3
  exact ⟨rfl,rfl⟩
theorem get_any (a : Option Addr) (ns : List Nat) (cap : Nat) (at' : Int) (w : World) (ha : (a = none ∧ ns = [] ∧ cap = 0) ∨ ∃ g off,a = some ⟨g,off,none⟩) (hc : ns.length ≤ cap) (hm : cap ≤ maxLen) (hl : ns.length ≤ 140737488355328) (hh : Holds w a ns) (hb : ∀ n ∈ ns,n < 256) :
  Calls Tryz.prog 144 #[.slice a ns.length cap,.int .i64 at'] w fun e w' => e = .returned (getV (getR ns at')) ∧ w' = w := by
 by_cases ho : at' < 0 ∨ (ns.length : Int) < at'
 ·rw [getR_out ho]; exact get_out a ns.length cap at' w ho
 ·obtain ⟨p,rfl⟩ := Int.eq_ofNat_of_zero_le (a := at') (by omega);rw [getR_in (by omega)]
  by_cases hp : p < cap
  ·rcases ha with ⟨rfl,rfl,rfl⟩ | ⟨g,off,rfl⟩
   ·omega
   ·exact get_in g off ns cap p w hc hm (by omega) hp hl (fun j hj => hh.at j hj) hb
  ·obtain rfl : p = cap := by omega
   obtain rfl : p = ns.length := by omega
   rw [List.drop_of_length_le (Nat.le_refl _)];refine get_full a _ w ?_ hm;intro h
   rcases ha with ⟨_,h,_⟩ | ⟨g,off,rfl⟩
   ·simp [h]
   ·cases h
theorem put_nil (v : Nat) (z : Int) (hz : z = (v : Int)) (w : World) (hv : v < 18446744073709551616) :
  Calls Tryz.prog 90 #[.slice none 0 0,.int .u64 z] w fun e w' => ∃ g cap,e = .returned (.slice (some ⟨g,0,none⟩) (digs v).length cap) ∧ w.heap.size ≤ g ∧ g < w'.heap.size ∧ (digs v).length ≤ cap ∧ cap ≤ maxLen ∧ Holds w' (some ⟨g,0,none⟩) (digs v) ∧ Below w.heap.size w w' := by
 subst hz;refine (put_any none [] 0 v w (fun _ => ⟨rfl,rfl⟩) (Nat.le_refl _) (by decide) (by decide) Holds.nil hv).mono ?_;rintro e w' ⟨r,rfl,ho,hb⟩;rw [List.nil_append] at ho;obtain ⟨a,cap,rfl,_,h1 | ⟨g,rfl,h2,h3⟩,h4,h5,h6⟩ := own_open ho
 ·exact absurd h1.2.1 (digs_ne v)
 ·exact ⟨g,cap,rfl,h2,h3,h4,h5,h6,hb⟩
def bytesN (b : ByteArray) : List Nat := b.data.toList.map UInt8.toNat
theorem bytesN_len (b : ByteArray) : (bytesN b).length = b.size := by
 rw [bytesN,List.length_map,Array.length_toList]
 rfl
theorem bytesN_lt (b : ByteArray) : ∀ n ∈ bytesN b,n < 256 := by
 intro n hn;simp only [bytesN,List.mem_map] at hn;obtain ⟨u,_,rfl⟩ := hn;exact u.toNat_lt
theorem strN_bytesN (b : ByteArray) : strN (bytesN b) = b := by
 apply ByteArray.ext
 apply Array.ext'
 simp only [strN,bytesN,List.map_map]
 conv => rhs; rw [← List.map_id b.data.toList]
 apply List.map_congr_left
 intro u _
 simp
theorem bytesN_strN (ns : List Nat) (h : ∀ n ∈ ns,n < 256) : bytesN (strN ns) = ns := by
 simp only [strN,bytesN,List.map_map]
 conv => rhs; rw [← List.map_id ns]
 apply List.map_congr_left
 intro n hn;have := h n hn
 simp [UInt8.toNat_ofNat']
 omega
theorem strCells_bytes (b : ByteArray) : Lib.strCells b = byteCells (bytesN b) := by
 simp [Lib.strCells,byteCells,bytesN]
def fieldN (r : Fd) : List Nat := digs (2 * r.tag + r.wire).toNat ++ if r.wire = 0 then digs (zigN r.n).toNat else digs r.b.size ++ bytesN r.b
theorem fieldN_num (t : Nat) (n : Int) (b : ByteArray) : fieldN ⟨t,0,n,b⟩ = digs (2 * t) ++ digs (zigN n).toNat := by
 simp only [fieldN,if_pos]; congr 2
theorem fieldN_text (t : Nat) (n : Int) (b : ByteArray) : fieldN ⟨t,1,n,b⟩ = digs (2 * t + 1) ++ (digs b.size ++ bytesN b) := by
 simp only [fieldN]; rw [if_neg (by decide)]; congr 2
def flatN (rs : List Fd) : List Nat := rs.flatMap fieldN
theorem flatN_app (a b : List Fd) : flatN (a ++ b) = flatN a ++ flatN b := by simp [flatN]
theorem flatN_nil : flatN [] = [] := rfl
theorem flatN_cons (r : Fd) (l : List Fd) : flatN (r :: l) = fieldN r ++ flatN l := by simp [flatN]
theorem fieldN_lt (r : Fd) : ∀ n ∈ fieldN r,n < 256 := by
 intro n hn;simp only [fieldN,List.mem_append] at hn
 rcases hn with hn | hn
 ·exact digs_lt _ _ hn
 ·split at hn
  ·exact digs_lt _ _ hn
  ·rcases List.mem_append.1 hn with hn | hn
   ·exact digs_lt _ _ hn
   ·exact bytesN_lt _ _ hn
theorem flatN_lt (rs : List Fd) : ∀ n ∈ flatN rs,n < 256 := by
 intro n hn;simp only [flatN,List.mem_flatMap] at hn;obtain ⟨r,_,h⟩ := hn;exact fieldN_lt r n h
theorem fieldN_len {r : Fd} (h : okF r = true) (hn : Is64 r.n) : 2 ≤ (fieldN r).length ∧ (fieldN r).length ≤ 4116 := by
 rcases ok_cases h hn with ⟨t,n,rfl,h1,h2,h3⟩ | ⟨t,b,rfl,h1,h2,h3⟩
 ·have hz := zigN_bd n h3.1 h3.2;have l1 := digs_len64 (2 * t) (by omega);have l2 := digs_len64 (zigN n).toNat (by omega);rw [fieldN_num,List.length_append]; omega
 ·have l1 := digs_len64 (2 * t + 1) (by omega);have l2 := digs_len64 b.size (by omega);rw [fieldN_text,List.length_append,List.length_append,bytesN_len]; omega
def putL (rs : List Fd) : List Nat × Nat := if rs.all okF = true then if (flatN rs).length ≤ 4096 then (flatN rs,0) else ([],4) else ([],1)
theorem putL_bad {rs : List Fd} (h : rs.all okF = false) : putL rs = ([],1) := by rw [putL,if_neg (by simp [h])]
theorem putL_big {rs : List Fd} (h : rs.all okF = true) (hb : 4096 < (flatN rs).length) : putL rs = ([],4) := by rw [putL,if_pos h,if_neg (by omega)]
theorem putL_ok {rs : List Fd} (h : rs.all okF = true) (hb : (flatN rs).length ≤ 4096) : putL rs = (flatN rs,0) := by rw [putL,if_pos h,if_pos hb]
def nextN (ns : List Nat) (p : Nat) : Fd × Nat × Nat :=
 let h := getF (ns.drop p) 0 0 p
 if h.2.2 ≠ 0 then (fd0,0,h.2.2) else
 if h.1 / 2 = 0 ∨ 500 < h.1 / 2 then (fd0,0,7) else
 let v := getF (ns.drop h.2.1) 0 0 h.2.1
 if v.2.2 ≠ 0 then (fd0,0,v.2.2) else
 if h.1 % 2 = 0 then (⟨(h.1 / 2 : Nat),0,zagN v.1,⟨#[]⟩⟩,v.2.1,0) else
 if ns.length - v.2.1 < v.1 then (fd0,0,2) else (⟨(h.1 / 2 : Nat),1,0,strN ((ns.drop v.2.1).take v.1)⟩,v.2.1 + v.1,0)
theorem next_e1 {ns : List Nat} {p h q e : Nat} (g : getF (ns.drop p) 0 0 p = (h,q,e)) (he : e ≠ 0) : nextN ns p = (fd0,0,e) := by
 simp only [nextN,g]; rw [if_pos he]
theorem next_tag {ns : List Nat} {p h q : Nat} (g : getF (ns.drop p) 0 0 p = (h,q,0)) (ht : h / 2 = 0 ∨ 500 < h / 2) : nextN ns p = (fd0,0,7) := by
 simp only [nextN,g]; rw [if_neg (by simp),if_pos ht]
theorem next_e2 {ns : List Nat} {p h q v q2 e : Nat} (g : getF (ns.drop p) 0 0 p = (h,q,0)) (ht : ¬ (h / 2 = 0 ∨ 500 < h / 2)) (g2 : getF (ns.drop q) 0 0 q = (v,q2,e)) (he : e ≠ 0) : nextN ns p = (fd0,0,e) := by
 simp only [nextN,g,g2]; rw [if_neg (by simp),if_neg ht,if_pos he]
theorem next_num {ns : List Nat} {p h q v q2 : Nat} (g : getF (ns.drop p) 0 0 p = (h,q,0)) (ht : ¬ (h / 2 = 0 ∨ 500 < h / 2)) (g2 : getF (ns.drop q) 0 0 q = (v,q2,0)) (hw : h % 2 = 0) :
  nextN ns p = (⟨(h / 2 : Nat),0,zagN v,⟨#[]⟩⟩,q2,0) := by
 simp only [nextN,g,g2]; rw [if_neg (by simp),if_neg ht,if_neg (by simp),if_pos hw]
theorem next_short {ns : List Nat} {p h q v q2 : Nat} (g : getF (ns.drop p) 0 0 p = (h,q,0)) (ht : ¬ (h / 2 = 0 ∨ 500 < h / 2)) (g2 : getF (ns.drop q) 0 0 q = (v,q2,0)) (hw : h % 2 ≠ 0) (hv : ns.length - q2 < v) :
  nextN ns p = (fd0,0,2) := by
 simp only [nextN,g,g2]; rw [if_neg (by simp),if_neg ht,if_neg (by simp),if_neg hw,if_pos hv]
theorem next_text {ns : List Nat} {p h q v q2 : Nat} (g : getF (ns.drop p) 0 0 p = (h,q,0)) (ht : ¬ (h / 2 = 0 ∨ 500 < h / 2)) (g2 : getF (ns.drop q) 0 0 q = (v,q2,0)) (hw : h % 2 ≠ 0) (hv : v ≤ ns.length - q2) :
  nextN ns p = (⟨(h / 2 : Nat),1,0,strN ((ns.drop q2).take v)⟩,q2 + v,0) := by
 simp only [nextN,g,g2]; rw [if_neg (by simp),if_neg ht,if_neg (by simp),if_neg hw,if_neg (by omega)]
theorem getF_end_bd : ∀ (l : List Nat) (i v p h q : Nat),getF l i v p = (h,q,0) → (∀ n ∈ l,n < 256) → i ≤ 9 → v < 128 ^ i → p + i < q ∧ q ≤ p + i + l.length ∧ h < 18446744073709551616
 | [],i,v,p,h,q,hg,_,_,_ => by simp [getF] at hg
 | c :: r,i,v,p,h,q,hg,hb,hi,hv => by
  have hc := hb c (by simp)
  by_cases h9 : i = 9 ∧ 1 < c
  ·rw [getF_ten r v p h9.1 h9.2] at hg; simp at hg
  ·by_cases h1 : 128 ≤ c
   ·rw [getF_on r v p h9 h1] at hg
    have hi8 : i ≤ 8 := by omega
    have hs : v + c % 128 * 128 ^ i < 128 ^ (i + 1) := by
     rw [Nat.pow_succ];have := Nat.mul_le_mul_right (128 ^ i) (show c % 128 + 1 ≤ 128 by omega);rw [Nat.add_mul] at this
     omega
    have := getF_end_bd r (i + 1) _ p h q hg (fun n hn => hb n (by simp [hn])) (by omega) hs;simp only [List.length_cons]
    omega
   ·by_cases h0 : c = 0 ∧ 0 < i
    ·rw [getF_zero r v p h9 h0.1 h0.2] at hg; simp at hg
    ·rw [getF_end r v p h9 (by omega) h0] at hg;simp only [Prod.mk.injEq,and_true] at hg;obtain ⟨rfl,rfl⟩ := hg;simp only [List.length_cons];refine ⟨by omega,by omega,?_⟩
     have hp9 : (128 : Nat) ^ 9 = 9223372036854775808 := by decide
     by_cases hi9 : i = 9
     ·subst hi9;have := Nat.mul_le_mul_right (128 ^ 9) (show c ≤ 1 by omega)
      omega
     ·have hp8 : 128 ^ i ≤ 128 ^ 8 := Nat.pow_le_pow_right (by decide) (by omega);have := Nat.mul_le_mul (show c ≤ 127 by omega) hp8
      have h8 : (127 : Nat) * 128 ^ 8 = 9151314442816847872 := by decide
      have h88 : (128 : Nat) ^ 8 = 72057594037927936 := by decide
      omega
theorem getF_at_bd {ns : List Nat} {p h q : Nat} (hg : getF (ns.drop p) 0 0 p = (h,q,0)) (hb : ∀ n ∈ ns,n < 256) (hp : p ≤ ns.length) : p < q ∧ q ≤ ns.length ∧ h < 18446744073709551616 := by
 have := getF_end_bd _ 0 0 p h q hg (fun n hn => hb n (List.mem_of_mem_drop hn)) (by omega) (by decide);rw [List.length_drop] at this
 omega
theorem nextN_bd {ns : List Nat} {p q : Nat} {r : Fd} (hx : nextN ns p = (r,q,0)) (hb : ∀ n ∈ ns,n < 256) (hp : p ≤ ns.length) : p < q ∧ q ≤ ns.length := by
 obtain ⟨⟨h,q1,e1⟩,g1⟩ : ∃ x,getF (ns.drop p) 0 0 p = x := ⟨_,rfl⟩
 by_cases he1 : e1 = 0
 ·subst he1
  by_cases ht : h / 2 = 0 ∨ 500 < h / 2
  ·rw [next_tag g1 ht] at hx; simp at hx
  ·have b1 := getF_at_bd g1 hb hp;obtain ⟨⟨v,q2,e2⟩,g2⟩ : ∃ x,getF (ns.drop q1) 0 0 q1 = x := ⟨_,rfl⟩
   by_cases he2 : e2 = 0
   ·subst he2;have b2 := getF_at_bd g2 hb (by omega)
    by_cases hw : h % 2 = 0
    ·rw [next_num g1 ht g2 hw] at hx; simp at hx; omega
    ·by_cases hv : ns.length - q2 < v
     ·rw [next_short g1 ht g2 hw hv] at hx; simp at hx
     ·rw [next_text g1 ht g2 hw (by omega)] at hx; simp at hx; omega
   ·rw [next_e2 g1 ht g2 he2] at hx; simp at hx; omega
 ·rw [next_e1 g1 he1] at hx; simp at hx; omega
def getAF : Nat → List Nat → Nat → List Fd × Nat
 | 0,ns,p => if p < ns.length then ([],(nextN ns p).2.2) else ([],0)
 | f + 1,ns,p =>
  if p < ns.length ∧ p < (nextN ns p).2.1 ∧ (nextN ns p).2.2 = 0 then
   let x := getAF f ns (nextN ns p).2.1
   if x.2 = 0 then ((nextN ns p).1 :: x.1,0) else ([],x.2)
  else if p < ns.length then ([],(nextN ns p).2.2) else ([],0)
def getA (ns : List Nat) (p : Nat) : List Fd × Nat := getAF (ns.length - p) ns p
theorem getAF_fuel (f : Nat) : ∀ (g : Nat) (ns : List Nat) (p : Nat),ns.length - p ≤ f → ns.length - p ≤ g → getAF f ns p = getAF g ns p := by
 induction f with
 | zero =>
  intro g ns p h1 _
  have h : ¬ p < ns.length := by omega
  cases g with
  | zero => rfl
  | succ g => simp only [getAF]; rw [if_neg h,if_neg (fun x => h x.1)]
 | succ f ih =>
  intro g ns p h1 h2
  cases g with
  | zero =>
   have h : ¬ p < ns.length := by omega
   simp only [getAF]; rw [if_neg (fun x => h x.1),if_neg h]
  | succ g =>
   simp only [getAF]
   by_cases h : p < ns.length ∧ p < (nextN ns p).2.1 ∧ (nextN ns p).2.2 = 0
   ·rw [if_pos h,if_pos h,ih g ns (nextN ns p).2.1 (by omega) (by omega)]
   ·rw [if_neg h,if_neg h]
theorem getA_eq (ns : List Nat) (p : Nat) : getA ns p = if p < ns.length ∧ p < (nextN ns p).2.1 ∧ (nextN ns p).2.2 = 0 then
  let x := getA ns (nextN ns p).2.1
  if x.2 = 0 then ((nextN ns p).1 :: x.1,0) else ([],x.2)
 else if p < ns.length then ([],(nextN ns p).2.2) else ([],0) := by
 unfold getA
 cases e : ns.length - p with
 | zero =>
  have h : ¬ p < ns.length := by omega
  simp only [getAF]; rw [if_neg h,if_neg (fun x => h x.1)]
 | succ f =>
  simp only [getAF]
  by_cases h : p < ns.length ∧ p < (nextN ns p).2.1 ∧ (nextN ns p).2.2 = 0
  ·rw [if_pos h,if_pos h,getAF_fuel f (ns.length - (nextN ns p).2.1) ns (nextN ns p).2.1 (by omega) (Nat.le_refl _)]
  ·rw [if_neg h,if_neg h]
def joinA (acc : List Fd) (x : List Fd × Nat) : List Fd × Nat := if x.2 = 0 then (acc ++ x.1,0) else ([],x.2)
theorem getA_end {ns : List Nat} {p : Nat} (h : ns.length ≤ p) : getA ns p = ([],0) := by
 rw [getA_eq,if_neg (by omega),if_neg (by omega)]
theorem getA_err {ns : List Nat} {p q e : Nat} {r : Fd} (h : p < ns.length) (hx : nextN ns p = (r,q,e)) (he : e ≠ 0) : getA ns p = ([],e) := by
 rw [getA_eq,if_neg (by rw [hx]; simp; omega),if_pos h,hx]
theorem getA_on {ns : List Nat} {p q : Nat} {r : Fd} (h : p < ns.length) (hx : nextN ns p = (r,q,0)) (hb : ∀ n ∈ ns,n < 256) : getA ns p = joinA [r] (getA ns q) := by
 have := (nextN_bd hx hb (by omega)).1;rw [getA_eq,if_pos (by rw [hx]; exact ⟨h,this,rfl⟩),hx];simp only [joinA,List.singleton_append]
theorem joinA_join (a b : List Fd) (x : List Fd × Nat) : joinA a (joinA b x) = joinA (a ++ b) x := by
 unfold joinA
 by_cases h : x.2 = 0
 ·simp [h]
 ·simp [h]
theorem joinA_nil (x : List Fd × Nat) (h : x.2 ≠ 0 → x.1 = []) : joinA [] x = x := by
 unfold joinA
 split <;> rename_i h2
 ·rw [List.nil_append]; exact Prod.ext rfl h2.symm
 ·exact Prod.ext (h h2).symm rfl
theorem getA_nil (ns : List Nat) (p : Nat) : (getA ns p).2 ≠ 0 → (getA ns p).1 = [] := by
 rw [getA_eq]
 split
 ·dsimp only
  split
  ·intro h; exact absurd rfl h
  ·intro _; rfl
 ·split <;> intro _ <;> rfl
theorem getA_len {ns : List Nat} (hb : ∀ n ∈ ns,n < 256) : ∀ k p,ns.length - p ≤ k → (getA ns p).1.length ≤ ns.length - p
 | 0,p,h => by rw [getA_end (by omega)]; simp
 | k + 1,p,h => by
  by_cases hp : p < ns.length
  ·obtain ⟨⟨r,q,e⟩,hx⟩ : ∃ x,nextN ns p = x := ⟨_,rfl⟩
   by_cases he : e = 0
   ·subst he;have hq := nextN_bd hx hb (by omega);have ih := getA_len hb k q (by omega);rw [getA_on hp hx hb,joinA]
    split
    ·simp; omega
    ·simp
   ·rw [getA_err hp hx he]; simp
  ·rw [getA_end (by omega)]; simp
def getL (ns : List Nat) : List Fd × Nat := if 4096 < ns.length then ([],4) else getA ns 0
theorem getL_len {ns : List Nat} (hb : ∀ n ∈ ns,n < 256) : (getL ns).1.length ≤ 4096 := by
 rw [getL]
 split
 ·simp
 ·have := getA_len hb ns.length 0 (by omega); omega
end
section
def wirK (k : Int) : Int := if k = 4 ∨ k = 5 ∨ k = 7 then 1 else 0
def leafD (r : Fd) : Tr := if r.wire = 1 then ⟨2,0,r.b,[],[]⟩ else ⟨1,r.n,⟨#[]⟩,[],[]⟩
def treeD (M : ByteArray → List Nat → Tr × Int) (f : FlS) (r : Fd) : Tr × Int :=
 if r.wire ≠ wirK f.kind then (tr0,8)
 else if (f.kind = 3 ∨ f.kind = 6) ∧ nmrB f.kind r.n = false then (tr0,11)
 else if f.kind = 4 ∧ validB r.b.data.toList = false then (tr0,9)
 else if f.kind = 7 then M f.tname (bytesN r.b)
 else (leafD r,0)
def setE {α : Type} (tag : Int) (x : α) (es : List (Int × α)) : List (Int × α) := es.filter (fun e => decide (e.1 < tag)) ++ (tag,x) :: es.filter (fun e => decide (tag < e.1))
def delE {α : Type} (tag : Int) (es : List (Int × α)) : List (Int × α) := es.filter fun e => decide (e.1 ≠ tag)
def undE (es : List (Int × List Tr)) (tag : Int) : List Tr := ((es.find? fun e => decide (e.1 = tag)).map Prod.snd).getD []
def putD (f : FlS) (x : Tr) (es : List (Int × List Tr)) : List (Int × List Tr) × Int :=
 if f.label = 3 then (if (undE es f.tag).length = 64 then (es,4) else (setE f.tag (undE es f.tag ++ [x]) es,0))
 else if f.label = 1 ∧ zroB x = true then (delE f.tag es,0)
 else (setE f.tag [x] es,0)
structure Ds where
 es : List (Int × List Tr)
 rest : List Fd
def oneD (M : ByteArray → List Nat → Tr × Int) (fs : List FlS) (st : Ds) (r : Fd) : Ds × Int :=
 match fldOf fs r.tag with
 | none => (⟨st.es,st.rest ++ [r]⟩,0)
 | some f => if (treeD M f r).2 ≠ 0 then (st,(treeD M f r).2) else (⟨(putD f (treeD M f r).1 st.es).1,st.rest⟩,(putD f (treeD M f r).1 st.es).2)
def runD (M : ByteArray → List Nat → Tr × Int) (fs : List FlS) : Ds → List Fd → Ds × Int
 | st,[] => (st,0)
 | st,r :: l => if (oneD M fs st r).2 ≠ 0 then oneD M fs st r else runD M fs (oneD M fs st r).1 l
def decM : Nat → ScS → ByteArray → List Nat → Tr × Int
 | 0,_,_,_ => (tr0,10)
 | k + 1,s,nm,ns => match msgOf s nm with
  | none => (tr0,14)
  | some m =>
   if (getL ns).2 ≠ 0 then (tr0,((getL ns).2 : Int))
   else if (runD (decM k s) m.fields ⟨[],[]⟩ (getL ns).1).2 ≠ 0 then (tr0,(runD (decM k s) m.fields ⟨[],[]⟩ (getL ns).1).2)
   else (⟨3,0,⟨#[]⟩,(runD (decM k s) m.fields ⟨[],[]⟩ (getL ns).1).1.es,sortF (runD (decM k s) m.fields ⟨[],[]⟩ (getL ns).1).1.rest⟩,0)
def decA (s : ScS) (nm : ByteArray) (ns : List Nat) : Tr × Int := if checkA s ≠ 0 then (tr0,1) else decM 10 s nm ns
theorem runD_app (M : ByteArray → List Nat → Tr × Int) (fs : List FlS) : ∀ (l l' : List Fd) (st : Ds),(runD M fs st l).2 = 0 → runD M fs st (l ++ l') = runD M fs (runD M fs st l).1 l'
 | [],_,_,_ => rfl
 | r :: l,l',st,h => by
  by_cases h1 : (oneD M fs st r).2 ≠ 0
  ·simp only [runD,if_pos h1] at h; exact absurd h h1
  ·simp only [runD,if_neg h1,List.cons_append] at h ⊢;exact runD_app M fs l l' _ h
theorem runD_err (M : ByteArray → List Nat → Tr × Int) (fs : List FlS) : ∀ (l l' : List Fd) (st : Ds),(runD M fs st l).2 ≠ 0 → runD M fs st (l ++ l') = runD M fs st l
 | [],_,_,h => absurd rfl h
 | r :: l,l',st,h => by
  by_cases h1 : (oneD M fs st r).2 ≠ 0
  ·simp only [runD,if_pos h1,List.cons_append]
  ·simp only [runD,if_neg h1,List.cons_append] at h ⊢;exact runD_err M fs l l' _ h
theorem runD_one (M : ByteArray → List Nat → Tr × Int) (fs : List FlS) (st : Ds) (r : Fd) : runD M fs st [r] = oneD M fs st r := by
 by_cases h1 : (oneD M fs st r).2 ≠ 0
 ·simp only [runD,if_pos h1]
 ·simp only [runD,if_neg h1]
  have h2 : (oneD M fs st r).2 = 0 := by omega
  exact Prod.ext rfl h2.symm
theorem setE_map {α β : Type} (g : α → β) (tag : Int) (x : α) (es : List (Int × α)) : (setE tag x es).map (fun e => (e.1,g e.2)) = setE tag (g x) (es.map fun e => (e.1,g e.2)) := by
 simp [setE,List.filter_map,Function.comp_def]
theorem delE_map {α β : Type} (g : α → β) (tag : Int) (es : List (Int × α)) : (delE tag es).map (fun e => (e.1,g e.2)) = delE tag (es.map fun e => (e.1,g e.2)) := by
 simp [delE,List.filter_map,Function.comp_def]
def RisE {α : Type} (es : List (Int × α)) : Prop := es.Pairwise fun a b => a.1 < b.1
theorem RisE.set {α : Type} {es : List (Int × α)} (h : RisE es) (tag : Int) (x : α) : RisE (setE tag x es) := by
 unfold RisE setE;refine List.pairwise_append.2 ⟨h.filter _,List.pairwise_cons.2 ⟨fun b hb => ?_,h.filter _⟩,fun a ha b hb => ?_⟩
 ·simpa using (List.mem_filter.1 hb).2
 ·have h1 : a.1 < tag := by simpa using (List.mem_filter.1 ha).2
  rcases List.mem_cons.1 hb with rfl | hb
  ·exact h1
  ·have h2 : tag < b.1 := by simpa using (List.mem_filter.1 hb).2
   omega
theorem RisE.del {α : Type} {es : List (Int × α)} (h : RisE es) (tag : Int) : RisE (delE tag es) := h.filter _
theorem RisE.nodup {α : Type} {es : List (Int × α)} (h : RisE es) : (es.map Prod.fst).Nodup := List.pairwise_map.2 (h.imp fun {a b} hab => by omega)
theorem mem_setE {α : Type} {tag : Int} {x : α} {es : List (Int × α)} {p : Int × α} : p ∈ setE tag x es ↔ p = (tag,x) ∨ (p ∈ es ∧ p.1 ≠ tag) := by
 simp only [setE,List.mem_append,List.mem_cons,List.mem_filter,decide_eq_true_eq]
 constructor
 ·rintro (⟨h1,h2⟩ | h | ⟨h1,h2⟩)
  ·exact .inr ⟨h1,by omega⟩
  ·exact .inl h
  ·exact .inr ⟨h1,by omega⟩
 ·rintro (h | ⟨h1,h2⟩)
  ·exact .inr (.inl h)
  ·rcases Int.lt_or_gt_of_ne h2 with h3 | h3
   ·exact .inl ⟨h1,h3⟩
   ·exact .inr (.inr ⟨h1,h3⟩)
theorem mem_delE {α : Type} {tag : Int} {es : List (Int × α)} {p : Int × α} : p ∈ delE tag es ↔ p ∈ es ∧ p.1 ≠ tag := by
 simp [delE,List.mem_filter]
theorem find_mem {α : Type} {es : List (Int × α)} (h : RisE es) {p : Int × α} (hp : p ∈ es) : es.find? (fun e => decide (e.1 = p.1)) = some p := by
 induction es with
 | nil => cases hp
 | cons a l ih =>
  rw [RisE,List.pairwise_cons] at h
  rcases List.mem_cons.1 hp with rfl | hp
  ·simp
  ·have h1 := h.1 p hp
   have h2 : ¬ a.1 = p.1 := by omega
   rw [List.find?_cons_of_neg (by simpa using h2)];exact ih h.2 hp
end
section
open Go.ChangeShapes Go.WideShapes Go.ChangeAt Go.RowKit
theorem own_below {w w1 : World} {base : Nat} {e : TypeId} {s : Nat} {v : Value} {n : Nat} {xs : List Value} (h : w.ownsRow base e s v n xs) (hb : Below w.heap.size w w1) : w1.ownsRow base e s v n xs := by
 refine ⟨h.1,?_⟩
 rcases h.2 with h | ⟨g,cap,cur,h1,h2,h3,h4⟩
 ·exact .inl h
 ·exact .inr ⟨g,cap,cur,h1,h2,(hb.block g (Array.getElem?_eq_some_iff.1 h3).1).trans h3,h4⟩
theorem own_belowH {w w1 : World} {base : Nat} {e : TypeId} {s : Nat} {v : Value} {n : Nat} {xs : List Value} (h : Hid (w.ownsRow base e s v n xs)) (hb : Below w.heap.size w w1) : Hid (w1.ownsRow base e s v n xs) := own_below h.out hb
theorem below_drewN {B : Nat} {w wr : World} (n : Nat) (h : Below B w wr) : Below B w (wr.drewN n) := h.trans ⟨rfl,rfl,rfl,Nat.le_refl _,fun _ _ => rfl⟩
structure Kp (S : Nat → Prop) (w w' : World) : Prop where
 os : w'.os = w.os
 tape : w'.tape = w.tape
 output : w'.output = w.output
 size : w.heap.size ≤ w'.heap.size
 block : ∀ k,k < w.heap.size → ¬ S k → w'.heap[k]? = w.heap[k]?
theorem Kp.refl (S : Nat → Prop) (w : World) : Kp S w w := ⟨rfl,rfl,rfl,Nat.le_refl _,fun _ _ _ => rfl⟩
theorem Kp.trans {S : Nat → Prop} {a b c : World} (h : Kp S a b) (k : Kp S b c) : Kp S a c :=
 ⟨k.os.trans h.os,k.tape.trans h.tape,k.output.trans h.output,Nat.le_trans h.size k.size,fun i hi hs => (k.block i (Nat.lt_of_lt_of_le hi h.size) hs).trans (h.block i hi hs)⟩
theorem Kp.trans2 {S S' : Nat → Prop} {a b c : World} (h : Kp S a b) (k : Kp S' b c) (hs : ∀ i,i < a.heap.size → S' i → S i) : Kp S a c :=
 ⟨k.os.trans h.os,k.tape.trans h.tape,k.output.trans h.output,Nat.le_trans h.size k.size,fun i hi hn => (k.block i (Nat.lt_of_lt_of_le hi h.size) (fun e => hn (hs i hi e))).trans (h.block i hi hn)⟩
theorem Kp.weak {S S' : Nat → Prop} {a b : World} (h : Kp S a b) (hs : ∀ i,i < a.heap.size → S i → S' i) : Kp S' a b :=
 ⟨h.os,h.tape,h.output,h.size,fun i hi hn => h.block i hi (fun e => hn (hs i hi e))⟩
theorem Kp.ofBelow {S : Nat → Prop} {w w' : World} (h : Below w.heap.size w w') : Kp S w w' := ⟨h.os,h.tape,h.output,h.size,fun k hk _ => h.block k hk⟩
theorem Kp.toBelow {S : Nat → Prop} {w w' : World} {B : Nat} (h : Kp S w w') (hB : B ≤ w.heap.size) (hs : ∀ k,S k → B ≤ k) : Below B w w' :=
 ⟨h.os,h.tape,h.output,h.size,fun k hk => h.block k (by omega) (fun e => by have := hs k e; omega)⟩
theorem Kp.alloc {S : Nat → Prop} {a w : World} (h : Kp S a w) (o : Obj) : Kp S a (w.alloc o) :=
 h.trans ⟨rfl,rfl,rfl,by simp,fun k hk _ => Below.heap_alloc _ _ _ hk⟩
theorem Kp.setCell {S : Nat → Prop} {a w : World} (h : Kp S a w) {p : Addr} (hp : p.block < a.heap.size → S p.block) (u : Value) : Kp S a (w.setCell p u) :=
 ⟨h.os,h.tape,h.output,by simp [World.setCell]; exact h.size,fun k hk hs => (Below.heap_setCell _ _ _ _ (fun e => hs (by subst e; exact hp hk))).trans (h.block k hk hs)⟩
theorem Kp.grown {S : Nat → Prop} {a w w' : World} {row : Option Nat} (h : Kp S a w) (hg : w.grownBy w' row) (hr : ∀ k,row = some k → k < a.heap.size → S k) : Kp S a w' :=
 ⟨hg.os.trans h.os,hg.tape.trans h.tape,hg.output.trans h.output,Nat.le_trans h.size hg.size,fun k hk hs => (hg.block k (Nat.lt_of_lt_of_le hk h.size) (fun e => hs (hr k e.symm hk))).trans (h.block k hk hs)⟩
theorem Kp.drewN {S : Nat → Prop} {a w : World} (n : Nat) (h : Kp S a w) : Kp S a (w.drewN n) := ⟨h.os,h.tape,h.output,h.size,h.block⟩
theorem Kp.below {S : Nat → Prop} {a w w' : World} (h : Kp S a w) (hb : Below w.heap.size w w') : Kp S a w' := h.trans (Kp.ofBelow hb)
theorem Kp.cell {S : Nat → Prop} {w w' : World} (h : Kp S w w') {p : Addr} {u : Value} (hc : w.cell? p = some u) (hs : ¬ S p.block) : w'.cell? p = some u :=
 (World.cell?_of_block (w := w) (h.block p.block (World.block_lt_of_cell? _ _ hc) hs)).trans hc
theorem own_kp {S : Nat → Prop} {w w1 : World} {base : Nat} {e : TypeId} {s : Nat} {v : Value} {n : Nat} {xs : List Value} (h : w.ownsRow base e s v n xs) (hb : Kp S w w1) (hs : ∀ k,base ≤ k → ¬ S k) : w1.ownsRow base e s v n xs := by
 refine ⟨h.1,?_⟩
 rcases h.2 with h | ⟨g,cap,cur,h1,h2,h3,h4⟩
 ·exact .inl h
 ·exact .inr ⟨g,cap,cur,h1,h2,(hb.block g (Array.getElem?_eq_some_iff.1 h3).1 (hs g h2)).trans h3,h4⟩
theorem own_base {w : World} {base base' : Nat} {e : TypeId} {s : Nat} {v : Value} {n : Nat} {xs : List Value} (h : w.ownsRow base e s v n xs) (hb : base' ≤ base) : w.ownsRow base' e s v n xs := by
 refine ⟨h.1,?_⟩
 rcases h.2 with h | ⟨g,cap,cur,h1,h2,h3⟩
 ·exact .inl h
 ·exact .inr ⟨g,cap,cur,h1,by omega,h3⟩
theorem own_kpV {S : Nat → Prop} {w w1 : World} {base : Nat} {e : TypeId} {s : Nat} {v : Value} {n : Nat} {xs : List Value} (h : w.ownsRow base e s v n xs) (hb : Kp S w w1) (hs : ∀ k,v.ownBlock = some k → ¬ S k) : w1.ownsRow base e s v n xs := by
 refine ⟨h.1,?_⟩
 rcases h.2 with h | ⟨g,cap,cur,h1,h2,h3,h4⟩
 ·exact .inl h
 ·refine .inr ⟨g,cap,cur,h1,h2,(hb.block g (Array.getElem?_eq_some_iff.1 h3).1 (hs g ?_)).trans h3,h4⟩;rw [h1]; rfl
theorem block_set {w : World} {g : Nat} {cur : Array Value} {e : TypeId} {fz : Nat × Nat} (h : w.heap[g]? = some (.cells cur e fz)) (i : Nat) (u : Value) : (w.setCell ⟨g,i,none⟩ u).heap[g]? = some (.cells (cur.setIfInBounds i u) e fz) := by
 simp [World.setCell,Array.getElem?_modify,h]
theorem block_cell {w : World} {g : Nat} {cur : Array Value} {e : TypeId} {fz : Nat × Nat} (h : w.heap[g]? = some (.cells cur e fz)) (i : Nat) : w.cell? ⟨g,i,none⟩ = cur[i]? := by
 simp [World.cell?,h]
theorem block_froz {w : World} {g : Nat} {cur : Array Value} {e : TypeId} (h : w.heap[g]? = some (.cells cur e (0,0))) (i : Nat) : w.frozen? ⟨g,i,none⟩ = false := by
 simp [World.frozen?,h]
theorem own_form {w : World} {B : Nat} {e : TypeId} {s : Nat} {v : Value} {n : Nat} {xs : List Value} (h : w.ownsRow B e s v n xs) : ∃ a c,v = .slice a n c := by
 rcases h.2 with ⟨rfl,rfl⟩ | ⟨q,cap,cur,rfl,_⟩
 ·exact ⟨none,0,rfl⟩
 ·exact ⟨_,_,rfl⟩
theorem key_any (s : ByteArray) (w : World) :
  Calls Tryz.prog 137 #[.string s] w fun e w' => e = .returned (.bool (keyB s)) ∧ w' = w := by
 go_enter Tryz.func137,Tryz.ntmps137
 go_wp2
 all_goals
  go_ret;refine ⟨ret_bool ?_,rfl⟩
  first | (simp [keyB, *]; done) | simp_all
theorem count_any (s : ByteArray) (w : World) (hs : s.size ≤ 140737488351232) :
  Calls Tryz.prog 136 #[.string s] w fun e w' => e = .returned (.int .i64 (countN s.data.toList)) ∧ Below w.heap.size w w' := by
 go_enter Tryz.func136,Tryz.ntmps136
 go_wp2
 go_loopw [3] (fun n wr => ∃ (pos : Nat) (acc : List Nat),wr = w.iter s pos ∧ n = .int .i64 acc.length ∧ acc.length ≤ pos ∧ Hid (Gone s.data.toList pos acc)) (fun _ wr => s.size - wr.iterPos w.heap.size)
 case atStart => exact ⟨0,[],rfl,rfl,by simp,Gone.start _⟩
 case round =>
  obtain ⟨pos,acc,rfl,rfl,hle,H⟩ := hrel
  by_cases hp : pos < s.size
  ·obtain ⟨c,k,hd,h1,h2⟩ := dec_at s pos hp
   have hnx : ∀ ty,(Instr.next (.pointer (some ⟨w.heap.size,0,none⟩)) true ty).run Tryz.prog (w.iter s pos) = .ok (.tuple #[.bool true,.int .i64 (pos : Int),.int .i32 (c : Int)]) (w.iter s (pos + k)) := by
    intro ty;have := run_next_any (P := Tryz.prog) w s pos ty hp;rw [hd] at this;exact this
   have H1 : Hid (standsB (s.data.toList.drop pos) c = true → nxL (s.data.toList.drop pos) = some (c,k)) := h1;have H2 : Hid (standsB (s.data.toList.drop pos) c = false → nxL (s.data.toList.drop pos) = none) := h2;clear hd h1 h2;go_wp2_with fail;refine (stands_any s _ _ _ hs (by omega) (by omega)).mono ?_;rintro e w' ⟨rfl,rfl⟩;rw [Int.toNat_natCast]
   cases hst : standsB (s.data.toList.drop pos) c with
   | false =>
    go_wp2
    go_ret;exact ⟨ret_int (by unfold countN; rw [H.out.bad (by rw [len_data]; exact hp) (H2.out hst)]; rfl),below_iter _ _ _⟩
   | true =>
    have HN := H1.out hst;have hk : 1 ≤ k := (nxL_some _ _ _ HN).2.2.2.1;have HG : Hid (Gone s.data.toList (pos + k) (acc ++ [c])) := H.out.step HN;clear HN
    go_wp2
    go_roundw
    case rel => exact ⟨pos + k,acc ++ [c],rfl,by simp,by simp; omega,HG⟩
    case measure => simp; omega
  ·have hnx : ∀ ty,(Instr.next (.pointer (some ⟨w.heap.size,0,none⟩)) true ty).run Tryz.prog (w.iter s pos) = _ := fun ty => run_next_end w s pos ty hp
   go_wp2
   go_ret;exact ⟨ret_int (by unfold countN; rw [H.out.done (by rw [len_data]; omega)]; rfl),below_iter _ _ _⟩
theorem nameB_off (s : ByteArray) {pos c k : Nat} {acc : List Nat} (h : Gone s.data.toList pos acc) (hn : nxL (s.data.toList.drop pos) = some (c,k)) (hb : (letB c || (!acc.isEmpty && digB c)) = false) : nameB s = false := by
 unfold nameB
 cases e : runesOf s.data.toList with
 | none => simp [countN,e]
 | some rs =>
  obtain ⟨rest,rfl⟩ := (h.step hn).len e
  have : okFrom true (acc ++ [c] ++ rest) = false := by
   rw [List.append_assoc,okFrom_append];simp only [List.singleton_append,okFrom,Bool.true_and];rw [hb]; simp
  simp only [Option.getD_some,this,Bool.and_false]
theorem name_any (s : ByteArray) (w : World) (hs : s.size ≤ 140737488351232) :
  Calls Tryz.prog 97 #[.string s] w fun e w' => e = .returned (.bool (nameB s)) ∧ Below w.heap.size w w' := by
 have hcl := countN_le s.data.toList;rw [len_data] at hcl
 by_cases hc1 : countN s.data.toList < 1
 ·have HX : Hid (false = nameB s) := by show false = _; unfold nameB; simp; omega
  go_enter Tryz.func97,Tryz.ntmps97
  go_wp2_with fail;refine (count_any s _ hs).mono ?_;rintro e w1 ⟨rfl,hw1⟩;generalize countN s.data.toList = n at *
  have hn1 : decide ((n : Int) < 1) = true := by simp; omega
  go_wp2_with fail;go_ret;exact ⟨ret_bool HX.out,hw1⟩
 ·by_cases hc2 : 20 < countN s.data.toList
  ·have HX : Hid (false = nameB s) := by show false = _; unfold nameB; simp; omega
   go_enter Tryz.func97,Tryz.ntmps97
   go_wp2_with fail;refine (count_any s _ hs).mono ?_;rintro e w1 ⟨rfl,hw1⟩;generalize countN s.data.toList = n at *
   have hn1 : decide ((n : Int) < 1) = false := by simp; omega
   have hn2 : decide (20 < (n : Int)) = true := by simp; omega
   go_wp2_with fail;go_ret;exact ⟨ret_bool HX.out,hw1⟩
  ·cases hk : keyB s with
   | true =>
    have HX : Hid (false = nameB s) := by show false = _; unfold nameB; simp [hk]
    have HK : Hid (keyB s = true) := hk;clear hk
    go_enter Tryz.func97,Tryz.ntmps97
    go_wp2_with fail;refine (count_any s _ hs).mono ?_;rintro e w1 ⟨rfl,hw1⟩;generalize countN s.data.toList = n at *
    have hn1 : decide ((n : Int) < 1) = false := by simp; omega
    have hn2 : decide (20 < (n : Int)) = false := by simp; omega
    go_wp2_with fail;refine (key_any s _).mono ?_;rintro e w2 ⟨rfl,rfl⟩;rw [HK.out];go_wp2_with fail;go_ret;exact ⟨ret_bool HX.out,hw1⟩
   | false =>
    obtain ⟨rs,hrs⟩ : ∃ rs,runesOf s.data.toList = some rs := by
     cases e : runesOf s.data.toList with
     | none => simp [countN,e] at hc1
     | some rs => exact ⟨rs,rfl⟩
    have HX : Hid (nameB s = okFrom true rs) := by
     show nameB s = _
     unfold nameB;rw [hk,hrs];simp only [Bool.not_false,Bool.and_true,Option.getD_some];rw [decide_eq_true (by omega),Bool.true_and]
    have HR : Hid (runesOf s.data.toList = some rs) := hrs;have HK : Hid (keyB s = false) := hk;clear hk hrs
    go_enter Tryz.func97,Tryz.ntmps97
    go_wp2_with fail;refine (count_any s _ hs).mono ?_;rintro e w1 ⟨rfl,hw1⟩;generalize countN s.data.toList = n at *
    have hn1 : decide ((n : Int) < 1) = false := by simp; omega
    have hn2 : decide (20 < (n : Int)) = false := by simp; omega
    go_wp2_with fail;refine (key_any s _).mono ?_;rintro e w2 ⟨rfl,rfl⟩;rw [HK.out];go_wp2_with fail
    go_loopw [] (fun wr => ∃ (pos : Nat) (acc : List Nat),wr = w2.iter s pos ∧ Hid (Gone s.data.toList pos acc) ∧ Hid (okFrom true acc = true) ∧ Hid (acc.isEmpty = decide (pos = 0))) (fun wr => s.size - wr.iterPos w2.heap.size)
    case atStart => exact ⟨0,[],rfl,Gone.start _,rfl,rfl⟩
    case round =>
     obtain ⟨pos,acc,rfl,H,HO,HE⟩ := hrel
     by_cases hp : pos < s.size
     ·obtain ⟨c,k,hd,h1,h2⟩ := dec_at s pos hp;obtain ⟨x,hx⟩ := nx_of_gone H.out (by rw [len_data]; exact hp) HR.out;have HN : Hid (nxL (s.data.toList.drop pos) = some (c,k)) := dec_of_nx h1 h2 hx
      have hnx : ∀ ty,(Instr.next (.pointer (some ⟨w2.heap.size,0,none⟩)) true ty).run Tryz.prog (w2.iter s pos) = .ok (.tuple #[.bool true,.int .i64 (pos : Int),.int .i32 (c : Int)]) (w2.iter s (pos + k)) := by
       intro ty;have := run_next_any (P := Tryz.prog) w2 s pos ty hp;rw [hd] at this;exact this
      have hk : 1 ≤ k := (nxL_some _ _ _ HN.out).2.2.2.1;have HG : Hid (Gone s.data.toList (pos + k) (acc ++ [c])) := H.out.step HN.out
      have HE2 : Hid ((acc ++ [c]).isEmpty = decide (pos + k = 0)) := by show _ = _; rw [decide_eq_false (by omega)]; cases acc <;> rfl
      clear hd h1 h2 hx;go_wp2_with fail;refine (letter_any _ _).mono ?_;rintro e w3 ⟨rfl,rfl⟩
      cases hl : letB c with
      | true =>
       have HO2 : Hid (okFrom true (acc ++ [c]) = true) := by show _ = _; rw [okFrom_append,HO.out]; simp [okFrom,hl]
       go_wp2_with fail
       go_roundw
       case rel => exact ⟨pos + k,acc ++ [c],rfl,HG,HO2,HE2⟩
       case measure => simp; omega
      | false =>
       by_cases hp0 : pos = 0
       ·have HF : Hid (false = nameB s) := (nameB_off s H.out HN.out (by rw [hl,HE.out]; simp [hp0])).symm
        have hpd : ((pos : Int) == 0) = true := by simp [hp0]
        clear hp0;go_wp2_with fail;go_ret;exact ⟨ret_bool HF.out,hw1.trans ((below_iter _ _ _).mono hw1.size)⟩
       ·have hpd : ((pos : Int) == 0) = false := by simp [hp0]
        go_wp2_with fail;refine (digit_any _ _).mono ?_;rintro e w4 ⟨rfl,rfl⟩
        cases hdg : digB c with
        | true =>
         have HO2 : Hid (okFrom true (acc ++ [c]) = true) := by show _ = _; rw [okFrom_append,HO.out,HE.out]; simp [okFrom,hdg,hp0]
         go_wp2_with fail
         go_roundw
         case rel => exact ⟨pos + k,acc ++ [c],rfl,HG,HO2,HE2⟩
         case measure => simp; omega
        | false =>
         have HF : Hid (false = nameB s) := (nameB_off s H.out HN.out (by rw [hl,hdg]; simp)).symm;go_wp2_with fail;go_ret;exact ⟨ret_bool HF.out,hw1.trans ((below_iter _ _ _).mono hw1.size)⟩
     ·have hnx : ∀ ty,(Instr.next (.pointer (some ⟨w2.heap.size,0,none⟩)) true ty).run Tryz.prog (w2.iter s pos) = _ := fun ty => run_next_end w2 s pos ty hp
      have HF : Hid (true = nameB s) := by
       show true = _
       have := H.out.done (by rw [len_data]; omega);rw [HR.out] at this
       simp at this
       rw [HX.out,this,HO.out]
      go_wp2
      go_ret;exact ⟨ret_bool HF.out,hw1.trans ((below_iter _ _ _).mono hw1.size)⟩
end
section
open Go.ChangeShapes Go.WideShapes Go.ChangeAt Go.RowKit Go.Maps
def SetK (k : TypeId) (w : World) (b n : Nat) (L : List Value) : Prop :=
 ∃ D : DataW Unit,w.ownsMap Tryz.prog k (unitElem (H := Unit)) b n D ∧ ∀ v kl,keyOf Tryz.prog k v = some kl → (Maps.has D kl = true ↔ v ∈ L)
theorem SetK.lt {k : TypeId} {w : World} {b n : Nat} {L : List Value} (h : SetK k w b n L) : b < w.heap.size := by obtain ⟨D,h1,_⟩ := h; exact h1.lt
theorem SetK.made (k : TypeId) (w : World) : SetK k (w.alloc (.map #[] 0)) w.heap.size 0 [] :=
 ⟨.map [],World.ownsMap_made w Tryz.prog k unitElem,fun v kl _ => by simp [Maps.has]⟩
theorem SetK.kp {k : TypeId} {S : Nat → Prop} {w w1 : World} {b n : Nat} {L : List Value} (h : SetK k w b n L) (hk : Kp S w w1) (hs : ¬ S b) : SetK k w1 b n L := by
 have hlt := h.lt;obtain ⟨D,⟨es,clock,hb,r⟩,h2⟩ := h;exact ⟨D,⟨es,clock,(hk.block b hlt hs).trans hb,r⟩,h2⟩
theorem SetK.below {k : TypeId} {w w1 : World} {b n : Nat} {L : List Value} (h : SetK k w b n L) (hk : Below w.heap.size w w1) : SetK k w1 b n L := h.kp (S := fun _ => False) (Kp.ofBelow hk) (fun e => e)
theorem SetK.put {k : TypeId} (K : Keyed Tryz.prog k) {w : World} {b n : Nat} {L : List Value} {D : DataW Unit} (hD : Maps.IsMap D) (h2 : ∀ v kl,keyOf Tryz.prog k v = some kl → (Maps.has D kl = true ↔ v ∈ L)) {v : Value} {kl : Lit} (hv : keyOf Tryz.prog k v = some kl) {u : DataW Unit}
  (h1 : w.ownsMap Tryz.prog k (unitElem (H := Unit)) b n (D.put kl u)) : SetK k w b n (L ++ [v]) := by
 refine ⟨_,h1,fun v' kl' hv' => ?_⟩
 by_cases e : kl' = kl
 ·subst e;have : v' = v := K.inj hv' hv;subst this;rw [Maps.has_put_same hD (K.key hv)]
  simp
 ·rw [Maps.has_put_other e,h2 v' kl' hv'];simp only [List.mem_append,List.mem_singleton]
  constructor
  ·exact .inl
  ·rintro (h | rfl)
   ·exact h
   ·rw [hv] at hv'; cases hv'; exact absurd rfl e
theorem SetK.ne {k : TypeId} {w : World} {b n : Nat} {L : List Value} (h : SetK k w b n L) {g : Nat} {p : Addr} {u : Value} (hc : w.cell? p = some u) (hg : p.block = g) : g ≠ b := by
 rintro rfl;obtain ⟨D,⟨es,clock,hb,_⟩,_⟩ := h;obtain ⟨q,off,sp⟩ := p;simp only at hg;subst hg
 simp [World.cell?,hb] at hc
theorem zeroU (w : World) : (zeroValue 145).run Tryz.prog w = .ok (.agg #[]) w := by kernel_rfl
def SetS (w : World) (b n : Nat) (L : List ByteArray) : Prop := SetK 9 w b n (L.map Value.string)
def SetI (w : World) (b n : Nat) (L : List Int) : Prop := SetK 3 w b n (L.map (Value.int .i64))
def tyV (p : Int × ByteArray) : Value := .agg #[.int .i64 p.1,.string p.2]
def SetT (w : World) (b n : Nat) (L : List (Int × ByteArray)) : Prop := SetK 56 w b n (L.map tyV)
theorem lawS : Keyed Tryz.prog 9 := string_keyed Tryz.underlying9
theorem lawI : Keyed Tryz.prog 3 := int_keyed Tryz.underlying3
theorem laidOutP : laidOutB Tryz.prog = true := by kernel_rfl
theorem lawT : Keyed Tryz.prog 56 := Keyed.of_law (deep_law_laid laidOutP (m := 3) (by omega) (of_decide_eq_true (by kernel_rfl)) (by kernel_rfl) (by kernel_rfl))
def I64 (n : Int) : Prop := -9223372036854775808 ≤ n ∧ n ≤ 9223372036854775807
theorem wf64 {n : Int} (h : I64 n) : (Lit.int .i64 n).wf = true := WalkArith.wf_i64 (by obtain ⟨h1,h2⟩ := h; omega)
theorem key_str {s : ByteArray} (h : s.size ≤ 140737488351232) : keyOf Tryz.prog 9 (.string s) = some (.string s.data.toList) :=
 WideMaps.keyOf_string_mk (P := Tryz.prog) (k := 9) Tryz.underlying9 (s := s) (by unfold maxLen; omega)
theorem key_int {n : Int} (h : I64 n) : keyOf Tryz.prog 3 (.int .i64 n) = some (.int .i64 n) :=
 keyOf_int_mk (P := Tryz.prog) (k := 3) Tryz.underlying3 (wf64 h)
theorem keyTypeT : Tryz.prog.keyType 56 = true := by kernel_rfl
theorem cellsT : Tryz.prog.cellsOf 56 = 2 := by kernel_rfl
theorem cellsI : Tryz.prog.cellsOf 3 = 1 := by kernel_rfl
theorem cellsS : Tryz.prog.cellsOf 9 = 1 := by kernel_rfl
theorem lits_int {m : Nat} {k : Int} (hk : I64 k) : Tryz.prog.keyLits (m + 1) 3 [.int .i64 k] = some [.int .i64 k] := by
 simp [Program.keyLits,Tryz.underlying3,wf64 hk]
theorem lits_str {m : Nat} {s : ByteArray} (hs : s.size ≤ 140737488351232) : Tryz.prog.keyLits (m + 1) 9 [.string s] = some [.string s.data.toList] := by
 have : s.size ≤ maxLen := by unfold maxLen; omega
 simp [Program.keyLits,Tryz.underlying9,this]
theorem lits_ty {m : Nat} {k : Int} {s : ByteArray} (hk : I64 k) (hs : s.size ≤ 140737488351232) : Tryz.prog.keyLits (m + 2) 56 [.int .i64 k,.string s] = some [.int .i64 k,.string s.data.toList] := by
 unfold Program.keyLits;simp only [Tryz.underlying56,cellsT]
 simp [cellsI,cellsS,lits_int hk,lits_str hs]
theorem key_ty {k : Int} {s : ByteArray} (hk : I64 k) (hs : s.size ≤ 140737488351232) : ∃ kl,keyOf Tryz.prog 56 (tyV (k,s)) = some kl := by
 obtain ⟨m,hm⟩ : ∃ m,Tryz.prog.types.size + 1 = m + 2 := ⟨Tryz.prog.types.size - 1,by have : 0 < Tryz.prog.types.size := of_decide_eq_true (by kernel_rfl); omega⟩
 have hf : (tyV (k,s)).formed Tryz.prog 56 = true := by simp [tyV,Value.formed,Tryz.underlying56,cellsT]
 unfold keyOf;rw [hm,show (tyV (k,s)).cells.toList = [.int .i64 k,.string s] from rfl,lits_ty hk hs,keyTypeT,hf];simp only [Tryz.underlying56];exact ⟨_,rfl⟩
theorem mem_str {s : ByteArray} {L : List ByteArray} : Value.string s ∈ L.map Value.string ↔ s ∈ L := by
 simp only [List.mem_map,Value.string.injEq,exists_eq_right]
theorem mem_int {s : Int} {L : List Int} : Value.int .i64 s ∈ L.map (Value.int .i64) ↔ s ∈ L := by
 simp only [List.mem_map,Value.int.injEq,true_and,exists_eq_right]
theorem mem_ty {s : Int × ByteArray} {L : List (Int × ByteArray)} : tyV s ∈ L.map tyV ↔ s ∈ L := by
 simp only [List.mem_map,tyV,Value.agg.injEq,Array.mk.injEq,List.cons.injEq,Value.int.injEq,Value.string.injEq,true_and,and_true]
 constructor
 ·rintro ⟨⟨a,b⟩,h1,h2,h3⟩; obtain ⟨c,d⟩ := s; simp only at h2 h3; subst h2 h3; exact h1
 ·intro h; exact ⟨s,h,rfl,rfl⟩
theorem SetS.has {w : World} {b n : Nat} {L : List ByteArray} {D : DataW Unit} (h2 : ∀ v kl,keyOf Tryz.prog 9 v = some kl → (Maps.has D kl = true ↔ v ∈ L.map Value.string)) {s : ByteArray} (hs : s.size ≤ 140737488351232) : Maps.has D (.string s.data.toList) = memB s L := by
 rw [Bool.eq_iff_iff,h2 _ _ (key_str hs),mem_str,memB_iff]
theorem SetI.has {w : World} {b n : Nat} {L : List Int} {D : DataW Unit} (h2 : ∀ v kl,keyOf Tryz.prog 3 v = some kl → (Maps.has D kl = true ↔ v ∈ L.map (Value.int .i64))) {s : Int} (hs : I64 s) : Maps.has D (.int .i64 s) = memI s L := by
 rw [Bool.eq_iff_iff,h2 _ _ (key_int hs),mem_int]
 simp [memI]
theorem has_str {w : World} {b n : Nat} {L : List ByteArray} (h : SetS w b n L) {s : ByteArray} (hs : s.size ≤ 140737488351232) :
  Calls Tryz.prog 161 #[.map (some b),.string s] w fun e w' => e = .returned (.bool (memB s L)) ∧ Below w.heap.size w w' := by
 obtain ⟨D,hown,h2⟩ := h;have HH : Hid (Maps.has D (.string s.data.toList) = memB s L) := SetS.has (w := w) (b := b) (n := n) h2 hs;have hkey := key_str hs;clear h2
 go_enter Tryz.func161,Tryz.ntmps161
 go_wp2_with (first
  | (at_lookup; refine wpList_lookup_own_unit _ rfl _ _ 101 rfl 9 145 lawS Tryz.underlying101 (zeroU _) b n D rfl hown _ _ rfl hkey ?_)
  | fail)
 go_ret;exact ⟨ret_bool HH.out,(bra _)⟩
theorem has_int {w : World} {b n : Nat} {L : List Int} (h : SetI w b n L) {s : Int} (hs : I64 s) :
  Calls Tryz.prog 162 #[.map (some b),.int .i64 s] w fun e w' => e = .returned (.bool (memI s L)) ∧ Below w.heap.size w w' := by
 obtain ⟨D,hown,h2⟩ := h;have HH : Hid (Maps.has D (.int .i64 s) = memI s L) := SetI.has (w := w) (b := b) (n := n) h2 hs;have hkey := key_int hs;clear h2
 go_enter Tryz.func162,Tryz.ntmps162
 go_wp2_with (first
  | (at_lookup; refine wpList_lookup_own_unit _ rfl _ _ 157 rfl 3 145 lawI Tryz.underlying157 (zeroU _) b n D rfl hown _ _ rfl hkey ?_)
  | fail)
 go_ret;exact ⟨ret_bool HH.out,(bra _)⟩
def memT (p : Int × ByteArray) (L : List (Int × ByteArray)) : Bool := L.any fun q => decide (p = q)
theorem memT_iff {p : Int × ByteArray} {L : List (Int × ByteArray)} : memT p L = true ↔ p ∈ L := by simp [memT]
theorem has_ty {w : World} {b n : Nat} {L : List (Int × ByteArray)} (h : SetT w b n L) {k : Int} {s : ByteArray} (hk : I64 k) (hs : s.size ≤ 140737488351232) :
  Calls Tryz.prog 105 #[.map (some b),.agg #[.int .i64 k,.string s]] w fun e w' => e = .returned (.bool (memT (k,s) L)) ∧ Below w.heap.size w w' := by
 obtain ⟨D,hown,h2⟩ := h;obtain ⟨kl,hkey⟩ := key_ty hk hs
 have HH : Hid (Maps.has D kl = memT (k,s) L) := by
  show _ = _
  rw [Bool.eq_iff_iff,h2 _ _ hkey,mem_ty,memT_iff]
 unfold tyV at hkey;simp only at hkey;clear h2
 go_enter Tryz.func105,Tryz.ntmps105
 go_wp2_with (first
  | (at_lookup; refine wpList_lookup_own_unit _ rfl _ _ 98 rfl 56 145 lawT Tryz.underlying98 (zeroU _) b n D rfl (hown.alloc _) _ _ rfl hkey ?_)
  | fail)
 go_ret;exact ⟨ret_bool HH.out,(bra _).alloc (by simp) _⟩
theorem add_str {w : World} {b n : Nat} {L : List ByteArray} (h : SetS w b n L) {s : ByteArray} (hs : s.size ≤ 140737488351232) (hn : n < 1000000) :
  Calls Tryz.prog 140 #[.map (some b),.string s] w fun e w' => e = .returned (.bool (!memB s L)) ∧ (memB s L = false → SetS w' b (n + 1) (L ++ [s])) ∧ Kp (fun k => k = b) w w' := by
 have HS : Hid (SetS w b n L) := h;clear h;have hkey := key_str hs
 cases hm : memB s L
 ·go_enter Tryz.func140,Tryz.ntmps140
  go_wp2_with fail;refine (has_str HS.out hs).mono ?_;rintro e w1 ⟨rfl,hb1⟩;rw [hm];obtain ⟨D,hown,h2⟩ := HS.out.below hb1;have H2 : Hid _ := h2;clear h2
  go_wp2_with (first
   | (at_mapUpdate; refine wpList_mapUpdate_own _ rfl _ _ _ 101 rfl 9 145 lawS Tryz.underlying101 (unitElem (H := Unit)) b n _ rfl hown (by unfold maxLen; omega) _ _ _ rfl rfl hkey _ [] unitElem_mk ?_; intro w2 hown1 hgrow1)
   | fail)
  go_ret;refine ⟨rfl,fun _ => ?_,(Kp.ofBelow hb1).grown hgrow1 (fun k hk _ => by cases hk; rfl)⟩;have := SetK.put lawS hown.isMap H2.out hkey hown1;unfold SetS;rw [List.map_append];exact this
 ·go_enter Tryz.func140,Tryz.ntmps140
  go_wp2_with fail;refine (has_str HS.out hs).mono ?_;rintro e w1 ⟨rfl,hb1⟩;rw [hm];go_wp2_with fail;go_ret;exact ⟨rfl,(fun e => by cases e),Kp.ofBelow hb1⟩
theorem add_int {w : World} {b n : Nat} {L : List Int} (h : SetI w b n L) {s : Int} (hs : I64 s) (hn : n < 1000000) :
  Calls Tryz.prog 141 #[.map (some b),.int .i64 s] w fun e w' => e = .returned (.bool (!memI s L)) ∧ (memI s L = false → SetI w' b (n + 1) (L ++ [s])) ∧ Kp (fun k => k = b) w w' := by
 have HS : Hid (SetI w b n L) := h;clear h;have hkey := key_int hs
 cases hm : memI s L
 ·go_enter Tryz.func141,Tryz.ntmps141
  go_wp2_with fail;refine (has_int HS.out hs).mono ?_;rintro e w1 ⟨rfl,hb1⟩;rw [hm];obtain ⟨D,hown,h2⟩ := HS.out.below hb1;have H2 : Hid _ := h2;clear h2
  go_wp2_with (first
   | (at_mapUpdate; refine wpList_mapUpdate_own _ rfl _ _ _ 157 rfl 3 145 lawI Tryz.underlying157 (unitElem (H := Unit)) b n _ rfl hown (by unfold maxLen; omega) _ _ _ rfl rfl hkey _ [] unitElem_mk ?_; intro w2 hown1 hgrow1)
   | fail)
  go_ret;refine ⟨rfl,fun _ => ?_,(Kp.ofBelow hb1).grown hgrow1 (fun k hk _ => by cases hk; rfl)⟩;have := SetK.put lawI hown.isMap H2.out hkey hown1;unfold SetI;rw [List.map_append];exact this
 ·go_enter Tryz.func141,Tryz.ntmps141
  go_wp2_with fail;refine (has_int HS.out hs).mono ?_;rintro e w1 ⟨rfl,hb1⟩;rw [hm];go_wp2_with fail;go_ret;exact ⟨rfl,(fun e => by cases e),Kp.ofBelow hb1⟩
theorem newname_any {w : World} {b n : Nat} {L : List ByteArray} (h : SetS w b n L) {s : ByteArray} (hs : s.size ≤ 140737488351232) (hn : n < 1000000) :
  Calls Tryz.prog 99 #[.map (some b),.string s] w fun e w' => e = .returned (.bool (freshB s L)) ∧ (freshB s L = true → SetS w' b (n + 1) (L ++ [s])) ∧ Kp (fun k => k = b) w w' := by
 have HS : Hid (SetS w b n L) := h;clear h
 cases hm : nameB s
 ·have HF : Hid (false = freshB s L) := by show _ = _; unfold freshB; rw [hm]; rfl
  go_enter Tryz.func99,Tryz.ntmps99
  go_wp2_with fail;refine (name_any s _ hs).mono ?_;rintro e w1 ⟨rfl,hb1⟩;rw [hm];go_wp2_with fail;go_ret;exact ⟨ret_bool HF.out,(fun e => by rw [← HF.out] at e; cases e),Kp.ofBelow hb1⟩
 ·have HF : Hid ((!memB s L) = freshB s L) := by show _ = _; unfold freshB; rw [hm]; rfl
  go_enter Tryz.func99,Tryz.ntmps99
  go_wp2_with fail;refine (name_any s _ hs).mono ?_;rintro e w1 ⟨rfl,hb1⟩;rw [hm];go_wp2_with fail;refine (add_str (SetK.below HS.out hb1) hs hn).mono ?_;rintro e w2 ⟨rfl,h2,hk2⟩;have H2 : Hid _ := h2;clear h2;go_wp2_with fail;go_ret;exact ⟨ret_bool HF.out,(fun e => H2.out (by rw [← HF.out] at e; simpa using e)),(Kp.ofBelow hb1).trans hk2⟩
theorem newtag_any {w : World} {b n : Nat} {L : List Int} (h : SetI w b n L) {s : Int} (hs : I64 s) (hn : n < 1000000) :
  Calls Tryz.prog 100 #[.map (some b),.int .i64 s] w fun e w' => e = .returned (.bool (tagB s L)) ∧ (tagB s L = true → SetI w' b (n + 1) (L ++ [s])) ∧ Kp (fun k => k = b) w w' := by
 have HS : Hid (SetI w b n L) := h;clear h
 by_cases h1 : 1 ≤ s
 ·by_cases h5 : s ≤ 500
  ·have HF : Hid ((!memI s L) = tagB s L) := by show _ = _; unfold tagB tagR; rw [decide_eq_true (And.intro h1 h5)]; rfl
   go_enter Tryz.func100,Tryz.ntmps100
   go_wp2_with fail;refine (add_int HS.out hs hn).mono ?_;rintro e w2 ⟨rfl,h2,hk2⟩;have H2 : Hid _ := h2;clear h2;go_wp2_with fail;go_ret;exact ⟨ret_bool HF.out,(fun e => H2.out (by rw [← HF.out] at e; simpa using e)),hk2⟩
  ·have hd : decide (s ≤ 500) = false := by simpa using h5
   have HF : Hid (false = tagB s L) := by show _ = _; unfold tagB tagR; rw [decide_eq_false (fun e => h5 e.2)]; rfl
   go_enter Tryz.func100,Tryz.ntmps100
   go_wp2_with fail;go_ret;exact ⟨ret_bool HF.out,(fun e => by rw [← HF.out] at e; cases e),Kp.refl _ _⟩
 ·have hd : decide (1 ≤ s) = false := by simpa using h1
  have HF : Hid (false = tagB s L) := by show _ = _; unfold tagB tagR; rw [decide_eq_false (fun e => h1 e.1)]; rfl
  go_enter Tryz.func100,Tryz.ntmps100
  go_wp2_with fail;go_ret;exact ⟨ret_bool HF.out,(fun e => by rw [← HF.out] at e; cases e),Kp.refl _ _⟩
end
section
open Go.Shelf
def laysKeys_ren : Go.Shelf.Ren := ⟨fun | 7 => 113 | 10 => 149 | n => n,fun | 23 => 106 | 26 => 3 | 3 => 78 | 28 => 171 | 0 => 0 | 27 => 170 | 33 => 196 | 4 => 4 | n => n,fun | n => n⟩
theorem laysKeys : Go.Proofs.SlLaysZI.n7 Tryz.prog laysKeys_ren := {
 mixed := by kernel_rfl
 f7 := ⟨Tryz.f113.name,by decide,Tryz.func113.trans (congrArg some (by kernel_rfl))⟩
 f10 := ⟨Tryz.f149.name,by decide,Tryz.func149.trans (congrArg some (by kernel_rfl))⟩
 t0 := Tryz.underlying0
 a0 := Tryz.isAgg0
 z0 := Tryz.sizeOf0
 v0 := Tryz.zeroValue0
 t4 := Tryz.underlying4
 a4 := Tryz.isAgg4
 z4 := Tryz.sizeOf4
 v4 := Tryz.zeroValue4
 t23 := Tryz.underlying106
 a23 := Tryz.isAgg106
 z23 := Tryz.sizeOf106
 v23 := Tryz.zeroValue106
 t26 := Tryz.underlying3
 a26 := Tryz.isAgg3
 z26 := Tryz.sizeOf3
 v26 := Tryz.zeroValue3
 t27 := Tryz.underlying170
 a27 := Tryz.isAgg170
 z27 := Tryz.sizeOf170
 v27 := Tryz.zeroValue170
 t28 := Tryz.underlying171
 a28 := Tryz.isAgg171
 z28 := Tryz.sizeOf171
 v28 := Tryz.zeroValue171
 t33 := Tryz.underlying196
 a33 := Tryz.isAgg196
 z33 := Tryz.sizeOf196
 v33 := Tryz.zeroValue196 }
def laysSorted_ren : Go.Shelf.Ren := ⟨fun | 6 => 112 | 8 => 147 | 9 => 148 | 11 => 164 | 13 => 166 | 12 => 165 | 23 => 182 | 24 => 183 | 14 => 173 | 15 => 174 | 16 => 175 | 17 => 176 | 18 => 177 | 19 => 178 | 20 => 179 | 21 => 180 | 22 => 181 | 25 => 187 | 26 => 188 | 27 => 189 | 28 => 190 | 29 => 191 | 30 => 186 | 31 => 192 | n => n,fun | 26 => 3 | 28 => 171 | 24 => 46 | 0 => 0 | 3 => 3 | 37 => 193 | 48 => 239 | 50 => 151 | 4 => 4 | 40 => 232 | 39 => 231 | 45 => 227 | 5 => 5 | 9 => 9 | 51 => 242 | 55 => 83 | 57 => 247 | 58 => 248 | 33 => 196 | n => n,fun | n => n⟩
theorem laysSorted : Go.Proofs.SlLaysZI.n6 Tryz.prog laysSorted_ren := {
 mixed := by kernel_rfl
 f6 := ⟨Tryz.f112.name,by decide,Tryz.func112.trans (congrArg some (by kernel_rfl))⟩
 f8 := ⟨Tryz.f147.name,by decide,Tryz.func147.trans (congrArg some (by kernel_rfl))⟩
 f11 := ⟨Tryz.f164.name,by decide,Tryz.func164.trans (congrArg some (by kernel_rfl))⟩
 t0 := Tryz.underlying0
 a0 := Tryz.isAgg0
 z0 := Tryz.sizeOf0
 v0 := Tryz.zeroValue0
 t24 := Tryz.underlying46
 a24 := Tryz.isAgg46
 z24 := Tryz.sizeOf46
 v24 := Tryz.zeroValue46
 t26 := Tryz.underlying3
 a26 := Tryz.isAgg3
 z26 := Tryz.sizeOf3
 v26 := Tryz.zeroValue3
 t28 := Tryz.underlying171
 a28 := Tryz.isAgg171
 z28 := Tryz.sizeOf171
 v28 := Tryz.zeroValue171
 i26 := by kernel_rfl }
def laysSort_ren : Go.Shelf.Ren := ⟨fun | 5 => 148 | 8 => 166 | 7 => 165 | 19 => 182 | 20 => 183 | 10 => 173 | 11 => 174 | 12 => 175 | 13 => 176 | 14 => 177 | 15 => 178 | 16 => 179 | 17 => 180 | 18 => 181 | 30 => 187 | 31 => 188 | 32 => 189 | 33 => 190 | 34 => 191 | 35 => 186 | 40 => 192 | n => n,fun | 23 => 46 | 25 => 3 | 3 => 3 | 32 => 193 | 22 => 46 | 0 => 0 | 44 => 239 | 46 => 151 | 4 => 4 | 36 => 232 | 35 => 231 | 41 => 227 | 5 => 5 | 9 => 9 | 53 => 242 | 57 => 83 | 63 => 247 | 64 => 248 | n => n,fun | n => n⟩
theorem laysSort : Go.Proofs.SlLaysM.n5 Tryz.prog laysSort_ren := {
 mixed := by kernel_rfl
 f5 := ⟨Tryz.f148.name,by decide,Tryz.func148.trans (congrArg some (by kernel_rfl))⟩
 f7 := ⟨Tryz.f165.name,by decide,Tryz.func165.trans (congrArg some (by kernel_rfl))⟩
 f8 := Tryz.func166.trans (congrArg some (by kernel_rfl))
 f10 := ⟨Tryz.f173.name,by decide,Tryz.func173.trans (congrArg some (by kernel_rfl))⟩
 f11 := ⟨Tryz.f174.name,by decide,Tryz.func174.trans (congrArg some (by kernel_rfl))⟩
 f12 := ⟨Tryz.f175.name,by decide,Tryz.func175.trans (congrArg some (by kernel_rfl))⟩
 f13 := ⟨Tryz.f176.name,by decide,Tryz.func176.trans (congrArg some (by kernel_rfl))⟩
 f14 := ⟨Tryz.f177.name,by decide,Tryz.func177.trans (congrArg some (by kernel_rfl))⟩
 f15 := ⟨Tryz.f178.name,by decide,Tryz.func178.trans (congrArg some (by kernel_rfl))⟩
 f16 := ⟨Tryz.f179.name,by decide,Tryz.func179.trans (congrArg some (by kernel_rfl))⟩
 f17 := ⟨Tryz.f180.name,by decide,Tryz.func180.trans (congrArg some (by kernel_rfl))⟩
 f18 := ⟨Tryz.f181.name,by decide,Tryz.func181.trans (congrArg some (by kernel_rfl))⟩
 f19 := Tryz.func182.trans (congrArg some (by kernel_rfl))
 f20 := Tryz.func183.trans (congrArg some (by kernel_rfl))
 f30 := ⟨Tryz.f187.name,by decide,Tryz.func187.trans (congrArg some (by kernel_rfl))⟩
 f31 := Tryz.func188.trans (congrArg some (by kernel_rfl))
 f32 := Tryz.func189.trans (congrArg some (by kernel_rfl))
 f33 := ⟨Tryz.f190.name,by decide,Tryz.func190.trans (congrArg some (by kernel_rfl))⟩
 f34 := ⟨Tryz.f191.name,by decide,Tryz.func191.trans (congrArg some (by kernel_rfl))⟩
 f35 := ⟨Tryz.f186.name,by decide,Tryz.func186.trans (congrArg some (by kernel_rfl))⟩
 f40 := ⟨Tryz.f192.name,by decide,Tryz.func192.trans (congrArg some (by kernel_rfl))⟩
 t0 := Tryz.underlying0
 a0 := Tryz.isAgg0
 z0 := Tryz.sizeOf0
 v0 := Tryz.zeroValue0
 t3 := Tryz.underlying3
 a3 := Tryz.isAgg3
 z3 := Tryz.sizeOf3
 v3 := Tryz.zeroValue3
 t4 := Tryz.underlying4
 a4 := Tryz.isAgg4
 z4 := Tryz.sizeOf4
 v4 := Tryz.zeroValue4
 t5 := Tryz.underlying5
 a5 := Tryz.isAgg5
 z5 := Tryz.sizeOf5
 v5 := Tryz.zeroValue5
 t9 := Tryz.underlying9
 a9 := Tryz.isAgg9
 z9 := Tryz.sizeOf9
 v9 := Tryz.zeroValue9
 t22 := Tryz.underlying46
 a22 := Tryz.isAgg46
 z22 := Tryz.sizeOf46
 v22 := Tryz.zeroValue46
 t23 := Tryz.underlying46
 a23 := Tryz.isAgg46
 z23 := Tryz.sizeOf46
 v23 := Tryz.zeroValue46
 t25 := Tryz.underlying3
 a25 := Tryz.isAgg3
 z25 := Tryz.sizeOf3
 v25 := Tryz.zeroValue3
 t32 := Tryz.underlying193
 a32 := Tryz.isAgg193
 z32 := Tryz.sizeOf193
 v32 := Tryz.zeroValue193
 t35 := Tryz.underlying231
 a35 := Tryz.isAgg231
 z35 := Tryz.sizeOf231
 v35 := Tryz.zeroValue231
 t36 := Tryz.underlying232
 a36 := Tryz.isAgg232
 z36 := Tryz.sizeOf232
 v36 := Tryz.zeroValue232
 t41 := Tryz.underlying227
 a41 := Tryz.isAgg227
 z41 := Tryz.sizeOf227
 v41 := Tryz.zeroValue227
 t44 := Tryz.underlying239
 a44 := Tryz.isAgg239
 z44 := Tryz.sizeOf239
 v44 := Tryz.zeroValue239
 t46 := Tryz.underlying151
 a46 := Tryz.isAgg151
 z46 := Tryz.sizeOf151
 v46 := Tryz.zeroValue151
 t53 := Tryz.underlying242
 a53 := Tryz.isAgg242
 z53 := Tryz.sizeOf242
 v53 := Tryz.zeroValue242
 t57 := Tryz.underlying83
 a57 := Tryz.isAgg83
 z57 := Tryz.sizeOf83
 v57 := Tryz.zeroValue83
 t63 := Tryz.underlying247
 a63 := Tryz.isAgg247
 z63 := Tryz.sizeOf247
 v63 := Tryz.zeroValue247
 t64 := Tryz.underlying248
 a64 := Tryz.isAgg248
 z64 := Tryz.sizeOf248
 v64 := Tryz.zeroValue248 }
end
section
open Go.ChangeShapes Go.WideShapes Go.ChangeAt Go.RowKit Go.Maps
def heldElem (v : Value) : Option (DataW Value × List MemPlace) := some (.held v,[])
def KMap (w : World) (b n : Nat) (L : List (Int × Value)) : Prop :=
 ∃ D : DataW Value,w.ownsMap Tryz.prog 3 heldElem b n D ∧ (∀ p ∈ L,∀ z,D.atKey (.int .i64 p.1) z = .held p.2) ∧ ∀ x,Maps.has D (.int .i64 x) = true ↔ x ∈ L.map Prod.fst
theorem KMap.lt {w : World} {b n : Nat} {L : List (Int × Value)} (h : KMap w b n L) : b < w.heap.size := by obtain ⟨D,h1,_⟩ := h; exact h1.lt
theorem KMap.made (w : World) : KMap (w.alloc (.map #[] 0)) w.heap.size 0 [] :=
 ⟨.map [],World.ownsMap_made w Tryz.prog 3 heldElem,fun p hp => (by cases hp),fun x => by simp [Maps.has]⟩
theorem KMap.kp {S : Nat → Prop} {w w1 : World} {b n : Nat} {L : List (Int × Value)} (h : KMap w b n L) (hk : Kp S w w1) (hs : ¬ S b) : KMap w1 b n L := by
 have hlt := h.lt;obtain ⟨D,⟨es,clock,hb,r⟩,h2⟩ := h;exact ⟨D,⟨es,clock,(hk.block b hlt hs).trans hb,r⟩,h2⟩
theorem KMap.below {w w1 : World} {b n : Nat} {L : List (Int × Value)} (h : KMap w b n L) (hk : Below w.heap.size w w1) : KMap w1 b n L := h.kp (S := fun _ => False) (Kp.ofBelow hk) (fun e => e)
theorem KMap.ne {w : World} {b n : Nat} {L : List (Int × Value)} (h : KMap w b n L) {g : Nat} {cs : Array Value} {t : TypeId} {fz : Nat × Nat} (hc : w.heap[g]? = some (.cells cs t fz)) : g ≠ b := by
 rintro rfl;obtain ⟨D,⟨es,clock,hb,_⟩,_⟩ := h;rw [hb] at hc; cases hc
def lookE (L : List (Int × Value)) (x : Int) : Value := ((L.find? fun e => decide (e.1 = x)).map Prod.snd).getD (.slice none 0 0)
theorem zeroTs (w : World) : (zeroValue 78).run Tryz.prog w = .ok (.slice none 0 0) w := by kernel_rfl
theorem KMap.look {w : World} {b n : Nat} {L : List (Int × Value)} (h : KMap w b n L) {x : Int} (hx : I64 x) :
  (Instr.lookup 106 (.map (some b)) (.int .i64 x) false).run Tryz.prog w = .ok (lookE L x) w := by
 obtain ⟨D,h1,h2,h3⟩ := h;obtain ⟨v,ps,hrun,hv⟩ := h1.lookup lawI Tryz.underlying106 (zeroTs w) (zd := .held (.slice none 0 0)) (zp := []) rfl (key_int hx);have hv' : DataW.held v = D.atKey (.int .i64 x) (.held (.slice none 0 0)) := congrArg Prod.fst (Option.some.inj hv);rw [hrun]
 congr 1
 unfold lookE
 cases hf : L.find? (fun e => decide (e.1 = x)) with
 | none =>
  have hn : Maps.has D (.int .i64 x) = false := by
   rw [Bool.eq_false_iff];intro hc;obtain ⟨p,hp,hpx⟩ := List.mem_map.1 ((h3 x).1 hc);exact absurd hpx (by simpa using List.find?_eq_none.1 hf p hp)
  rw [Maps.atKey_of_not_has hn] at hv';exact DataW.held.inj hv'
 | some p =>
  have hp := List.mem_of_find?_eq_some hf
  have hpx : p.1 = x := by simpa using List.find?_some hf
  have := h2 p hp (.held (.slice none 0 0));rw [hpx,← hv'] at this;exact DataW.held.inj this
theorem litI {x : Int} (hx : I64 x) : WideAt.IsKeyLit (.int .i64 x) := lawI.key (key_int hx)
theorem ne_lit {x y : Int} (h : x ≠ y) : Lit.int .i64 x ≠ Lit.int .i64 y := fun e => h (by cases e; rfl)
theorem Kp.ofGrown {w w' : World} {b : Nat} (h : w.grownBy w' (some b)) : Kp (fun q => q = b) w w' := (Kp.refl _ _).grown h (fun k e _ => by cases e; rfl)
theorem KMap.put {w : World} {b n : Nat} {L : List (Int × Value)} (h : KMap w b n L) (hn : n < maxLen) {x : Int} (hx : I64 x) (v : Value) :
  ∃ w',(Instr.mapUpdate 106 (.map (some b)) (.int .i64 x) v).run Tryz.prog w = .ok () w' ∧ KMap w' b (n + 1) (setE x v L) ∧ Kp (fun q => q = b) w w' := by
 obtain ⟨D,h1,h2,h3⟩ := h;obtain ⟨w',hrun,ho,hg⟩ := h1.update lawI Tryz.underlying106 hn (key_int hx) (val := v) (d := .held v) (ps := []) rfl;refine ⟨w',hrun,⟨_,ho,fun p hp z => ?_,fun y => ?_⟩,Kp.ofGrown hg⟩
 ·rcases mem_setE.1 hp with rfl | ⟨hp,hne⟩
  ·exact Maps.atKey_put_same h1.isMap (litI hx) _ _
  ·rw [Maps.atKey_put_other (ne_lit hne)]; exact h2 p hp z
 ·by_cases e : y = x
  ·subst e;rw [Maps.has_put_same h1.isMap (litI hx)];simp only [true_iff];exact List.mem_map.2 ⟨(y,v),mem_setE.2 (.inl rfl),rfl⟩
  ·rw [Maps.has_put_other (ne_lit e),h3 y];simp only [List.mem_map]
   constructor
   ·rintro ⟨p,hp,rfl⟩; exact ⟨p,mem_setE.2 (.inr ⟨hp,e⟩),rfl⟩
   ·rintro ⟨p,hp,rfl⟩
    rcases mem_setE.1 hp with rfl | ⟨hp,_⟩
    ·exact absurd rfl e
    ·exact ⟨p,hp,rfl⟩
theorem KMap.del {w : World} {b n : Nat} {L : List (Int × Value)} (h : KMap w b n L) {x : Int} (hx : I64 x) (ty : TypeId) :
  ∃ w',(Builtin.delete_ #[106,3] ty #[.map (some b),.int .i64 x]).run Tryz.prog w = .ok (.tuple #[]) w' ∧ KMap w' b n (delE x L) ∧ Kp (fun q => q = b) w w' := by
 obtain ⟨D,h1,h2,h3⟩ := h;obtain ⟨w',hrun,ho,hg⟩ := h1.drop lawI Tryz.underlying106 (key_int hx) ty;refine ⟨w',hrun,⟨_,ho,fun p hp z => ?_,fun y => ?_⟩,Kp.ofGrown hg.grown⟩
 ·obtain ⟨hp,hne⟩ := mem_delE.1 hp;rw [Maps.atKey_del_other (ne_lit hne)]; exact h2 p hp z
 ·by_cases e : y = x
  ·subst e;rw [Maps.has_del_same];simp only [Bool.false_eq_true,false_iff];intro hc;obtain ⟨p,hp,he⟩ := List.mem_map.1 hc;exact (mem_delE.1 hp).2 he
  ·rw [Maps.has_del_other (ne_lit e),h3 y];simp only [List.mem_map]
   constructor
   ·rintro ⟨p,hp,rfl⟩; exact ⟨p,mem_delE.2 ⟨hp,e⟩,rfl⟩
   ·rintro ⟨p,hp,rfl⟩; exact ⟨p,(mem_delE.1 hp).1,rfl⟩
theorem KMap.sorted {w : World} {b n : Nat} {L : List (Int × Value)} {D : DataW Value} (h1 : w.ownsMap Tryz.prog 3 heldElem b n D) (h3 : ∀ x,Maps.has D (.int .i64 x) = true ↔ x ∈ L.map Prod.fst) (hr : RisE L) {ss : List Int} (hp : ss.Perm (intKeys D)) :
  ss.mergeSort leI = L.map Prod.fst ∧ ss.length = L.length := by
 have hc : CollectedI D (fun _ => false) (L.map Prod.fst) := ⟨hr.nodup,fun x => by rw [h3 x]; simp⟩;have hq := hc.perm h1 lawI Tryz.underlying3 (fun _ => rfl);have hs : ss.Perm (L.map Prod.fst) := hp.trans hq.symm;refine ⟨?_,by simpa using hs.length_eq⟩;rw [mergeSort_of_perm_i hs];refine List.mergeSort_of_pairwise ?_;refine List.pairwise_map.2 (hr.imp fun {a b} hab => ?_);simp only [leI,decide_eq_true_eq]; omega
end
section
open Go.ChangeShapes Go.WideShapes Go.ChangeAt Go.RowKit
structure RowG (w : World) (v : Value) (size : Nat) (rs : List (List Value)) : Prop where
 form : ∃ a cap,v = .slice a rs.length cap ∧ rs.length ≤ cap ∧ cap ≤ maxLen ∧ (a = none → cap = 0) ∧ (rs ≠ [] → ∃ g off,a = some ⟨g,off,none⟩ ∧ ∀ i c u j,rs[i]? = some c → c[j]? = some u → w.cell? ⟨g,off + i * size + j,none⟩ = some u)
theorem RowG.below {w w1 : World} {v : Value} {size : Nat} {rs : List (List Value)} (h : RowG w v size rs) (hb : Below w.heap.size w w1) : RowG w1 v size rs := by
 obtain ⟨a,cap,h1,h2,h3,h0,h4⟩ := h.form;refine ⟨a,cap,h1,h2,h3,h0,fun hne => ?_⟩;obtain ⟨g,off,h5,h6⟩ := h4 hne;refine ⟨g,off,h5,fun i c u j hc hu => ?_⟩;have := h6 i c u j hc hu;rw [hb.cell (World.block_lt_of_cell? _ _ this)];exact this
theorem RowG.nil (w : World) (size : Nat) : RowG w (.slice none 0 0) size [] := ⟨none,0,rfl,Nat.le_refl _,by decide,fun _ => rfl,fun h => absurd rfl h⟩
theorem RowG.open {w : World} {v : Value} {size : Nat} {rs : List (List Value)} (h : RowG w v size rs) : ∃ a cap,v = .slice a rs.length cap ∧ rs.length ≤ cap ∧ cap ≤ maxLen ∧ (rs ≠ [] → ∃ g off,a = some ⟨g,off,none⟩) ∧ ∀ g off,a = some ⟨g,off,none⟩ → ∀ i c,rs[i]? = some c → ∀ j u,c[j]? = some u → w.cell? ⟨g,off + i * size + j,none⟩ = some u := by
 obtain ⟨a,cap,h1,h2,h3,_,h4⟩ := h.form;refine ⟨a,cap,h1,h2,h3,fun hne => ?_,?_⟩
 ·obtain ⟨g,off,h5,_⟩ := h4 hne;exact ⟨g,off,h5⟩
 ·intro g off ha i c hc j u hu
  have hne : rs ≠ [] := by intro e; rw [e] at hc; simp at hc
  obtain ⟨g',off',h5,h6⟩ := h4 hne;rw [ha] at h5
  simp at h5
  obtain ⟨rfl,rfl⟩ := h5;exact h6 i c u j hc hu
theorem flat_get {size : Nat} : ∀ (rs : List (List Value)),(∀ r ∈ rs,r.length = size) → ∀ (i : Nat) (c : List Value),rs[i]? = some c → ∀ j u,c[j]? = some u → rs.flatten[i * size + j]? = some u
 | [],_,i,c,h,_,_,_ => by simp at h
 | x :: l,hl,0,c,h,j,u,hu => by
  obtain rfl : x = c := by simpa using h
  rw [List.flatten_cons,Nat.zero_mul,Nat.zero_add,List.getElem?_append_left (List.getElem?_eq_some_iff.1 hu).1];exact hu
 | x :: l,hl,i + 1,c,h,j,u,hu => by
  have := flat_get l (fun r hr => hl r (List.mem_cons_of_mem _ hr)) i c (by simpa using h) j u hu;have hx := hl x (List.mem_cons_self ..);rw [List.flatten_cons,List.getElem?_append_right (by rw [hx,Nat.add_mul]; omega)]
  have e : (i + 1) * size + j - x.length = i * size + j := by rw [hx,Nat.add_mul]; omega
  rw [e];exact this
theorem flat_len {size : Nat} : ∀ (rs : List (List Value)),(∀ r ∈ rs,r.length = size) → rs.flatten.length = rs.length * size
 | [],_ => by simp
 | x :: l,hl => by
  rw [List.flatten_cons,List.length_append,flat_len l (fun r hr => hl r (List.mem_cons_of_mem _ hr)),hl x (List.mem_cons_self ..),List.length_cons,Nat.add_mul]; omega
theorem RowG.own {w : World} {B e size : Nat} {v : Value} {n : Nat} {rs : List (List Value)} (hl : ∀ r ∈ rs,r.length = size) (hs : 0 < size) (h : w.ownsRow B e size v n rs.flatten) : RowG w v size rs ∧ n = rs.length := by
 have hn : n = rs.length := by
  have := h.1;rw [flat_len rs hl] at this;exact (Nat.eq_of_mul_eq_mul_right hs this).symm
 have h0 := h;subst hn;refine ⟨?_,rfl⟩
 rcases h.2 with ⟨rfl,h2⟩ | ⟨g,cap,cur,rfl,hb,hg,hc,hm,_⟩
 ·have : rs = [] := List.eq_nil_of_length_eq_zero h2;subst this;exact RowG.nil w size
 ·refine ⟨_,cap,rfl,hc,hm,(fun e => by cases e),fun _ => ⟨g,0,rfl,fun i c u j hc hu => ?_⟩⟩;have := h0.cells (g := g) rfl (i * size + j) u (flat_get rs hl i c hc j u hu);rw [Addr.add_lit,Nat.zero_add] at this;rw [Nat.zero_add];exact this
theorem RowG.get {w : World} {a : Option Addr} {N cap size : Nat} {rs : List (List Value)} (h : RowG w (.slice a N cap) size rs) {i : Nat} {c : List Value} (hi : rs[i]? = some c) : ∃ g off,a = some ⟨g,off,none⟩ ∧ ∀ j u,c[j]? = some u → w.cell? ⟨g,off + i * size + j,none⟩ = some u := by
 obtain ⟨a',cap',e1,e2,e3,e4,e5⟩ := h.open;simp only [Value.slice.injEq] at e1;obtain ⟨rfl,_,_⟩ := e1;obtain ⟨g,off,rfl⟩ := e4 (by intro e; rw [e] at hi; simp at hi);exact ⟨g,off,rfl,fun j u hu => e5 g off rfl i c hi j u hu⟩
theorem RowG.form2 {w : World} {v : Value} {size : Nat} {rs : List (List Value)} (h : RowG w v size rs) : ∃ a cap,v = .slice a rs.length cap ∧ rs.length ≤ cap ∧ cap ≤ 9223372036854775807 := by
 obtain ⟨a',cap',e1,e2,e3,_⟩ := h.open;exact ⟨a',cap',e1,e2,by unfold maxLen at e3; omega⟩
def flRows (fs : List FlS) : List (List Value) := fs.map FlS.cells
def inRows (ns : List Int) : List (List Value) := ns.map fun n => [.int .i64 n]
def nmRows (vs : List NmS) : List (List Value) := vs.map NmS.cells
def mtRows (ms : List MtS) : List (List Value) := ms.map MtS.cells
def MsIn (w : World) (v : Value) (ms : List MsS) : Prop := ∃ rows : List (List Value),RowG w v 3 rows ∧ rows.length = ms.length ∧
 ∀ (i : Nat) (m : MsS),ms[i]? = some m → ∃ vf vr,rows[i]? = some [.string m.name,vf,vr] ∧ RowG w vf 5 (flRows m.fields) ∧ RowG w vr 1 (inRows m.reserved)
def EnIn (w : World) (v : Value) (es : List EnS) : Prop := ∃ rows : List (List Value),RowG w v 2 rows ∧ rows.length = es.length ∧
 ∀ (i : Nat) (e : EnS),es[i]? = some e → ∃ vv,rows[i]? = some [.string e.name,vv] ∧ RowG w vv 2 (nmRows e.values)
def ScIn (w : World) (v : Value) (s : ScS) : Prop := ∃ vm ve vt,v = .agg #[.string s.name,vm,ve,vt] ∧ MsIn w vm s.msgs ∧ EnIn w ve s.enums ∧ RowG w vt 3 (mtRows s.methods)
theorem MsIn.below {w w1 : World} {v : Value} {ms : List MsS} (h : MsIn w v ms) (hb : Below w.heap.size w w1) : MsIn w1 v ms := by
 obtain ⟨rows,h1,h2,h3⟩ := h;refine ⟨rows,h1.below hb,h2,fun i m hm => ?_⟩;obtain ⟨vf,vr,g1,g2,g3⟩ := h3 i m hm;exact ⟨vf,vr,g1,g2.below hb,g3.below hb⟩
theorem EnIn.below {w w1 : World} {v : Value} {es : List EnS} (h : EnIn w v es) (hb : Below w.heap.size w w1) : EnIn w1 v es := by
 obtain ⟨rows,h1,h2,h3⟩ := h;refine ⟨rows,h1.below hb,h2,fun i m hm => ?_⟩;obtain ⟨vv,g1,g2⟩ := h3 i m hm;exact ⟨vv,g1,g2.below hb⟩
theorem ScIn.below {w w1 : World} {v : Value} {s : ScS} (h : ScIn w v s) (hb : Below w.heap.size w w1) : ScIn w1 v s := by
 obtain ⟨vm,ve,vt,h1,h2,h3,h4⟩ := h;exact ⟨vm,ve,vt,h1,h2.below hb,h3.below hb,h4.below hb⟩
theorem MsIn.open {w : World} {v : Value} {ms : List MsS} (h : MsIn w v ms) : ∃ a cap,v = .slice a ms.length cap ∧ ms.length ≤ cap ∧ cap ≤ maxLen ∧ (ms ≠ [] → ∃ g off,a = some ⟨g,off,none⟩) ∧
  ∀ g off,a = some ⟨g,off,none⟩ → ∀ (i : Nat) (m : MsS),ms[i]? = some m → ∃ vf vr,w.cell? ⟨g,off + i * 3,none⟩ = some (.string m.name) ∧ w.cell? ⟨g,off + i * 3 + 1,none⟩ = some vf ∧ w.cell? ⟨g,off + i * 3 + 2,none⟩ = some vr ∧ RowG w vf 5 (flRows m.fields) ∧ RowG w vr 1 (inRows m.reserved) := by
 obtain ⟨rows,h1,h2,h3⟩ := h;obtain ⟨a,cap,e1,e2,e3,e4,e5⟩ := h1.open;rw [h2] at e1 e2;refine ⟨a,cap,e1,e2,e3,fun hne => e4 (fun e => ?_),fun g off ha i m hm => ?_⟩
 ·rw [e] at h2; exact hne (List.eq_nil_of_length_eq_zero h2.symm)
 ·obtain ⟨vf,vr,g1,g2,g3⟩ := h3 i m hm;exact ⟨vf,vr,e5 g off ha i _ g1 0 _ rfl,e5 g off ha i _ g1 1 _ rfl,e5 g off ha i _ g1 2 _ rfl,g2,g3⟩
theorem EnIn.open {w : World} {v : Value} {es : List EnS} (h : EnIn w v es) : ∃ a cap,v = .slice a es.length cap ∧ es.length ≤ cap ∧ cap ≤ maxLen ∧ (es ≠ [] → ∃ g off,a = some ⟨g,off,none⟩) ∧
  ∀ g off,a = some ⟨g,off,none⟩ → ∀ (i : Nat) (e : EnS),es[i]? = some e → ∃ vv,w.cell? ⟨g,off + i * 2,none⟩ = some (.string e.name) ∧ w.cell? ⟨g,off + i * 2 + 1,none⟩ = some vv ∧ RowG w vv 2 (nmRows e.values) := by
 obtain ⟨rows,h1,h2,h3⟩ := h;obtain ⟨a,cap,e1,e2,e3,e4,e5⟩ := h1.open;rw [h2] at e1 e2;refine ⟨a,cap,e1,e2,e3,fun hne => e4 (fun e => ?_),fun g off ha i m hm => ?_⟩
 ·rw [e] at h2; exact hne (List.eq_nil_of_length_eq_zero h2.symm)
 ·obtain ⟨vv,g1,g2⟩ := h3 i m hm;exact ⟨vv,e5 g off ha i _ g1 0 _ rfl,e5 g off ha i _ g1 1 _ rfl,g2⟩
theorem MsIn.get {w : World} {a : Option Addr} {N cap : Nat} {ms : List MsS} (h : MsIn w (.slice a N cap) ms) {i : Nat} {m : MsS} (hi : ms[i]? = some m) : ∃ g off vf vr,a = some ⟨g,off,none⟩ ∧ w.cell? ⟨g,off + i * 3,none⟩ = some (.string m.name) ∧ w.cell? ⟨g,off + i * 3 + 1,none⟩ = some vf ∧ w.cell? ⟨g,off + i * 3 + 2,none⟩ = some vr ∧ RowG w vf 5 (flRows m.fields) ∧ RowG w vr 1 (inRows m.reserved) := by
 obtain ⟨a',cap',e1,e2,e3,e4,e5⟩ := h.open;simp only [Value.slice.injEq] at e1;obtain ⟨rfl,_,_⟩ := e1;obtain ⟨g,off,rfl⟩ := e4 (by intro e; rw [e] at hi; simp at hi);obtain ⟨vf,vr,h1,h2,h3,h4,h5⟩ := e5 g off rfl i m hi;exact ⟨g,off,vf,vr,rfl,h1,h2,h3,h4,h5⟩
theorem EnIn.get {w : World} {a : Option Addr} {N cap : Nat} {ms : List EnS} (h : EnIn w (.slice a N cap) ms) {i : Nat} {m : EnS} (hi : ms[i]? = some m) : ∃ g off vv,a = some ⟨g,off,none⟩ ∧ w.cell? ⟨g,off + i * 2,none⟩ = some (.string m.name) ∧ w.cell? ⟨g,off + i * 2 + 1,none⟩ = some vv ∧ RowG w vv 2 (nmRows m.values) := by
 obtain ⟨a',cap',e1,e2,e3,e4,e5⟩ := h.open;simp only [Value.slice.injEq] at e1;obtain ⟨rfl,_,_⟩ := e1;obtain ⟨g,off,rfl⟩ := e4 (by intro e; rw [e] at hi; simp at hi);obtain ⟨vv,h1,h2,h3⟩ := e5 g off rfl i m hi;exact ⟨g,off,vv,rfl,h1,h2,h3⟩
theorem MsIn.form2 {w : World} {v : Value} {ms : List MsS} (h : MsIn w v ms) : ∃ a cap,v = .slice a ms.length cap ∧ ms.length ≤ cap ∧ cap ≤ 9223372036854775807 := by
 obtain ⟨a',cap',e1,e2,e3,_⟩ := h.open;exact ⟨a',cap',e1,e2,by unfold maxLen at e3; omega⟩
theorem EnIn.form2 {w : World} {v : Value} {ms : List EnS} (h : EnIn w v ms) : ∃ a cap,v = .slice a ms.length cap ∧ ms.length ≤ cap ∧ cap ≤ 9223372036854775807 := by
 obtain ⟨a',cap',e1,e2,e3,_⟩ := h.open;exact ⟨a',cap',e1,e2,by unfold maxLen at e3; omega⟩
def Blk (w : World) (b : Nat) (cs : Array Value) (t : TypeId) : Prop := w.heap[b]? = some (.cells cs t (0,0))
theorem Blk.new (w : World) (cs : Array Value) (t : TypeId) : Blk (w.alloc (.cells cs t)) w.heap.size cs t := heap_alloc_new w _
theorem Blk.kp {S : Nat → Prop} {w w' : World} {b : Nat} {cs : Array Value} {t : TypeId} (h : Blk w b cs t) (hk : Kp S w w') (hs : ¬ S b) : Blk w' b cs t := (hk.block b (Array.getElem?_eq_some_iff.1 h).1 hs).trans h
theorem Blk.lt {w : World} {b : Nat} {cs : Array Value} {t : TypeId} (h : Blk w b cs t) : b < w.heap.size := (Array.getElem?_eq_some_iff.1 h).1
theorem Blk.below {w w' : World} {b : Nat} {cs : Array Value} {t : TypeId} (h : Blk w b cs t) (hb : Below w.heap.size w w') : Blk w' b cs t := (hb.block b h.lt).trans h
theorem Blk.set {w : World} {b : Nat} {cs cs' : Array Value} {t : TypeId} (h : Blk w b cs t) (i : Nat) (u : Value) (hc : cs.setIfInBounds i u = cs') : Blk (w.setCell ⟨b,i,none⟩ u) b cs' t := by subst hc; exact block_set h i u
theorem Blk.other {w : World} {b : Nat} {cs : Array Value} {t : TypeId} (h : Blk w b cs t) {a : Addr} (hne : b ≠ a.block) (u : Value) : Blk (w.setCell a u) b cs t := by
 show _ = _
 rw [Below.heap_setCell _ _ _ _ hne]; exact h
theorem Blk.cell {w : World} {b : Nat} {cs : Array Value} {t : TypeId} (h : Blk w b cs t) (i : Nat) : w.cell? ⟨b,i,none⟩ = cs[i]? := block_cell h i
theorem cl2 {w : World} {b : Nat} {cs : Array Value} {t : TypeId} {a0 a1 : Value} (h : Blk w b cs t) (h0 : cs[0]? = some a0 := by rfl) (h1 : cs[1]? = some a1 := by rfl) : w.cell? ⟨b,0,none⟩ = some a0 ∧ w.cell? ⟨b,1,none⟩ = some a1 := ⟨(h.cell 0).trans h0,(h.cell 1).trans h1⟩
theorem cl3 {w : World} {b : Nat} {cs : Array Value} {t : TypeId} {a0 a1 a2 : Value} (h : Blk w b cs t) (h0 : cs[0]? = some a0 := by rfl) (h1 : cs[1]? = some a1 := by rfl) (h2 : cs[2]? = some a2 := by rfl) : w.cell? ⟨b,0,none⟩ = some a0 ∧ w.cell? ⟨b,1,none⟩ = some a1 ∧ w.cell? ⟨b,2,none⟩ = some a2 := ⟨(h.cell 0).trans h0,(h.cell 1).trans h1,(h.cell 2).trans h2⟩
theorem cl4 {w : World} {b : Nat} {cs : Array Value} {t : TypeId} {a0 a1 a2 a3 : Value} (h : Blk w b cs t) (h0 : cs[0]? = some a0 := by rfl) (h1 : cs[1]? = some a1 := by rfl) (h2 : cs[2]? = some a2 := by rfl) (h3 : cs[3]? = some a3 := by rfl) : w.cell? ⟨b,0,none⟩ = some a0 ∧ w.cell? ⟨b,1,none⟩ = some a1 ∧ w.cell? ⟨b,2,none⟩ = some a2 ∧ w.cell? ⟨b,3,none⟩ = some a3 := ⟨(h.cell 0).trans h0,(h.cell 1).trans h1,(h.cell 2).trans h2,(h.cell 3).trans h3⟩
theorem cl5 {w : World} {b : Nat} {cs : Array Value} {t : TypeId} {a0 a1 a2 a3 a4 : Value} (h : Blk w b cs t) (h0 : cs[0]? = some a0 := by rfl) (h1 : cs[1]? = some a1 := by rfl) (h2 : cs[2]? = some a2 := by rfl) (h3 : cs[3]? = some a3 := by rfl) (h4 : cs[4]? = some a4 := by rfl) : w.cell? ⟨b,0,none⟩ = some a0 ∧ w.cell? ⟨b,1,none⟩ = some a1 ∧ w.cell? ⟨b,2,none⟩ = some a2 ∧ w.cell? ⟨b,3,none⟩ = some a3 ∧ w.cell? ⟨b,4,none⟩ = some a4 := ⟨(h.cell 0).trans h0,(h.cell 1).trans h1,(h.cell 2).trans h2,(h.cell 3).trans h3,(h.cell 4).trans h4⟩
theorem Blk.froz {w : World} {b : Nat} {cs : Array Value} {t : TypeId} (h : Blk w b cs t) (i : Nat) : w.frozen? ⟨b,i,none⟩ = false := block_froz h i
theorem fz5 {w : World} {b : Nat} {cs : Array Value} {t : TypeId} (h : Blk w b cs t) : w.frozen? ⟨b,0,none⟩ = false ∧ w.frozen? ⟨b,1,none⟩ = false ∧ w.frozen? ⟨b,2,none⟩ = false ∧ w.frozen? ⟨b,3,none⟩ = false ∧ w.frozen? ⟨b,4,none⟩ = false := ⟨h.froz 0,h.froz 1,h.froz 2,h.froz 3,h.froz 4⟩
theorem results_cell {fn : Func} {p : Tmp} {ty : TypeId} (h : fn.results = #[.cell p ty]) (tmps : Array Value) (P : Program) (w : World) (a : Addr) (x : Value) (ha : (asAddr (tmps.getD p undef)).run P w = .ok a w) (hl : (loadVar ty a).run P w = .ok x w) :
  (results fn tmps).run P w = .ok x w := by
 simp only [results,h];simp only [Array.getD_eq_getD_getElem?] at ha
 simp [Sem.run_bind,Result.andThen,ha,hl]
theorem results_two {fn : Func} {p u : Tmp} {ty : TypeId} (h : fn.results = #[.cell p ty,.tmp u]) (tmps : Array Value) (P : Program) (w : World) (a : Addr) (x : Value) (ha : (asAddr (tmps.getD p undef)).run P w = .ok a w) (hl : (loadVar ty a).run P w = .ok x w) :
  (results fn tmps).run P w = .ok (.tuple #[x,tmps.getD u undef]) w := by
 simp only [results,h];simp only [Array.getD_eq_getD_getElem?] at ha
 simp [Sem.run_bind,Result.andThen,ha,hl]
end
end Go.Proofs.YtiajaocckkghgaaGreat
