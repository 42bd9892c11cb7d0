/- Part 4 of what the proof stands on. -/
import Derived.Test.YtiajaocckkghgabGreatPkSAC
import Derived.Lib.AppendStr
import Derived.Maps.OwnSet
import Derived.DeepKeys4
import Derived.Shelf.SlIterI.Nil
import Derived.Shelf.SortM.Plain
import Derived.Shelf.SortM.SortNone
import Derived.Ground.GgzProg
import Derived.Ground.SlgmProg
import Derived.Lib.SlKeysI
import Derived.OrdersHeld
import Derived.Deep.RegionHeld3
namespace Go.Proofs.YtiajaocckkghgabGreat
set_option maxHeartbeats 8000000
set_option linter.unusedVariables false
set_option linter.unusedSimpArgs false
set_option maxRecDepth 20000
section
open Go.ChangeShapes Go.WideShapes Go.ChangeAt Go.RowKit
def bytesN (b : ByteArray) : List Nat := b.data.toList.map UInt8.toNat
theorem bytesN_len (b : ByteArray) : (bytesN b).length = b.size := by
 rw [bytesN,List.length_map,Array.length_toList]
 rfl
theorem bytesN_lt (b : ByteArray) : ∀ n ∈ bytesN b,n < 256 := by
 intro n hn;simp only [bytesN,List.mem_map] at hn;obtain ⟨u,_,rfl⟩ := hn;exact u.toNat_lt
theorem strN_bytesN (b : ByteArray) : strN (bytesN b) = b := by
 apply ByteArray.ext
 apply Array.ext'
 simp only [strN,bytesN,List.map_map]
 conv => rhs; rw [← List.map_id b.data.toList]
 apply List.map_congr_left
 intro u _
 simp
theorem bytesN_strN (ns : List Nat) (h : ∀ n ∈ ns,n < 256) : bytesN (strN ns) = ns := by
 simp only [strN,bytesN,List.map_map]
 conv => rhs; rw [← List.map_id ns]
 apply List.map_congr_left
 intro n hn;have := h n hn
 simp [UInt8.toNat_ofNat']
 omega
theorem strCells_bytes (b : ByteArray) : Lib.strCells b = byteCells (bytesN b) := by
 simp [Lib.strCells,byteCells,bytesN]
def fieldN (r : Fd) : List Nat := digs (2 * r.tag + r.wire).toNat ++ if r.wire = 0 then digs (zigN r.n).toNat else digs r.b.size ++ bytesN r.b
theorem fieldN_num (t : Nat) (n : Int) (b : ByteArray) : fieldN ⟨t,0,n,b⟩ = digs (2 * t) ++ digs (zigN n).toNat := by
 simp only [fieldN,if_pos]; congr 2
theorem fieldN_text (t : Nat) (n : Int) (b : ByteArray) : fieldN ⟨t,1,n,b⟩ = digs (2 * t + 1) ++ (digs b.size ++ bytesN b) := by
 simp only [fieldN]; rw [if_neg (by decide)]; congr 2
def flatN (rs : List Fd) : List Nat := rs.flatMap fieldN
theorem flatN_app (a b : List Fd) : flatN (a ++ b) = flatN a ++ flatN b := by simp [flatN]
theorem flatN_nil : flatN [] = [] := rfl
theorem flatN_cons (r : Fd) (l : List Fd) : flatN (r :: l) = fieldN r ++ flatN l := by simp [flatN]
theorem fieldN_lt (r : Fd) : ∀ n ∈ fieldN r,n < 256 := by
 intro n hn;simp only [fieldN,List.mem_append] at hn
 rcases hn with hn | hn
 ·exact digs_lt _ _ hn
 ·split at hn
  ·exact digs_lt _ _ hn
  ·rcases List.mem_append.1 hn with hn | hn
   ·exact digs_lt _ _ hn
   ·exact bytesN_lt _ _ hn
theorem flatN_lt (rs : List Fd) : ∀ n ∈ flatN rs,n < 256 := by
 intro n hn;simp only [flatN,List.mem_flatMap] at hn;obtain ⟨r,_,h⟩ := hn;exact fieldN_lt r n h
theorem fieldN_len {r : Fd} (h : okF r = true) (hn : Is64 r.n) : 2 ≤ (fieldN r).length ∧ (fieldN r).length ≤ 4116 := by
 rcases ok_cases h hn with ⟨t,n,rfl,h1,h2,h3⟩ | ⟨t,b,rfl,h1,h2,h3⟩
 ·have hz := zigN_bd n h3.1 h3.2;have l1 := digs_len64 (2 * t) (by omega);have l2 := digs_len64 (zigN n).toNat (by omega);rw [fieldN_num,List.length_append]; omega
 ·have l1 := digs_len64 (2 * t + 1) (by omega);have l2 := digs_len64 b.size (by omega);rw [fieldN_text,List.length_append,List.length_append,bytesN_len]; omega
def putL (rs : List Fd) : List Nat × Nat := if rs.all okF = true then if (flatN rs).length ≤ 4096 then (flatN rs,0) else ([],4) else ([],1)
theorem putL_bad {rs : List Fd} (h : rs.all okF = false) : putL rs = ([],1) := by rw [putL,if_neg (by simp [h])]
theorem putL_big {rs : List Fd} (h : rs.all okF = true) (hb : 4096 < (flatN rs).length) : putL rs = ([],4) := by rw [putL,if_pos h,if_neg (by omega)]
theorem putL_ok {rs : List Fd} (h : rs.all okF = true) (hb : (flatN rs).length ≤ 4096) : putL rs = (flatN rs,0) := by rw [putL,if_pos h,if_pos hb]
def nextN (ns : List Nat) (p : Nat) : Fd × Nat × Nat :=
 let h := getF (ns.drop p) 0 0 p
 if h.2.2 ≠ 0 then (fd0,0,h.2.2) else
 if h.1 / 2 = 0 ∨ 500 < h.1 / 2 then (fd0,0,7) else
 let v := getF (ns.drop h.2.1) 0 0 h.2.1
 if v.2.2 ≠ 0 then (fd0,0,v.2.2) else
 if h.1 % 2 = 0 then (⟨(h.1 / 2 : Nat),0,zagN v.1,⟨#[]⟩⟩,v.2.1,0) else
 if ns.length - v.2.1 < v.1 then (fd0,0,2) else (⟨(h.1 / 2 : Nat),1,0,strN ((ns.drop v.2.1).take v.1)⟩,v.2.1 + v.1,0)
theorem next_e1 {ns : List Nat} {p h q e : Nat} (g : getF (ns.drop p) 0 0 p = (h,q,e)) (he : e ≠ 0) : nextN ns p = (fd0,0,e) := by
 simp only [nextN,g]; rw [if_pos he]
theorem next_tag {ns : List Nat} {p h q : Nat} (g : getF (ns.drop p) 0 0 p = (h,q,0)) (ht : h / 2 = 0 ∨ 500 < h / 2) : nextN ns p = (fd0,0,7) := by
 simp only [nextN,g]; rw [if_neg (by simp),if_pos ht]
theorem next_e2 {ns : List Nat} {p h q v q2 e : Nat} (g : getF (ns.drop p) 0 0 p = (h,q,0)) (ht : ¬ (h / 2 = 0 ∨ 500 < h / 2)) (g2 : getF (ns.drop q) 0 0 q = (v,q2,e)) (he : e ≠ 0) : nextN ns p = (fd0,0,e) := by
 simp only [nextN,g,g2]; rw [if_neg (by simp),if_neg ht,if_pos he]
theorem next_num {ns : List Nat} {p h q v q2 : Nat} (g : getF (ns.drop p) 0 0 p = (h,q,0)) (ht : ¬ (h / 2 = 0 ∨ 500 < h / 2)) (g2 : getF (ns.drop q) 0 0 q = (v,q2,0)) (hw : h % 2 = 0) :
  nextN ns p = (⟨(h / 2 : Nat),0,zagN v,⟨#[]⟩⟩,q2,0) := by
 simp only [nextN,g,g2]; rw [if_neg (by simp),if_neg ht,if_neg (by simp),if_pos hw]
theorem next_short {ns : List Nat} {p h q v q2 : Nat} (g : getF (ns.drop p) 0 0 p = (h,q,0)) (ht : ¬ (h / 2 = 0 ∨ 500 < h / 2)) (g2 : getF (ns.drop q) 0 0 q = (v,q2,0)) (hw : h % 2 ≠ 0) (hv : ns.length - q2 < v) :
  nextN ns p = (fd0,0,2) := by
 simp only [nextN,g,g2]; rw [if_neg (by simp),if_neg ht,if_neg (by simp),if_neg hw,if_pos hv]
theorem next_text {ns : List Nat} {p h q v q2 : Nat} (g : getF (ns.drop p) 0 0 p = (h,q,0)) (ht : ¬ (h / 2 = 0 ∨ 500 < h / 2)) (g2 : getF (ns.drop q) 0 0 q = (v,q2,0)) (hw : h % 2 ≠ 0) (hv : v ≤ ns.length - q2) :
  nextN ns p = (⟨(h / 2 : Nat),1,0,strN ((ns.drop q2).take v)⟩,q2 + v,0) := by
 simp only [nextN,g,g2]; rw [if_neg (by simp),if_neg ht,if_neg (by simp),if_neg hw,if_neg (by omega)]
theorem getF_end_bd : ∀ (l : List Nat) (i v p h q : Nat),getF l i v p = (h,q,0) → (∀ n ∈ l,n < 256) → i ≤ 9 → v < 128 ^ i → p + i < q ∧ q ≤ p + i + l.length ∧ h < 18446744073709551616
 | [],i,v,p,h,q,hg,_,_,_ => by simp [getF] at hg
 | c :: r,i,v,p,h,q,hg,hb,hi,hv => by
  have hc := hb c (by simp)
  by_cases h9 : i = 9 ∧ 1 < c
  ·rw [getF_ten r v p h9.1 h9.2] at hg; simp at hg
  ·by_cases h1 : 128 ≤ c
   ·rw [getF_on r v p h9 h1] at hg
    have hi8 : i ≤ 8 := by omega
    have hs : v + c % 128 * 128 ^ i < 128 ^ (i + 1) := by
     rw [Nat.pow_succ];have := Nat.mul_le_mul_right (128 ^ i) (show c % 128 + 1 ≤ 128 by omega);rw [Nat.add_mul] at this
     omega
    have := getF_end_bd r (i + 1) _ p h q hg (fun n hn => hb n (by simp [hn])) (by omega) hs;simp only [List.length_cons]
    omega
   ·by_cases h0 : c = 0 ∧ 0 < i
    ·rw [getF_zero r v p h9 h0.1 h0.2] at hg; simp at hg
    ·rw [getF_end r v p h9 (by omega) h0] at hg;simp only [Prod.mk.injEq,and_true] at hg;obtain ⟨rfl,rfl⟩ := hg;simp only [List.length_cons];refine ⟨by omega,by omega,?_⟩
     have hp9 : (128 : Nat) ^ 9 = 9223372036854775808 := by decide
     by_cases hi9 : i = 9
     ·subst hi9;have := Nat.mul_le_mul_right (128 ^ 9) (show c ≤ 1 by omega)
      omega
     ·have hp8 : 128 ^ i ≤ 128 ^ 8 := Nat.pow_le_pow_right (by decide) (by omega);have := Nat.mul_le_mul (show c ≤ 127 by omega) hp8
      have h8 : (127 : Nat) * 128 ^ 8 = 9151314442816847872 := by decide
      have h88 : (128 : Nat) ^ 8 = 72057594037927936 := by decide
      omega
theorem getF_at_bd {ns : List Nat} {p h q : Nat} (hg : getF (ns.drop p) 0 0 p = (h,q,0)) (hb : ∀ n ∈ ns,n < 256) (hp : p ≤ ns.length) : p < q ∧ q ≤ ns.length ∧ h < 18446744073709551616 := by
 have := getF_end_bd _ 0 0 p h q hg (fun n hn => hb n (List.mem_of_mem_drop hn)) (by omega) (by decide);rw [List.length_drop] at this
 omega
theorem nextN_bd {ns : List Nat} {p q : Nat} {r : Fd} (hx : nextN ns p = (r,q,0)) (hb : ∀ n ∈ ns,n < 256) (hp : p ≤ ns.length) : p < q ∧ q ≤ ns.length := by
 obtain ⟨⟨h,q1,e1⟩,g1⟩ : ∃ x,getF (ns.drop p) 0 0 p = x := ⟨_,rfl⟩
 by_cases he1 : e1 = 0
 ·subst he1
  by_cases ht : h / 2 = 0 ∨ 500 < h / 2
  ·rw [next_tag g1 ht] at hx; simp at hx
  ·have b1 := getF_at_bd g1 hb hp;obtain ⟨⟨v,q2,e2⟩,g2⟩ : ∃ x,getF (ns.drop q1) 0 0 q1 = x := ⟨_,rfl⟩
   by_cases he2 : e2 = 0
   ·subst he2;have b2 := getF_at_bd g2 hb (by omega)
    by_cases hw : h % 2 = 0
    ·rw [next_num g1 ht g2 hw] at hx; simp at hx; omega
    ·by_cases hv : ns.length - q2 < v
     ·rw [next_short g1 ht g2 hw hv] at hx; simp at hx
     ·rw [next_text g1 ht g2 hw (by omega)] at hx; simp at hx; omega
   ·rw [next_e2 g1 ht g2 he2] at hx; simp at hx; omega
 ·rw [next_e1 g1 he1] at hx; simp at hx; omega
def getAF : Nat → List Nat → Nat → List Fd × Nat
 | 0,ns,p => if p < ns.length then ([],(nextN ns p).2.2) else ([],0)
 | f + 1,ns,p =>
  if p < ns.length ∧ p < (nextN ns p).2.1 ∧ (nextN ns p).2.2 = 0 then
   let x := getAF f ns (nextN ns p).2.1
   if x.2 = 0 then ((nextN ns p).1 :: x.1,0) else ([],x.2)
  else if p < ns.length then ([],(nextN ns p).2.2) else ([],0)
def getA (ns : List Nat) (p : Nat) : List Fd × Nat := getAF (ns.length - p) ns p
theorem getAF_fuel (f : Nat) : ∀ (g : Nat) (ns : List Nat) (p : Nat),ns.length - p ≤ f → ns.length - p ≤ g → getAF f ns p = getAF g ns p := by
 induction f with
 | zero =>
  intro g ns p h1 _
  have h : ¬ p < ns.length := by omega
  cases g with
  | zero => rfl
  | succ g => simp only [getAF]; rw [if_neg h,if_neg (fun x => h x.1)]
 | succ f ih =>
  intro g ns p h1 h2
  cases g with
  | zero =>
   have h : ¬ p < ns.length := by omega
   simp only [getAF]; rw [if_neg (fun x => h x.1),if_neg h]
  | succ g =>
   simp only [getAF]
   by_cases h : p < ns.length ∧ p < (nextN ns p).2.1 ∧ (nextN ns p).2.2 = 0
   ·rw [if_pos h,if_pos h,ih g ns (nextN ns p).2.1 (by omega) (by omega)]
   ·rw [if_neg h,if_neg h]
theorem getA_eq (ns : List Nat) (p : Nat) : getA ns p = if p < ns.length ∧ p < (nextN ns p).2.1 ∧ (nextN ns p).2.2 = 0 then
  let x := getA ns (nextN ns p).2.1
  if x.2 = 0 then ((nextN ns p).1 :: x.1,0) else ([],x.2)
 else if p < ns.length then ([],(nextN ns p).2.2) else ([],0) := by
 unfold getA
 cases e : ns.length - p with
 | zero =>
  have h : ¬ p < ns.length := by omega
  simp only [getAF]; rw [if_neg h,if_neg (fun x => h x.1)]
 | succ f =>
  simp only [getAF]
  by_cases h : p < ns.length ∧ p < (nextN ns p).2.1 ∧ (nextN ns p).2.2 = 0
  ·rw [if_pos h,if_pos h,getAF_fuel f (ns.length - (nextN ns p).2.1) ns (nextN ns p).2.1 (by omega) (Nat.le_refl _)]
  ·rw [if_neg h,if_neg h]
def joinA (acc : List Fd) (x : List Fd × Nat) : List Fd × Nat := if x.2 = 0 then (acc ++ x.1,0) else ([],x.2)
theorem getA_end {ns : List Nat} {p : Nat} (h : ns.length ≤ p) : getA ns p = ([],0) := by
 rw [getA_eq,if_neg (by omega),if_neg (by omega)]
theorem getA_err {ns : List Nat} {p q e : Nat} {r : Fd} (h : p < ns.length) (hx : nextN ns p = (r,q,e)) (he : e ≠ 0) : getA ns p = ([],e) := by
 rw [getA_eq,if_neg (by rw [hx]; simp; omega),if_pos h,hx]
theorem getA_on {ns : List Nat} {p q : Nat} {r : Fd} (h : p < ns.length) (hx : nextN ns p = (r,q,0)) (hb : ∀ n ∈ ns,n < 256) : getA ns p = joinA [r] (getA ns q) := by
 have := (nextN_bd hx hb (by omega)).1;rw [getA_eq,if_pos (by rw [hx]; exact ⟨h,this,rfl⟩),hx];simp only [joinA,List.singleton_append]
theorem joinA_join (a b : List Fd) (x : List Fd × Nat) : joinA a (joinA b x) = joinA (a ++ b) x := by
 unfold joinA
 by_cases h : x.2 = 0
 ·simp [h]
 ·simp [h]
theorem joinA_nil (x : List Fd × Nat) (h : x.2 ≠ 0 → x.1 = []) : joinA [] x = x := by
 unfold joinA
 split <;> rename_i h2
 ·rw [List.nil_append]; exact Prod.ext rfl h2.symm
 ·exact Prod.ext (h h2).symm rfl
theorem getA_nil (ns : List Nat) (p : Nat) : (getA ns p).2 ≠ 0 → (getA ns p).1 = [] := by
 rw [getA_eq]
 split
 ·dsimp only
  split
  ·intro h; exact absurd rfl h
  ·intro _; rfl
 ·split <;> intro _ <;> rfl
theorem getA_len {ns : List Nat} (hb : ∀ n ∈ ns,n < 256) : ∀ k p,ns.length - p ≤ k → (getA ns p).1.length ≤ ns.length - p
 | 0,p,h => by rw [getA_end (by omega)]; simp
 | k + 1,p,h => by
  by_cases hp : p < ns.length
  ·obtain ⟨⟨r,q,e⟩,hx⟩ : ∃ x,nextN ns p = x := ⟨_,rfl⟩
   by_cases he : e = 0
   ·subst he;have hq := nextN_bd hx hb (by omega);have ih := getA_len hb k q (by omega);rw [getA_on hp hx hb,joinA]
    split
    ·simp; omega
    ·simp
   ·rw [getA_err hp hx he]; simp
  ·rw [getA_end (by omega)]; simp
def getL (ns : List Nat) : List Fd × Nat := if 4096 < ns.length then ([],4) else getA ns 0
theorem getL_len {ns : List Nat} (hb : ∀ n ∈ ns,n < 256) : (getL ns).1.length ≤ 4096 := by
 rw [getL]
 split
 ·simp
 ·have := getA_len hb ns.length 0 (by omega); omega
end
section
def wirK (k : Int) : Int := if k = 4 ∨ k = 5 ∨ k = 7 then 1 else 0
def leafD (r : Fd) : Tr := if r.wire = 1 then ⟨2,0,r.b,[],[]⟩ else ⟨1,r.n,⟨#[]⟩,[],[]⟩
def treeD (M : ByteArray → List Nat → Tr × Int) (f : FlS) (r : Fd) : Tr × Int :=
 if r.wire ≠ wirK f.kind then (tr0,8)
 else if (f.kind = 3 ∨ f.kind = 6) ∧ nmrB f.kind r.n = false then (tr0,11)
 else if f.kind = 4 ∧ validB r.b.data.toList = false then (tr0,9)
 else if f.kind = 7 then M f.tname (bytesN r.b)
 else (leafD r,0)
def setE {α : Type} (tag : Int) (x : α) (es : List (Int × α)) : List (Int × α) := es.filter (fun e => decide (e.1 < tag)) ++ (tag,x) :: es.filter (fun e => decide (tag < e.1))
def delE {α : Type} (tag : Int) (es : List (Int × α)) : List (Int × α) := es.filter fun e => decide (e.1 ≠ tag)
def undE (es : List (Int × List Tr)) (tag : Int) : List Tr := ((es.find? fun e => decide (e.1 = tag)).map Prod.snd).getD []
def putD (f : FlS) (x : Tr) (es : List (Int × List Tr)) : List (Int × List Tr) × Int :=
 if f.label = 3 then (if (undE es f.tag).length = 64 then (es,4) else (setE f.tag (undE es f.tag ++ [x]) es,0))
 else if f.label = 1 ∧ zroB x = true then (delE f.tag es,0)
 else (setE f.tag [x] es,0)
structure Ds where
 es : List (Int × List Tr)
 rest : List Fd
def oneD (M : ByteArray → List Nat → Tr × Int) (fs : List FlS) (st : Ds) (r : Fd) : Ds × Int :=
 match fldOf fs r.tag with
 | none => (⟨st.es,st.rest ++ [r]⟩,0)
 | some f => if (treeD M f r).2 ≠ 0 then (st,(treeD M f r).2) else (⟨(putD f (treeD M f r).1 st.es).1,st.rest⟩,(putD f (treeD M f r).1 st.es).2)
def runD (M : ByteArray → List Nat → Tr × Int) (fs : List FlS) : Ds → List Fd → Ds × Int
 | st,[] => (st,0)
 | st,r :: l => if (oneD M fs st r).2 ≠ 0 then oneD M fs st r else runD M fs (oneD M fs st r).1 l
def decM : Nat → ScS → ByteArray → List Nat → Tr × Int
 | 0,_,_,_ => (tr0,10)
 | k + 1,s,nm,ns => match msgOf s nm with
  | none => (tr0,14)
  | some m =>
   if (getL ns).2 ≠ 0 then (tr0,((getL ns).2 : Int))
   else if (runD (decM k s) m.fields ⟨[],[]⟩ (getL ns).1).2 ≠ 0 then (tr0,(runD (decM k s) m.fields ⟨[],[]⟩ (getL ns).1).2)
   else (⟨3,0,⟨#[]⟩,(runD (decM k s) m.fields ⟨[],[]⟩ (getL ns).1).1.es,sortF (runD (decM k s) m.fields ⟨[],[]⟩ (getL ns).1).1.rest⟩,0)
def decA (s : ScS) (nm : ByteArray) (ns : List Nat) : Tr × Int := if checkA s ≠ 0 then (tr0,1) else decM 10 s nm ns
theorem runD_app (M : ByteArray → List Nat → Tr × Int) (fs : List FlS) : ∀ (l l' : List Fd) (st : Ds),(runD M fs st l).2 = 0 → runD M fs st (l ++ l') = runD M fs (runD M fs st l).1 l'
 | [],_,_,_ => rfl
 | r :: l,l',st,h => by
  by_cases h1 : (oneD M fs st r).2 ≠ 0
  ·simp only [runD,if_pos h1] at h; exact absurd h h1
  ·simp only [runD,if_neg h1,List.cons_append] at h ⊢;exact runD_app M fs l l' _ h
theorem runD_err (M : ByteArray → List Nat → Tr × Int) (fs : List FlS) : ∀ (l l' : List Fd) (st : Ds),(runD M fs st l).2 ≠ 0 → runD M fs st (l ++ l') = runD M fs st l
 | [],_,_,h => absurd rfl h
 | r :: l,l',st,h => by
  by_cases h1 : (oneD M fs st r).2 ≠ 0
  ·simp only [runD,if_pos h1,List.cons_append]
  ·simp only [runD,if_neg h1,List.cons_append] at h ⊢;exact runD_err M fs l l' _ h
theorem runD_one (M : ByteArray → List Nat → Tr × Int) (fs : List FlS) (st : Ds) (r : Fd) : runD M fs st [r] = oneD M fs st r := by
 by_cases h1 : (oneD M fs st r).2 ≠ 0
 ·simp only [runD,if_pos h1]
 ·simp only [runD,if_neg h1]
  have h2 : (oneD M fs st r).2 = 0 := by omega
  exact Prod.ext rfl h2.symm
theorem setE_map {α β : Type} (g : α → β) (tag : Int) (x : α) (es : List (Int × α)) : (setE tag x es).map (fun e => (e.1,g e.2)) = setE tag (g x) (es.map fun e => (e.1,g e.2)) := by
 simp [setE,List.filter_map,Function.comp_def]
theorem delE_map {α β : Type} (g : α → β) (tag : Int) (es : List (Int × α)) : (delE tag es).map (fun e => (e.1,g e.2)) = delE tag (es.map fun e => (e.1,g e.2)) := by
 simp [delE,List.filter_map,Function.comp_def]
def RisE {α : Type} (es : List (Int × α)) : Prop := es.Pairwise fun a b => a.1 < b.1
theorem RisE.set {α : Type} {es : List (Int × α)} (h : RisE es) (tag : Int) (x : α) : RisE (setE tag x es) := by
 unfold RisE setE;refine List.pairwise_append.2 ⟨h.filter _,List.pairwise_cons.2 ⟨fun b hb => ?_,h.filter _⟩,fun a ha b hb => ?_⟩
 ·simpa using (List.mem_filter.1 hb).2
 ·have h1 : a.1 < tag := by simpa using (List.mem_filter.1 ha).2
  rcases List.mem_cons.1 hb with rfl | hb
  ·exact h1
  ·have h2 : tag < b.1 := by simpa using (List.mem_filter.1 hb).2
   omega
theorem RisE.del {α : Type} {es : List (Int × α)} (h : RisE es) (tag : Int) : RisE (delE tag es) := h.filter _
theorem RisE.nodup {α : Type} {es : List (Int × α)} (h : RisE es) : (es.map Prod.fst).Nodup := List.pairwise_map.2 (h.imp fun {a b} hab => by omega)
theorem mem_setE {α : Type} {tag : Int} {x : α} {es : List (Int × α)} {p : Int × α} : p ∈ setE tag x es ↔ p = (tag,x) ∨ (p ∈ es ∧ p.1 ≠ tag) := by
 simp only [setE,List.mem_append,List.mem_cons,List.mem_filter,decide_eq_true_eq]
 constructor
 ·rintro (⟨h1,h2⟩ | h | ⟨h1,h2⟩)
  ·exact .inr ⟨h1,by omega⟩
  ·exact .inl h
  ·exact .inr ⟨h1,by omega⟩
 ·rintro (h | ⟨h1,h2⟩)
  ·exact .inr (.inl h)
  ·rcases Int.lt_or_gt_of_ne h2 with h3 | h3
   ·exact .inl ⟨h1,h3⟩
   ·exact .inr (.inr ⟨h1,h3⟩)
theorem mem_delE {α : Type} {tag : Int} {es : List (Int × α)} {p : Int × α} : p ∈ delE tag es ↔ p ∈ es ∧ p.1 ≠ tag := by
 simp [delE,List.mem_filter]
theorem find_mem {α : Type} {es : List (Int × α)} (h : RisE es) {p : Int × α} (hp : p ∈ es) : es.find? (fun e => decide (e.1 = p.1)) = some p := by
 induction es with
 | nil => cases hp
 | cons a l ih =>
  rw [RisE,List.pairwise_cons] at h
  rcases List.mem_cons.1 hp with rfl | hp
  ·simp
  ·have h1 := h.1 p hp
   have h2 : ¬ a.1 = p.1 := by omega
   rw [List.find?_cons_of_neg (by simpa using h2)];exact ih h.2 hp
end
section
open Go.ChangeShapes Go.WideShapes Go.ChangeAt Go.RowKit
theorem infoRaw : (Tryz.prog.info? 44).map (fun i => (i.zero,i.size,i.bytes)) = some (some (.agg #[.int .i64 0,.int .i64 0,.int .i64 0,.string ⟨#[]⟩]),4,40) := by kernel_rfl
def rawCells (rs : List Fd) : List Value := rs.flatMap Fd.cells
theorem rawCells_nil : rawCells [] = [] := rfl
theorem rawCells_cons (r : Fd) (l : List Fd) : rawCells (r :: l) = r.cells ++ rawCells l := by simp [rawCells]
theorem rawCells_app (a b : List Fd) : rawCells (a ++ b) = rawCells a ++ rawCells b := by simp [rawCells]
theorem rawCells_len (rs : List Fd) : (rawCells rs).length = rs.length * 4 := by
 induction rs with
 | nil => rfl
 | cons r l ih => rw [rawCells_cons,List.length_append,ih,List.length_cons]; simp [Fd.cells]; omega
theorem rawCells_one (rs : List Fd) : ∀ u ∈ rawCells rs,u.oneCell' = true := by
 intro u hu;simp only [rawCells,List.mem_flatMap] at hu;obtain ⟨r,_,h⟩ := hu;simp only [Fd.cells,List.mem_cons,List.not_mem_nil,or_false] at h
 rcases h with rfl | rfl | rfl | rfl <;> rfl
theorem rawCells_get : ∀ (rs : List Fd) (i : Nat) (r : Fd),rs[i]? = some r → ∀ c u,r.cells[c]? = some u → (rawCells rs)[i * 4 + c]? = some u
 | [],i,r,h,c,u,hu => by simp at h
 | x :: l,0,r,h,c,u,hu => by
  obtain rfl : x = r := by simpa using h
  rw [rawCells_cons,Nat.zero_mul,Nat.zero_add,List.getElem?_append_left (List.getElem?_eq_some_iff.1 hu).1];exact hu
 | x :: l,i + 1,r,h,c,u,hu => by
  have := rawCells_get l i r (by simpa using h) c u hu;rw [rawCells_cons,List.getElem?_append_right (by simp [Fd.cells]; omega)]
  have e : (i + 1) * 4 + c - x.cells.length = i * 4 + c := by simp [Fd.cells]; omega
  rw [e];exact this
def HoldsR (w : World) (a : Option Addr) (rs : List Fd) : Prop := ∀ b,a = some b → ∀ j u,(rawCells rs)[j]? = some u → w.cell? (b.add j) = some u
theorem HoldsR.below {w w1 : World} {a : Option Addr} {rs : List Fd} (h : HoldsR w a rs) (hb : Below w.heap.size w w1) : HoldsR w1 a rs := by
 intro b hab j u hu;have := h b hab j u hu;rw [hb.cell (World.block_lt_of_cell? _ _ this)];exact this
theorem HoldsR.nil {w : World} {a : Option Addr} : HoldsR w a [] := by
 intro b _ j u hu
 simp [rawCells] at hu
theorem HoldsR.at {w : World} {g off : Nat} {rs : List Fd} (h : HoldsR w (some ⟨g,off,none⟩) rs) {i : Nat} {r : Fd} (hi : rs[i]? = some r) :
  w.cell? ⟨g,off + i * 4,none⟩ = some (.int .i64 r.tag) ∧ w.cell? ⟨g,off + i * 4 + 1,none⟩ = some (.int .i64 r.wire) ∧ w.cell? ⟨g,off + i * 4 + 2,none⟩ = some (.int .i64 r.n) ∧ w.cell? ⟨g,off + i * 4 + 3,none⟩ = some (.string r.b) := by
 refine ⟨?_,?_,?_,?_⟩
 ·have := h _ rfl _ _ (rawCells_get rs i r hi 0 _ rfl); rwa [Addr.add_lit] at this
 ·have := h _ rfl _ _ (rawCells_get rs i r hi 1 _ rfl); rwa [Addr.add_lit,← Nat.add_assoc] at this
 ·have := h _ rfl _ _ (rawCells_get rs i r hi 2 _ rfl); rwa [Addr.add_lit,← Nat.add_assoc] at this
 ·have := h _ rfl _ _ (rawCells_get rs i r hi 3 _ rfl); rwa [Addr.add_lit,← Nat.add_assoc] at this
theorem HoldsR.take {w : World} {a : Option Addr} {rs ss : List Fd} (h : HoldsR w a (rs ++ ss)) : HoldsR w a rs := by
 intro b hb j u hu;refine h b hb j u ?_;rw [rawCells_app,List.getElem?_append_left (List.getElem?_eq_some_iff.1 hu).1];exact hu
theorem own_openR {w : World} {B : Nat} {r : Value} {n : Nat} {rs : List Fd} (h : w.ownsRow B 44 4 r n (rawCells rs)) :
  ∃ a cap,r = .slice a rs.length cap ∧ n = rs.length ∧ ((a = none ∧ rs = [] ∧ cap = 0) ∨ ∃ g,a = some ⟨g,0,none⟩ ∧ B ≤ g ∧ g < w.heap.size) ∧ rs.length ≤ cap ∧ cap ≤ maxLen ∧ HoldsR w a rs := by
 have hn : n = rs.length := by have := h.1; rw [rawCells_len] at this; omega
 have h0 := h;subst hn
 rcases h.2 with ⟨rfl,h2⟩ | ⟨g,cap,cur,rfl,hb,hg,hc,hm,_⟩
 ·have : rs = [] := List.eq_nil_of_length_eq_zero h2;subst this;exact ⟨none,0,rfl,rfl,.inl ⟨rfl,rfl,rfl⟩,Nat.le_refl _,by decide,HoldsR.nil⟩
 ·refine ⟨_,cap,rfl,rfl,.inr ⟨g,rfl,hb,(Array.getElem?_eq_some_iff.1 hg).1⟩,hc,hm,?_⟩;intro b hb' j u hu
  obtain rfl : ⟨g,0,none⟩ = b := by simpa using hb'
  exact h0.cells (g := g) rfl j u hu
theorem wireOf_any (k : Int) (nm : ByteArray) (w : World) : Calls Tryz.prog 81 #[.agg #[.int .i64 k,.string nm]] w fun e w' => e = .returned (.int .i64 (wirK k)) ∧ Below w.heap.size w w' := by
 have hb : Below w.heap.size w (w.alloc (Obj.cells #[.int .i64 k,.string nm] 54)) := (Below.refl _ _).alloc (Nat.le_refl _) _
 by_cases h4 : k = 4
 ·subst h4
  go_enter Tryz.func81,Tryz.ntmps81
  go_wp2_with fail;go_ret;exact ⟨rfl,hb⟩
 by_cases h5 : k = 5
 ·subst h5;clear h4
  go_enter Tryz.func81,Tryz.ntmps81
  go_wp2_with fail;go_ret;exact ⟨rfl,hb⟩
 by_cases h7 : k = 7
 ·subst h7;clear h4 h5
  go_enter Tryz.func81,Tryz.ntmps81
  go_wp2_with fail;go_ret;exact ⟨rfl,hb⟩
 have hk : wirK k = 0 := by simp [wirK,h4,h5,h7]
 rw [hk]
 have d4 : (k == 4) = false := by simpa using h4
 have d5 : (k == 5) = false := by simpa using h5
 have d7 : (k == 7) = false := by simpa using h7
 clear h4 h5 h7 hk
 go_enter Tryz.func81,Tryz.ntmps81
 go_wp2_with fail;go_ret;exact ⟨rfl,hb⟩
def leafC (t : Tr) : List Value := [.int .i64 t.kind,.int .i64 t.n,.string t.s,.slice none 0 0,.slice none 0 0]
theorem leaf_any (tag wire n : Int) (b : ByteArray) (w : World) : Calls Tryz.prog 84 #[.agg #[.int .i64 tag,.int .i64 wire,.int .i64 n,.string b]] w fun e w' => e = .returned (.agg (leafC (leafD ⟨tag,wire,n,b⟩)).toArray) ∧ Below w.heap.size w w' := by
 by_cases h1 : wire = 1
 ·subst h1
  go_enter Tryz.func84,Tryz.ntmps84
  go_wp2_with fail;refine bodyPost_ret (results_cell rfl _ _ _ ⟨w.heap.size + 1,0,none⟩ (.agg #[.int .i64 2,.int .i64 0,.string b,.slice none 0 0,.slice none 0 0]) (by go_simp) (by go_simp)) rfl ⟨rfl,?_⟩
  repeat' first | exact Below.refl _ _ | refine Below.setCell ?_ (by simp) _ | refine Below.alloc ?_ (by simp) _
 ·have hl : leafD ⟨tag,wire,n,b⟩ = ⟨1,n,⟨#[]⟩,[],[]⟩ := by simp [leafD,h1]
  rw [hl]
  have d1 : (wire == 1) = false := by simpa using h1
  clear h1 hl
  go_enter Tryz.func84,Tryz.ntmps84
  go_wp2_with fail;refine bodyPost_ret (results_cell rfl _ _ _ ⟨w.heap.size + 1,0,none⟩ (.agg #[.int .i64 1,.int .i64 n,.string ⟨#[]⟩,.slice none 0 0,.slice none 0 0]) (by go_simp) (by go_simp)) rfl ⟨rfl,?_⟩
  repeat' first | exact Below.refl _ _ | refine Below.setCell ?_ (by simp) _ | refine Below.alloc ?_ (by simp) _
theorem key_any (s : ByteArray) (w : World) :
  Calls Tryz.prog 99 #[.string s] w fun e w' => e = .returned (.bool (keyB s)) ∧ w' = w := by
 go_enter Tryz.func99,Tryz.ntmps99
 go_wp2
 all_goals
  go_ret;refine ⟨ret_bool ?_,rfl⟩
  first | (simp [keyB, *]; done) | simp_all
theorem count_any (s : ByteArray) (w : World) (hs : s.size ≤ 140737488351232) :
  Calls Tryz.prog 98 #[.string s] w fun e w' => e = .returned (.int .i64 (countN s.data.toList)) ∧ Below w.heap.size w w' := by
 go_enter Tryz.func98,Tryz.ntmps98
 go_wp2
 go_loopw [3] (fun n wr => ∃ (pos : Nat) (acc : List Nat),wr = w.iter s pos ∧ n = .int .i64 acc.length ∧ acc.length ≤ pos ∧ Hid (Gone s.data.toList pos acc)) (fun _ wr => s.size - wr.iterPos w.heap.size)
 case atStart => exact ⟨0,[],rfl,rfl,by simp,Gone.start _⟩
 case round =>
  obtain ⟨pos,acc,rfl,rfl,hle,H⟩ := hrel
  by_cases hp : pos < s.size
  ·obtain ⟨c,k,hd,h1,h2⟩ := dec_at s pos hp
   have hnx : ∀ ty,(Instr.next (.pointer (some ⟨w.heap.size,0,none⟩)) true ty).run Tryz.prog (w.iter s pos) = .ok (.tuple #[.bool true,.int .i64 (pos : Int),.int .i32 (c : Int)]) (w.iter s (pos + k)) := by
    intro ty;have := run_next_any (P := Tryz.prog) w s pos ty hp;rw [hd] at this;exact this
   have H1 : Hid (standsB (s.data.toList.drop pos) c = true → nxL (s.data.toList.drop pos) = some (c,k)) := h1;have H2 : Hid (standsB (s.data.toList.drop pos) c = false → nxL (s.data.toList.drop pos) = none) := h2;clear hd h1 h2;go_wp2_with fail;refine (stands_any s _ _ _ hs (by omega) (by omega)).mono ?_;rintro e w' ⟨rfl,rfl⟩;rw [Int.toNat_natCast]
   cases hst : standsB (s.data.toList.drop pos) c with
   | false =>
    go_wp2
    go_ret;exact ⟨ret_int (by unfold countN; rw [H.out.bad (by rw [len_data]; exact hp) (H2.out hst)]; rfl),below_iter _ _ _⟩
   | true =>
    have HN := H1.out hst;have hk : 1 ≤ k := (nxL_some _ _ _ HN).2.2.2.1;have HG : Hid (Gone s.data.toList (pos + k) (acc ++ [c])) := H.out.step HN;clear HN
    go_wp2
    go_roundw
    case rel => exact ⟨pos + k,acc ++ [c],rfl,by simp,by simp; omega,HG⟩
    case measure => simp; omega
  ·have hnx : ∀ ty,(Instr.next (.pointer (some ⟨w.heap.size,0,none⟩)) true ty).run Tryz.prog (w.iter s pos) = _ := fun ty => run_next_end w s pos ty hp
   go_wp2
   go_ret;exact ⟨ret_int (by unfold countN; rw [H.out.done (by rw [len_data]; omega)]; rfl),below_iter _ _ _⟩
theorem nameB_off (s : ByteArray) {pos c k : Nat} {acc : List Nat} (h : Gone s.data.toList pos acc) (hn : nxL (s.data.toList.drop pos) = some (c,k)) (hb : (letB c || (!acc.isEmpty && digB c)) = false) : nameB s = false := by
 unfold nameB
 cases e : runesOf s.data.toList with
 | none => simp [countN,e]
 | some rs =>
  obtain ⟨rest,rfl⟩ := (h.step hn).len e
  have : okFrom true (acc ++ [c] ++ rest) = false := by
   rw [List.append_assoc,okFrom_append];simp only [List.singleton_append,okFrom,Bool.true_and];rw [hb]; simp
  simp only [Option.getD_some,this,Bool.and_false]
theorem name_any (s : ByteArray) (w : World) (hs : s.size ≤ 140737488351232) :
  Calls Tryz.prog 69 #[.string s] w fun e w' => e = .returned (.bool (nameB s)) ∧ Below w.heap.size w w' := by
 have hcl := countN_le s.data.toList;rw [len_data] at hcl
 by_cases hc1 : countN s.data.toList < 1
 ·have HX : Hid (false = nameB s) := by show false = _; unfold nameB; simp; omega
  go_enter Tryz.func69,Tryz.ntmps69
  go_wp2_with fail;refine (count_any s _ hs).mono ?_;rintro e w1 ⟨rfl,hw1⟩;generalize countN s.data.toList = n at *
  have hn1 : decide ((n : Int) < 1) = true := by simp; omega
  go_wp2_with fail;go_ret;exact ⟨ret_bool HX.out,hw1⟩
 ·by_cases hc2 : 20 < countN s.data.toList
  ·have HX : Hid (false = nameB s) := by show false = _; unfold nameB; simp; omega
   go_enter Tryz.func69,Tryz.ntmps69
   go_wp2_with fail;refine (count_any s _ hs).mono ?_;rintro e w1 ⟨rfl,hw1⟩;generalize countN s.data.toList = n at *
   have hn1 : decide ((n : Int) < 1) = false := by simp; omega
   have hn2 : decide (20 < (n : Int)) = true := by simp; omega
   go_wp2_with fail;go_ret;exact ⟨ret_bool HX.out,hw1⟩
  ·cases hk : keyB s with
   | true =>
    have HX : Hid (false = nameB s) := by show false = _; unfold nameB; simp [hk]
    have HK : Hid (keyB s = true) := hk;clear hk
    go_enter Tryz.func69,Tryz.ntmps69
    go_wp2_with fail;refine (count_any s _ hs).mono ?_;rintro e w1 ⟨rfl,hw1⟩;generalize countN s.data.toList = n at *
    have hn1 : decide ((n : Int) < 1) = false := by simp; omega
    have hn2 : decide (20 < (n : Int)) = false := by simp; omega
    go_wp2_with fail;refine (key_any s _).mono ?_;rintro e w2 ⟨rfl,rfl⟩;rw [HK.out];go_wp2_with fail;go_ret;exact ⟨ret_bool HX.out,hw1⟩
   | false =>
    obtain ⟨rs,hrs⟩ : ∃ rs,runesOf s.data.toList = some rs := by
     cases e : runesOf s.data.toList with
     | none => simp [countN,e] at hc1
     | some rs => exact ⟨rs,rfl⟩
    have HX : Hid (nameB s = okFrom true rs) := by
     show nameB s = _
     unfold nameB;rw [hk,hrs];simp only [Bool.not_false,Bool.and_true,Option.getD_some];rw [decide_eq_true (by omega),Bool.true_and]
    have HR : Hid (runesOf s.data.toList = some rs) := hrs;have HK : Hid (keyB s = false) := hk;clear hk hrs
    go_enter Tryz.func69,Tryz.ntmps69
    go_wp2_with fail;refine (count_any s _ hs).mono ?_;rintro e w1 ⟨rfl,hw1⟩;generalize countN s.data.toList = n at *
    have hn1 : decide ((n : Int) < 1) = false := by simp; omega
    have hn2 : decide (20 < (n : Int)) = false := by simp; omega
    go_wp2_with fail;refine (key_any s _).mono ?_;rintro e w2 ⟨rfl,rfl⟩;rw [HK.out];go_wp2_with fail
    go_loopw [] (fun wr => ∃ (pos : Nat) (acc : List Nat),wr = w2.iter s pos ∧ Hid (Gone s.data.toList pos acc) ∧ Hid (okFrom true acc = true) ∧ Hid (acc.isEmpty = decide (pos = 0))) (fun wr => s.size - wr.iterPos w2.heap.size)
    case atStart => exact ⟨0,[],rfl,Gone.start _,rfl,rfl⟩
    case round =>
     obtain ⟨pos,acc,rfl,H,HO,HE⟩ := hrel
     by_cases hp : pos < s.size
     ·obtain ⟨c,k,hd,h1,h2⟩ := dec_at s pos hp;obtain ⟨x,hx⟩ := nx_of_gone H.out (by rw [len_data]; exact hp) HR.out;have HN : Hid (nxL (s.data.toList.drop pos) = some (c,k)) := dec_of_nx h1 h2 hx
      have hnx : ∀ ty,(Instr.next (.pointer (some ⟨w2.heap.size,0,none⟩)) true ty).run Tryz.prog (w2.iter s pos) = .ok (.tuple #[.bool true,.int .i64 (pos : Int),.int .i32 (c : Int)]) (w2.iter s (pos + k)) := by
       intro ty;have := run_next_any (P := Tryz.prog) w2 s pos ty hp;rw [hd] at this;exact this
      have hk : 1 ≤ k := (nxL_some _ _ _ HN.out).2.2.2.1;have HG : Hid (Gone s.data.toList (pos + k) (acc ++ [c])) := H.out.step HN.out
      have HE2 : Hid ((acc ++ [c]).isEmpty = decide (pos + k = 0)) := by show _ = _; rw [decide_eq_false (by omega)]; cases acc <;> rfl
      clear hd h1 h2 hx;go_wp2_with fail;refine (letter_any _ _).mono ?_;rintro e w3 ⟨rfl,rfl⟩
      cases hl : letB c with
      | true =>
       have HO2 : Hid (okFrom true (acc ++ [c]) = true) := by show _ = _; rw [okFrom_append,HO.out]; simp [okFrom,hl]
       go_wp2_with fail
       go_roundw
       case rel => exact ⟨pos + k,acc ++ [c],rfl,HG,HO2,HE2⟩
       case measure => simp; omega
      | false =>
       by_cases hp0 : pos = 0
       ·have HF : Hid (false = nameB s) := (nameB_off s H.out HN.out (by rw [hl,HE.out]; simp [hp0])).symm
        have hpd : ((pos : Int) == 0) = true := by simp [hp0]
        clear hp0;go_wp2_with fail;go_ret;exact ⟨ret_bool HF.out,hw1.trans ((below_iter _ _ _).mono hw1.size)⟩
       ·have hpd : ((pos : Int) == 0) = false := by simp [hp0]
        go_wp2_with fail;refine (digit_any _ _).mono ?_;rintro e w4 ⟨rfl,rfl⟩
        cases hdg : digB c with
        | true =>
         have HO2 : Hid (okFrom true (acc ++ [c]) = true) := by show _ = _; rw [okFrom_append,HO.out,HE.out]; simp [okFrom,hdg,hp0]
         go_wp2_with fail
         go_roundw
         case rel => exact ⟨pos + k,acc ++ [c],rfl,HG,HO2,HE2⟩
         case measure => simp; omega
        | false =>
         have HF : Hid (false = nameB s) := (nameB_off s H.out HN.out (by rw [hl,hdg]; simp)).symm;go_wp2_with fail;go_ret;exact ⟨ret_bool HF.out,hw1.trans ((below_iter _ _ _).mono hw1.size)⟩
     ·have hnx : ∀ ty,(Instr.next (.pointer (some ⟨w2.heap.size,0,none⟩)) true ty).run Tryz.prog (w2.iter s pos) = _ := fun ty => run_next_end w2 s pos ty hp
      have HF : Hid (true = nameB s) := by
       show true = _
       have := H.out.done (by rw [len_data]; omega);rw [HR.out] at this
       simp at this
       rw [HX.out,this,HO.out]
      go_wp2
      go_ret;exact ⟨ret_bool HF.out,hw1.trans ((below_iter _ _ _).mono hw1.size)⟩
end
section
open Go.ChangeShapes Go.WideShapes Go.ChangeAt Go.RowKit Go.Maps
def SetK (k : TypeId) (w : World) (b n : Nat) (L : List Value) : Prop :=
 ∃ D : DataW Unit,w.ownsMap Tryz.prog k (unitElem (H := Unit)) b n D ∧ ∀ v kl,keyOf Tryz.prog k v = some kl → (Maps.has D kl = true ↔ v ∈ L)
theorem SetK.lt {k : TypeId} {w : World} {b n : Nat} {L : List Value} (h : SetK k w b n L) : b < w.heap.size := by obtain ⟨D,h1,_⟩ := h; exact h1.lt
theorem SetK.made (k : TypeId) (w : World) : SetK k (w.alloc (.map #[] 0)) w.heap.size 0 [] :=
 ⟨.map [],World.ownsMap_made w Tryz.prog k unitElem,fun v kl _ => by simp [Maps.has]⟩
theorem SetK.kp {k : TypeId} {S : Nat → Prop} {w w1 : World} {b n : Nat} {L : List Value} (h : SetK k w b n L) (hk : Kp S w w1) (hs : ¬ S b) : SetK k w1 b n L := by
 have hlt := h.lt;obtain ⟨D,⟨es,clock,hb,r⟩,h2⟩ := h;exact ⟨D,⟨es,clock,(hk.block b hlt hs).trans hb,r⟩,h2⟩
theorem SetK.below {k : TypeId} {w w1 : World} {b n : Nat} {L : List Value} (h : SetK k w b n L) (hk : Below w.heap.size w w1) : SetK k w1 b n L := h.kp (S := fun _ => False) (Kp.ofBelow hk) (fun e => e)
theorem SetK.put {k : TypeId} (K : Keyed Tryz.prog k) {w : World} {b n : Nat} {L : List Value} {D : DataW Unit} (hD : Maps.IsMap D) (h2 : ∀ v kl,keyOf Tryz.prog k v = some kl → (Maps.has D kl = true ↔ v ∈ L)) {v : Value} {kl : Lit} (hv : keyOf Tryz.prog k v = some kl) {u : DataW Unit}
  (h1 : w.ownsMap Tryz.prog k (unitElem (H := Unit)) b n (D.put kl u)) : SetK k w b n (L ++ [v]) := by
 refine ⟨_,h1,fun v' kl' hv' => ?_⟩
 by_cases e : kl' = kl
 ·subst e;have : v' = v := K.inj hv' hv;subst this;rw [Maps.has_put_same hD (K.key hv)]
  simp
 ·rw [Maps.has_put_other e,h2 v' kl' hv'];simp only [List.mem_append,List.mem_singleton]
  constructor
  ·exact .inl
  ·rintro (h | rfl)
   ·exact h
   ·rw [hv] at hv'; cases hv'; exact absurd rfl e
theorem SetK.ne {k : TypeId} {w : World} {b n : Nat} {L : List Value} (h : SetK k w b n L) {g : Nat} {p : Addr} {u : Value} (hc : w.cell? p = some u) (hg : p.block = g) : g ≠ b := by
 rintro rfl;obtain ⟨D,⟨es,clock,hb,_⟩,_⟩ := h;obtain ⟨q,off,sp⟩ := p;simp only at hg;subst hg
 simp [World.cell?,hb] at hc
theorem zeroU (w : World) : (zeroValue 123).run Tryz.prog w = .ok (.agg #[]) w := by kernel_rfl
def SetS (w : World) (b n : Nat) (L : List ByteArray) : Prop := SetK 9 w b n (L.map Value.string)
def SetI (w : World) (b n : Nat) (L : List Int) : Prop := SetK 3 w b n (L.map (Value.int .i64))
def tyV (p : Int × ByteArray) : Value := .agg #[.int .i64 p.1,.string p.2]
def SetT (w : World) (b n : Nat) (L : List (Int × ByteArray)) : Prop := SetK 54 w b n (L.map tyV)
theorem lawS : Keyed Tryz.prog 9 := string_keyed Tryz.underlying9
theorem lawI : Keyed Tryz.prog 3 := int_keyed Tryz.underlying3
theorem laidOutP : laidOutB Tryz.prog = true := by kernel_rfl
theorem lawT : Keyed Tryz.prog 54 := Keyed.of_law (deep_law_laid laidOutP (m := 3) (by omega) (of_decide_eq_true (by kernel_rfl)) (by kernel_rfl) (by kernel_rfl))
def I64 (n : Int) : Prop := -9223372036854775808 ≤ n ∧ n ≤ 9223372036854775807
theorem wf64 {n : Int} (h : I64 n) : (Lit.int .i64 n).wf = true := WalkArith.wf_i64 (by obtain ⟨h1,h2⟩ := h; omega)
theorem key_str {s : ByteArray} (h : s.size ≤ 140737488351232) : keyOf Tryz.prog 9 (.string s) = some (.string s.data.toList) :=
 WideMaps.keyOf_string_mk (P := Tryz.prog) (k := 9) Tryz.underlying9 (s := s) (by unfold maxLen; omega)
theorem key_int {n : Int} (h : I64 n) : keyOf Tryz.prog 3 (.int .i64 n) = some (.int .i64 n) :=
 keyOf_int_mk (P := Tryz.prog) (k := 3) Tryz.underlying3 (wf64 h)
theorem keyTypeT : Tryz.prog.keyType 54 = true := by kernel_rfl
theorem cellsT : Tryz.prog.cellsOf 54 = 2 := by kernel_rfl
theorem cellsI : Tryz.prog.cellsOf 3 = 1 := by kernel_rfl
theorem cellsS : Tryz.prog.cellsOf 9 = 1 := by kernel_rfl
theorem lits_int {m : Nat} {k : Int} (hk : I64 k) : Tryz.prog.keyLits (m + 1) 3 [.int .i64 k] = some [.int .i64 k] := by
 simp [Program.keyLits,Tryz.underlying3,wf64 hk]
theorem lits_str {m : Nat} {s : ByteArray} (hs : s.size ≤ 140737488351232) : Tryz.prog.keyLits (m + 1) 9 [.string s] = some [.string s.data.toList] := by
 have : s.size ≤ maxLen := by unfold maxLen; omega
 simp [Program.keyLits,Tryz.underlying9,this]
theorem lits_ty {m : Nat} {k : Int} {s : ByteArray} (hk : I64 k) (hs : s.size ≤ 140737488351232) : Tryz.prog.keyLits (m + 2) 54 [.int .i64 k,.string s] = some [.int .i64 k,.string s.data.toList] := by
 unfold Program.keyLits;simp only [Tryz.underlying54,cellsT]
 simp [cellsI,cellsS,lits_int hk,lits_str hs]
theorem key_ty {k : Int} {s : ByteArray} (hk : I64 k) (hs : s.size ≤ 140737488351232) : ∃ kl,keyOf Tryz.prog 54 (tyV (k,s)) = some kl := by
 obtain ⟨m,hm⟩ : ∃ m,Tryz.prog.types.size + 1 = m + 2 := ⟨Tryz.prog.types.size - 1,by have : 0 < Tryz.prog.types.size := of_decide_eq_true (by kernel_rfl); omega⟩
 have hf : (tyV (k,s)).formed Tryz.prog 54 = true := by simp [tyV,Value.formed,Tryz.underlying54,cellsT]
 unfold keyOf;rw [hm,show (tyV (k,s)).cells.toList = [.int .i64 k,.string s] from rfl,lits_ty hk hs,keyTypeT,hf];simp only [Tryz.underlying54];exact ⟨_,rfl⟩
theorem mem_str {s : ByteArray} {L : List ByteArray} : Value.string s ∈ L.map Value.string ↔ s ∈ L := by
 simp only [List.mem_map,Value.string.injEq,exists_eq_right]
theorem mem_int {s : Int} {L : List Int} : Value.int .i64 s ∈ L.map (Value.int .i64) ↔ s ∈ L := by
 simp only [List.mem_map,Value.int.injEq,true_and,exists_eq_right]
theorem mem_ty {s : Int × ByteArray} {L : List (Int × ByteArray)} : tyV s ∈ L.map tyV ↔ s ∈ L := by
 simp only [List.mem_map,tyV,Value.agg.injEq,Array.mk.injEq,List.cons.injEq,Value.int.injEq,Value.string.injEq,true_and,and_true]
 constructor
 ·rintro ⟨⟨a,b⟩,h1,h2,h3⟩; obtain ⟨c,d⟩ := s; simp only at h2 h3; subst h2 h3; exact h1
 ·intro h; exact ⟨s,h,rfl,rfl⟩
theorem SetS.has {w : World} {b n : Nat} {L : List ByteArray} {D : DataW Unit} (h2 : ∀ v kl,keyOf Tryz.prog 9 v = some kl → (Maps.has D kl = true ↔ v ∈ L.map Value.string)) {s : ByteArray} (hs : s.size ≤ 140737488351232) : Maps.has D (.string s.data.toList) = memB s L := by
 rw [Bool.eq_iff_iff,h2 _ _ (key_str hs),mem_str,memB_iff]
theorem SetI.has {w : World} {b n : Nat} {L : List Int} {D : DataW Unit} (h2 : ∀ v kl,keyOf Tryz.prog 3 v = some kl → (Maps.has D kl = true ↔ v ∈ L.map (Value.int .i64))) {s : Int} (hs : I64 s) : Maps.has D (.int .i64 s) = memI s L := by
 rw [Bool.eq_iff_iff,h2 _ _ (key_int hs),mem_int]
 simp [memI]
theorem has_str {w : World} {b n : Nat} {L : List ByteArray} (h : SetS w b n L) {s : ByteArray} (hs : s.size ≤ 140737488351232) :
  Calls Tryz.prog 121 #[.map (some b),.string s] w fun e w' => e = .returned (.bool (memB s L)) ∧ Below w.heap.size w w' := by
 obtain ⟨D,hown,h2⟩ := h;have HH : Hid (Maps.has D (.string s.data.toList) = memB s L) := SetS.has (w := w) (b := b) (n := n) h2 hs;have hkey := key_str hs;clear h2
 go_enter Tryz.func121,Tryz.ntmps121
 go_wp2_with (first
  | (at_lookup; refine wpList_lookup_own_unit _ rfl _ _ 106 rfl 9 123 lawS Tryz.underlying106 (zeroU _) b n D rfl hown _ _ rfl hkey ?_)
  | fail)
 go_ret;exact ⟨ret_bool HH.out,((Below.refl _ _).alloc (Nat.le_refl _) _)⟩
theorem has_int {w : World} {b n : Nat} {L : List Int} (h : SetI w b n L) {s : Int} (hs : I64 s) :
  Calls Tryz.prog 122 #[.map (some b),.int .i64 s] w fun e w' => e = .returned (.bool (memI s L)) ∧ Below w.heap.size w w' := by
 obtain ⟨D,hown,h2⟩ := h;have HH : Hid (Maps.has D (.int .i64 s) = memI s L) := SetI.has (w := w) (b := b) (n := n) h2 hs;have hkey := key_int hs;clear h2
 go_enter Tryz.func122,Tryz.ntmps122
 go_wp2_with (first
  | (at_lookup; refine wpList_lookup_own_unit _ rfl _ _ 127 rfl 3 123 lawI Tryz.underlying127 (zeroU _) b n D rfl hown _ _ rfl hkey ?_)
  | fail)
 go_ret;exact ⟨ret_bool HH.out,((Below.refl _ _).alloc (Nat.le_refl _) _)⟩
def memT (p : Int × ByteArray) (L : List (Int × ByteArray)) : Bool := L.any fun q => decide (p = q)
theorem memT_iff {p : Int × ByteArray} {L : List (Int × ByteArray)} : memT p L = true ↔ p ∈ L := by simp [memT]
theorem has_ty {w : World} {b n : Nat} {L : List (Int × ByteArray)} (h : SetT w b n L) {k : Int} {s : ByteArray} (hk : I64 k) (hs : s.size ≤ 140737488351232) :
  Calls Tryz.prog 77 #[.map (some b),.agg #[.int .i64 k,.string s]] w fun e w' => e = .returned (.bool (memT (k,s) L)) ∧ Below w.heap.size w w' := by
 obtain ⟨D,hown,h2⟩ := h;obtain ⟨kl,hkey⟩ := key_ty hk hs
 have HH : Hid (Maps.has D kl = memT (k,s) L) := by
  show _ = _
  rw [Bool.eq_iff_iff,h2 _ _ hkey,mem_ty,memT_iff]
 unfold tyV at hkey;simp only at hkey;clear h2
 go_enter Tryz.func77,Tryz.ntmps77
 go_wp2_with (first
  | (at_lookup; refine wpList_lookup_own_unit _ rfl _ _ 103 rfl 54 123 lawT Tryz.underlying103 (zeroU _) b n D rfl (hown.alloc _) _ _ rfl hkey ?_)
  | fail)
 go_ret;exact ⟨ret_bool HH.out,((Below.refl _ _).alloc (Nat.le_refl _) _).alloc (by simp) _⟩
theorem add_str {w : World} {b n : Nat} {L : List ByteArray} (h : SetS w b n L) {s : ByteArray} (hs : s.size ≤ 140737488351232) (hn : n < 1000000) :
  Calls Tryz.prog 102 #[.map (some b),.string s] w fun e w' => e = .returned (.bool (!memB s L)) ∧ (memB s L = false → SetS w' b (n + 1) (L ++ [s])) ∧ Kp (fun k => k = b) w w' := by
 have HS : Hid (SetS w b n L) := h;clear h;have hkey := key_str hs
 cases hm : memB s L
 ·go_enter Tryz.func102,Tryz.ntmps102
  go_wp2_with fail;refine (has_str HS.out hs).mono ?_;rintro e w1 ⟨rfl,hb1⟩;rw [hm];obtain ⟨D,hown,h2⟩ := HS.out.below hb1;have H2 : Hid _ := h2;clear h2
  go_wp2_with (first
   | (at_mapUpdate; refine wpList_mapUpdate_own _ rfl _ _ _ 106 rfl 9 123 lawS Tryz.underlying106 (unitElem (H := Unit)) b n _ rfl hown (by unfold maxLen; omega) _ _ _ rfl rfl hkey _ [] unitElem_mk ?_; intro w2 hown1 hgrow1)
   | fail)
  go_ret;refine ⟨rfl,fun _ => ?_,(Kp.ofBelow hb1).grown hgrow1 (fun k hk _ => by cases hk; rfl)⟩;have := SetK.put lawS hown.isMap H2.out hkey hown1;unfold SetS;rw [List.map_append];exact this
 ·go_enter Tryz.func102,Tryz.ntmps102
  go_wp2_with fail;refine (has_str HS.out hs).mono ?_;rintro e w1 ⟨rfl,hb1⟩;rw [hm];go_wp2_with fail;go_ret;exact ⟨rfl,(fun e => by cases e),Kp.ofBelow hb1⟩
theorem add_int {w : World} {b n : Nat} {L : List Int} (h : SetI w b n L) {s : Int} (hs : I64 s) (hn : n < 1000000) :
  Calls Tryz.prog 103 #[.map (some b),.int .i64 s] w fun e w' => e = .returned (.bool (!memI s L)) ∧ (memI s L = false → SetI w' b (n + 1) (L ++ [s])) ∧ Kp (fun k => k = b) w w' := by
 have HS : Hid (SetI w b n L) := h;clear h;have hkey := key_int hs
 cases hm : memI s L
 ·go_enter Tryz.func103,Tryz.ntmps103
  go_wp2_with fail;refine (has_int HS.out hs).mono ?_;rintro e w1 ⟨rfl,hb1⟩;rw [hm];obtain ⟨D,hown,h2⟩ := HS.out.below hb1;have H2 : Hid _ := h2;clear h2
  go_wp2_with (first
   | (at_mapUpdate; refine wpList_mapUpdate_own _ rfl _ _ _ 127 rfl 3 123 lawI Tryz.underlying127 (unitElem (H := Unit)) b n _ rfl hown (by unfold maxLen; omega) _ _ _ rfl rfl hkey _ [] unitElem_mk ?_; intro w2 hown1 hgrow1)
   | fail)
  go_ret;refine ⟨rfl,fun _ => ?_,(Kp.ofBelow hb1).grown hgrow1 (fun k hk _ => by cases hk; rfl)⟩;have := SetK.put lawI hown.isMap H2.out hkey hown1;unfold SetI;rw [List.map_append];exact this
 ·go_enter Tryz.func103,Tryz.ntmps103
  go_wp2_with fail;refine (has_int HS.out hs).mono ?_;rintro e w1 ⟨rfl,hb1⟩;rw [hm];go_wp2_with fail;go_ret;exact ⟨rfl,(fun e => by cases e),Kp.ofBelow hb1⟩
theorem newname_any {w : World} {b n : Nat} {L : List ByteArray} (h : SetS w b n L) {s : ByteArray} (hs : s.size ≤ 140737488351232) (hn : n < 1000000) :
  Calls Tryz.prog 71 #[.map (some b),.string s] w fun e w' => e = .returned (.bool (freshB s L)) ∧ (freshB s L = true → SetS w' b (n + 1) (L ++ [s])) ∧ Kp (fun k => k = b) w w' := by
 have HS : Hid (SetS w b n L) := h;clear h
 cases hm : nameB s
 ·have HF : Hid (false = freshB s L) := by show _ = _; unfold freshB; rw [hm]; rfl
  go_enter Tryz.func71,Tryz.ntmps71
  go_wp2_with fail;refine (name_any s _ hs).mono ?_;rintro e w1 ⟨rfl,hb1⟩;rw [hm];go_wp2_with fail;go_ret;exact ⟨ret_bool HF.out,(fun e => by rw [← HF.out] at e; cases e),Kp.ofBelow hb1⟩
 ·have HF : Hid ((!memB s L) = freshB s L) := by show _ = _; unfold freshB; rw [hm]; rfl
  go_enter Tryz.func71,Tryz.ntmps71
  go_wp2_with fail;refine (name_any s _ hs).mono ?_;rintro e w1 ⟨rfl,hb1⟩;rw [hm];go_wp2_with fail;refine (add_str (SetK.below HS.out hb1) hs hn).mono ?_;rintro e w2 ⟨rfl,h2,hk2⟩;have H2 : Hid _ := h2;clear h2;go_wp2_with fail;go_ret;exact ⟨ret_bool HF.out,(fun e => H2.out (by rw [← HF.out] at e; simpa using e)),(Kp.ofBelow hb1).trans hk2⟩
theorem newtag_any {w : World} {b n : Nat} {L : List Int} (h : SetI w b n L) {s : Int} (hs : I64 s) (hn : n < 1000000) :
  Calls Tryz.prog 72 #[.map (some b),.int .i64 s] w fun e w' => e = .returned (.bool (tagB s L)) ∧ (tagB s L = true → SetI w' b (n + 1) (L ++ [s])) ∧ Kp (fun k => k = b) w w' := by
 have HS : Hid (SetI w b n L) := h;clear h
 by_cases h1 : 1 ≤ s
 ·by_cases h5 : s ≤ 500
  ·have HF : Hid ((!memI s L) = tagB s L) := by show _ = _; unfold tagB tagR; rw [decide_eq_true (And.intro h1 h5)]; rfl
   go_enter Tryz.func72,Tryz.ntmps72
   go_wp2_with fail;refine (add_int HS.out hs hn).mono ?_;rintro e w2 ⟨rfl,h2,hk2⟩;have H2 : Hid _ := h2;clear h2;go_wp2_with fail;go_ret;exact ⟨ret_bool HF.out,(fun e => H2.out (by rw [← HF.out] at e; simpa using e)),hk2⟩
  ·have hd : decide (s ≤ 500) = false := by simpa using h5
   have HF : Hid (false = tagB s L) := by show _ = _; unfold tagB tagR; rw [decide_eq_false (fun e => h5 e.2)]; rfl
   go_enter Tryz.func72,Tryz.ntmps72
   go_wp2_with fail;go_ret;exact ⟨ret_bool HF.out,(fun e => by rw [← HF.out] at e; cases e),Kp.refl _ _⟩
 ·have hd : decide (1 ≤ s) = false := by simpa using h1
  have HF : Hid (false = tagB s L) := by show _ = _; unfold tagB tagR; rw [decide_eq_false (fun e => h1 e.1)]; rfl
  go_enter Tryz.func72,Tryz.ntmps72
  go_wp2_with fail;go_ret;exact ⟨ret_bool HF.out,(fun e => by rw [← HF.out] at e; cases e),Kp.refl _ _⟩
end
section
open Go.Shelf
def laysKeys_ren : Go.Shelf.Ren := ⟨fun | 7 => 87 | 10 => 111 | n => n,fun | 23 => 111 | 26 => 3 | 3 => 61 | 28 => 142 | 0 => 0 | 27 => 141 | 33 => 60 | 4 => 4 | n => n,fun | n => n⟩
theorem laysKeys : Go.Proofs.SlLaysZI.n7 Tryz.prog laysKeys_ren := {
 mixed := by kernel_rfl
 f7 := ⟨Tryz.f87.name,by decide,Tryz.func87.trans (congrArg some (by kernel_rfl))⟩
 f10 := ⟨Tryz.f111.name,by decide,Tryz.func111.trans (congrArg some (by kernel_rfl))⟩
 t0 := Tryz.underlying0
 a0 := Tryz.isAgg0
 z0 := Tryz.sizeOf0
 v0 := Tryz.zeroValue0
 t4 := Tryz.underlying4
 a4 := Tryz.isAgg4
 z4 := Tryz.sizeOf4
 v4 := Tryz.zeroValue4
 t23 := Tryz.underlying111
 a23 := Tryz.isAgg111
 z23 := Tryz.sizeOf111
 v23 := Tryz.zeroValue111
 t26 := Tryz.underlying3
 a26 := Tryz.isAgg3
 z26 := Tryz.sizeOf3
 v26 := Tryz.zeroValue3
 t27 := Tryz.underlying141
 a27 := Tryz.isAgg141
 z27 := Tryz.sizeOf141
 v27 := Tryz.zeroValue141
 t28 := Tryz.underlying142
 a28 := Tryz.isAgg142
 z28 := Tryz.sizeOf142
 v28 := Tryz.zeroValue142
 t33 := Tryz.underlying60
 a33 := Tryz.isAgg60
 z33 := Tryz.sizeOf60
 v33 := Tryz.zeroValue60 }
def laysSorted_ren : Go.Shelf.Ren := ⟨fun | 6 => 86 | 8 => 109 | 9 => 110 | 11 => 124 | 13 => 126 | 12 => 125 | 23 => 143 | 24 => 144 | 14 => 134 | 15 => 135 | 16 => 136 | 17 => 137 | 18 => 138 | 19 => 139 | 20 => 140 | 21 => 141 | 22 => 142 | 25 => 148 | 26 => 149 | 27 => 150 | 28 => 151 | 29 => 152 | 30 => 153 | 31 => 160 | n => n,fun | 26 => 3 | 28 => 142 | 24 => 27 | 0 => 0 | 3 => 3 | 37 => 122 | 48 => 196 | 50 => 100 | 4 => 4 | 40 => 188 | 39 => 187 | 45 => 193 | 5 => 5 | 9 => 9 | 51 => 210 | 55 => 79 | 57 => 219 | 58 => 220 | 33 => 60 | n => n,fun | n => n⟩
theorem laysSorted : Go.Proofs.SlLaysZI.n6 Tryz.prog laysSorted_ren := {
 mixed := by kernel_rfl
 f6 := ⟨Tryz.f86.name,by decide,Tryz.func86.trans (congrArg some (by kernel_rfl))⟩
 f8 := ⟨Tryz.f109.name,by decide,Tryz.func109.trans (congrArg some (by kernel_rfl))⟩
 f11 := ⟨Tryz.f124.name,by decide,Tryz.func124.trans (congrArg some (by kernel_rfl))⟩
 t0 := Tryz.underlying0
 a0 := Tryz.isAgg0
 z0 := Tryz.sizeOf0
 v0 := Tryz.zeroValue0
 t24 := Tryz.underlying27
 a24 := Tryz.isAgg27
 z24 := Tryz.sizeOf27
 v24 := Tryz.zeroValue27
 t26 := Tryz.underlying3
 a26 := Tryz.isAgg3
 z26 := Tryz.sizeOf3
 v26 := Tryz.zeroValue3
 t28 := Tryz.underlying142
 a28 := Tryz.isAgg142
 z28 := Tryz.sizeOf142
 v28 := Tryz.zeroValue142
 i26 := by kernel_rfl }
def laysSort_ren : Go.Shelf.Ren := ⟨fun | 5 => 110 | 8 => 126 | 7 => 125 | 19 => 143 | 20 => 144 | 10 => 134 | 11 => 135 | 12 => 136 | 13 => 137 | 14 => 138 | 15 => 139 | 16 => 140 | 17 => 141 | 18 => 142 | 30 => 148 | 31 => 149 | 32 => 150 | 33 => 151 | 34 => 152 | 35 => 153 | 40 => 160 | n => n,fun | 23 => 27 | 25 => 3 | 3 => 3 | 32 => 122 | 22 => 27 | 0 => 0 | 44 => 196 | 46 => 100 | 4 => 4 | 36 => 188 | 35 => 187 | 41 => 193 | 5 => 5 | 9 => 9 | 53 => 210 | 57 => 79 | 63 => 219 | 64 => 220 | n => n,fun | n => n⟩
theorem laysSort : Go.Proofs.SlLaysM.n5 Tryz.prog laysSort_ren := {
 mixed := by kernel_rfl
 f5 := ⟨Tryz.f110.name,by decide,Tryz.func110.trans (congrArg some (by kernel_rfl))⟩
 f7 := ⟨Tryz.f125.name,by decide,Tryz.func125.trans (congrArg some (by kernel_rfl))⟩
 f8 := Tryz.func126.trans (congrArg some (by kernel_rfl))
 f10 := ⟨Tryz.f134.name,by decide,Tryz.func134.trans (congrArg some (by kernel_rfl))⟩
 f11 := ⟨Tryz.f135.name,by decide,Tryz.func135.trans (congrArg some (by kernel_rfl))⟩
 f12 := ⟨Tryz.f136.name,by decide,Tryz.func136.trans (congrArg some (by kernel_rfl))⟩
 f13 := ⟨Tryz.f137.name,by decide,Tryz.func137.trans (congrArg some (by kernel_rfl))⟩
 f14 := ⟨Tryz.f138.name,by decide,Tryz.func138.trans (congrArg some (by kernel_rfl))⟩
 f15 := ⟨Tryz.f139.name,by decide,Tryz.func139.trans (congrArg some (by kernel_rfl))⟩
 f16 := ⟨Tryz.f140.name,by decide,Tryz.func140.trans (congrArg some (by kernel_rfl))⟩
 f17 := ⟨Tryz.f141.name,by decide,Tryz.func141.trans (congrArg some (by kernel_rfl))⟩
 f18 := ⟨Tryz.f142.name,by decide,Tryz.func142.trans (congrArg some (by kernel_rfl))⟩
 f19 := Tryz.func143.trans (congrArg some (by kernel_rfl))
 f20 := Tryz.func144.trans (congrArg some (by kernel_rfl))
 f30 := ⟨Tryz.f148.name,by decide,Tryz.func148.trans (congrArg some (by kernel_rfl))⟩
 f31 := Tryz.func149.trans (congrArg some (by kernel_rfl))
 f32 := Tryz.func150.trans (congrArg some (by kernel_rfl))
 f33 := ⟨Tryz.f151.name,by decide,Tryz.func151.trans (congrArg some (by kernel_rfl))⟩
 f34 := ⟨Tryz.f152.name,by decide,Tryz.func152.trans (congrArg some (by kernel_rfl))⟩
 f35 := ⟨Tryz.f153.name,by decide,Tryz.func153.trans (congrArg some (by kernel_rfl))⟩
 f40 := ⟨Tryz.f160.name,by decide,Tryz.func160.trans (congrArg some (by kernel_rfl))⟩
 t0 := Tryz.underlying0
 a0 := Tryz.isAgg0
 z0 := Tryz.sizeOf0
 v0 := Tryz.zeroValue0
 t3 := Tryz.underlying3
 a3 := Tryz.isAgg3
 z3 := Tryz.sizeOf3
 v3 := Tryz.zeroValue3
 t4 := Tryz.underlying4
 a4 := Tryz.isAgg4
 z4 := Tryz.sizeOf4
 v4 := Tryz.zeroValue4
 t5 := Tryz.underlying5
 a5 := Tryz.isAgg5
 z5 := Tryz.sizeOf5
 v5 := Tryz.zeroValue5
 t9 := Tryz.underlying9
 a9 := Tryz.isAgg9
 z9 := Tryz.sizeOf9
 v9 := Tryz.zeroValue9
 t22 := Tryz.underlying27
 a22 := Tryz.isAgg27
 z22 := Tryz.sizeOf27
 v22 := Tryz.zeroValue27
 t23 := Tryz.underlying27
 a23 := Tryz.isAgg27
 z23 := Tryz.sizeOf27
 v23 := Tryz.zeroValue27
 t25 := Tryz.underlying3
 a25 := Tryz.isAgg3
 z25 := Tryz.sizeOf3
 v25 := Tryz.zeroValue3
 t32 := Tryz.underlying122
 a32 := Tryz.isAgg122
 z32 := Tryz.sizeOf122
 v32 := Tryz.zeroValue122
 t35 := Tryz.underlying187
 a35 := Tryz.isAgg187
 z35 := Tryz.sizeOf187
 v35 := Tryz.zeroValue187
 t36 := Tryz.underlying188
 a36 := Tryz.isAgg188
 z36 := Tryz.sizeOf188
 v36 := Tryz.zeroValue188
 t41 := Tryz.underlying193
 a41 := Tryz.isAgg193
 z41 := Tryz.sizeOf193
 v41 := Tryz.zeroValue193
 t44 := Tryz.underlying196
 a44 := Tryz.isAgg196
 z44 := Tryz.sizeOf196
 v44 := Tryz.zeroValue196
 t46 := Tryz.underlying100
 a46 := Tryz.isAgg100
 z46 := Tryz.sizeOf100
 v46 := Tryz.zeroValue100
 t53 := Tryz.underlying210
 a53 := Tryz.isAgg210
 z53 := Tryz.sizeOf210
 v53 := Tryz.zeroValue210
 t57 := Tryz.underlying79
 a57 := Tryz.isAgg79
 z57 := Tryz.sizeOf79
 v57 := Tryz.zeroValue79
 t63 := Tryz.underlying219
 a63 := Tryz.isAgg219
 z63 := Tryz.sizeOf219
 v63 := Tryz.zeroValue219
 t64 := Tryz.underlying220
 a64 := Tryz.isAgg220
 z64 := Tryz.sizeOf220
 v64 := Tryz.zeroValue220 }
end
section
open Go.ChangeShapes Go.WideShapes Go.ChangeAt Go.RowKit Go.Maps
def heldElem (v : Value) : Option (DataW Value × List MemPlace) := some (.held v,[])
def KMap (w : World) (b n : Nat) (L : List (Int × Value)) : Prop :=
 ∃ D : DataW Value,w.ownsMap Tryz.prog 3 heldElem b n D ∧ (∀ p ∈ L,∀ z,D.atKey (.int .i64 p.1) z = .held p.2) ∧ ∀ x,Maps.has D (.int .i64 x) = true ↔ x ∈ L.map Prod.fst
theorem KMap.lt {w : World} {b n : Nat} {L : List (Int × Value)} (h : KMap w b n L) : b < w.heap.size := by obtain ⟨D,h1,_⟩ := h; exact h1.lt
theorem KMap.made (w : World) : KMap (w.alloc (.map #[] 0)) w.heap.size 0 [] :=
 ⟨.map [],World.ownsMap_made w Tryz.prog 3 heldElem,fun p hp => (by cases hp),fun x => by simp [Maps.has]⟩
theorem KMap.kp {S : Nat → Prop} {w w1 : World} {b n : Nat} {L : List (Int × Value)} (h : KMap w b n L) (hk : Kp S w w1) (hs : ¬ S b) : KMap w1 b n L := by
 have hlt := h.lt;obtain ⟨D,⟨es,clock,hb,r⟩,h2⟩ := h;exact ⟨D,⟨es,clock,(hk.block b hlt hs).trans hb,r⟩,h2⟩
theorem KMap.below {w w1 : World} {b n : Nat} {L : List (Int × Value)} (h : KMap w b n L) (hk : Below w.heap.size w w1) : KMap w1 b n L := h.kp (S := fun _ => False) (Kp.ofBelow hk) (fun e => e)
theorem KMap.ne {w : World} {b n : Nat} {L : List (Int × Value)} (h : KMap w b n L) {g : Nat} {cs : Array Value} {t : TypeId} {fz : Nat × Nat} (hc : w.heap[g]? = some (.cells cs t fz)) : g ≠ b := by
 rintro rfl;obtain ⟨D,⟨es,clock,hb,_⟩,_⟩ := h;rw [hb] at hc; cases hc
def lookE (L : List (Int × Value)) (x : Int) : Value := ((L.find? fun e => decide (e.1 = x)).map Prod.snd).getD (.slice none 0 0)
theorem zeroTs (w : World) : (zeroValue 61).run Tryz.prog w = .ok (.slice none 0 0) w := by kernel_rfl
theorem KMap.look {w : World} {b n : Nat} {L : List (Int × Value)} (h : KMap w b n L) {x : Int} (hx : I64 x) :
  (Instr.lookup 111 (.map (some b)) (.int .i64 x) false).run Tryz.prog w = .ok (lookE L x) w := by
 obtain ⟨D,h1,h2,h3⟩ := h;obtain ⟨v,ps,hrun,hv⟩ := h1.lookup lawI Tryz.underlying111 (zeroTs w) (zd := .held (.slice none 0 0)) (zp := []) rfl (key_int hx);have hv' : DataW.held v = D.atKey (.int .i64 x) (.held (.slice none 0 0)) := congrArg Prod.fst (Option.some.inj hv);rw [hrun]
 congr 1
 unfold lookE
 cases hf : L.find? (fun e => decide (e.1 = x)) with
 | none =>
  have hn : Maps.has D (.int .i64 x) = false := by
   rw [Bool.eq_false_iff];intro hc;obtain ⟨p,hp,hpx⟩ := List.mem_map.1 ((h3 x).1 hc);exact absurd hpx (by simpa using List.find?_eq_none.1 hf p hp)
  rw [Maps.atKey_of_not_has hn] at hv';exact DataW.held.inj hv'
 | some p =>
  have hp := List.mem_of_find?_eq_some hf
  have hpx : p.1 = x := by simpa using List.find?_some hf
  have := h2 p hp (.held (.slice none 0 0));rw [hpx,← hv'] at this;exact DataW.held.inj this
theorem litI {x : Int} (hx : I64 x) : WideAt.IsKeyLit (.int .i64 x) := lawI.key (key_int hx)
theorem ne_lit {x y : Int} (h : x ≠ y) : Lit.int .i64 x ≠ Lit.int .i64 y := fun e => h (by cases e; rfl)
theorem Kp.ofGrown {w w' : World} {b : Nat} (h : w.grownBy w' (some b)) : Kp (fun q => q = b) w w' := (Kp.refl _ _).grown h (fun k e _ => by cases e; rfl)
theorem KMap.put {w : World} {b n : Nat} {L : List (Int × Value)} (h : KMap w b n L) (hn : n < maxLen) {x : Int} (hx : I64 x) (v : Value) :
  ∃ w',(Instr.mapUpdate 111 (.map (some b)) (.int .i64 x) v).run Tryz.prog w = .ok () w' ∧ KMap w' b (n + 1) (setE x v L) ∧ Kp (fun q => q = b) w w' := by
 obtain ⟨D,h1,h2,h3⟩ := h;obtain ⟨w',hrun,ho,hg⟩ := h1.update lawI Tryz.underlying111 hn (key_int hx) (val := v) (d := .held v) (ps := []) rfl;refine ⟨w',hrun,⟨_,ho,fun p hp z => ?_,fun y => ?_⟩,Kp.ofGrown hg⟩
 ·rcases mem_setE.1 hp with rfl | ⟨hp,hne⟩
  ·exact Maps.atKey_put_same h1.isMap (litI hx) _ _
  ·rw [Maps.atKey_put_other (ne_lit hne)]; exact h2 p hp z
 ·by_cases e : y = x
  ·subst e;rw [Maps.has_put_same h1.isMap (litI hx)];simp only [true_iff];exact List.mem_map.2 ⟨(y,v),mem_setE.2 (.inl rfl),rfl⟩
  ·rw [Maps.has_put_other (ne_lit e),h3 y];simp only [List.mem_map]
   constructor
   ·rintro ⟨p,hp,rfl⟩; exact ⟨p,mem_setE.2 (.inr ⟨hp,e⟩),rfl⟩
   ·rintro ⟨p,hp,rfl⟩
    rcases mem_setE.1 hp with rfl | ⟨hp,_⟩
    ·exact absurd rfl e
    ·exact ⟨p,hp,rfl⟩
theorem KMap.del {w : World} {b n : Nat} {L : List (Int × Value)} (h : KMap w b n L) {x : Int} (hx : I64 x) (ty : TypeId) :
  ∃ w',(Builtin.delete_ #[111,3] ty #[.map (some b),.int .i64 x]).run Tryz.prog w = .ok (.tuple #[]) w' ∧ KMap w' b n (delE x L) ∧ Kp (fun q => q = b) w w' := by
 obtain ⟨D,h1,h2,h3⟩ := h;obtain ⟨w',hrun,ho,hg⟩ := h1.drop lawI Tryz.underlying111 (key_int hx) ty;refine ⟨w',hrun,⟨_,ho,fun p hp z => ?_,fun y => ?_⟩,Kp.ofGrown hg.grown⟩
 ·obtain ⟨hp,hne⟩ := mem_delE.1 hp;rw [Maps.atKey_del_other (ne_lit hne)]; exact h2 p hp z
 ·by_cases e : y = x
  ·subst e;rw [Maps.has_del_same];simp only [Bool.false_eq_true,false_iff];intro hc;obtain ⟨p,hp,he⟩ := List.mem_map.1 hc;exact (mem_delE.1 hp).2 he
  ·rw [Maps.has_del_other (ne_lit e),h3 y];simp only [List.mem_map]
   constructor
   ·rintro ⟨p,hp,rfl⟩; exact ⟨p,mem_delE.2 ⟨hp,e⟩,rfl⟩
   ·rintro ⟨p,hp,rfl⟩; exact ⟨p,(mem_delE.1 hp).1,rfl⟩
theorem KMap.sorted {w : World} {b n : Nat} {L : List (Int × Value)} {D : DataW Value} (h1 : w.ownsMap Tryz.prog 3 heldElem b n D) (h3 : ∀ x,Maps.has D (.int .i64 x) = true ↔ x ∈ L.map Prod.fst) (hr : RisE L) {ss : List Int} (hp : ss.Perm (intKeys D)) :
  ss.mergeSort leI = L.map Prod.fst ∧ ss.length = L.length := by
 have hc : CollectedI D (fun _ => false) (L.map Prod.fst) := ⟨hr.nodup,fun x => by rw [h3 x]; simp⟩;have hq := hc.perm h1 lawI Tryz.underlying3 (fun _ => rfl);have hs : ss.Perm (L.map Prod.fst) := hp.trans hq.symm;refine ⟨?_,by simpa using hs.length_eq⟩;rw [mergeSort_of_perm_i hs];refine List.mergeSort_of_pairwise ?_;refine List.pairwise_map.2 (hr.imp fun {a b} hab => ?_);simp only [leI,decide_eq_true_eq]; omega
end
section
open Go.ChangeShapes Go.WideShapes Go.ChangeAt Go.RowKit
theorem lawPlace_any (v n : Int) (w : World) (hv1 : -9223372036854775808 ≤ v) (hv2 : v ≤ 9223372036854775807) (hn1 : 1 ≤ n) (hn2 : n ≤ 4611686018427387904) :
  Calls Tryz.prog 9 #[.int .i64 v,.int .i64 n] w fun e w' => ∃ k : Nat,e = .returned (.int .i64 (k : Int)) ∧ (k : Int) < n ∧ w' = w := by
 have t1 := Int.tmod_lt_of_pos v (b := n) (by omega);have t2 := Int.lt_tmod_of_pos v (b := n) (by omega)
 have hz : (n == 0) = false := by rw [beq_eq_false_iff_ne]; omega
 by_cases h : v.tmod n < 0
 ·obtain ⟨k,hk⟩ := Int.eq_ofNat_of_zero_le (a := v.tmod n + n) (by omega)
  go_enter Tryz.func9,Tryz.ntmps9
  go_wp2_with fail;go_ret;exact ⟨k,by rw [← hk]; rfl,by omega,rfl⟩
 ·obtain ⟨k,hk⟩ := Int.eq_ofNat_of_zero_le (a := v.tmod n) (by omega)
  go_enter Tryz.func9,Tryz.ntmps9
  go_wp2_with fail;go_ret;exact ⟨k,by rw [← hk]; rfl,by omega,rfl⟩
def flRows (fs : List FlS) : List (List Value) := fs.map FlS.cells
def inRows (ns : List Int) : List (List Value) := ns.map fun n => [.int .i64 n]
def nmRows (vs : List NmS) : List (List Value) := vs.map NmS.cells
def mtRows (ms : List MtS) : List (List Value) := ms.map MtS.cells
def MsIn (w : World) (v : Value) (ms : List MsS) : Prop := ∃ rows : List (List Value),RowG w v 3 rows ∧ rows.length = ms.length ∧
 ∀ (i : Nat) (m : MsS),ms[i]? = some m → ∃ vf vr,rows[i]? = some [.string m.name,vf,vr] ∧ RowG w vf 5 (flRows m.fields) ∧ RowG w vr 1 (inRows m.reserved)
def EnIn (w : World) (v : Value) (es : List EnS) : Prop := ∃ rows : List (List Value),RowG w v 2 rows ∧ rows.length = es.length ∧
 ∀ (i : Nat) (e : EnS),es[i]? = some e → ∃ vv,rows[i]? = some [.string e.name,vv] ∧ RowG w vv 2 (nmRows e.values)
def ScIn (w : World) (v : Value) (s : ScS) : Prop := ∃ vm ve vt,v = .agg #[.string s.name,vm,ve,vt] ∧ MsIn w vm s.msgs ∧ EnIn w ve s.enums ∧ RowG w vt 3 (mtRows s.methods)
theorem MsIn.below {w w1 : World} {v : Value} {ms : List MsS} (h : MsIn w v ms) (hb : Below w.heap.size w w1) : MsIn w1 v ms := by
 obtain ⟨rows,h1,h2,h3⟩ := h;refine ⟨rows,h1.below hb,h2,fun i m hm => ?_⟩;obtain ⟨vf,vr,g1,g2,g3⟩ := h3 i m hm;exact ⟨vf,vr,g1,g2.below hb,g3.below hb⟩
theorem EnIn.below {w w1 : World} {v : Value} {es : List EnS} (h : EnIn w v es) (hb : Below w.heap.size w w1) : EnIn w1 v es := by
 obtain ⟨rows,h1,h2,h3⟩ := h;refine ⟨rows,h1.below hb,h2,fun i m hm => ?_⟩;obtain ⟨vv,g1,g2⟩ := h3 i m hm;exact ⟨vv,g1,g2.below hb⟩
theorem ScIn.below {w w1 : World} {v : Value} {s : ScS} (h : ScIn w v s) (hb : Below w.heap.size w w1) : ScIn w1 v s := by
 obtain ⟨vm,ve,vt,h1,h2,h3,h4⟩ := h;exact ⟨vm,ve,vt,h1,h2.below hb,h3.below hb,h4.below hb⟩
theorem MsIn.open {w : World} {v : Value} {ms : List MsS} (h : MsIn w v ms) : ∃ a cap,v = .slice a ms.length cap ∧ ms.length ≤ cap ∧ cap ≤ maxLen ∧ (ms ≠ [] → ∃ g off,a = some ⟨g,off,none⟩) ∧
  ∀ g off,a = some ⟨g,off,none⟩ → ∀ (i : Nat) (m : MsS),ms[i]? = some m → ∃ vf vr,w.cell? ⟨g,off + i * 3,none⟩ = some (.string m.name) ∧ w.cell? ⟨g,off + i * 3 + 1,none⟩ = some vf ∧ w.cell? ⟨g,off + i * 3 + 2,none⟩ = some vr ∧ RowG w vf 5 (flRows m.fields) ∧ RowG w vr 1 (inRows m.reserved) := by
 obtain ⟨rows,h1,h2,h3⟩ := h;obtain ⟨a,cap,e1,e2,e3,e4,e5⟩ := h1.open;rw [h2] at e1 e2;refine ⟨a,cap,e1,e2,e3,fun hne => e4 (fun e => ?_),fun g off ha i m hm => ?_⟩
 ·rw [e] at h2; exact hne (List.eq_nil_of_length_eq_zero h2.symm)
 ·obtain ⟨vf,vr,g1,g2,g3⟩ := h3 i m hm;exact ⟨vf,vr,e5 g off ha i _ g1 0 _ rfl,e5 g off ha i _ g1 1 _ rfl,e5 g off ha i _ g1 2 _ rfl,g2,g3⟩
theorem EnIn.open {w : World} {v : Value} {es : List EnS} (h : EnIn w v es) : ∃ a cap,v = .slice a es.length cap ∧ es.length ≤ cap ∧ cap ≤ maxLen ∧ (es ≠ [] → ∃ g off,a = some ⟨g,off,none⟩) ∧
  ∀ g off,a = some ⟨g,off,none⟩ → ∀ (i : Nat) (e : EnS),es[i]? = some e → ∃ vv,w.cell? ⟨g,off + i * 2,none⟩ = some (.string e.name) ∧ w.cell? ⟨g,off + i * 2 + 1,none⟩ = some vv ∧ RowG w vv 2 (nmRows e.values) := by
 obtain ⟨rows,h1,h2,h3⟩ := h;obtain ⟨a,cap,e1,e2,e3,e4,e5⟩ := h1.open;rw [h2] at e1 e2;refine ⟨a,cap,e1,e2,e3,fun hne => e4 (fun e => ?_),fun g off ha i m hm => ?_⟩
 ·rw [e] at h2; exact hne (List.eq_nil_of_length_eq_zero h2.symm)
 ·obtain ⟨vv,g1,g2⟩ := h3 i m hm;exact ⟨vv,e5 g off ha i _ g1 0 _ rfl,e5 g off ha i _ g1 1 _ rfl,g2⟩
theorem row_ints {w : World} {v : Value} {ns : List Int} (h : RowG w v 1 (inRows ns)) : ∃ a cap,v = .slice a ns.length cap ∧ ns.length ≤ cap ∧ cap ≤ maxLen ∧ (ns ≠ [] → ∃ g off,a = some ⟨g,off,none⟩) ∧
  ∀ g off,a = some ⟨g,off,none⟩ → ∀ (i : Nat) (n : Int),ns[i]? = some n → w.cell? ⟨g,off + i,none⟩ = some (.int .i64 n) := by
 obtain ⟨a,cap,e1,e2,e3,e4,e5⟩ := h.open
 have hl : (inRows ns).length = ns.length := by simp [inRows]
 rw [hl] at e1 e2;refine ⟨a,cap,e1,e2,e3,fun hne => e4 (fun e => hne (by simpa [inRows] using e)),fun g off ha i n hn => ?_⟩
 have hr : (inRows ns)[i]? = some [.int .i64 n] := by simp [inRows,hn]
 have := e5 g off ha i _ hr 0 _ rfl
 rwa [Nat.mul_one,Nat.add_zero] at this
theorem MsIn.get {w : World} {a : Option Addr} {N cap : Nat} {ms : List MsS} (h : MsIn w (.slice a N cap) ms) {i : Nat} {m : MsS} (hi : ms[i]? = some m) : ∃ g off vf vr,a = some ⟨g,off,none⟩ ∧ w.cell? ⟨g,off + i * 3,none⟩ = some (.string m.name) ∧ w.cell? ⟨g,off + i * 3 + 1,none⟩ = some vf ∧ w.cell? ⟨g,off + i * 3 + 2,none⟩ = some vr ∧ RowG w vf 5 (flRows m.fields) ∧ RowG w vr 1 (inRows m.reserved) := by
 obtain ⟨a',cap',e1,e2,e3,e4,e5⟩ := h.open;simp only [Value.slice.injEq] at e1;obtain ⟨rfl,_,_⟩ := e1;obtain ⟨g,off,rfl⟩ := e4 (by intro e; rw [e] at hi; simp at hi);obtain ⟨vf,vr,h1,h2,h3,h4,h5⟩ := e5 g off rfl i m hi;exact ⟨g,off,vf,vr,rfl,h1,h2,h3,h4,h5⟩
theorem EnIn.get {w : World} {a : Option Addr} {N cap : Nat} {ms : List EnS} (h : EnIn w (.slice a N cap) ms) {i : Nat} {m : EnS} (hi : ms[i]? = some m) : ∃ g off vv,a = some ⟨g,off,none⟩ ∧ w.cell? ⟨g,off + i * 2,none⟩ = some (.string m.name) ∧ w.cell? ⟨g,off + i * 2 + 1,none⟩ = some vv ∧ RowG w vv 2 (nmRows m.values) := by
 obtain ⟨a',cap',e1,e2,e3,e4,e5⟩ := h.open;simp only [Value.slice.injEq] at e1;obtain ⟨rfl,_,_⟩ := e1;obtain ⟨g,off,rfl⟩ := e4 (by intro e; rw [e] at hi; simp at hi);obtain ⟨vv,h1,h2,h3⟩ := e5 g off rfl i m hi;exact ⟨g,off,vv,rfl,h1,h2,h3⟩
theorem MsIn.form2 {w : World} {v : Value} {ms : List MsS} (h : MsIn w v ms) : ∃ a cap,v = .slice a ms.length cap ∧ ms.length ≤ cap ∧ cap ≤ 9223372036854775807 := by
 obtain ⟨a',cap',e1,e2,e3,_⟩ := h.open;exact ⟨a',cap',e1,e2,by unfold maxLen at e3; omega⟩
theorem EnIn.form2 {w : World} {v : Value} {ms : List EnS} (h : EnIn w v ms) : ∃ a cap,v = .slice a ms.length cap ∧ ms.length ≤ cap ∧ cap ≤ 9223372036854775807 := by
 obtain ⟨a',cap',e1,e2,e3,_⟩ := h.open;exact ⟨a',cap',e1,e2,by unfold maxLen at e3; omega⟩
end
section
theorem rg_take {P : Program} {md : Region.Mode} {ops : Array Oper} {Q : Exit → Act → World → Prop} {S : World → Prop} {oi : Oper} {fuel : Nat} {listed listed' : Array Bool} {a : Act} {w : World} (i d : Nat) (v : Value) (tmps' : Array Value) (hi : ops[i]? = some oi) (hd : oi.dst = some d)
  (hs : Region.noSelect ops = true) (hf : Region.free md ops listed i = true) (hr : (Region.ready md ops listed).contains i = true)
  (hQ : ∀ c a w,Q (.panic c) (a.put oi.dst v) w → Q (.panic c) a w) (hwt : Region.wanted oi (yielded ops a.tmps) = true) (hy : ∀ w,S w → (execOp a.eval oi).run P w = .ok (.value v) w) (hS : S w)
  (hl : listed.setIfInBounds i true = listed') (ht : a.tmps.setIfInBounds d v = tmps')
  (h : wpAnyH P md ops Q S fuel listed' { a with tmps := tmps' } w) : wpAnyH P md ops Q S (fuel + 1) listed a w := by
 subst hl ht;refine wpAnyH_take hi hs hf hr hQ (.inl ⟨hwt,hy⟩) hS ?_;rw [hd];exact h
theorem rg_call {P : Program} {md : Region.Mode} {ops : Array Oper} {Q : Exit → Act → World → Prop} {S : World → Prop} {oi : Oper} {fuel : Nat} {listed listed' : Array Bool} {a : Act} {w : World} (i d f : Nat) (vals : Array Value) (hi : ops[i]? = some oi) (hd : oi.dst = some d)
  (hr : Region.ready md ops listed = [i]) (hwt : Region.wanted oi (yielded ops a.tmps) = true) (hl : listed.setIfInBounds i true = listed') (hx : ∀ w,(execOp a.eval oi).run P w = .ok (.enter f vals) w)
  (h : Calls P f vals w fun e w' => ∃ v,e = .returned v ∧ S w' ∧ wpAnyH P md ops Q S fuel listed' { a with tmps := a.tmps.setIfInBounds d v } w') : wpAnyH P md ops Q S (fuel + 1) listed a w := by
 subst hl;refine wpAnyH_ready (rs := [i]) hr (by simp) (AllReadyH.cons hi (fun K hK => ?_) AllReadyH.nil);rw [if_pos hwt];unfold Oper.wp;rw [hx];refine Calls.mono h ?_;rintro e w' ⟨v,rfl,hS,h'⟩;refine hK.out _ _ hS (fun _ => ?_);rw [hd];exact h'
theorem rg_run {P : Program} {md : Region.Mode} {ops : Array Oper} {Q : Exit → Act → World → Prop} {S : World → Prop} {oi : Oper} {fuel : Nat} {listed listed' : Array Bool} {a : Act} {w : World} (i d : Nat) (v : Value) (w' : World) (hi : ops[i]? = some oi) (hd : oi.dst = some d)
  (hr : Region.ready md ops listed = [i]) (hwt : Region.wanted oi (yielded ops a.tmps) = true) (hl : listed.setIfInBounds i true = listed') (hx : (execOp a.eval oi).run P w = .ok (.value v) w') (hS : S w')
  (h : wpAnyH P md ops Q S fuel listed' { a with tmps := a.tmps.setIfInBounds d v } w') : wpAnyH P md ops Q S (fuel + 1) listed a w := by
 subst hl;refine wpAnyH_ready (rs := [i]) hr (by simp) (AllReadyH.cons hi (fun K hK => ?_) AllReadyH.nil);rw [if_pos hwt];unfold Oper.wp;rw [hx];refine hK.out _ _ hS (fun _ => ?_);rw [hd];exact h
theorem append_run {P : Program} {a : Act} {w w' : World} {o : Oper} {s x : Operand} {t u : TypeId} {v y v' : Value} (ho : o.op = .call { callee := .builtin .append,args := #[s,x],argTypes := #[t,u] }) (hs : a.eval s = v) (hx : a.eval x = y)
  (hr : (Builtin.append_ #[t,u] o.type #[v,y]).run P w = .ok v' w') : (execOp a.eval o).run P w = .ok (.value v') w' := by
 unfold execOp;simp only [ho,resolve,invoke,builtin,Sem.run_bind,Sem.run_pure,Result.andThen_ok,List.map_toArray,List.map_cons,List.map_nil,hs,hx,hr]
end
section
open Go.ChangeShapes Go.WideShapes Go.ChangeAt Go.RowKit
theorem and_small (x : Int) : ∃ v : Nat,v < 4611686018427387904 ∧ bits .and .i64 x 4611686018427387903 = (v : Int) := by
 have hv : (BitVec.ofInt 64 x &&& BitVec.ofInt 64 4611686018427387903).toNat < 4611686018427387904 := by
  rw [BitVec.toNat_and]
  have h2 : (BitVec.ofInt 64 4611686018427387903).toNat = 4611686018427387903 := by decide
  rw [h2];exact Nat.lt_of_le_of_lt Nat.and_le_right (by decide)
 refine ⟨(BitVec.ofInt 64 x &&& BitVec.ofInt 64 4611686018427387903).toNat,hv,?_⟩
 show IntKind.i64.wrap ((BitVec.ofInt 64 x &&& BitVec.ofInt 64 4611686018427387903).toNat : Int) = _
 generalize (BitVec.ofInt 64 x &&& BitVec.ofInt 64 4611686018427387903).toNat = v at *;rw [IntKind.wrap_i64]
 omega
def NxP (L ba a : Nat) (w : World) (e : Ending) (w' : World) : Prop := ∃ v a' : Nat,e = .returned (.int .i64 (v : Int)) ∧ v < 4611686018427387904 ∧ a ≤ a' ∧ a' ≤ a + 1 ∧ (L = 0 → v = 0) ∧ (L ≠ 0 → a' = a + 1) ∧ Blk w' ba #[.int .i64 (a' : Int)] 3 ∧ Kp (fun q => q = ba) w w'
theorem lnext_any (ls : List Int) (la : Option Addr) (lc L ba a : Nat) (w0 w : World) (hb : Below w0.heap.size w0 w) (hl : RowG w0 (.slice la L lc) 1 (inRows ls)) (hL : ls.length = L) (hL2 : L ≤ 100000) (hB : Blk w ba #[.int .i64 (a : Int)] 3) (ha : a ≤ 1000) (hba : w0.heap.size ≤ ba) :
  Calls Tryz.prog 41 #[.slice la L lc,.pointer (some ⟨ba,0,none⟩)] w (NxP L ba a w) := by
 obtain ⟨a',cap',e1,h1,h2, -,h5⟩ := row_ints hl;simp only [Value.slice.injEq] at e1;obtain ⟨rfl, -,rfl⟩ := e1;rw [hL] at h1;have HL : Hid (ls.length = L) := hL;have H5 : Hid (∀ g off,la = some ⟨g,off,none⟩ → ∀ (i : Nat) (n : Int),ls[i]? = some n → w0.cell? ⟨g,off + i,none⟩ = some (.int .i64 n)) := h5;have HR : Hid (RowG w0 (.slice la L lc) 1 (inRows ls)) := hl;unfold maxLen at h2;have hlt := hB.lt;have q0 := (hB.cell 0).trans rfl;have z0 := hB.froz 0;clear hL hl h5
 by_cases hL0 : L = 0
 ·subst hL0;have HB : Hid (Blk w ba #[.int .i64 (a : Int)] 3) := hB;clear hB
  go_enter Tryz.func41,Tryz.ntmps41
  go_wp2_with fail;go_ret;exact ⟨0,a,rfl,by decide,Nat.le_refl _,Nat.le_succ _,fun _ => rfl,fun h => absurd rfl h,HB.out,Kp.refl _ _⟩
 ·have d0 : ((L : Int) == 0) = false := by simp; omega
  have hLp : 0 < L := by omega
  obtain ⟨A,hA⟩ : ∃ z : Nat,z = a + 1 := ⟨_,rfl⟩;have HA : Hid (A = a + 1) := hA;have B1 : Blk (w.setCell ⟨ba,0,none⟩ (.int .i64 (A : Int))) ba #[.int .i64 (A : Int)] 3 := hB.set 0 _ rfl;have K1 : Kp (fun q => q = ba) w (w.setCell ⟨ba,0,none⟩ (.int .i64 (A : Int))) := Kp.setCell (S := fun q => q = ba) (Kp.refl _ _) (p := ⟨ba,0,none⟩) (fun _ => rfl) _
  have hA2 : (a : Int) + 1 = (A : Int) := by omega
  have hb1 : Below w0.heap.size w0 (w.setCell ⟨ba,0,none⟩ (.int .i64 (A : Int))) := hb.trans (K1.toBelow hb.size (fun k e => by omega));have HB1 : Hid (Blk (w.setCell ⟨ba,0,none⟩ (.int .i64 (A : Int))) ba #[.int .i64 (A : Int)] 3) := B1;have HK1 : Hid (Kp (fun q => q = ba) w (w.setCell ⟨ba,0,none⟩ (.int .i64 (A : Int)))) := K1;have HB0 : Hid (Below w0.heap.size w0 (w.setCell ⟨ba,0,none⟩ (.int .i64 (A : Int)))) := hb1
  have hAle : A ≤ 1001 := by omega
  have hA1 : 1 ≤ A := by omega
  clear hB hA B1 K1 hb1
  go_enter Tryz.func41,Tryz.ntmps41
  go_wp2_with fail;clear q0 z0 hA2;generalize (w.setCell ⟨ba,0,none⟩ (.int .i64 (A : Int))) = W1 at *;have hS : Below W1.heap.size W1 W1.drew := (Below.refl _ _).drew;obtain ⟨D,hD⟩ : ∃ z : Nat,(A : Int) / (L : Int) = (z : Int) := ⟨A / L,by rw [Int.natCast_ediv]⟩
  have hD2 : D ≤ A := by
   have h3 : (A : Int) / (L : Int) ≤ (A : Int) := by rw [← Int.natCast_ediv]; exact Int.ofNat_le.2 (Nat.div_le_self A L)
   omega
  have HD : Hid ((A : Int) / (L : Int) = (D : Int)) := hD;clear hD;refine wp_region_held_drew (S := fun w' => Below W1.heap.size W1 w') (by kernel_rfl) hS (fun hS => ?_);refine rg_take 0 13 (.slice la L lc) _ rfl rfl (by kernel_rfl) (by kernel_rfl) (by kernel_rfl) (fun _ _ _ h => h) (by rfl) (fun w' hw' => ?_) hS (listed' := bts 19 1) (by kernel_rfl) rfl ?_
  ·go_simp
  simp only [zsA,zsZ,zsS];refine rg_take 1 14 (.pointer (some ⟨ba,0,none⟩)) _ rfl rfl (by kernel_rfl) (by kernel_rfl) (by kernel_rfl) (fun _ _ _ h => h) (by rfl) (fun w' hw' => ?_) hS (listed' := bts 19 3) (by kernel_rfl) rfl ?_
  ·go_simp
  simp only [zsA,zsZ,zsS];refine rg_take 2 15 (.pointer (some ⟨ba,0,none⟩)) _ rfl rfl (by kernel_rfl) (by kernel_rfl) (by kernel_rfl) (fun _ _ _ h => h) (by rfl) (fun w' hw' => ?_) hS (listed' := bts 19 7) (by kernel_rfl) rfl ?_
  ·go_simp
  simp only [zsA,zsZ,zsS];refine rg_take 3 16 (.int .i64 (A : Int)) _ rfl rfl (by kernel_rfl) (by kernel_rfl) (by kernel_rfl) (fun _ _ _ h => h) (by rfl) (fun w' hw' => ?_) hS (listed' := bts 19 15) (by kernel_rfl) rfl ?_
  ·have f0 := (HB1.out.below hw').cell 0; go_simp
  simp only [zsA,zsZ,zsS];refine rg_take 4 17 (.int .i64 ((A : Int) * 7)) _ rfl rfl (by kernel_rfl) (by kernel_rfl) (by kernel_rfl) (fun _ _ _ h => h) (by rfl) (fun w' hw' => ?_) hS (listed' := bts 19 31) (by kernel_rfl) rfl ?_
  ·go_simp; rw [IntKind.wrap_i64]; omega
  simp only [zsA,zsZ,zsS];refine rg_take 5 18 (.pointer (some ⟨ba,0,none⟩)) _ rfl rfl (by kernel_rfl) (by kernel_rfl) (by kernel_rfl) (fun _ _ _ h => h) (by rfl) (fun w' hw' => ?_) hS (listed' := bts 19 63) (by kernel_rfl) rfl ?_
  ·go_simp
  simp only [zsA,zsZ,zsS];refine rg_take 6 19 (.pointer (some ⟨ba,0,none⟩)) _ rfl rfl (by kernel_rfl) (by kernel_rfl) (by kernel_rfl) (fun _ _ _ h => h) (by rfl) (fun w' hw' => ?_) hS (listed' := bts 19 127) (by kernel_rfl) rfl ?_
  ·go_simp
  simp only [zsA,zsZ,zsS];refine rg_take 7 20 (.int .i64 (A : Int)) _ rfl rfl (by kernel_rfl) (by kernel_rfl) (by kernel_rfl) (fun _ _ _ h => h) (by rfl) (fun w' hw' => ?_) hS (listed' := bts 19 255) (by kernel_rfl) rfl ?_
  ·have f0 := (HB1.out.below hw').cell 0; go_simp
  simp only [zsA,zsZ,zsS];refine rg_take 8 21 (.slice la L lc) _ rfl rfl (by kernel_rfl) (by kernel_rfl) (by kernel_rfl) (fun _ _ _ h => h) (by rfl) (fun w' hw' => ?_) hS (listed' := bts 19 511) (by kernel_rfl) rfl ?_
  ·go_simp
  simp only [zsA,zsZ,zsS];refine rg_take 9 22 (.int .i64 (L : Int)) _ rfl rfl (by kernel_rfl) (by kernel_rfl) (by kernel_rfl) (fun _ _ _ h => h) (by rfl) (fun w' hw' => ?_) hS (listed' := bts 19 1023) (by kernel_rfl) rfl ?_
  ·go_simp
  simp only [zsA,zsZ,zsS];refine rg_take 10 23 (.int .i64 (D : Int)) _ rfl rfl (by kernel_rfl) (by kernel_rfl) (by kernel_rfl) (fun _ _ _ h => h) (by rfl) (fun w' hw' => ?_) hS (listed' := bts 19 2047) (by kernel_rfl) rfl ?_
  ·go_simp; rw [HD.out,IntKind.wrap_i64]; omega
  simp only [zsA,zsZ,zsS];refine rg_take 11 24 (.int .i64 ((A : Int) * 7 + (D : Int))) _ rfl rfl (by kernel_rfl) (by kernel_rfl) (by kernel_rfl) (fun _ _ _ h => h) (by rfl) (fun w' hw' => ?_) hS (listed' := bts 19 4095) (by kernel_rfl) rfl ?_
  ·go_simp; rw [IntKind.wrap_i64]; omega
  simp only [zsA,zsZ,zsS];refine rg_take 12 25 (.slice la L lc) _ rfl rfl (by kernel_rfl) (by kernel_rfl) (by kernel_rfl) (fun _ _ _ h => h) (by rfl) (fun w' hw' => ?_) hS (listed' := bts 19 8191) (by kernel_rfl) rfl ?_
  ·go_simp
  simp only [zsA,zsZ,zsS];refine rg_take 13 26 (.int .i64 (L : Int)) _ rfl rfl (by kernel_rfl) (by kernel_rfl) (by kernel_rfl) (fun _ _ _ h => h) (by rfl) (fun w' hw' => ?_) hS (listed' := bts 19 16383) (by kernel_rfl) rfl ?_
  ·go_simp
  simp only [zsA,zsZ,zsS];have HPC : Hid (∀ W,Calls Tryz.prog 9 #[.int .i64 ((A : Int) * 7 + (D : Int)),.int .i64 (L : Int)] W fun e w' => ∃ k : Nat,e = .returned (.int .i64 (k : Int)) ∧ (k : Int) < (L : Int) ∧ w' = W) := fun W => lawPlace_any _ _ W (by omega) (by omega) (by omega) (by omega)
  refine rg_call 14 27 9 #[.int .i64 ((A : Int) * 7 + (D : Int)),.int .i64 (L : Int)] rfl rfl (by kernel_rfl) (by rfl) (listed' := bts 19 32767) (by kernel_rfl) (fun W => by go_simp) ?_;refine (HPC.out _).mono ?_;rintro e W2 ⟨k,rfl,hk,hW2⟩;subst hW2;refine ⟨_,rfl,hS,?_⟩;simp only [zsA,zsZ,zsS];obtain ⟨x,hx⟩ : ∃ r,ls[k]? = some r := ⟨_,List.getElem?_eq_getElem (by rw [HL.out]; omega)⟩
  obtain ⟨g,off,rfl⟩ : ∃ g off,la = some ⟨g,off,none⟩ := by
   have h6 := (row_ints HR.out);obtain ⟨a',cap',e1,_,_,h4,_⟩ := h6;simp only [Value.slice.injEq] at e1;obtain ⟨rfl, -, -⟩ := e1;exact h4 (by intro e; rw [e] at hx; simp at hx)
  have HCX : Hid (∀ W : World,Below W1.heap.size W1 W → W.cell? ⟨g,off + k,none⟩ = some (.int .i64 x)) := fun W hW => by
   have h7 := (HB0.out.cell (World.block_lt_of_cell? _ _ (H5.out g off rfl k x hx))).trans (H5.out g off rfl k x hx);exact (hW.cell (World.block_lt_of_cell? _ _ h7)).trans h7
  obtain ⟨v,hv,hand⟩ := and_small x;have HAN : Hid (bits .and .i64 x 4611686018427387903 = (v : Int)) := hand
  have hkl : k < L := by omega
  clear hand hx hk;refine rg_take 15 28 (.pointer (some ⟨g,off + k,none⟩)) _ rfl rfl (by kernel_rfl) (by kernel_rfl) (by kernel_rfl) (fun _ _ _ h => h) (by rfl) (fun w' hw' => ?_) hS (listed' := bts 19 65535) (by kernel_rfl) rfl ?_
  ·go_simp
  simp only [zsA,zsZ,zsS];refine rg_take 16 29 (.int .i64 x) _ rfl rfl (by kernel_rfl) (by kernel_rfl) (by kernel_rfl) (fun _ _ _ h => h) (by rfl) (fun w' hw' => ?_) hS (listed' := bts 19 131071) (by kernel_rfl) rfl ?_
  ·have f0 := HCX.out w' hw'; go_simp
  simp only [zsA,zsZ,zsS];refine rg_take 17 30 (.int .i64 (v : Int)) _ rfl rfl (by kernel_rfl) (by kernel_rfl) (by kernel_rfl) (fun _ _ _ h => h) (by rfl) (fun w' hw' => ?_) hS (listed' := bts 19 262143) (by kernel_rfl) rfl ?_
  ·go_simp; exact HAN.out
  simp only [zsA,zsZ,zsS];refine rg_take 18 4 (.int .i64 (v : Int)) _ rfl rfl (by kernel_rfl) (by kernel_rfl) (by kernel_rfl) (fun _ _ _ h => h) (by rfl) (fun w' hw' => ?_) hS (listed' := bts 19 524287) (by kernel_rfl) rfl ?_
  ·go_simp
  simp only [zsA,zsZ,zsS];refine wpAnyH_done (by kernel_rfl) ?_ _;go_wp2_with fail;go_ret;refine ⟨v,A,rfl,hv,by have := HA.out; omega,by have := HA.out; omega,fun h => absurd h hL0,fun _ => HA.out,?_,?_⟩
  ·exact HB1.out.below hS
  ·exact HK1.out.trans (Kp.ofBelow hS)
end
section
structure OneT (n : Nat) (s : ScS) (f : FlS) (x : Tr) : Prop where
 val : treeV (msgV n s) f.kind f.tname x = 0
 ok : okN n x = true
 sm : SmN n x
 kind : x.kind = kindT f.kind
structure FitT (n : Nat) (s : ScS) (nm : ByteArray) (t : Tr) : Prop where
 form : t = ⟨3,0,⟨#[]⟩,t.es,[]⟩
 val : msgV n s nm t = 0
 ok : okN n t = true
 sm : SmN n t
theorem FitT.one {n : Nat} {s : ScS} {f : FlS} {t : Tr} (h : FitT n s f.tname t) (hk : f.kind = 7) : OneT n s f t := by
 have h3 : t.kind = 3 := by rw [h.form]
 refine ⟨?_,h.ok,h.sm,?_⟩
 ·rw [treeV,hk,if_neg (by rw [h3]; decide),if_neg (by rw [h3]; simp),if_neg (by simp),if_pos h3];exact h.val
 ·rw [h3,hk]; decide
theorem leaf_sm (n : Nat) (k v : Int) (s : ByteArray) (hs : s.size ≤ 5000) : SmN (n + 1) ⟨k,v,s,[],[]⟩ := ⟨hs,by simp,by simp,by simp,by simp⟩
theorem leaf_cnt (n : Nat) (k v : Int) (s : ByteArray) : cntN (n + 1) ⟨k,v,s,[],[]⟩ = 1 := by simp [cntN,subs]
theorem num_one (n : Nat) (s : ScS) (f : FlS) (v : Int) (hk : kindT f.kind = 1) (hv : nmrB f.kind v = true) (h4 : f.kind ≠ 4) : OneT (n + 1) s f ⟨1,v,⟨#[]⟩,[],[]⟩ := by
 refine ⟨?_,?_,leaf_sm n 1 v _ (by decide),hk.symm⟩
 ·rw [treeV,hk,if_neg (by simp),if_neg (by simp [hv]),if_neg (by simp [h4]),if_neg (by simp)]
 ·simp [okN,lvB]
  rfl
theorem txt_one (n : Nat) (s : ScS) (f : FlS) (b : ByteArray) (hk : kindT f.kind = 2) (hv : validB b.data.toList = true) (hs : b.size ≤ 5000) : OneT (n + 1) s f ⟨2,0,b,[],[]⟩ := by
 refine ⟨?_,?_,leaf_sm n 2 0 b hs,hk.symm⟩
 ·rw [treeV,hk,if_neg (by simp),if_neg (by simp),if_neg (by simp [hv]),if_neg (by simp)]
 ·simp [okN,lvB]
end
end Go.Proofs.YtiajaocckkghgabGreat
