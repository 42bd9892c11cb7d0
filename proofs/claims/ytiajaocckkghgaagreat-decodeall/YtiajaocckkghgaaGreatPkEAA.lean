/- Part 1 of what the proof stands on. -/
import Derived.Test.YtiajaocckkghgaaGreatRows
import Derived.WalkKit
import Derived.ProofKit
import Derived.OpenShut
import Derived.Below
import GoSem.Core.Utf8
import Derived.ShutString
import Derived.ChangeOld
import Derived.OwnWalk
import Derived.Laws.MathBits
import Derived.ArgAppend
import Derived.Laws.AppendOwn
import Derived.Laws.AppendOwnNone
import Derived.Laws.BytesArg
namespace Go.Proofs.YtiajaocckkghgaaGreat
set_option maxHeartbeats 8000000
set_option linter.unusedVariables false
set_option linter.unusedSimpArgs false
set_option maxRecDepth 20000
def bts (n m : Nat) : Array Bool := ((List.range n).map fun i => m.testBit i).toArray
theorem zsA {α : Type} (l : List α) (i : Nat) (a : α) : l.toArray.setIfInBounds i a = (l.set i a).toArray := List.setIfInBounds_toArray ..
theorem zsZ {α : Type} (a b : α) (l : List α) : (a :: l).set 0 b = b :: l := rfl
theorem zsS {α : Type} (a b : α) (l : List α) (n : Nat) : (a :: l).set (n + 1) b = a :: l.set n b := rfl
theorem bra {w : Go.World} (o : Go.Obj) : Go.RowKit.Below w.heap.size w (w.alloc o) := (Go.RowKit.Below.refl _ _).alloc (Nat.le_refl _) _
theorem hid {P : Prop} (h : P) : Go.RowKit.Hid P := h
section
open Go.ChangeShapes Go.WideShapes Go.ChangeAt Go.RowKit
structure Fd where
 tag : Int
 wire : Int
 n : Int
 b : ByteArray
def Fd.val (r : Fd) : Value := .agg #[.int .i64 r.tag,.int .i64 r.wire,.int .i64 r.n,.string r.b]
def Fd.cells (r : Fd) : List Value := [.int .i64 r.tag,.int .i64 r.wire,.int .i64 r.n,.string r.b]
def fd0 : Fd := ⟨0,0,0,⟨#[]⟩⟩
def okV (t k n : Int) (b : ByteArray) : Bool := decide (1 ≤ t) && decide (t ≤ 500) && (((k == 0) && b.toList.isEmpty) || ((k == 1) && (n == 0) && decide ((b.size : Int) ≤ 4096)))
def okF (r : Fd) : Bool := okV r.tag r.wire r.n r.b
theorem toList_empty (b : ByteArray) : b.toList.isEmpty = true ↔ b = ⟨#[]⟩ := by
 rw [ByteArray.toList_eq];obtain ⟨⟨l⟩⟩ := b
 cases l <;> simp
def Is64 (n : Int) : Prop := -9223372036854775808 ≤ n ∧ n ≤ 9223372036854775807
theorem ok_cases {r : Fd} (h : okF r = true) (hn : Is64 r.n) :
  (∃ (t : Nat) (n : Int),r = ⟨t,0,n,⟨#[]⟩⟩ ∧ 1 ≤ t ∧ t ≤ 500 ∧ Is64 n) ∨ (∃ (t : Nat) (b : ByteArray),r = ⟨t,1,0,b⟩ ∧ 1 ≤ t ∧ t ≤ 500 ∧ b.size ≤ 4096) := by
 obtain ⟨t,k,n,b⟩ := r;simp only [okF,okV,Bool.and_eq_true,Bool.or_eq_true,decide_eq_true_eq,beq_iff_eq,toList_empty] at h;obtain ⟨⟨h1,h2⟩,⟨rfl,rfl⟩ | ⟨⟨rfl,rfl⟩,h5⟩⟩ := h
 ·exact .inl ⟨t.toNat,n,by rw [Int.toNat_of_nonneg (by omega)],by omega,by omega,hn⟩
 ·exact .inr ⟨t.toNat,b,by rw [Int.toNat_of_nonneg (by omega)],by omega,by omega,by omega⟩
end
section
def risesB : List Fd → Bool
 | [] => true
 | [_] => true
 | x :: y :: l => decide (x.tag ≤ y.tag) && risesB (y :: l)
def Rises (l : List Fd) : Prop := l.Pairwise fun x y => x.tag ≤ y.tag
theorem rises_iff : ∀ l : List Fd,risesB l = true ↔ Rises l
 | [] => by simp [risesB,Rises]
 | [x] => by simp [risesB,Rises]
 | x :: y :: l => by
  have ih := rises_iff (y :: l);simp only [risesB,Bool.and_eq_true,decide_eq_true_eq,Rises] at ih ⊢;rw [List.pairwise_cons,ih]
  constructor
  ·rintro ⟨h1,h2⟩;refine ⟨?_,h2⟩;intro z hz
   rcases List.mem_cons.1 hz with rfl | hz
   ·exact h1
   ·exact Int.le_trans h1 ((List.pairwise_cons.1 h2).1 z hz)
  ·rintro ⟨h1,h2⟩;exact ⟨h1 y (by simp),h2⟩
def upN (l : List Fd) (t : Int) : Nat := (l.takeWhile fun x => decide (x.tag ≤ t)).length
theorem upN_le (l : List Fd) (t : Int) : upN l t ≤ l.length := by
 unfold upN;exact (List.takeWhile_prefix _).length_le
theorem upN_cons_le {x : Fd} {l : List Fd} {t : Int} (h : x.tag ≤ t) : upN (x :: l) t = upN l t + 1 := by simp [upN,h]
theorem upN_cons_gt {x : Fd} {l : List Fd} {t : Int} (h : ¬ x.tag ≤ t) : upN (x :: l) t = 0 := by simp [upN,h]
theorem upN_step {l : List Fd} {t : Int} {i : Nat} (hi : ∀ j x, j < i → l[j]? = some x → x.tag ≤ t) (he : i = l.length ∨ ∃ x, l[i]? = some x ∧ ¬ x.tag ≤ t) : upN l t = i := by
  induction l generalizing i with
  | nil => rcases he with rfl | ⟨x, hx, _⟩
           · rfl
           · simp at hx
  | cons a l ih =>
    cases i with
    | zero =>
      rcases he with h | ⟨x, hx, h⟩
      · simp at h
      · obtain rfl : a = x := by simpa using hx
        exact upN_cons_gt h
    | succ i =>
      rw [upN_cons_le (hi 0 a (by omega) rfl), ih (i := i) (fun j x hj hx => hi (j + 1) x (by omega) (by simpa using hx))]
      rcases he with h | ⟨x, hx, h⟩
      · exact .inl (by simpa using h)
      · exact .inr ⟨x, by simpa using hx, h⟩
def mergeF (low : List Fd) : List Fd → List Fd
 | [] => low
 | h :: hs => low.take (upN low h.tag) ++ h :: mergeF (low.drop (upN low h.tag)) hs
theorem mergeF_len : ∀ (high low : List Fd),(mergeF low high).length = low.length + high.length
 | [],low => by simp [mergeF]
 | h :: hs,low => by
  have := upN_le low h.tag;rw [mergeF,List.length_append,List.length_cons,mergeF_len hs,List.length_take,List.length_drop,List.length_cons]
  omega
theorem take_upN {l : List Fd} {t : Int} : ∀ x ∈ l.take (upN l t),x.tag ≤ t := by
 induction l with
 | nil => intro x hx; simp at hx
 | cons a l ih =>
  by_cases ha : a.tag ≤ t
  ·rw [upN_cons_le ha,List.take_succ_cons];intro x hx
   rcases List.mem_cons.1 hx with rfl | hx
   ·exact ha
   ·exact ih x hx
  ·rw [upN_cons_gt ha];intro x hx
   simp at hx
theorem drop_upN {l : List Fd} {t : Int} (h : Rises l) : ∀ x ∈ l.drop (upN l t),t < x.tag := by
 induction l with
 | nil => intro x hx; simp at hx
 | cons a l ih =>
  have hp := List.pairwise_cons.1 h
  by_cases ha : a.tag ≤ t
  ·rw [upN_cons_le ha];intro x hx;exact ih hp.2 x (by simpa using hx)
  ·rw [upN_cons_gt ha];intro x hx
   rcases List.mem_cons.1 (by simpa using hx) with rfl | hx
   ·omega
   ·have := hp.1 x hx; omega
theorem mergeF_mem : ∀ (high low : List Fd) (x : Fd),x ∈ mergeF low high → x ∈ low ∨ x ∈ high
 | [],low,x,h => .inl (by simpa [mergeF] using h)
 | y :: hs,low,x,h => by
  rw [mergeF,List.mem_append,List.mem_cons] at h
  rcases h with h | rfl | h
  ·exact .inl (List.mem_of_mem_take h)
  ·exact .inr (by simp)
  ·rcases mergeF_mem hs _ x h with h | h
   ·exact .inl (List.mem_of_mem_drop h)
   ·exact .inr (by simp [h])
theorem mergeF_rises : ∀ (high low : List Fd),Rises low → Rises high → Rises (mergeF low high)
 | [],low,h1,_ => by simpa [mergeF] using h1
 | y :: hs,low,h1,h2 => by
  have hp := List.pairwise_cons.1 h2;have hd : Rises (low.drop (upN low y.tag)) := h1.sublist (List.drop_sublist _ _);have ht : Rises (low.take (upN low y.tag)) := h1.sublist (List.take_sublist _ _);have hm := mergeF_rises hs _ hd hp.2
  have hy : ∀ x ∈ mergeF (low.drop (upN low y.tag)) hs,y.tag ≤ x.tag := fun x hx => by
   rcases mergeF_mem _ _ x hx with h | h
   ·exact Int.le_of_lt (drop_upN h1 x h)
   ·exact hp.1 x h
  rw [mergeF];unfold Rises at *;rw [List.pairwise_append,List.pairwise_cons];refine ⟨ht,⟨hy,hm⟩,?_⟩;intro a ha b hb;have h1 := take_upN a ha
  rcases List.mem_cons.1 hb with rfl | hb
  ·exact h1
  ·exact Int.le_trans h1 (hy b hb)
theorem mergeF_filter (t : Int) : ∀ (high low : List Fd),Rises low → (mergeF low high).filter (fun x => x.tag == t) = low.filter (fun x => x.tag == t) ++ high.filter (fun x => x.tag == t)
 | [],low,h1 => by simp [mergeF]
 | y :: hs,low,h1 => by
  have hd : Rises (low.drop (upN low y.tag)) := h1.sublist (List.drop_sublist _ _);have ih := mergeF_filter t hs _ hd;rw [mergeF,List.filter_append,List.filter_cons,ih]
  have hl : low.filter (fun x => x.tag == t) = (low.take (upN low y.tag)).filter (fun x => x.tag == t) ++ (low.drop (upN low y.tag)).filter (fun x => x.tag == t) := by rw [← List.filter_append,List.take_append_drop]
  rw [hl,List.filter_cons]
  by_cases hy : y.tag = t
  ·have he : (low.drop (upN low y.tag)).filter (fun x => x.tag == t) = [] := by
    rw [List.filter_eq_nil_iff];intro x hx;have := drop_upN h1 x hx
    simp; omega
   rw [he]
   simp [hy]
  ·simp [hy]
theorem rises_short : ∀ {l : List Fd},risesB l = false → 2 ≤ l.length
 | [],h => by simp [risesB] at h
 | [_],h => by simp [risesB] at h
 | _ :: _ :: _,_ => by simp
def sortFF : Nat → List Fd → List Fd
 | 0,l => l
 | f + 1,l => if risesB l = true then l else mergeF (sortFF f (l.take (l.length / 2))) (sortFF f (l.drop (l.length / 2)))
def sortF (l : List Fd) : List Fd := sortFF l.length l
theorem sortFF_fuel (f : Nat) : ∀ (g : Nat) (l : List Fd),l.length ≤ f → l.length ≤ g → sortFF f l = sortFF g l := by
 induction f with
 | zero =>
  intro g l h1 _;obtain rfl : l = [] := List.eq_nil_of_length_eq_zero (by omega)
  cases g <;> rfl
 | succ f ih =>
  intro g l h1 h2
  cases g with
  | zero =>
   obtain rfl : l = [] := List.eq_nil_of_length_eq_zero (by omega)
   rfl
  | succ g =>
   simp only [sortFF]
   cases hr : risesB l with
   | true => rfl
   | false =>
    have h3 := rises_short hr;rw [if_neg (by simp),if_neg (by simp),ih g (l.take (l.length / 2)) (by rw [List.length_take]; omega) (by rw [List.length_take]; omega),ih g (l.drop (l.length / 2)) (by rw [List.length_drop]; omega) (by rw [List.length_drop]; omega)]
theorem sortF_id {l : List Fd} (h : risesB l = true) : sortF l = l := by
 unfold sortF
 cases e : l.length with
 | zero => rfl
 | succ f => simp only [sortFF]; rw [if_pos h]
theorem sortF_on {l : List Fd} (h : risesB l = false) : sortF l = mergeF (sortF (l.take (l.length / 2))) (sortF (l.drop (l.length / 2))) := by
 have h3 := rises_short h;unfold sortF
 cases e : l.length with
 | zero => omega
 | succ f =>
  simp only [sortFF];rw [if_neg (by simp [h]),e,sortFF_fuel f (l.take ((f + 1) / 2)).length _ (by rw [List.length_take]; omega) (Nat.le_refl _),sortFF_fuel f (l.drop ((f + 1) / 2)).length _ (by rw [List.length_drop]; omega) (Nat.le_refl _)]
theorem sortF_all : ∀ (k : Nat) (l : List Fd),l.length ≤ k → Rises (sortF l) ∧ (sortF l).length = l.length ∧ (∀ x ∈ sortF l,x ∈ l) ∧ ∀ t : Int,(sortF l).filter (fun x => x.tag == t) = l.filter (fun x => x.tag == t)
 | 0,l,h => by
  obtain rfl : l = [] := List.eq_nil_of_length_eq_zero (by omega);rw [sortF_id rfl];exact ⟨by simp [Rises],rfl,fun _ h => h,fun _ => rfl⟩
 | k + 1,l,h => by
  cases hr : risesB l with
  | true => rw [sortF_id hr]; exact ⟨(rises_iff l).1 hr,rfl,fun _ h => h,fun _ => rfl⟩
  | false =>
   have h2 := rises_short hr;obtain ⟨a1,a2,a3,a4⟩ := sortF_all k (l.take (l.length / 2)) (by rw [List.length_take]; omega);obtain ⟨b1,b2,b3,b4⟩ := sortF_all k (l.drop (l.length / 2)) (by rw [List.length_drop]; omega);rw [sortF_on hr];refine ⟨mergeF_rises _ _ a1 b1,?_,?_,?_⟩
   ·rw [mergeF_len,a2,b2,List.length_take,List.length_drop]; omega
   ·intro x hx
    rcases mergeF_mem _ _ x hx with h | h
    ·exact List.mem_of_mem_take (a3 x h)
    ·exact List.mem_of_mem_drop (b3 x h)
   ·intro t;rw [mergeF_filter t _ _ a1,a4,b4,← List.filter_append,List.take_append_drop]
theorem rises_steps : ∀ {l : List Fd},(∀ j x y,l[j]? = some x → l[j + 1]? = some y → x.tag ≤ y.tag) → risesB l = true
 | [],_ => rfl
 | [_],_ => rfl
 | x :: y :: l,h => by
  rw [risesB,Bool.and_eq_true,decide_eq_true_eq];exact ⟨h 0 x y rfl rfl,rises_steps fun j a b ha hb => h (j + 1) a b (by simpa using ha) (by simpa using hb)⟩
theorem rises_break : ∀ {l : List Fd} (j : Nat) (x y : Fd),l[j]? = some x → l[j + 1]? = some y → y.tag < x.tag → risesB l = false
 | [],j,x,y,hx,_,_ => by simp at hx
 | [a],j,x,y,hx,hy,_ => by simp at hy
 | a :: b :: l,0,x,y,hx,hy,h => by
  obtain rfl : a = x := by simpa using hx
  obtain rfl : b = y := by simpa using hy
  rw [risesB,Bool.and_eq_false_iff]
  left; simp; omega
 | a :: b :: l,j + 1,x,y,hx,hy,h => by
  rw [risesB,Bool.and_eq_false_iff]
  right
  exact rises_break j x y (by simpa using hx) (by simpa using hy) h
structure Tr where
 kind : Int
 n : Int
 s : ByteArray
 es : List (Int × List Tr)
 rest : List Fd
def tr0 : Tr := ⟨0,0,⟨#[]⟩,[],[]⟩
def subs (es : List (Int × List Tr)) : List Tr := es.flatMap (·.2)
theorem mem_subs {es : List (Int × List Tr)} {x : Tr} : x ∈ subs es ↔ ∃ e ∈ es,x ∈ e.2 := by simp [subs,List.mem_flatMap]
def cntN : Nat → Tr → Nat
 | 0,_ => 0
 | n + 1,t => 1 + ((subs t.es).map (cntN n)).sum
def SmN : Nat → Tr → Prop
 | 0,_ => False
 | n + 1,t => t.s.size ≤ 5000 ∧ t.rest.length ≤ 5000 ∧ t.es.length ≤ 500 ∧ (∀ f ∈ t.rest,f.b.size ≤ 5000) ∧ ∀ e ∈ t.es,e.2.length ≤ 70 ∧ ∀ x ∈ e.2,SmN n x
def dpN : Nat → Tr → Nat
 | 0,_ => 0
 | n + 1,t => if t.kind = 3 then 1 + ((subs t.es).map (dpN n)).foldr max 0 else 0
def entsB : Int → List (Int × List Tr) → Bool
 | _,[] => true
 | last,e :: l => decide (last < e.1) && decide (e.1 ≤ 500) && decide (1 ≤ e.2.length) && decide (e.2.length ≤ 64) && (e.2.all fun x => x.kind == (e.2.head?.map Tr.kind).getD 0) && entsB e.1 l
def hasB (es : List (Int × List Tr)) (tag : Int) : Bool := es.any fun e => e.1 == tag
def restB (rest : List Fd) (es : List (Int × List Tr)) : Bool := (rest.all fun f => okF f && !hasB es f.tag) && risesB rest
def lvB (t : Tr) : Bool :=
 if t.kind = 1 then t.s.size == 0 && t.es.isEmpty && t.rest.isEmpty
 else if t.kind = 2 then t.n == 0 && t.es.isEmpty && t.rest.isEmpty
 else if t.kind = 3 then t.n == 0 && t.s.size == 0 && entsB 0 t.es && restB t.rest t.es
 else false
def okN : Nat → Tr → Bool
 | 0,_ => true
 | n + 1,t => lvB t && (if t.kind = 3 then (subs t.es).all (okN n) else true)
def chkN (n : Nat) (t : Tr) : Bool := decide (dpN n t ≤ 10) && okN n t
theorem le_foldr_max {l : List Nat} {x : Nat} (h : x ∈ l) : x ≤ l.foldr max 0 := by
 induction l with
 | nil => cases h
 | cons a l ih =>
  rcases List.mem_cons.1 h with rfl | h
  ·simp only [List.foldr_cons]; exact Nat.le_max_left _ _
  ·simp only [List.foldr_cons]; exact Nat.le_trans (ih h) (Nat.le_max_right _ _)
theorem foldr_max_le {l : List Nat} {b : Nat} (h : ∀ x ∈ l,x ≤ b) : l.foldr max 0 ≤ b := by
 induction l with
 | nil => simp
 | cons a l ih => simp only [List.foldr_cons]; exact Nat.max_le.2 ⟨h a (List.mem_cons_self ..),ih fun x hx => h x (List.mem_cons_of_mem _ hx)⟩
theorem dpN_le : ∀ (n : Nat) (t : Tr),dpN n t ≤ n
 | 0,_ => Nat.le_refl _
 | n + 1,t => by
  simp only [dpN]
  split
  ·have : ((subs t.es).map (dpN n)).foldr max 0 ≤ n := foldr_max_le fun x hx => by
    obtain ⟨y,_,rfl⟩ := List.mem_map.1 hx;exact dpN_le n y
   omega
  ·exact Nat.zero_le _
theorem len_le_sum {α : Type} {f : α → Nat} {l : List α} (h : ∀ x ∈ l,1 ≤ f x) : l.length ≤ (l.map f).sum := by
 induction l with
 | nil => simp
 | cons a l ih =>
  have h1 := h a (List.mem_cons_self ..);have h2 := ih fun x hx => h x (List.mem_cons_of_mem _ hx)
  simp only [List.length_cons,List.map_cons,List.sum_cons]; omega
def ctU (a : UInt8) : Bool := decide (128 ≤ a.toNat) && decide (a.toNat ≤ 191)
def two (a b : UInt8) : Nat := (a.toNat - 192) * 64 + (b.toNat - 128)
def three (a b c : UInt8) : Nat := ((a.toNat - 224) * 64 + (b.toNat - 128)) * 64 + (c.toNat - 128)
def four (a b c d : UInt8) : Nat := (((a.toNat - 240) * 64 + (b.toNat - 128)) * 64 + (c.toNat - 128)) * 64 + (d.toNat - 128)
def nxL : List UInt8 → Option (Nat × Nat)
 | [] => none
 | a :: r =>
  if a.toNat < 128 then some (a.toNat,1)
  else if 192 ≤ a.toNat ∧ a.toNat < 224 then
   match r with
   | b :: _ => if ctU b = true ∧ 128 ≤ two a b then some (two a b,2) else none
   | _ => none
  else if 224 ≤ a.toNat ∧ a.toNat < 240 then
   match r with
   | b :: c :: _ => if ctU b = true ∧ ctU c = true ∧ 2048 ≤ three a b c ∧ ¬ (55296 ≤ three a b c ∧ three a b c ≤ 57343) then some (three a b c,3) else none
   | _ => none
  else if 240 ≤ a.toNat ∧ a.toNat < 248 then
   match r with
   | b :: c :: d :: _ => if ctU b = true ∧ ctU c = true ∧ ctU d = true ∧ 65536 ≤ four a b c d ∧ four a b c d ≤ 1114111 then some (four a b c d,4) else none
   | _ => none
  else none
theorem get_list (l : List UInt8) (k : Nat) : (ByteArray.mk l.toArray).get! k = l.getD k default := by
 simp [ByteArray.get!,List.getD_eq_getElem?_getD,getElem!_def]
 cases h : l[k]? <;> simp
theorem decode_drop (s : ByteArray) (i : Nat) (h : i ≤ s.size) :
  Utf8.decode s i = Utf8.decode ⟨(s.data.toList.drop i).toArray⟩ 0 := by
 obtain ⟨⟨l⟩⟩ := s
 have e : ∀ k,(ByteArray.mk l.toArray).get! (i + k) = (ByteArray.mk (l.drop i).toArray).get! (0 + k) := by
  intro k;rw [get_list,get_list]
  simp [List.getD_eq_getElem?_getD]
 have e2 : ∀ k,(i + k < (ByteArray.mk l.toArray).size) ↔ (0 + k < (ByteArray.mk (l.drop i).toArray).size) := by
  intro k;simp only [ByteArray.size,List.size_toArray,List.length_drop]
  omega
 simp only [Utf8.decode,e,e2]
def hasErr (l : List UInt8) : Bool := [239,191,189].isPrefixOf l
theorem size_list (l : List UInt8) : (ByteArray.mk l.toArray).size = l.length := by simp [ByteArray.size]
theorem dec_1 (a : UInt8) (r : List UInt8) (h : a.toNat < 128) : Utf8.decode ⟨(a :: r).toArray⟩ 0 = (a.toNat,1) := by
 simp only [Utf8.decode,get_list,size_list]
 simp [h]
theorem cont_of {b : UInt8} (h : ctU b = true) : b.toNat / 64 = 2 := by simp [ctU] at h; omega
theorem cont_not {b : UInt8} (h : ctU b = false) : ¬ b.toNat / 64 = 2 := by simp [ctU] at h; omega
theorem two_eq {a b : UInt8} (h1 : 192 ≤ a.toNat) (h2 : a.toNat < 224) (h : ctU b = true) : a.toNat % 32 * 64 + b.toNat % 64 = two a b := by
 simp [ctU] at h; simp only [two]; omega
theorem three_eq {a b c : UInt8} (h1 : 224 ≤ a.toNat) (h2 : a.toNat < 240) (h : ctU b = true) (hc : ctU c = true) : a.toNat % 16 * 4096 + b.toNat % 64 * 64 + c.toNat % 64 = three a b c := by
 simp [ctU] at h hc; simp only [three]; omega
theorem four_eq {a b c d : UInt8} (h1 : 240 ≤ a.toNat) (h2 : a.toNat < 248) (h : ctU b = true) (hc : ctU c = true) (hd : ctU d = true) : a.toNat % 8 * 262144 + b.toNat % 64 * 4096 + c.toNat % 64 * 64 + d.toNat % 64 = four a b c d := by
 simp [ctU] at h hc hd; simp only [four]; omega
theorem two_lt {a b : UInt8} (h2 : a.toNat < 224) (h : ctU b = true) : two a b < 2048 := by
 simp [ctU] at h; simp only [two]; omega
theorem three_lt {a b c : UInt8} (h2 : a.toNat < 240) (h : ctU b = true) (hc : ctU c = true) : three a b c < 65536 := by
 simp [ctU] at h hc; simp only [three]; omega
theorem dec_2 (a b : UInt8) (r : List UInt8) (h1 : 192 ≤ a.toNat) (h2 : a.toNat < 224) (h : ctU b = true) :
  Utf8.decode ⟨(a :: b :: r).toArray⟩ 0 = if 128 ≤ two a b then (two a b,2) else (65533,1) := by
 have e1 : ¬ a.toNat < 128 := by omega
 have e2 : a.toNat / 32 = 6 := by omega
 have e3 := cont_of h;have e4 := two_eq h1 h2 h;simp only [Utf8.decode,get_list,size_list]
 simp [e1,e2,e3,e4,Utf8.runeError]
theorem dec_2n (a : UInt8) (r : List UInt8) (h1 : 192 ≤ a.toNat) (h2 : a.toNat < 224) (h : ∀ b r',r = b :: r' → ctU b = false) :
  Utf8.decode ⟨(a :: r).toArray⟩ 0 = (65533,1) := by
 have e1 : ¬ a.toNat < 128 := by omega
 have e2 : a.toNat / 32 = 6 := by omega
 have e5 : ¬ a.toNat / 16 = 14 := by omega
 have e6 : ¬ a.toNat / 8 = 30 := by omega
 simp only [Utf8.decode,get_list,size_list]
 match r with
 | [] => simp [e1,e2,Utf8.runeError]
 | b :: r' =>
  have e3 := cont_not (h b r' rfl)
  simp [e1,e2,e3,e5,e6,Utf8.runeError]
theorem dec_3 (a b c : UInt8) (r : List UInt8) (h1 : 224 ≤ a.toNat) (h2 : a.toNat < 240) (h : ctU b = true) (hc : ctU c = true) :
  Utf8.decode ⟨(a :: b :: c :: r).toArray⟩ 0 = if 2048 ≤ three a b c ∧ ¬ (55296 ≤ three a b c ∧ three a b c ≤ 57343) then (three a b c,3) else (65533,1) := by
 have e1 : ¬ a.toNat < 128 := by omega
 have e2 : ¬ a.toNat / 32 = 6 := by omega
 have e3 : a.toNat / 16 = 14 := by omega
 have e4 := cont_of h;have e5 := cont_of hc;have e6 := three_eq h1 h2 h hc;have e7 := three_lt h2 h hc;simp only [Utf8.decode,get_list,size_list]
 simp [e1,e2,e3,e4,e5,e6,Utf8.runeError,Utf8.valid]
 generalize three a b c = v at *
 by_cases g1 : 2048 ≤ v
 ·by_cases g2 : v < 55296
  ·have : ((v : Int) < 55296) := by omega
   simp [g1,g2,this]; omega
  ·by_cases g3 : 57344 ≤ v
   ·have i1 : ((57344 : Int) ≤ v) := by omega
    have i2 : ((v : Int) ≤ 1114111) := by omega
    simp [g1,i1,i2]; omega
   ·have i1 : ¬ ((57344 : Int) ≤ v) := by omega
    have i2 : ¬ ((v : Int) < 55296) := by omega
    have i3 : ¬ (55296 ≤ v → 57343 < v) := by omega
    simp [i1,i2,i3]
 ·simp [g1]
theorem dec_3n (a : UInt8) (r : List UInt8) (h1 : 224 ≤ a.toNat) (h2 : a.toNat < 240) (h : ∀ b c r',r = b :: c :: r' → ctU b = false ∨ ctU c = false) :
  Utf8.decode ⟨(a :: r).toArray⟩ 0 = (65533,1) := by
 have e1 : ¬ a.toNat < 128 := by omega
 have e2 : ¬ a.toNat / 32 = 6 := by omega
 have e3 : a.toNat / 16 = 14 := by omega
 have e6 : ¬ a.toNat / 8 = 30 := by omega
 simp only [Utf8.decode,get_list,size_list]
 match r with
 | [] => simp [e1,e2,e6,Utf8.runeError]
 | [b] => simp [e1,e2,e6,Utf8.runeError]
 | b :: c :: r' =>
  rcases h b c r' rfl with g | g
  ·simp [e1,e2,e6,cont_not g,Utf8.runeError]
  ·simp [e1,e2,e6,cont_not g,Utf8.runeError]
theorem dec_4 (a b c d : UInt8) (r : List UInt8) (h1 : 240 ≤ a.toNat) (h2 : a.toNat < 248) (h : ctU b = true) (hc : ctU c = true) (hd : ctU d = true) :
  Utf8.decode ⟨(a :: b :: c :: d :: r).toArray⟩ 0 = if 65536 ≤ four a b c d ∧ four a b c d ≤ 1114111 then (four a b c d,4) else (65533,1) := by
 have e1 : ¬ a.toNat < 128 := by omega
 have e2 : ¬ a.toNat / 32 = 6 := by omega
 have e3 : ¬ a.toNat / 16 = 14 := by omega
 have e8 : a.toNat / 8 = 30 := by omega
 have e4 := cont_of h;have e5 := cont_of hc;have e9 := cont_of hd;have e6 := four_eq h1 h2 h hc hd;simp only [Utf8.decode,get_list,size_list]
 simp [e1,e2,e3,e4,e5,e6,e8,e9,Utf8.runeError,Utf8.valid]
 generalize four a b c d = v at *
 by_cases g1 : 65536 ≤ v
 ·have i1 : ((57344 : Int) ≤ v) := by omega
  have i4 : ¬ ((v : Int) < 55296) := by omega
  by_cases g3 : v ≤ 1114111
  ·have i2 : ((v : Int) ≤ 1114111) := by omega
   simp [g1,i1,i2,i4,g3]
  ·have i2 : ¬ ((v : Int) ≤ 1114111) := by omega
   simp [i2,i4,g3]
 ·simp [g1]
theorem dec_4n (a : UInt8) (r : List UInt8) (h1 : 240 ≤ a.toNat) (h2 : a.toNat < 248) (h : ∀ b c d r',r = b :: c :: d :: r' → ctU b = false ∨ ctU c = false ∨ ctU d = false) :
  Utf8.decode ⟨(a :: r).toArray⟩ 0 = (65533,1) := by
 have e1 : ¬ a.toNat < 128 := by omega
 have e2 : ¬ a.toNat / 32 = 6 := by omega
 have e3 : ¬ a.toNat / 16 = 14 := by omega
 simp only [Utf8.decode,get_list,size_list]
 match r with
 | [] => simp [e1,e2,e3,Utf8.runeError]
 | [b] => simp [e1,e2,e3,Utf8.runeError]
 | [b,c] => simp [e1,e2,e3,Utf8.runeError]
 | b :: c :: d :: r' =>
  rcases h b c d r' rfl with g | g | g
  ·simp [e1,e2,e3,cont_not g,Utf8.runeError]
  ·simp [e1,e2,e3,cont_not g,Utf8.runeError]
  ·simp [e1,e2,e3,cont_not g,Utf8.runeError]
theorem dec_0 (a : UInt8) (r : List UInt8) (h : 128 ≤ a.toNat) (h1 : ¬ (192 ≤ a.toNat ∧ a.toNat < 224)) (h2 : ¬ (224 ≤ a.toNat ∧ a.toNat < 240)) (h3 : ¬ (240 ≤ a.toNat ∧ a.toNat < 248)) :
  Utf8.decode ⟨(a :: r).toArray⟩ 0 = (65533,1) := by
 have e1 : ¬ a.toNat < 128 := by omega
 have e2 : ¬ a.toNat / 32 = 6 := by omega
 have e3 : ¬ a.toNat / 16 = 14 := by omega
 have e4 : ¬ a.toNat / 8 = 30 := by omega
 simp only [Utf8.decode,get_list,size_list]
 simp [e1,e2,e3,e4,Utf8.runeError]
theorem hasErr_three {a b c : UInt8} {r : List UInt8} (h : three a b c = 65533) (h1 : 224 ≤ a.toNat) (h2 : a.toNat < 240) (hb : ctU b = true) (hc : ctU c = true) : hasErr (a :: b :: c :: r) = true := by
 simp [ctU] at hb hc
 simp only [three] at h;have ea : a = 239 := UInt8.toNat_inj.1 (by show a.toNat = 239; omega);have eb : b = 191 := UInt8.toNat_inj.1 (by show b.toNat = 191; omega);have ec : c = 189 := UInt8.toNat_inj.1 (by show c.toNat = 189; omega);subst ea eb ec
 simp [hasErr,List.isPrefixOf]
theorem hasErr_iff {l : List UInt8} (h : hasErr l = true) : nxL l = some (65533,3) := by
 match l with
 | [] => simp [hasErr,List.isPrefixOf] at h
 | [a] => simp [hasErr,List.isPrefixOf] at h
 | [a,b] => simp [hasErr,List.isPrefixOf] at h
 | a :: b :: c :: r =>
  simp [hasErr,List.isPrefixOf] at h
  obtain ⟨rfl,rfl,rfl⟩ := h
  rfl
theorem decode_nx (a : UInt8) (r : List UInt8) :
  nxL (a :: r) = if (Utf8.decode ⟨(a :: r).toArray⟩ 0).1 = 65533 ∧ hasErr (a :: r) = false then none else some (Utf8.decode ⟨(a :: r).toArray⟩ 0) := by
 have ha := a.toNat_lt
 cases he : hasErr (a :: r) with
 | true =>
  rw [hasErr_iff he]
  match r with
  | [] => simp [hasErr,List.isPrefixOf] at he
  | [b] => simp [hasErr,List.isPrefixOf] at he
  | b :: c :: r' =>
   simp [hasErr,List.isPrefixOf] at he
   obtain ⟨rfl,rfl,rfl⟩ := he;rw [dec_3 _ _ _ _ (by decide) (by decide) (by decide) (by decide)]
   rfl
 | false =>
  by_cases h0 : a.toNat < 128
  ·rw [dec_1 a r h0,if_neg (by simp; omega)]
   simp [nxL,h0]
  ·by_cases h2 : 192 ≤ a.toNat ∧ a.toNat < 224
   ·by_cases hc : ∀ b r',r = b :: r' → ctU b = false
    ·rw [dec_2n a r h2.1 h2.2 hc,if_pos ⟨rfl,rfl⟩]
     match r with
     | [] => simp only [nxL]; rw [if_neg h0,if_pos h2]
     | b :: r' => simp only [nxL]; rw [if_neg h0,if_pos h2,if_neg (by rw [hc b r' rfl]; simp)]
    ·simp only [Classical.not_forall] at hc;obtain ⟨b,r',rfl,hb⟩ := hc
     have hb' : ctU b = true := by simpa using hb
     have hl := two_lt h2.2 hb';rw [dec_2 a b r' h2.1 h2.2 hb'];simp only [nxL];rw [if_neg h0,if_pos h2]
     by_cases g : 128 ≤ two a b
     ·rw [if_pos ⟨hb',g⟩,if_pos g,if_neg (by simp; omega)]
     ·rw [if_neg (fun x => g x.2),if_neg g,if_pos (by simp)]
   ·by_cases h3 : 224 ≤ a.toNat ∧ a.toNat < 240
    ·by_cases hc : ∀ b c r',r = b :: c :: r' → ctU b = false ∨ ctU c = false
     ·rw [dec_3n a r h3.1 h3.2 hc,if_pos ⟨rfl,rfl⟩]
      match r with
      | [] => simp only [nxL]; rw [if_neg h0,if_neg h2,if_pos h3]
      | [b] => simp only [nxL]; rw [if_neg h0,if_neg h2,if_pos h3]
      | b :: c :: r' => simp only [nxL]; rw [if_neg h0,if_neg h2,if_pos h3,if_neg (by rcases hc b c r' rfl with g | g <;> rw [g] <;> simp)]
     ·simp only [Classical.not_forall,not_or] at hc;obtain ⟨b,c,r',rfl,hb,hc⟩ := hc
      have hb' : ctU b = true := by simpa using hb
      have hc' : ctU c = true := by simpa using hc
      rw [dec_3 a b c r' h3.1 h3.2 hb' hc'];simp only [nxL];rw [if_neg h0,if_neg h2,if_pos h3]
      by_cases g : 2048 ≤ three a b c ∧ ¬ (55296 ≤ three a b c ∧ three a b c ≤ 57343)
      ·rw [if_pos ⟨hb',hc',g⟩,if_pos g,if_neg];rintro ⟨g1,_⟩;rw [hasErr_three g1 h3.1 h3.2 hb' hc'] at he
       cases he
      ·rw [if_neg (fun x => g x.2.2),if_neg g,if_pos (by simp)]
    ·by_cases h4 : 240 ≤ a.toNat ∧ a.toNat < 248
     ·by_cases hc : ∀ b c d r',r = b :: c :: d :: r' → ctU b = false ∨ ctU c = false ∨ ctU d = false
      ·rw [dec_4n a r h4.1 h4.2 hc,if_pos ⟨rfl,rfl⟩]
       match r with
       | [] => simp only [nxL]; rw [if_neg h0,if_neg h2,if_neg h3,if_pos h4]
       | [b] => simp only [nxL]; rw [if_neg h0,if_neg h2,if_neg h3,if_pos h4]
       | [b,c] => simp only [nxL]; rw [if_neg h0,if_neg h2,if_neg h3,if_pos h4]
       | b :: c :: d :: r' => simp only [nxL]; rw [if_neg h0,if_neg h2,if_neg h3,if_pos h4,if_neg (by rcases hc b c d r' rfl with g | g | g <;> rw [g] <;> simp)]
      ·simp only [Classical.not_forall,not_or] at hc;obtain ⟨b,c,d,r',rfl,hb,hc,hd⟩ := hc
       have hb' : ctU b = true := by simpa using hb
       have hc' : ctU c = true := by simpa using hc
       have hd' : ctU d = true := by simpa using hd
       rw [dec_4 a b c d r' h4.1 h4.2 hb' hc' hd'];simp only [nxL];rw [if_neg h0,if_neg h2,if_neg h3,if_pos h4]
       by_cases g : 65536 ≤ four a b c d ∧ four a b c d ≤ 1114111
       ·rw [if_pos ⟨hb',hc',hd',g⟩,if_pos g,if_neg (by simp; omega)]
       ·rw [if_neg (fun x => g x.2.2.2),if_neg g,if_pos (by simp)]
     ·rw [dec_0 a r (by omega) h2 h3 h4,if_pos ⟨rfl,rfl⟩];simp only [nxL];rw [if_neg h0,if_neg h2,if_neg h3,if_neg h4]
theorem decode_nx' (l : List UInt8) (hl : l ≠ []) :
  nxL l = if (Utf8.decode ⟨l.toArray⟩ 0).1 = 65533 ∧ hasErr l = false then none else some (Utf8.decode ⟨l.toArray⟩ 0) := by
 match l with
 | [] => exact absurd rfl hl
 | a :: r => exact decode_nx a r
theorem u8_of {n : Nat} (a : UInt8) (h : n = a.toNat) : UInt8.ofNat n = a := by
 subst h; simp
theorem nxL_some (l : List UInt8) (c k : Nat) (h : nxL l = some (c,k)) :
  Utf8.valid c = true ∧ (Utf8.encode c).data.toList = l.take k ∧ (Utf8.encode c).size = k ∧ 1 ≤ k ∧ k ≤ l.length ∧ k ≤ 4 ∧ c ≤ 1114111 := by
 match l with
 | [] => simp [nxL] at h
 | a :: r =>
  simp only [nxL] at h
  by_cases h0 : a.toNat < 128
  ·rw [if_pos h0] at h;simp only [Option.some.injEq,Prod.mk.injEq] at h;obtain ⟨rfl,rfl⟩ := h
   have hv : Utf8.valid (a.toNat : Int) = true := by simp [Utf8.valid]; omega
   have he : Utf8.encode (a.toNat : Int) = ⟨#[a]⟩ := by
    simp [Utf8.encode,hv,h0]
   rw [he];exact ⟨hv,by simp,by simp [ByteArray.size],by omega,by simp,by omega,by omega⟩
  ·rw [if_neg h0] at h
   by_cases h2 : 192 ≤ a.toNat ∧ a.toNat < 224
   ·rw [if_pos h2] at h
    match r with
    | [] => simp at h
    | b :: r' =>
     simp only at h
     by_cases g : ctU b = true ∧ 128 ≤ two a b
     ·rw [if_pos g] at h;simp only [Option.some.injEq,Prod.mk.injEq] at h;obtain ⟨rfl,rfl⟩ := h;have hl := two_lt h2.2 g.1;have hb := g.1;simp only [ctU,Bool.and_eq_true,decide_eq_true_eq] at hb
      have hv : Utf8.valid (two a b : Int) = true := by simp [Utf8.valid]; omega
      have n1 : ¬ two a b < 128 := by omega
      have he : Utf8.encode (two a b : Int) = ⟨#[a,b]⟩ := by
       simp only [Utf8.encode,hv,if_true,Int.toNat_natCast,if_neg n1,if_pos hl];rw [u8_of a (by simp only [two]; omega),u8_of b (by simp only [two]; omega)]
      rw [he];exact ⟨hv,by simp,by simp [ByteArray.size],by omega,by simp,by omega,by omega⟩
     ·rw [if_neg g] at h; simp at h
   ·rw [if_neg h2] at h
    by_cases h3 : 224 ≤ a.toNat ∧ a.toNat < 240
    ·rw [if_pos h3] at h
     match r with
     | [] => simp at h
     | [b] => simp at h
     | b :: c' :: r' =>
      simp only at h
      by_cases g : ctU b = true ∧ ctU c' = true ∧ 2048 ≤ three a b c' ∧ ¬ (55296 ≤ three a b c' ∧ three a b c' ≤ 57343)
      ·rw [if_pos g] at h;simp only [Option.some.injEq,Prod.mk.injEq] at h;obtain ⟨rfl,rfl⟩ := h;obtain ⟨g1,g2,g3,g4⟩ := g;have hl := three_lt h3.2 g1 g2;simp only [ctU,Bool.and_eq_true,decide_eq_true_eq] at g1 g2
       have hv : Utf8.valid (three a b c' : Int) = true := by simp [Utf8.valid]; omega
       have n1 : ¬ three a b c' < 128 := by omega
       have n2 : ¬ three a b c' < 2048 := by omega
       have he : Utf8.encode (three a b c' : Int) = ⟨#[a,b,c']⟩ := by
        simp only [Utf8.encode,hv,if_true,Int.toNat_natCast,if_neg n1,if_neg n2,if_pos hl];rw [u8_of a (by simp only [three]; omega),u8_of b (by simp only [three]; omega),u8_of c' (by simp only [three]; omega)]
       rw [he];exact ⟨hv,by simp,by simp [ByteArray.size],by omega,by simp,by omega,by omega⟩
      ·rw [if_neg g] at h; simp at h
    ·rw [if_neg h3] at h
     by_cases h4 : 240 ≤ a.toNat ∧ a.toNat < 248
     ·rw [if_pos h4] at h
      match r with
      | [] => simp at h
      | [b] => simp at h
      | [b,c'] => simp at h
      | b :: c' :: d :: r' =>
       simp only at h
       by_cases g : ctU b = true ∧ ctU c' = true ∧ ctU d = true ∧ 65536 ≤ four a b c' d ∧ four a b c' d ≤ 1114111
       ·rw [if_pos g] at h;simp only [Option.some.injEq,Prod.mk.injEq] at h;obtain ⟨rfl,rfl⟩ := h;obtain ⟨g1,g2,g3,g4,g5⟩ := g;simp only [ctU,Bool.and_eq_true,decide_eq_true_eq] at g1 g2 g3
        have hv : Utf8.valid (four a b c' d : Int) = true := by simp [Utf8.valid]; omega
        have n1 : ¬ four a b c' d < 128 := by omega
        have n2 : ¬ four a b c' d < 2048 := by omega
        have n3 : ¬ four a b c' d < 65536 := by omega
        have he : Utf8.encode (four a b c' d : Int) = ⟨#[a,b,c',d]⟩ := by
         simp only [Utf8.encode,hv,if_true,Int.toNat_natCast,if_neg n1,if_neg n2,if_neg n3];rw [u8_of a (by simp only [four]; omega),u8_of b (by simp only [four]; omega),u8_of c' (by simp only [four]; omega),u8_of d (by simp only [four]; omega)]
        rw [he];exact ⟨hv,by simp,by simp [ByteArray.size],by omega,by simp,by omega,by omega⟩
       ·rw [if_neg g] at h; simp at h
     ·rw [if_neg h4] at h; simp at h
end
section
open Go.ChangeShapes Go.WideShapes Go.ChangeAt Go.RowKit
theorem ret_bool {a b : Bool} (h : a = b) : Ending.returned (.bool a) = .returned (.bool b) := by rw [h]
theorem ret_int {k : IntKind} {a b : Int} (h : a = b) : Ending.returned (.int k a) = .returned (.int k b) := by rw [h]
def digB (r : Int) : Bool := decide (48 ≤ r ∧ r ≤ 57)
def letB (r : Int) : Bool := decide (97 ≤ r ∧ r ≤ 122 ∨ 65 ≤ r ∧ r ≤ 90 ∨ r = 95 ∨ (192 ≤ r ∧ r ≤ 591 ∧ r ≠ 215 ∧ r ≠ 247) ∨ (913 ≤ r ∧ r ≤ 969 ∧ r ≠ 930))
theorem digit_any (r : Int) (w : World) :
  Calls Tryz.prog 139 #[.int .i32 r] w fun e w' => e = .returned (.bool (digB r)) ∧ w' = w := by
 go_enter Tryz.func139,Tryz.ntmps139
 go_wp2
 all_goals
  go_ret;exact ⟨ret_bool (by simp [digB]; try omega),rfl⟩
theorem letter_any (r : Int) (w : World) :
  Calls Tryz.prog 138 #[.int .i32 r] w fun e w' => e = .returned (.bool (letB r)) ∧ w' = w := by
 go_enter Tryz.func138,Tryz.ntmps138
 go_wp2
 all_goals
  go_ret;refine ⟨ret_bool ?_,rfl⟩
  try simp only [beq_eq_false_iff_ne,beq_iff_eq,ne_eq] at *
  rw [Bool.eq_iff_iff]
  simp [letB]
  try omega
def keyB (s : ByteArray) : Bool := [[115,99,104,101,109,97],[109,101,115,115,97,103,101],[101,110,117,109],[99,97,108,108],[114,101,116,117,114,110,115],[114,101,115,101,114,118,101,100],
 [111,112,116,105,111,110,97,108],[114,101,112,101,97,116,101,100],[105,110,116,51,50],[105,110,116,54,52],[98,111,111,108],[116,101,120,116],[98,121,116,101,115]].any fun (k : List UInt8) => s.toList == k
theorem prefix_eq (s p : ByteArray) (h : p.size ≤ s.size) : ((s.extract 0 p.size).toList == p.toList) = p.toList.isPrefixOf s.toList := by
 obtain ⟨⟨l⟩⟩ := s;obtain ⟨⟨q⟩⟩ := p;simp only [ByteArray.toList_eq,ByteArray.data_extract,ByteArray.size,List.size_toArray,List.extract_toArray,List.extract_eq_take_drop,List.drop_zero,Nat.sub_zero] at *;rw [Bool.eq_iff_iff,List.isPrefixOf_iff_prefix,List.prefix_iff_eq_take,beq_iff_eq];exact eq_comm
theorem prefix_short (s p : ByteArray) (h : ¬ p.size ≤ s.size) : false = p.toList.isPrefixOf s.toList := by
 obtain ⟨⟨l⟩⟩ := s;obtain ⟨⟨q⟩⟩ := p;simp only [ByteArray.toList_eq,ByteArray.size,List.size_toArray] at *
 cases e : q.isPrefixOf l with
 | false => rfl
 | true =>
  rw [List.isPrefixOf_iff_prefix] at e;exact absurd e.length_le h
theorem hasPrefix_any (s p : ByteArray) (w : World) (hs : s.size ≤ 140737488351232) (hp : p.size ≤ 140737488351232) :
  Calls Tryz.prog 163 #[.string s,.string p] w fun e w' => e = .returned (.bool (p.toList.isPrefixOf s.toList)) ∧ w' = w := by
 go_enter Tryz.func163,Tryz.ntmps163
 go_wp2
 ·go_ret;exact ⟨ret_bool (prefix_eq s p ‹_›),rfl⟩
 ·go_ret;exact ⟨ret_bool (prefix_short s p ‹_›),rfl⟩
def standsB (l : List UInt8) (r : Int) : Bool := decide (r ≠ 65533) || hasErr l
theorem extract_drop (s : ByteArray) (i : Nat) : (s.extract i s.size).data.toList = s.data.toList.drop i := by
 obtain ⟨⟨l⟩⟩ := s
 simp [ByteArray.data_extract,ByteArray.size]
 exact List.take_of_length_le (by simp)
theorem hasErr_extract (s : ByteArray) (i : Nat) : [239,191,189].isPrefixOf (s.extract i s.size).toList = hasErr (s.data.toList.drop i) := by
 rw [ByteArray.toList_eq,extract_drop]; rfl
theorem extract_size_le (s : ByteArray) (i : Nat) (h : s.size ≤ 140737488351232) : (s.extract i s.size).size ≤ 140737488351232 := by
 simp [ByteArray.size_extract]; omega
theorem stands_any (s : ByteArray) (i : Int) (r : Int) (w : World) (hs : s.size ≤ 140737488351232) (hi : 0 ≤ i) (hj : i ≤ s.size) :
  Calls Tryz.prog 146 #[.string s,.int .i64 i,.int .i32 r] w fun e w' => e = .returned (.bool (standsB (s.data.toList.drop i.toNat) r)) ∧ w' = w := by
 by_cases h : r = 65533
 ·subst h
  go_enter Tryz.func146,Tryz.ntmps146
  go_wp2_with (go_at_call 163; refine (hasPrefix_any _ _ _ (extract_size_le s _ hs) (by decide)).mono ?_; rintro e w' ⟨rfl,rfl⟩)
  go_ret;refine ⟨ret_bool ?_,rfl⟩
  simp [standsB,← hasErr_extract]
 ·have hne : (r != 65533) = true := by simp [h]
  go_enter Tryz.func146,Tryz.ntmps146
  go_wp2_with fail;go_ret;refine ⟨ret_bool ?_,rfl⟩
  simp [standsB,h]
theorem drop_cons (s : ByteArray) (i : Nat) (h : i < s.size) : s.data.toList.drop i = s[i] :: s.data.toList.drop (i + 1) := by
 rw [List.drop_eq_getElem_cons (by simpa using h)]; rfl
theorem drop_none (s : ByteArray) (i : Nat) (h : s.size ≤ i) : s.data.toList.drop i = [] := by
 apply List.drop_eq_nil_of_le; simpa using h
def nxV : Option (Nat × Nat) → Value
 | none => .tuple #[.int .i32 0,.int .i64 0,.bool false]
 | some x => .tuple #[.int .i32 (x.1 : Int),.int .i64 (x.2 : Int),.bool true]
def atL (s : ByteArray) (i : Int) : List UInt8 := if i < 0 then [] else s.data.toList.drop i.toNat
theorem ret_none {x : Option (Nat × Nat)} (h : x = none) : Ending.returned (.tuple #[.int .i32 0,.int .i64 0,.bool false]) = .returned (nxV x) := by rw [h]; rfl
theorem ret_some {x : Option (Nat × Nat)} {c k : Int} (c' k' : Nat) (h : x = some (c',k')) (hc : c = c') (hk : k = k') : Ending.returned (.tuple #[.int .i32 c,.int .i64 k,.bool true]) = .returned (nxV x) := by rw [h,hc,hk]; rfl
theorem atL_out (s : ByteArray) (i : Int) (h : i < 0 ∨ (s.size : Int) ≤ i) : nxL (atL s i) = none := by
 unfold atL
 by_cases g : i < 0
 ·rw [if_pos g]; rfl
 ·rw [if_neg g,drop_none s _ (by omega)]; rfl
theorem atL_in (s : ByteArray) (i : Int) (h : 0 ≤ i) : atL s i = s.data.toList.drop i.toNat := by
 unfold atL; rw [if_neg (by omega)]
theorem below_iter (w : World) (s : ByteArray) (p : Nat) : Below w.heap.size w (w.iter s p) := bra _
theorem nx_stands {l : List UInt8} {c k : Nat} (hl : l ≠ []) (hd : Utf8.decode ⟨l.toArray⟩ 0 = (c,k)) :
  (standsB l c = true → nxL l = some (c,k)) ∧ (standsB l c = false → nxL l = none) := by
 have h := decode_nx' l hl;rw [hd] at h;unfold standsB
 constructor
 ·intro g;rw [h,if_neg];rintro ⟨g1,g2⟩;simp only at g1;rw [g2,g1] at g
  simp at g
 ·intro g;rw [h,if_pos];simp only [Bool.or_eq_false_iff,decide_eq_false_iff_not,ne_eq,Decidable.not_not] at g;exact ⟨by show c = 65533; omega,g.2⟩
end
section
open Go.RowKit
def allL : Nat → List UInt8 → Option (List Nat)
 | 0,l => if l.isEmpty then some [] else none
 | f + 1,l => if l.isEmpty then some [] else
  match nxL l with
  | none => none
  | some x => (allL f (l.drop x.2)).map (x.1 :: ·)
def runesOf (l : List UInt8) : Option (List Nat) := allL l.length l
theorem allL_fuel (f : Nat) : ∀ (g : Nat) (l : List UInt8),l.length ≤ f → l.length ≤ g → allL f l = allL g l := by
 induction f with
 | zero =>
  intro g l h _;have : l = [] := List.length_eq_zero_iff.1 (by omega);subst this
  cases g <;> simp [allL]
 | succ f ih =>
  intro g l hf hg
  match l,g with
  | [],0 => simp [allL]
  | [],g + 1 => simp [allL]
  | a :: r,0 => simp at hg
  | a :: r,g + 1 =>
   simp only [allL]
   cases e : nxL (a :: r) with
   | none => simp
   | some x =>
    obtain ⟨c,k⟩ := x;obtain ⟨_,_,_,h4,h5,_⟩ := nxL_some _ _ _ e
    have hd : ((a :: r).drop k).length ≤ f := by simp at hf h5 ⊢; omega
    have hd2 : ((a :: r).drop k).length ≤ g := by simp at hg h5 ⊢; omega
    simp [ih g ((a :: r).drop k) hd hd2]
theorem runesOf_nil : runesOf [] = some [] := rfl
theorem runesOf_bad {l : List UInt8} (hl : l ≠ []) (h : nxL l = none) : runesOf l = none := by
 match l with
 | [] => exact absurd rfl hl
 | a :: r => simp [runesOf,allL,h]
theorem runesOf_step {l : List UInt8} {c k : Nat} (h : nxL l = some (c,k)) : runesOf l = (runesOf (l.drop k)).map (c :: ·) := by
 match l with
 | [] => simp [nxL] at h
 | a :: r =>
  obtain ⟨_,_,_,h4,h5,_⟩ := nxL_some _ _ _ h;simp only [runesOf,List.length_cons,allL,h];have e := allL_fuel r.length ((a :: r).drop k).length ((a :: r).drop k) (by simp; omega) (Nat.le_refl _);rw [if_neg (by simp)];simp only [e]
theorem runesOf_le (f : Nat) : ∀ l : List UInt8,l.length ≤ f → ∀ rs,runesOf l = some rs → rs.length ≤ l.length := by
 induction f with
 | zero =>
  intro l hl rs h;have : l = [] := List.length_eq_zero_iff.1 (by omega);subst this;rw [runesOf_nil] at h
  simp at h; subst h; simp
 | succ f ih =>
  intro l hl rs h
  match l with
  | [] => rw [runesOf_nil] at h; simp at h; subst h; simp
  | a :: r =>
   cases e : nxL (a :: r) with
   | none => rw [runesOf_bad (by simp) e] at h; cases h
   | some x =>
    obtain ⟨c,k⟩ := x;obtain ⟨_,_,_,h4,h5,_⟩ := nxL_some _ _ _ e;rw [runesOf_step e] at h
    cases e2 : runesOf ((a :: r).drop k) with
    | none => rw [e2] at h; cases h
    | some rs' =>
     rw [e2] at h
     simp at h; subst h
     have := ih _ (by simp at hl h5 ⊢; omega) _ e2
     simp at this h5 ⊢; omega
def validB (l : List UInt8) : Bool := (runesOf l).isSome
def countN (l : List UInt8) : Nat := ((runesOf l).getD []).length
theorem countN_le (l : List UInt8) : countN l ≤ l.length := by
 unfold countN
 cases e : runesOf l with
 | none => simp
 | some rs => simpa using runesOf_le l.length l (Nat.le_refl _) rs e
def okFrom : Bool → List Nat → Bool
 | _,[] => true
 | b,c :: r => (letB c || (!b && digB c)) && okFrom false r
theorem okFrom_append (acc rest : List Nat) : ∀ b,okFrom b (acc ++ rest) = (okFrom b acc && okFrom (b && acc.isEmpty) rest) := by
 induction acc with
 | nil => intro b; simp [okFrom]
 | cons a r ih => intro b; simp [okFrom,ih,Bool.and_assoc]
def nameB (s : ByteArray) : Bool := decide (1 ≤ countN s.data.toList ∧ countN s.data.toList ≤ 20) && !keyB s && okFrom true ((runesOf s.data.toList).getD [])
def Gone (l : List UInt8) (pos : Nat) (acc : List Nat) : Prop := runesOf l = (runesOf (l.drop pos)).map (acc ++ ·)
theorem Gone.start (l : List UInt8) : Gone l 0 [] := by
 unfold Gone; simp
theorem Gone.step {l : List UInt8} {pos c k : Nat} {acc : List Nat} (h : Gone l pos acc) (hn : nxL (l.drop pos) = some (c,k)) : Gone l (pos + k) (acc ++ [c]) := by
 unfold Gone at h ⊢;rw [h,runesOf_step hn,List.drop_drop]
 cases runesOf (l.drop (pos + k)) <;> simp
theorem Gone.bad {l : List UInt8} {pos : Nat} {acc : List Nat} (h : Gone l pos acc) (hp : pos < l.length) (hn : nxL (l.drop pos) = none) : runesOf l = none := by
 unfold Gone at h;rw [h,runesOf_bad _ hn]; rfl;intro e
 have : (l.drop pos).length = 0 := by rw [e]; rfl
 simp at this; omega
theorem Gone.done {l : List UInt8} {pos : Nat} {acc : List Nat} (h : Gone l pos acc) (hp : l.length ≤ pos) : runesOf l = some acc := by
 unfold Gone at h;rw [h,List.drop_eq_nil_of_le hp,runesOf_nil]; simp
theorem Gone.len {l : List UInt8} {pos : Nat} {acc rs : List Nat} (h : Gone l pos acc) (hr : runesOf l = some rs) : ∃ rest,rs = acc ++ rest := by
 unfold Gone at h;rw [hr] at h
 cases e : runesOf (l.drop pos) with
 | none => rw [e] at h; cases h
 | some r => rw [e] at h; simp at h; exact ⟨r,h⟩
theorem dec_at (s : ByteArray) (pos : Nat) (h : pos < s.size) : ∃ c k,Utf8.decode s pos = (c,k) ∧
  (standsB (s.data.toList.drop pos) c = true → nxL (s.data.toList.drop pos) = some (c,k)) ∧ (standsB (s.data.toList.drop pos) c = false → nxL (s.data.toList.drop pos) = none) := by
 have hl : s.data.toList.drop pos ≠ [] := by rw [drop_cons s pos h]; exact List.cons_ne_nil _ _
 have hd := decode_drop s pos (by omega);rw [hd];generalize e : Utf8.decode ⟨(s.data.toList.drop pos).toArray⟩ 0 = d;obtain ⟨c,k⟩ := d;exact ⟨c,k,rfl,nx_stands hl e⟩
theorem len_data (s : ByteArray) : s.data.toList.length = s.size := by rw [Array.length_toList]; rfl
theorem nx_of_gone {l : List UInt8} {pos : Nat} {acc rs : List Nat} (h : Gone l pos acc) (hp : pos < l.length) (hr : runesOf l = some rs) : ∃ x,nxL (l.drop pos) = some x := by
 cases e : nxL (l.drop pos) with
 | none => rw [h.bad hp e] at hr; cases hr
 | some x => exact ⟨x,rfl⟩
theorem dec_of_nx {l : List UInt8} {c k : Nat} {x : Nat × Nat} (h1 : standsB l c = true → nxL l = some (c,k)) (h2 : standsB l c = false → nxL l = none) (h : nxL l = some x) : nxL l = some (c,k) := by
 cases e : standsB l c with
 | true => exact h1 e
 | false => rw [h2 e] at h; cases h
end
section
structure FlS where
 name : ByteArray
 tag : Int
 label : Int
 kind : Int
 tname : ByteArray
structure MsS where
 name : ByteArray
 fields : List FlS
 reserved : List Int
structure NmS where
 name : ByteArray
 n : Int
structure EnS where
 name : ByteArray
 values : List NmS
structure MtS where
 name : ByteArray
 inn : ByteArray
 out : ByteArray
structure ScS where
 name : ByteArray
 msgs : List MsS
 enums : List EnS
 methods : List MtS
def FlS.cells (f : FlS) : List Value := [.string f.name,.int .i64 f.tag,.int .i64 f.label,.int .i64 f.kind,.string f.tname]
def NmS.cells (f : NmS) : List Value := [.string f.name,.int .i64 f.n]
def MtS.cells (f : MtS) : List Value := [.string f.name,.string f.inn,.string f.out]
end
section
open Go.RowKit
def memB (x : ByteArray) (l : List ByteArray) : Bool := l.any fun y => decide (x = y)
theorem memB_iff {x : ByteArray} {l : List ByteArray} : memB x l = true ↔ x ∈ l := by simp [memB]
theorem memB_no {x : ByteArray} {l : List ByteArray} : memB x l = false ↔ x ∉ l := by rw [← memB_iff]; simp
def memI (x : Int) (l : List Int) : Bool := decide (x ∈ l)
def freshB (x : ByteArray) (l : List ByteArray) : Bool := nameB x && !memB x l
def tagR (n : Int) : Bool := decide (1 ≤ n ∧ n ≤ 500)
def tagB (n : Int) (l : List Int) : Bool := tagR n && !memI n l
def numR (n : Int) : Bool := decide (0 ≤ n ∧ n ≤ 2147483647)
def numB (n : Int) (l : List Int) : Bool := numR n && !memI n l
def labB (n : Int) : Bool := decide (1 ≤ n ∧ n ≤ 3)
def typeB (mn en : List ByteArray) (k : Int) (t : ByteArray) : Bool :=
 (decide (1 ≤ k ∧ k ≤ 5) && decide (t = ⟨#[]⟩)) || (decide (k = 6) && memB t en) || (decide (k = 7) && memB t mn)
def orE (a b : Int) : Int := if a = 0 then b else a
def chkRes : List Int → List Int → Int
 | _,[] => 0
 | a,n :: l => if tagB n a = true then chkRes (a ++ [n]) l else 7
def chkFs (mn en : List ByteArray) : List ByteArray → List Int → List FlS → Int
 | _,_,[] => 0
 | a,t,f :: l => if freshB f.name a = false then 6 else if tagB f.tag t = false then 7 else if (labB f.label && typeB mn en f.kind f.tname) = false then 8 else chkFs mn en (a ++ [f.name]) (t ++ [f.tag]) l
def bigM (m : MsS) : Bool := decide (16 < m.fields.length ∨ 32 < m.reserved.length)
def chkMb (mn en : List ByteArray) (m : MsS) : Int := if bigM m = true then 4 else orE (chkRes [] m.reserved) (chkFs mn en [] m.reserved m.fields)
def chkMs (mn en : List ByteArray) : List ByteArray → List MsS → Int
 | _,[] => 0
 | a,m :: l => if freshB m.name a = false then 6 else orE (chkMb mn en m) (chkMs mn en (a ++ [m.name]) l)
def chkVs : List ByteArray → List Int → List NmS → Int
 | _,_,[] => 0
 | a,t,v :: l => if freshB v.name a = false then 6 else if numB v.n t = false then 11 else chkVs (a ++ [v.name]) (t ++ [v.n]) l
def zeroE (e : EnS) : Bool := e.values.any fun v => decide (v.n = 0)
def chkEb (e : EnS) : Int := if 16 < e.values.length then 4 else if zeroE e = false then 12 else chkVs [] [] e.values
def chkEs : List ByteArray → List EnS → Int
 | _,[] => 0
 | a,e :: l => if freshB e.name a = false then 6 else orE (chkEb e) (chkEs (a ++ [e.name]) l)
def chkTs (mn : List ByteArray) : List ByteArray → List MtS → Int
 | _,[] => 0
 | a,m :: l => if freshB m.name a = false then 6 else if (memB m.inn mn && memB m.out mn) = false then 8 else chkTs mn (a ++ [m.name]) l
def ScS.mn (s : ScS) : List ByteArray := s.msgs.map MsS.name
def ScS.en (s : ScS) : List ByteArray := s.enums.map EnS.name
def ScS.tn (s : ScS) : List ByteArray := s.methods.map MtS.name
def bigS (s : ScS) : Bool := decide (10 < s.msgs.length ∨ 6 < s.enums.length ∨ 6 < s.methods.length)
def wholeA (s : ScS) : Int := if nameB s.name = false then 6 else if s.msgs.length = 0 then 12 else if bigS s = true then 4 else 0
def partsA (s : ScS) : Int := orE (chkMs s.mn s.en [] s.msgs) (chkEs s.mn s.enums)
def checkA (s : ScS) : Int := orE (wholeA s) (orE (partsA s) (chkTs s.mn [] s.methods))
/-! Steps,for the loops -/
theorem drop_at {α : Type} {l : List α} {k : Nat} {x : α} (h : l[k]? = some x) : l.drop k = x :: l.drop (k + 1) := by
 obtain ⟨hk,rfl⟩ := List.getElem?_eq_some_iff.1 h;exact List.drop_eq_getElem_cons hk
theorem drop_end {α : Type} {l : List α} {k : Nat} (h : l.length ≤ k) : l.drop k = [] := List.drop_eq_nil_of_le h
theorem orE_zero (b : Int) : orE 0 b = b := by simp [orE]
theorem orE_ne {a : Int} (h : a ≠ 0) (b : Int) : orE a b = a := by simp [orE,h]
theorem memB_nil (x : ByteArray) : memB x [] = false := by simp [memB]
theorem memI_snoc (x y : Int) (l : List Int) : memI x (l ++ [y]) = (memI x l || decide (x = y)) := by simp [memI,Bool.decide_or]
theorem memI_append (x : Int) (l m : List Int) : memI x (l ++ m) = (memI x l || memI x m) := by simp [memI,Bool.decide_or]
theorem bytes_eq_iff (a b : ByteArray) : a = b ↔ a.data.toList = b.data.toList :=
 ⟨fun h => by rw [h],fun h => by obtain ⟨⟨l⟩⟩ := a; obtain ⟨⟨m⟩⟩ := b; simp at h; subst h; rfl⟩
theorem beq_bytes (a b : ByteArray) : (a.data.toList == b.data.toList) = decide (a = b) := by
 rw [Bool.eq_iff_iff,beq_iff_eq,decide_eq_true_iff,bytes_eq_iff]
/-! When Check answers OK -/
theorem orE_ok {a b : Int} : orE a b = 0 ↔ a = 0 ∧ b = 0 := by unfold orE; split <;> omega
theorem freshB_iff {x : ByteArray} {l : List ByteArray} : freshB x l = true ↔ nameB x = true ∧ x ∉ l := by unfold freshB; rw [Bool.and_eq_true,Bool.not_eq_true',memB_no]
theorem tagB_iff {x : Int} {l : List Int} : tagB x l = true ↔ tagR x = true ∧ x ∉ l := by simp [tagB,memI]
theorem chkRes_ok : ∀ (l a : List Int),chkRes a l = 0 ↔ (∀ n ∈ l,tagR n = true ∧ n ∉ a) ∧ l.Nodup
 | [],a => by simp [chkRes]
 | n :: l,a => by
  unfold chkRes
  by_cases h : tagB n a = true
  ·rw [if_pos h,chkRes_ok l];rw [tagB_iff] at h;simp only [List.mem_append,List.mem_singleton,not_or,List.forall_mem_cons,List.nodup_cons]
   constructor
   ·rintro ⟨h1,h2⟩;exact ⟨⟨h,fun m hm => ⟨(h1 m hm).1,(h1 m hm).2.1⟩⟩,fun hn => (h1 n hn).2.2 rfl,h2⟩
   ·rintro ⟨⟨_,h1⟩,h2,h3⟩;exact ⟨fun m hm => ⟨(h1 m hm).1,(h1 m hm).2,fun e => h2 (e ▸ hm)⟩,h3⟩
  ·rw [if_neg h];rw [tagB_iff] at h;simp only [List.mem_cons,forall_eq_or_imp]
   constructor
   ·intro e; omega
   ·rintro ⟨⟨h1,_⟩,_⟩; exact absurd h1 h
def fieldOk (mn en : List ByteArray) (f : FlS) : Prop := nameB f.name = true ∧ tagR f.tag = true ∧ labB f.label = true ∧ typeB mn en f.kind f.tname = true
theorem chkFs_ok (mn en : List ByteArray) : ∀ (l : List FlS) (a : List ByteArray) (t : List Int),chkFs mn en a t l = 0 ↔ (∀ f ∈ l,fieldOk mn en f ∧ f.name ∉ a ∧ f.tag ∉ t) ∧ (l.map FlS.name).Nodup ∧ (l.map FlS.tag).Nodup
 | [],a,t => by simp [chkFs]
 | f :: l,a,t => by
  unfold chkFs;simp only [List.mem_cons,forall_eq_or_imp,List.map_cons,List.nodup_cons,List.mem_map,not_exists,not_and]
  by_cases h1 : freshB f.name a = true
  ·rw [if_neg (by rw [h1]; decide)]
   by_cases h2 : tagB f.tag t = true
   ·rw [if_neg (by rw [h2]; decide)]
    by_cases h3 : (labB f.label && typeB mn en f.kind f.tname) = true
    ·rw [if_neg (by rw [h3]; decide),chkFs_ok mn en l];rw [freshB_iff] at h1;rw [tagB_iff] at h2;rw [Bool.and_eq_true] at h3;simp only [List.mem_append,List.mem_singleton,not_or]
     constructor
     ·rintro ⟨g1,g2,g3⟩;exact ⟨⟨⟨⟨h1.1,h2.1,h3.1,h3.2⟩,h1.2,h2.2⟩,fun m hm => ⟨(g1 m hm).1,(g1 m hm).2.1.1,(g1 m hm).2.2.1⟩⟩,⟨fun m hm => (g1 m hm).2.1.2,g2⟩,⟨fun m hm => (g1 m hm).2.2.2,g3⟩⟩
     ·rintro ⟨⟨_,g1⟩,⟨g2,g3⟩,⟨g4,g5⟩⟩;exact ⟨fun m hm => ⟨(g1 m hm).1,⟨(g1 m hm).2.1,g2 m hm⟩,⟨(g1 m hm).2.2,g4 m hm⟩⟩,g3,g5⟩
    ·rw [if_pos (by simpa using h3)]
     constructor
     ·intro e; omega
     ·rintro ⟨⟨⟨⟨_,_,g1,g2⟩,_⟩,_⟩,_⟩; rw [g1,g2] at h3; exact absurd rfl h3
   ·rw [if_pos (by simpa using h2)]
    constructor
    ·intro e; omega
    ·rintro ⟨⟨⟨⟨_,g1,_⟩,_,g2⟩,_⟩,_⟩; exact absurd (tagB_iff.2 ⟨g1,g2⟩) h2
  ·rw [if_pos (by simpa using h1)]
   constructor
   ·intro e; omega
   ·rintro ⟨⟨⟨⟨g1,_⟩,g2,_⟩,_⟩,_⟩; exact absurd (freshB_iff.2 ⟨g1,g2⟩) h1
def msgOk (mn en : List ByteArray) (m : MsS) : Prop := bigM m = false ∧ (∀ n ∈ m.reserved,tagR n = true) ∧ m.reserved.Nodup ∧ (∀ f ∈ m.fields,fieldOk mn en f ∧ f.tag ∉ m.reserved) ∧ (m.fields.map FlS.name).Nodup ∧ (m.fields.map FlS.tag).Nodup
theorem chkMb_ok (mn en : List ByteArray) (m : MsS) : chkMb mn en m = 0 ↔ msgOk mn en m := by
 unfold chkMb msgOk
 cases h : bigM m
 ·rw [if_neg (by decide),orE_ok,chkRes_ok,chkFs_ok];simp only [List.not_mem_nil,not_false_eq_true,and_true,true_and]
  constructor
  ·rintro ⟨⟨h1,h2⟩,h3,h4,h5⟩; exact ⟨h1,h2,h3,h4,h5⟩
  ·rintro ⟨h1,h2,h3,h4,h5⟩; exact ⟨⟨h1,h2⟩,h3,h4,h5⟩
 ·rw [if_pos rfl]; constructor
  ·intro e; omega
  ·rintro ⟨e,_⟩; cases e
theorem chkMs_ok (mn en : List ByteArray) : ∀ (l : List MsS) (a : List ByteArray),chkMs mn en a l = 0 ↔ (∀ m ∈ l,nameB m.name = true ∧ m.name ∉ a ∧ msgOk mn en m) ∧ (l.map MsS.name).Nodup
 | [],a => by simp [chkMs]
 | m :: l,a => by
  unfold chkMs;simp only [List.mem_cons,forall_eq_or_imp,List.map_cons,List.nodup_cons,List.mem_map,not_exists,not_and]
  by_cases h1 : freshB m.name a = true
  ·rw [if_neg (by rw [h1]; decide),orE_ok,chkMs_ok mn en l,chkMb_ok];rw [freshB_iff] at h1;simp only [List.mem_append,List.mem_singleton,not_or]
   constructor
   ·rintro ⟨g0,g1,g2⟩;exact ⟨⟨⟨h1.1,h1.2,g0⟩,fun x hx => ⟨(g1 x hx).1,(g1 x hx).2.1.1,(g1 x hx).2.2⟩⟩,fun x hx => (g1 x hx).2.1.2,g2⟩
   ·rintro ⟨⟨⟨_,_,g0⟩,g1⟩,g2,g3⟩;exact ⟨g0,fun x hx => ⟨(g1 x hx).1,⟨(g1 x hx).2.1,g2 x hx⟩,(g1 x hx).2.2⟩,g3⟩
  ·rw [if_pos (by simpa using h1)]
   constructor
   ·intro e; omega
   ·rintro ⟨⟨⟨g1,g2,_⟩,_⟩,_⟩; exact absurd (freshB_iff.2 ⟨g1,g2⟩) h1
theorem chkEs_ok : ∀ (l : List EnS) (a : List ByteArray),chkEs a l = 0 ↔ (∀ e ∈ l,nameB e.name = true ∧ e.name ∉ a ∧ chkEb e = 0) ∧ (l.map EnS.name).Nodup
 | [],a => by simp [chkEs]
 | m :: l,a => by
  unfold chkEs;simp only [List.mem_cons,forall_eq_or_imp,List.map_cons,List.nodup_cons,List.mem_map,not_exists,not_and]
  by_cases h1 : freshB m.name a = true
  ·rw [if_neg (by rw [h1]; decide),orE_ok,chkEs_ok l];rw [freshB_iff] at h1;simp only [List.mem_append,List.mem_singleton,not_or]
   constructor
   ·rintro ⟨g0,g1,g2⟩;exact ⟨⟨⟨h1.1,h1.2,g0⟩,fun x hx => ⟨(g1 x hx).1,(g1 x hx).2.1.1,(g1 x hx).2.2⟩⟩,fun x hx => (g1 x hx).2.1.2,g2⟩
   ·rintro ⟨⟨⟨_,_,g0⟩,g1⟩,g2,g3⟩;exact ⟨g0,fun x hx => ⟨(g1 x hx).1,⟨(g1 x hx).2.1,g2 x hx⟩,(g1 x hx).2.2⟩,g3⟩
  ·rw [if_pos (by simpa using h1)]
   constructor
   ·intro e; omega
   ·rintro ⟨⟨⟨g1,g2,_⟩,_⟩,_⟩; exact absurd (freshB_iff.2 ⟨g1,g2⟩) h1
theorem chkTs_ok (mn : List ByteArray) : ∀ (l : List MtS) (a : List ByteArray),chkTs mn a l = 0 ↔ (∀ e ∈ l,nameB e.name = true ∧ e.name ∉ a ∧ e.inn ∈ mn ∧ e.out ∈ mn) ∧ (l.map MtS.name).Nodup
 | [],a => by simp [chkTs]
 | m :: l,a => by
  unfold chkTs;simp only [List.mem_cons,forall_eq_or_imp,List.map_cons,List.nodup_cons,List.mem_map,not_exists,not_and]
  by_cases h1 : freshB m.name a = true
  ·rw [if_neg (by rw [h1]; decide)]
   by_cases h2 : (memB m.inn mn && memB m.out mn) = true
   ·rw [if_neg (by rw [h2]; decide),chkTs_ok mn l];rw [freshB_iff] at h1
    have h2' : m.inn ∈ mn ∧ m.out ∈ mn := by rw [Bool.and_eq_true,memB_iff,memB_iff] at h2; exact h2
    simp only [List.mem_append,List.mem_singleton,not_or]
    constructor
    ·rintro ⟨g1,g2⟩;exact ⟨⟨⟨h1.1,h1.2,h2'⟩,fun x hx => ⟨(g1 x hx).1,(g1 x hx).2.1.1,(g1 x hx).2.2⟩⟩,fun x hx => (g1 x hx).2.1.2,g2⟩
    ·rintro ⟨⟨_,g1⟩,g2,g3⟩;exact ⟨fun x hx => ⟨(g1 x hx).1,⟨(g1 x hx).2.1,g2 x hx⟩,(g1 x hx).2.2⟩,g3⟩
   ·rw [if_pos (by simpa using h2)]
    constructor
    ·intro e; omega
    ·rintro ⟨⟨⟨_,_,g1,g2⟩,_⟩,_⟩;exact absurd (by rw [Bool.and_eq_true,memB_iff,memB_iff]; exact ⟨g1,g2⟩) h2
  ·rw [if_pos (by simpa using h1)]
   constructor
   ·intro e; omega
   ·rintro ⟨⟨⟨g1,g2,_⟩,_⟩,_⟩; exact absurd (freshB_iff.2 ⟨g1,g2⟩) h1
structure OkS (s : ScS) : Prop where
 name : nameB s.name = true
 some : 0 < s.msgs.length
 big : bigS s = false
 msgs : ∀ m ∈ s.msgs,nameB m.name = true ∧ msgOk s.mn s.en m
 enums : ∀ e ∈ s.enums,nameB e.name = true ∧ chkEb e = 0
 meths : ∀ t ∈ s.methods,nameB t.name = true ∧ t.inn ∈ s.mn ∧ t.out ∈ s.mn
 names : s.mn.Nodup
 enms : s.en.Nodup
 apart : ∀ x ∈ s.en,x ∉ s.mn
 tns : s.tn.Nodup
theorem wholeA_ok (s : ScS) : wholeA s = 0 ↔ nameB s.name = true ∧ 0 < s.msgs.length ∧ bigS s = false := by
 unfold wholeA
 cases h1 : nameB s.name
 ·simp
 ·by_cases h2 : s.msgs.length = 0
  ·rw [if_neg (by decide),if_pos h2]; simp [h2]
  ·rw [if_neg (by decide),if_neg h2]
   cases h3 : bigS s
   ·simp; omega
   ·simp
theorem checkA_ok (s : ScS) : checkA s = 0 ↔ OkS s := by
 unfold checkA partsA;rw [orE_ok,orE_ok,orE_ok,wholeA_ok,chkMs_ok,chkEs_ok,chkTs_ok]
 constructor
 ·rintro ⟨⟨h1,h2,h3⟩,⟨⟨h4,h5⟩,h6,h7⟩,h8,h9⟩
  exact ⟨h1,h2,h3,fun m hm => ⟨(h4 m hm).1,(h4 m hm).2.2⟩,fun e he => ⟨(h6 e he).1,(h6 e he).2.2⟩,fun t ht => ⟨(h8 t ht).1,(h8 t ht).2.2⟩,h5,h7,
   fun x hx => by obtain ⟨e,he,rfl⟩ := List.mem_map.1 hx; exact (h6 e he).2.1,h9⟩
 ·rintro ⟨h1,h2,h3,h4,h5,h6,h7,h8,h9,h10⟩;exact ⟨⟨h1,h2,h3⟩,⟨⟨fun m hm => ⟨(h4 m hm).1,by simp,(h4 m hm).2⟩,h7⟩,fun e he => ⟨(h5 e he).1,h9 _ (List.mem_map_of_mem he),(h5 e he).2⟩,h8⟩,fun t ht => ⟨(h6 t ht).1,by simp,(h6 t ht).2⟩,h10⟩
end
section
def DpN : Nat → Tr → Prop
 | 0,_ => False
 | n + 1,t => ∀ e ∈ t.es,∀ x ∈ e.2,DpN n x
def nmrB (k n : Int) : Bool :=
 if k = 3 then decide (0 ≤ n) && decide (n ≤ 1) else if k = 6 then decide (0 ≤ n) && decide (n ≤ 2147483647)
 else if k = 1 then decide (-2147483648 ≤ n) && decide (n ≤ 2147483647) else decide (k = 2)
def kindT (k : Int) : Int := if k = 1 ∨ k = 2 ∨ k = 3 ∨ k = 6 then 1 else if k = 4 ∨ k = 5 then 2 else if k = 7 then 3 else 0
def zroB (t : Tr) : Bool := decide (t.kind = 1 ∨ t.kind = 2 ∨ t.kind = 3) && decide (t.n = 0) && decide (t.s.size = 0) && decide (t.es.length = 0) && decide (t.rest.length = 0)
def fldOf (fs : List FlS) (tag : Int) : Option FlS := fs.find? fun f => decide (f.tag = tag)
def msgOf (s : ScS) (nm : ByteArray) : Option MsS := s.msgs.find? fun m => decide (m.name = nm)
end
section
open Go.ChangeShapes Go.WideShapes Go.ChangeAt Go.RowKit
theorem infoByte : (Tryz.prog.info? 5).map (fun i => (i.zero,i.size,i.bytes)) = some (some (.int .u8 0),1,1) := by kernel_rfl
def byteCells (ns : List Nat) : List Value := ns.map fun (c : Nat) => Value.int .u8 (c : Int)
def Holds (w : World) (a : Option Addr) (ns : List Nat) : Prop := ∀ b,a = some b → ∀ j u,(byteCells ns)[j]? = some u → w.cell? (b.add j) = some u
theorem info_parts {e : Nat} {z : Value} {s b : Nat} (h : (Tryz.prog.info? e).map (fun i => (i.zero,i.size,i.bytes)) = some (some z,s,b)) :
  ∃ i,Tryz.prog.info? e = some i ∧ i.zero = some z ∧ i.size = s ∧ i.bytes = b := by
 cases hi : Tryz.prog.info? e with
 | none => rw [hi] at h; simp at h
 | some i => rw [hi] at h; simp at h; exact ⟨i,rfl,h.1,h.2.1,h.2.2⟩
theorem Holds.below {w w1 : World} {a : Option Addr} {ns : List Nat} (h : Holds w a ns) (hb : Below w.heap.size w w1) : Holds w1 a ns := by
 intro b hab j u hu;have := h b hab j u hu;rw [hb.cell (World.block_lt_of_cell? _ _ this)];exact this
theorem own_mono {w : World} {base base' : Nat} {e : TypeId} {v : Value} {n : Nat} {xs : List Value} (h : w.ownsRow base e 1 v n xs) (hb : base' ≤ base) : w.ownsRow base' e 1 v n xs := by
 refine ⟨h.1,?_⟩
 rcases h.2 with h | ⟨g,cap,cur,h1,h2,h3⟩
 ·exact .inl h
 ·exact .inr ⟨g,cap,cur,h1,Nat.le_trans hb h2,h3⟩
theorem byteCells_get (ns : List Nat) (j : Nat) (h : j < ns.length) : (byteCells ns)[j]? = some (.int .u8 ((ns.getD j 0 : Nat) : Int)) := by
 simp [byteCells,List.getD_eq_getElem?_getD,List.getElem?_eq_getElem h]
theorem byteCells_len (ns : List Nat) : (byteCells ns).length = ns.length := by simp [byteCells]
theorem Holds.at {w : World} {g off : Nat} {ns : List Nat} (h : Holds w (some ⟨g,off,none⟩) ns) (j : Nat) (hj : j < ns.length) : w.cell? ⟨g,off + j,none⟩ = some (.int .u8 ((ns.getD j 0 : Nat) : Int)) := by
 have := h _ rfl j _ (byteCells_get ns j hj)
 rwa [Addr.add_lit] at this
theorem Holds.of {w : World} {g off : Nat} {ns : List Nat} (h : ∀ j,j < ns.length → w.cell? ⟨g,off + j,none⟩ = some (.int .u8 ((ns.getD j 0 : Nat) : Int))) : Holds w (some ⟨g,off,none⟩) ns := by
 intro b hb j u hu
 obtain rfl : ⟨g,off,none⟩ = b := by simpa using hb
 have hj : j < ns.length := by
  rcases Nat.lt_or_ge j ns.length with h | h
  ·exact h
  ·rw [List.getElem?_eq_none (by rw [byteCells_len]; exact h)] at hu; cases hu
 rw [byteCells_get ns j hj] at hu;rw [Addr.add_lit,h j hj];exact hu
theorem Holds.nil {w : World} {a : Option Addr} : Holds w a [] := by
 intro b _ j u hu
 simp [byteCells] at hu
theorem own_open {w : World} {B : Nat} {r : Value} {n : Nat} {ns : List Nat} (h : w.ownsRow B 5 1 r n (byteCells ns)) :
  ∃ a cap,r = .slice a ns.length cap ∧ n = ns.length ∧ ((a = none ∧ ns = [] ∧ cap = 0) ∨ ∃ g,a = some ⟨g,0,none⟩ ∧ B ≤ g ∧ g < w.heap.size) ∧ ns.length ≤ cap ∧ cap ≤ maxLen ∧ Holds w a ns := by
 have hn : n = ns.length := by have := h.1; rw [byteCells_len] at this; omega
 have h0 := h;subst hn
 rcases h.2 with ⟨rfl,h2⟩ | ⟨g,cap,cur,rfl,hb,hg,hc,hm,_⟩
 ·have : ns = [] := List.eq_nil_of_length_eq_zero h2;subst this;exact ⟨none,0,rfl,rfl,.inl ⟨rfl,rfl,rfl⟩,Nat.le_refl _,by decide,Holds.nil⟩
 ·refine ⟨_,cap,rfl,rfl,.inr ⟨g,rfl,hb,(Array.getElem?_eq_some_iff.1 hg).1⟩,hc,hm,?_⟩;intro b hb' j u hu
  obtain rfl : ⟨g,0,none⟩ = b := by simpa using hb'
  exact h0.cells (g := g) rfl j u hu
def strN (ns : List Nat) : ByteArray := ⟨(ns.map UInt8.ofNat).toArray⟩
theorem strN_size (ns : List Nat) : (strN ns).size = ns.length := by simp [strN,ByteArray.size]
theorem conv_holds (w : World) (a : Option Addr) (ns : List Nat) (cap : Nat) (ha : a = none → ns = []) (hh : Holds w a ns) :
  (convert 27 9 (.slice a ns.length cap)).run Tryz.prog w = .ok (.string (strN ns)) w := by
 cases a with
 | none =>
  obtain rfl := ha rfl;exact run_convert_bytes_nil (P := Tryz.prog) w 27 5 Tryz.underlying27 Tryz.underlying5 _ _ 9 Tryz.underlying9
 | some b =>
  have e : byteCells ns = (ns.map fun (c : Nat) => (c : Int)).map (Value.int .u8) := by simp [byteCells]
  have hl : (loadCells b ns.length).run Tryz.prog w = .ok ((ns.map fun (c : Nat) => (c : Int)).map (Value.int .u8)).toArray w := by
   have := run_loadCells_list (P := Tryz.prog) w b (byteCells ns) (fun j v hj => hh b rfl j v hj);rw [byteCells_len] at this;rw [← e]; exact this
  rw [run_convert_bytes_string w 27 9 5 _ _ cap Tryz.underlying27 Tryz.underlying5 Tryz.underlying9,run_bytesToString w _ _ cap _ hl,foldl_push_bytes]
  simp [strN,ByteArray.empty,ByteArray.emptyWithCapacity]
  rfl
theorem below_one (w : World) (o : Obj) : Below w.heap.size w (w.alloc o) := bra _
theorem byteCells_one (ns : List Nat) : ∀ u ∈ byteCells ns,u.oneCell' = true := by
 intro u hu;simp only [byteCells,List.mem_map] at hu;obtain ⟨n,_,rfl⟩ := hu
 rfl
theorem byteCells_app (ns ms : List Nat) : byteCells (ns ++ ms) = byteCells ns ++ byteCells ms := by simp [byteCells]
theorem wpList_join {w : World} {ops : Array Oper} {rest : List Oper} {o : Oper} {a : Act} {Q : Exit → Act → World → Prop} (hgd : o.guard = none) (s x : Operand)
  (ho : o.op = .call { callee := .builtin .append,args := #[s,x],argTypes := #[27,27] }) (base : Nat) (v : Value) (n : Nat) (ns : List Nat) (hs : a.eval s = v) (hown : w.ownsRow base 5 1 v n (byteCells ns))
  (ao : Option Addr) (ms : List Nat) (m c : Nat) (hx : a.eval x = .slice ao m c) (hm : m = ms.length) (hao : ao = none → ms = [] ∧ c = 0) (hh : Holds w ao ms) (hb : ns.length + ms.length ≤ 140737488355328) (hbase : base ≤ w.heap.size)
  (h : ∀ v' w',w'.ownsRow base 5 1 v' (ns ++ ms).length (byteCells (ns ++ ms)) → w.grownBy w' v.ownBlock → wpList Tryz.prog ops Q rest (a.put o.dst v') w') : wpList Tryz.prog ops Q (o :: rest) a w := by
 obtain ⟨i0,hi,hz0,hz1,hz2⟩ := info_parts infoByte
 have hn : n = ns.length := by have := hown.1; rw [byteCells_len] at this; omega
 subst hm hn
 cases ao with
 | none =>
  obtain ⟨rfl,rfl⟩ := hao rfl;refine wpList_append_own_none hgd s x 27 ho base 5 i0 1 Tryz.underlying27 hi v _ _ hs hown hx ?_;refine h v w ?_ ⟨rfl,rfl,rfl,Nat.le_refl _,fun _ _ _ => rfl⟩;rw [List.append_nil];exact hown
 | some ad =>
  refine wpList_append_own w hgd s x 27 ho base 5 i0 (.int .u8 0) 1 1 Tryz.underlying27 hi hz0 hz1 hz2 rfl (by decide) v _ _ hs hown ad ms.length c (byteCells ms) hx (by rw [byteCells_len]; omega) (hh ad rfl) (byteCells_one ms) (by unfold maxLen; omega) (by omega) hbase ?_;intro v' w' h1 h2 _;refine h v' w' ?_ h2;rw [byteCells_app,List.length_append];exact h1
def IsRow (k : IntKind) (w : World) (a : Option Addr) (len cap : Nat) (zs : List Int) : Prop :=
 (a = none ∧ len = 0 ∧ cap = 0 ∧ zs = []) ∨
 ∃ x,a = some x ∧ len ≤ cap ∧ cap ≤ maxLen ∧ zs.length = cap ∧ (∀ i,i < zs.length → w.cell? (x.add i) = some (.int k (zs.getD i 0))) ∧ ∀ n ∈ zs,(Lit.int k n).wf = true
theorem row_holds {w : World} {a : Option Addr} {len cap : Nat} {zs : List Int} (h : IsRow .u8 w a len cap zs) (hb : cap * Tryz.prog.bytesOf 5 ≤ 140737488351232) :
  ∃ ns : List Nat,ns.length = len ∧ Holds w a ns ∧ (∀ n ∈ ns,n < 256) ∧ len ≤ cap ∧ cap ≤ 140737488351232 ∧ (a = none → ns = [] ∧ cap = 0) := by
 rw [show Tryz.prog.bytesOf 5 = 1 from by kernel_rfl,Nat.mul_one] at hb
 rcases h with ⟨rfl,rfl,rfl,rfl⟩ | ⟨x,rfl,hl,hm,hz,hc,hw⟩
 ·exact ⟨[],rfl,Holds.nil,by simp,Nat.le_refl _,by decide,fun _ => ⟨rfl,rfl⟩⟩
 ·refine ⟨(zs.take len).map Int.toNat,by simp; omega,?_,?_,hl,hb,fun h => by cases h⟩
  ·intro b hb j u hu
   obtain rfl : x = b := by simpa using hb
   have hj : j < len := by
    have := (List.getElem?_eq_some_iff.1 hu).1
    simp [byteCells] at this; omega
   have hjz : j < zs.length := by omega
   have hwf := hw (zs[j]) (List.getElem_mem hjz);obtain ⟨w1,w2⟩ := bounds_u8 hwf;rw [hc j hjz]
   simp [byteCells,hj,hjz] at hu
   rw [← hu]
   simp [List.getD_eq_getElem?_getD,List.getElem?_eq_getElem hjz]
   omega
  ·intro n hn;simp only [List.mem_map] at hn;obtain ⟨z,hz',rfl⟩ := hn;obtain ⟨w1,w2⟩ := bounds_u8 (hw z (List.mem_of_mem_take hz'))
   omega
end
section
def digsF : Nat → Nat → List Nat
 | 0,v => [v]
 | f + 1,v => if v < 128 then [v] else (v % 128 + 128) :: digsF f (v / 128)
def digs (v : Nat) : List Nat := digsF v v
theorem digsF_fuel (f : Nat) : ∀ g v,v ≤ f → v ≤ g → digsF f v = digsF g v := by
 induction f with
 | zero =>
  intro g v h1 _
  obtain rfl : v = 0 := by omega
  cases g <;> rfl
 | succ f ih =>
  intro g v h1 h2
  cases g with
  | zero =>
   obtain rfl : v = 0 := by omega
   rfl
  | succ g =>
   simp only [digsF]
   by_cases h : v < 128
   ·rw [if_pos h,if_pos h]
   ·rw [if_neg h,if_neg h,ih g (v / 128) (by omega) (by omega)]
theorem digs_small {v : Nat} (h : v < 128) : digs v = [v] := by
 unfold digs
 cases v with
 | zero => rfl
 | succ n => simp only [digsF]; rw [if_pos h]
theorem digs_big {v : Nat} (h : ¬ v < 128) : digs v = (v % 128 + 128) :: digs (v / 128) := by
 unfold digs
 cases v with
 | zero => omega
 | succ n =>
  simp only [digsF];rw [if_neg h,digsF_fuel n ((n + 1) / 128) ((n + 1) / 128) (by omega) (Nat.le_refl _)]
theorem digs_ind {M : Nat → Prop} (case1 : ∀ v,v < 128 → M v) (case2 : ∀ v,¬ v < 128 → M (v / 128) → M v) (v : Nat) : M v := by
 induction v using Nat.strongRecOn with
 | _ v ih =>
  by_cases h : v < 128
  ·exact case1 v h
  ·exact case2 v h (ih (v / 128) (by omega))
theorem digs_ne (v : Nat) : digs v ≠ [] := by
 by_cases h : v < 128
 ·rw [digs_small h]; simp
 ·rw [digs_big h]; simp
theorem digs_lt (v : Nat) : ∀ n ∈ digs v, n < 256 := by
  induction v using digs_ind with
  | case1 v h => rw [digs_small h]; simp; omega
  | case2 v h ih => rw [digs_big h]; intro n hn; simp at hn; rcases hn with rfl | hn; · omega
                    exact ih n hn
theorem digs_len_le (k : Nat) : ∀ v,v < 128 * 128 ^ k → (digs v).length ≤ k + 1 := by
 induction k with
 | zero => intro v h; rw [digs_small (by omega)]; simp
 | succ k ih =>
  intro v h
  by_cases hv : v < 128
  ·rw [digs_small hv]; simp
  ·rw [digs_big hv];have := ih (v / 128) (by rw [Nat.div_lt_iff_lt_mul (by omega)]; rw [Nat.pow_succ] at h; omega)
   simp; omega
theorem digs_len64 (v : Nat) (h : v < 18446744073709551616) : 1 ≤ (digs v).length ∧ (digs v).length ≤ 10 :=
  ⟨List.length_pos_iff.2 (digs_ne v), digs_len_le 9 v (by have : (128 : Nat) * 128 ^ 9 = 1180591620717411303424 := by decide
                                                          omega)⟩
def getF : List Nat → Nat → Nat → Nat → Nat × Nat × Nat
 | [],_,_,_ => (0,0,2)
 | c :: r,i,v,at' => if i = 9 ∧ 1 < c then (0,0,3) else if 128 ≤ c then getF r (i + 1) (v + c % 128 * 128 ^ i) at' else if c = 0 ∧ 0 < i then (0,0,3) else (v + c % 128 * 128 ^ i,at' + i + 1,0)
def getR (ns : List Nat) (at' : Int) : Nat × Nat × Nat := if at' < 0 ∨ (ns.length : Int) < at' then (0,0,1) else getF (ns.drop at'.toNat) 0 0 at'.toNat
theorem getF_ten {c : Nat} (r : List Nat) {i : Nat} (v p : Nat) (h : i = 9) (hc : 1 < c) : getF (c :: r) i v p = (0,0,3) := by rw [getF,if_pos ⟨h,hc⟩]
theorem getF_on {c : Nat} (r : List Nat) {i : Nat} (v p : Nat) (h : ¬ (i = 9 ∧ 1 < c)) (hc : 128 ≤ c) : getF (c :: r) i v p = getF r (i + 1) (v + c % 128 * 128 ^ i) p := by rw [getF,if_neg h,if_pos hc]
theorem getF_zero {c : Nat} (r : List Nat) {i : Nat} (v p : Nat) (h : ¬ (i = 9 ∧ 1 < c)) (hc : c = 0) (hi : 0 < i) : getF (c :: r) i v p = (0,0,3) := by rw [getF,if_neg h,if_neg (by omega),if_pos ⟨hc,hi⟩]
theorem getF_end {c : Nat} (r : List Nat) {i : Nat} (v p : Nat) (h : ¬ (i = 9 ∧ 1 < c)) (hc : c < 128) (hz : ¬ (c = 0 ∧ 0 < i)) : getF (c :: r) i v p = (v + c * 128 ^ i,p + i + 1,0) := by
 rw [getF,if_neg h,if_neg (by omega),if_neg hz,Nat.mod_eq_of_lt hc]
theorem getF_digs (v : Nat) : ∀ (i acc p : Nat) (rest : List Nat),(0 < i → 0 < v) → i ≤ 9 → v * 128 ^ i < 18446744073709551616 → getF (digs v ++ rest) i acc p = (acc + v * 128 ^ i,p + i + (digs v).length,0) := by
 induction v using digs_ind with
 | case1 v h =>
  intro i acc p rest h0 hi hv;rw [digs_small h,List.singleton_append,getF_end rest acc p ?_ h (by omega)]
  ·rfl
  ·rintro ⟨rfl,h1⟩
   have : (128 : Nat) ^ 9 = 9223372036854775808 := by decide
   rw [this] at hv; omega
 | case2 v h ih =>
  intro i acc p rest h0 hi hv
  have hi9 : i ≠ 9 := by
   rintro rfl
   have : (128 : Nat) ^ 9 = 9223372036854775808 := by decide
   rw [this] at hv; omega
  have e : v / 128 * 128 ^ (i + 1) + v % 128 * 128 ^ i = v * 128 ^ i := by
   rw [Nat.pow_succ];have := Nat.div_add_mod v 128
   have e9 : v / 128 * (128 ^ i * 128) + v % 128 * 128 ^ i = (128 * (v / 128) + v % 128) * 128 ^ i := by rw [Nat.add_mul]; congr 1; rw [Nat.mul_comm (128 ^ i),← Nat.mul_assoc,Nat.mul_comm (v / 128)]
   rw [e9,this]
  rw [digs_big h,List.cons_append,getF_on _ acc p (by omega) (by omega),ih (i + 1) _ p rest (by omega) (by omega) (by omega)]
  have e2 : (v % 128 + 128) % 128 = v % 128 := by omega
  rw [e2];simp only [Prod.mk.injEq,and_true,List.length_cons]
  omega
end
section
open Go.ChangeShapes Go.WideShapes Go.ChangeAt Go.RowKit
theorem vret_int {k : IntKind} {a b : Int} (h : a = b) : Ending.returned (.int k a) = .returned (.int k b) := by rw [h]
def zigN (n : Int) : Int := if n < 0 then -2 * n - 1 else 2 * n
def zagN (v : Int) : Int := if v % 2 = 0 then v / 2 else -(v / 2) - 1
theorem zigN_bd (n : Int) (h1 : -9223372036854775808 ≤ n) (h2 : n ≤ 9223372036854775807) : 0 ≤ zigN n ∧ zigN n < 18446744073709551616 := by
 unfold zigN; split <;> omega
theorem zagN_bd (v : Int) (h1 : 0 ≤ v) (h2 : v < 18446744073709551616) : -9223372036854775808 ≤ zagN v ∧ zagN v ≤ 9223372036854775807 := by
 unfold zagN; split <;> omega
theorem zag_zig (n : Int) : zagN (zigN n) = n := by unfold zagN zigN; split <;> split <;> omega
theorem zig_zag (v : Int) (h : 0 ≤ v) : zigN (zagN v) = v := by unfold zagN zigN; split <;> split <;> omega
theorem not_nat (n : Nat) (h : n < 18446744073709551616) : 18446744073709551615 ^^^ n = 18446744073709551615 - n := by
 apply Nat.eq_of_testBit_eq
 intro i;have e1 := Nat.testBit_two_pow_sub_succ (x := n) (n := 64) h i;have e2 := Nat.testBit_two_pow_sub_one 64 i;rw [show (2 : Nat) ^ 64 - (n + 1) = 18446744073709551615 - n from by omega] at e1;rw [show (2 : Nat) ^ 64 - 1 = 18446744073709551615 from by decide] at e2;rw [Nat.testBit_xor,e1,e2]
 by_cases hi : i < 64
 ·simp [hi]
 ·have : n.testBit i = false := Nat.testBit_lt_two_pow (Nat.lt_of_lt_of_le h (by rw [show 18446744073709551616 = 2 ^ 64 from by decide]; exact Nat.pow_le_pow_right (by decide) (by omega)))
  simp [hi,this]
theorem not_u64 (x : Int) (h1 : 0 ≤ x) (h2 : x < 18446744073709551616) : bits .xor .u64 IntKind.u64.max x = 18446744073709551615 - x := by
 obtain ⟨n,rfl⟩ := Int.eq_ofNat_of_zero_le h1
 have e : IntKind.u64.max = ((18446744073709551615 : Nat) : Int) := by decide
 rw [e,u64_xor_nat _ _ (by decide) (by omega),not_nat n (by omega)]
 omega
theorem zig_any (n : Int) (w : World) (h1 : -9223372036854775808 ≤ n) (h2 : n ≤ 9223372036854775807) :
  Calls Tryz.prog 91 #[.int .i64 n] w fun e w' => e = .returned (.int .u64 (zigN n)) ∧ w' = w := by
 by_cases h : n < 0
 ·go_enter Tryz.func91,Tryz.ntmps91
  go_wp2
  go_ret;refine ⟨vret_int ?_,rfl⟩;rw [IntKind.wrap_u64,IntKind.wrap_u64,not_u64 _ (by omega) (by omega)];unfold zigN; rw [if_pos ‹_›]; omega
 ·go_enter Tryz.func91,Tryz.ntmps91
  go_wp2
  go_ret;refine ⟨vret_int ?_,rfl⟩;unfold zigN; rw [if_neg (by omega)]; omega
theorem zag_any (v : Int) (w : World) (h1 : 0 ≤ v) (h2 : v < 18446744073709551616) :
  Calls Tryz.prog 145 #[.int .u64 v] w fun e w' => e = .returned (.int .i64 (zagN v)) ∧ w' = w := by
 have hb : bits .and .u64 v 1 = v % 2 := by
  obtain ⟨n,rfl⟩ := Int.eq_ofNat_of_zero_le h1;have := u64_and_nat n 1 (by omega) (by decide);rw [nat_mask1] at this;exact this.trans (by omega)
 go_enter Tryz.func145,Tryz.ntmps145
 go_wp2
 ·go_ret;refine ⟨vret_int ?_,rfl⟩
  have hb' : v % 2 = 1 := by simpa using ‹(v % 2 == 1) = true›
  rw [not_u64 _ (by omega) (by omega)];unfold zagN; rw [if_neg (by omega)];simp only [wrap64]
  omega
 ·go_ret;refine ⟨vret_int ?_,rfl⟩
  have hb' : ¬ v % 2 = 1 := by simpa using ‹(v % 2 == 1) = false›
  unfold zagN; rw [if_pos (by omega)]
theorem low_or (v : Nat) : bits .or .u8 ((v : Int) % 256) 128 = ((v % 128 + 128 : Nat) : Int) := by
 rw [show (v : Int) % 256 = ((v % 256 : Nat) : Int) from by omega];rw [show (128 : Int) = ((128 : Nat) : Int) from rfl,u8_or_nat _ _ (by omega) (by decide)]
 have : v % 256 ||| 128 = v % 128 + 128 := by
  have h := nat_join 7 128 (v % 128) (by decide) (by show v % 128 < 128; omega);rw [Nat.or_comm] at h
  by_cases hv : v % 256 < 128
  ·rw [show v % 256 = v % 128 by omega,h]; omega
  ·have e : v % 256 = v % 128 ||| 128 := by rw [h]; omega
   rw [e,Nat.or_assoc,Nat.or_self,h]; omega
 rw [this]
def PutAt (w : World) (a : Option Addr) (ns acc : List Nat) (out : Value) (wr : World) : Prop :=
 (acc = [] ∧ out = .slice a ns.length ns.length ∧ wr = w) ∨ wr.ownsRow w.heap.size 5 1 out (ns ++ acc).length (byteCells (ns ++ acc))
theorem bytes_snoc (ns acc : List Nat) (c : Nat) : (ns ++ (acc ++ [c])).length = (ns ++ acc).length + 1 ∧ byteCells (ns ++ (acc ++ [c])) = byteCells (ns ++ acc) ++ [.int .u8 (c : Int)] := by
 constructor
 ·simp; omega
 ·simp [byteCells]
theorem own_step {w : World} {B B' : Nat} {r : Value} {ns acc : List Nat} {c n : Nat} {xs : List Value} (h : w.ownsRow B' 5 1 r (n + 1) (xs ++ [.int .u8 (c : Int)])) (hn : n = (ns ++ acc).length) (hx : xs = byteCells (ns ++ acc)) (hB : B ≤ B') :
  w.ownsRow B 5 1 r (ns ++ (acc ++ [c])).length (byteCells (ns ++ (acc ++ [c]))) := by
 subst hn hx;rw [(bytes_snoc ns acc c).1,(bytes_snoc ns acc c).2];exact own_mono h hB
theorem put_any (a : Option Addr) (ns : List Nat) (cap v : Nat) (w : World) (ha : a = none → ns = [] ∧ cap = 0) (hc : ns.length ≤ cap) (hm : cap ≤ maxLen) (hl : ns.length ≤ 140737488355300) (hh : Holds w a ns) (hv : v < 18446744073709551616) :
  Calls Tryz.prog 90 #[.slice a ns.length cap,.int .u64 (v : Int)] w fun e w' => ∃ r,e = .returned r ∧
   w'.ownsRow w.heap.size 5 1 r (ns ++ digs v).length (byteCells (ns ++ digs v)) ∧ Below w.heap.size w w' := by
 obtain ⟨i0,hi,hz0,hz1,hz2⟩ := info_parts infoByte;have HH : Hid (Holds w a ns) := hh;have HA : Hid (a = none → ns = [] ∧ cap = 0) := ha;have hd := (digs_len64 v hv).2;unfold maxLen at hm;clear hh ha
 go_enter Tryz.func90,Tryz.ntmps90
 go_wp2_with fail
 go_loopw [1,5] (fun vv out wr => ∃ (v' : Nat) (acc : List Nat),vv = .int .u64 (v' : Int) ∧ v' < 18446744073709551616 ∧ acc.length + (digs v').length ≤ 10 ∧ Hid (acc ++ digs v' = digs v) ∧ Hid (PutAt w a ns acc out wr) ∧ Below w.heap.size w wr)
  (fun vv _ _ => (intOf vv).toNat)
 case atStart => exact ⟨v,[],rfl,hv,by simpa using hd,rfl,.inl ⟨rfl,rfl,rfl⟩,Below.refl _ _⟩
 case round =>
  obtain ⟨v',acc,rfl,hv',hacc,HD,HP,hbel⟩ := hrel;have hws := hbel.size
  by_cases h : v' < 128
  ·have HE : Hid (acc ++ [v'] = digs v) := by show _ = _; rw [← HD.out,digs_small h]
   have hlen : acc.length ≤ 9 := by rw [digs_small h] at hacc; simp at hacc; omega
   clear HD hacc
   rcases HP.out with ⟨rfl,rfl,rfl⟩ | hown
   ·clear HP
    go_wp2_with (first
     | (at_builtin; refine wpList_append_grows _ rfl _ _ 27 rfl 5 i0 (.int .u8 0) 1 1 Tryz.underlying27 hi hz0 hz1 hz2 rfl (by decide) _ _ _ (byteCells ns) rfl ?c0 ?c1 ?c2 ⟨wr.heap.size,0,none⟩ 1 1 [.int .u8 (v' : Int)] rfl rfl ?c3 ?c4 ?c5 ?c6 ?c7 ?_)
     | fail)
    case c0 => exact fun h0 => ⟨by rw [(HA.out h0).1]; rfl,by rw [(HA.out h0).1]; rfl⟩
    case c1 => simp [byteCells]
    case c2 => exact HH.out.below (bra _)
    case c3 =>
     intro j u hj
     match j,hj with
     | 0,hj => simp at hj; subst hj; simp [Addr.add]
    case c4 => intro u hu; simp at hu; subst hu; rfl
    case c5 => omega
    case c6 => unfold maxLen; omega
    case c7 => omega
    intro r w2 hown' hgrow;have hb2 : Below wr.heap.size wr w2 := (bra _).grown hgrow (by simp) (fun k hk => by cases hk);have HO : Hid (w2.ownsRow wr.heap.size 5 1 r (ns ++ ([] ++ [v'])).length (byteCells (ns ++ ([] ++ [v'])))) := own_step hown' (by simp) (by simp) (by simp);clear hown' hgrow;go_wp2_with fail;go_ret;exact ⟨_,rfl,by rw [← HE.out]; exact HO.out,hb2⟩
   ·clear HP
    go_wp2_with (first
     | (at_builtin; refine wpList_append_own _ rfl _ _ 27 rfl w.heap.size 5 i0 (.int .u8 0) 1 1 Tryz.underlying27 hi hz0 hz1 hz2 rfl (by decide) _ _ _ rfl (hown.alloc _) ⟨wr.heap.size,0,none⟩ 1 1 [.int .u8 (v' : Int)] rfl rfl ?c1 ?c2 ?c3 ?c4 ?c5 ?_)
     | fail)
    case c1 =>
     intro j u hj
     match j,hj with
     | 0,hj => simp at hj; subst hj; simp [Addr.add]
    case c2 => intro u hu; simp at hu; subst hu; rfl
    case c3 => unfold maxLen; simp; omega
    case c4 => simp; omega
    case c5 => simp; omega
    intro r w2 hown' hgrow _;have hb2 : Below w.heap.size w w2 := (hbel.alloc hws _).grown hgrow (by simp; omega) (fun k hk => (hown.lt k hk).1);have HO : Hid (w2.ownsRow w.heap.size 5 1 r (ns ++ (acc ++ [v'])).length (byteCells (ns ++ (acc ++ [v'])))) := own_step hown' (by simp) rfl (Nat.le_refl _);clear hown hown' hgrow;go_wp2_with fail;go_ret;exact ⟨_,rfl,by rw [← HE.out]; exact HO.out,hb2⟩
  ·have HE : Hid (acc ++ [v' % 128 + 128] ++ digs (v' / 128) = digs v) := by show _ = _; rw [← HD.out,digs_big h]; simp
   have hlen : acc.length ≤ 9 := by have := List.length_pos_iff.2 (digs_ne v'); omega
   have hacc' : (acc ++ [v' % 128 + 128]).length + (digs (v' / 128)).length ≤ 10 := by rw [digs_big h] at hacc; simp at hacc ⊢; omega
   have hob := low_or v'
   have h128 : 128 ≤ (v' : Int) := by omega
   clear HD hacc;generalize v' % 128 + 128 = c at *
   rcases HP.out with ⟨rfl,rfl,rfl⟩ | hown
   ·clear HP
    go_wp2_with (first
     | (at_builtin; refine wpList_append_grows _ rfl _ _ 27 rfl 5 i0 (.int .u8 0) 1 1 Tryz.underlying27 hi hz0 hz1 hz2 rfl (by decide) _ _ _ (byteCells ns) rfl ?c0 ?c1 ?c2 ⟨wr.heap.size,0,none⟩ 1 1 [.int .u8 (c : Int)] rfl rfl ?c3 ?c4 ?c5 ?c6 ?c7 ?_)
     | fail)
    case c0 => exact fun h0 => ⟨by rw [(HA.out h0).1]; rfl,by rw [(HA.out h0).1]; rfl⟩
    case c1 => simp [byteCells]
    case c2 => exact HH.out.below (bra _)
    case c3 =>
     intro j u hj
     match j,hj with
     | 0,hj => simp at hj; subst hj; simp [Addr.add]
    case c4 => intro u hu; simp at hu; subst hu; rfl
    case c5 => omega
    case c6 => unfold maxLen; omega
    case c7 => omega
    intro r w2 hown' hgrow;have hb2 : Below wr.heap.size wr w2 := (bra _).grown hgrow (by simp) (fun k hk => by cases hk);have HO : Hid (w2.ownsRow wr.heap.size 5 1 r (ns ++ ([] ++ [c])).length (byteCells (ns ++ ([] ++ [c])))) := own_step hown' (by simp) (by simp) (by simp);clear hown' hgrow hob;go_wp2_with fail
    go_roundw
    case rel => exact ⟨v' / 128,[] ++ [c],by go_num,by omega,hacc',HE,.inr HO.out,hb2⟩
    case measure => simp [intOf]; omega
   ·clear HP
    go_wp2_with (first
     | (at_builtin; refine wpList_append_own _ rfl _ _ 27 rfl w.heap.size 5 i0 (.int .u8 0) 1 1 Tryz.underlying27 hi hz0 hz1 hz2 rfl (by decide) _ _ _ rfl (hown.alloc _) ⟨wr.heap.size,0,none⟩ 1 1 [.int .u8 (c : Int)] rfl rfl ?c1 ?c2 ?c3 ?c4 ?c5 ?_)
     | fail)
    case c1 =>
     intro j u hj
     match j,hj with
     | 0,hj => simp at hj; subst hj; simp [Addr.add]
    case c2 => intro u hu; simp at hu; subst hu; rfl
    case c3 => unfold maxLen; simp; omega
    case c4 => simp; omega
    case c5 => simp; omega
    intro r w2 hown' hgrow _;have hb2 : Below w.heap.size w w2 := (hbel.alloc hws _).grown hgrow (by simp; omega) (fun k hk => (hown.lt k hk).1);have HO : Hid (w2.ownsRow w.heap.size 5 1 r (ns ++ (acc ++ [c])).length (byteCells (ns ++ (acc ++ [c])))) := own_step hown' (by simp) rfl (Nat.le_refl _);clear hown hown' hgrow hob;go_wp2_with fail
    go_roundw
    case rel => exact ⟨v' / 128,acc ++ [c],by go_num,by omega,hacc',HE,.inr HO.out,hb2⟩
    case measure => simp [intOf]; omega
end
end Go.Proofs.YtiajaocckkghgaaGreat
