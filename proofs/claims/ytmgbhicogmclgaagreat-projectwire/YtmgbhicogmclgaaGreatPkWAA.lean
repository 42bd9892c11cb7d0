/- Part 1 of what the proof stands on. -/
import Derived.Test.YtmgbhicogmclgaaGreatRows
import Derived.WalkKit
import Derived.ProofKit
import Derived.OpenShut
import Derived.Below
import Derived.Laws.OwnMore
import Derived.BigQuiet
import Derived.LaidEql
import Derived.LaidEqlPtr
import Derived.Laws.StructEq
import Derived.MapKept
import Derived.Maps.OwnSet
namespace Go.Proofs.YtmgbhicogmclgaaGreat
set_option maxHeartbeats 8000000
set_option linter.unusedVariables false
set_option linter.unusedSimpArgs false
set_option maxRecDepth 20000
def bts (n m : Nat) : Array Bool := ((List.range n).map fun i => m.testBit i).toArray
theorem zsA {α : Type} (l : List α) (i : Nat) (a : α) : l.toArray.setIfInBounds i a = (l.set i a).toArray := List.setIfInBounds_toArray ..
theorem zsZ {α : Type} (a b : α) (l : List α) : (a :: l).set 0 b = b :: l := rfl
theorem zsS {α : Type} (a b : α) (l : List α) (n : Nat) : (a :: l).set (n + 1) b = a :: l.set n b := rfl
theorem bra {w : Go.World} (o : Go.Obj) : Go.RowKit.Below w.heap.size w (w.alloc o) := (Go.RowKit.Below.refl _ _).alloc (Nat.le_refl _) _
theorem hid {P : Prop} (h : P) : Go.RowKit.Hid P := h
section
open Go.ChangeShapes Go.WideShapes Go.ChangeAt Go.RowKit
structure Fd where
 tag : Int
 wire : Int
 n : Int
 b : ByteArray
def Fd.val (r : Fd) : Value := .agg #[.int .i64 r.tag,.int .i64 r.wire,.int .i64 r.n,.string r.b]
def Fd.cells (r : Fd) : List Value := [.int .i64 r.tag,.int .i64 r.wire,.int .i64 r.n,.string r.b]
def fd0 : Fd := ⟨0,0,0,⟨#[]⟩⟩
def okV (t k n : Int) (b : ByteArray) : Bool := decide (1 ≤ t) && decide (t ≤ 500) && (((k == 0) && b.toList.isEmpty) || ((k == 1) && (n == 0) && decide ((b.size : Int) ≤ 4096)))
def okF (r : Fd) : Bool := okV r.tag r.wire r.n r.b
theorem toList_empty (b : ByteArray) : b.toList.isEmpty = true ↔ b = ⟨#[]⟩ := by
 rw [ByteArray.toList_eq];obtain ⟨⟨l⟩⟩ := b
 cases l <;> simp
def Is64 (n : Int) : Prop := -9223372036854775808 ≤ n ∧ n ≤ 9223372036854775807
theorem ok_cases {r : Fd} (h : okF r = true) (hn : Is64 r.n) :
  (∃ (t : Nat) (n : Int),r = ⟨t,0,n,⟨#[]⟩⟩ ∧ 1 ≤ t ∧ t ≤ 500 ∧ Is64 n) ∨ (∃ (t : Nat) (b : ByteArray),r = ⟨t,1,0,b⟩ ∧ 1 ≤ t ∧ t ≤ 500 ∧ b.size ≤ 4096) := by
 obtain ⟨t,k,n,b⟩ := r;simp only [okF,okV,Bool.and_eq_true,Bool.or_eq_true,decide_eq_true_eq,beq_iff_eq,toList_empty] at h;obtain ⟨⟨h1,h2⟩,⟨rfl,rfl⟩ | ⟨⟨rfl,rfl⟩,h5⟩⟩ := h
 ·exact .inl ⟨t.toNat,n,by rw [Int.toNat_of_nonneg (by omega)],by omega,by omega,hn⟩
 ·exact .inr ⟨t.toNat,b,by rw [Int.toNat_of_nonneg (by omega)],by omega,by omega,by omega⟩
end
section
def risesB : List Fd → Bool
 | [] => true
 | [_] => true
 | x :: y :: l => decide (x.tag ≤ y.tag) && risesB (y :: l)
def Rises (l : List Fd) : Prop := l.Pairwise fun x y => x.tag ≤ y.tag
theorem rises_iff : ∀ l : List Fd,risesB l = true ↔ Rises l
 | [] => by simp [risesB,Rises]
 | [x] => by simp [risesB,Rises]
 | x :: y :: l => by
  have ih := rises_iff (y :: l);simp only [risesB,Bool.and_eq_true,decide_eq_true_eq,Rises] at ih ⊢;rw [List.pairwise_cons,ih]
  constructor
  ·rintro ⟨h1,h2⟩;refine ⟨?_,h2⟩;intro z hz
   rcases List.mem_cons.1 hz with rfl | hz
   ·exact h1
   ·exact Int.le_trans h1 ((List.pairwise_cons.1 h2).1 z hz)
  ·rintro ⟨h1,h2⟩;exact ⟨h1 y (by simp),h2⟩
def upN (l : List Fd) (t : Int) : Nat := (l.takeWhile fun x => decide (x.tag ≤ t)).length
theorem upN_le (l : List Fd) (t : Int) : upN l t ≤ l.length := by
 unfold upN;exact (List.takeWhile_prefix _).length_le
theorem upN_cons_le {x : Fd} {l : List Fd} {t : Int} (h : x.tag ≤ t) : upN (x :: l) t = upN l t + 1 := by simp [upN,h]
theorem upN_cons_gt {x : Fd} {l : List Fd} {t : Int} (h : ¬ x.tag ≤ t) : upN (x :: l) t = 0 := by simp [upN,h]
theorem upN_step {l : List Fd} {t : Int} {i : Nat} (hi : ∀ j x, j < i → l[j]? = some x → x.tag ≤ t) (he : i = l.length ∨ ∃ x, l[i]? = some x ∧ ¬ x.tag ≤ t) : upN l t = i := by
  induction l generalizing i with
  | nil => rcases he with rfl | ⟨x, hx, _⟩
           · rfl
           · simp at hx
  | cons a l ih =>
    cases i with
    | zero =>
      rcases he with h | ⟨x, hx, h⟩
      · simp at h
      · obtain rfl : a = x := by simpa using hx
        exact upN_cons_gt h
    | succ i =>
      rw [upN_cons_le (hi 0 a (by omega) rfl), ih (i := i) (fun j x hj hx => hi (j + 1) x (by omega) (by simpa using hx))]
      rcases he with h | ⟨x, hx, h⟩
      · exact .inl (by simpa using h)
      · exact .inr ⟨x, by simpa using hx, h⟩
def mergeF (low : List Fd) : List Fd → List Fd
 | [] => low
 | h :: hs => low.take (upN low h.tag) ++ h :: mergeF (low.drop (upN low h.tag)) hs
theorem mergeF_len : ∀ (high low : List Fd),(mergeF low high).length = low.length + high.length
 | [],low => by simp [mergeF]
 | h :: hs,low => by
  have := upN_le low h.tag;rw [mergeF,List.length_append,List.length_cons,mergeF_len hs,List.length_take,List.length_drop,List.length_cons]
  omega
theorem take_upN {l : List Fd} {t : Int} : ∀ x ∈ l.take (upN l t),x.tag ≤ t := by
 induction l with
 | nil => intro x hx; simp at hx
 | cons a l ih =>
  by_cases ha : a.tag ≤ t
  ·rw [upN_cons_le ha,List.take_succ_cons];intro x hx
   rcases List.mem_cons.1 hx with rfl | hx
   ·exact ha
   ·exact ih x hx
  ·rw [upN_cons_gt ha];intro x hx
   simp at hx
theorem drop_upN {l : List Fd} {t : Int} (h : Rises l) : ∀ x ∈ l.drop (upN l t),t < x.tag := by
 induction l with
 | nil => intro x hx; simp at hx
 | cons a l ih =>
  have hp := List.pairwise_cons.1 h
  by_cases ha : a.tag ≤ t
  ·rw [upN_cons_le ha];intro x hx;exact ih hp.2 x (by simpa using hx)
  ·rw [upN_cons_gt ha];intro x hx
   rcases List.mem_cons.1 (by simpa using hx) with rfl | hx
   ·omega
   ·have := hp.1 x hx; omega
theorem mergeF_mem : ∀ (high low : List Fd) (x : Fd),x ∈ mergeF low high → x ∈ low ∨ x ∈ high
 | [],low,x,h => .inl (by simpa [mergeF] using h)
 | y :: hs,low,x,h => by
  rw [mergeF,List.mem_append,List.mem_cons] at h
  rcases h with h | rfl | h
  ·exact .inl (List.mem_of_mem_take h)
  ·exact .inr (by simp)
  ·rcases mergeF_mem hs _ x h with h | h
   ·exact .inl (List.mem_of_mem_drop h)
   ·exact .inr (by simp [h])
theorem mergeF_rises : ∀ (high low : List Fd),Rises low → Rises high → Rises (mergeF low high)
 | [],low,h1,_ => by simpa [mergeF] using h1
 | y :: hs,low,h1,h2 => by
  have hp := List.pairwise_cons.1 h2;have hd : Rises (low.drop (upN low y.tag)) := h1.sublist (List.drop_sublist _ _);have ht : Rises (low.take (upN low y.tag)) := h1.sublist (List.take_sublist _ _);have hm := mergeF_rises hs _ hd hp.2
  have hy : ∀ x ∈ mergeF (low.drop (upN low y.tag)) hs,y.tag ≤ x.tag := fun x hx => by
   rcases mergeF_mem _ _ x hx with h | h
   ·exact Int.le_of_lt (drop_upN h1 x h)
   ·exact hp.1 x h
  rw [mergeF];unfold Rises at *;rw [List.pairwise_append,List.pairwise_cons];refine ⟨ht,⟨hy,hm⟩,?_⟩;intro a ha b hb;have h1 := take_upN a ha
  rcases List.mem_cons.1 hb with rfl | hb
  ·exact h1
  ·exact Int.le_trans h1 (hy b hb)
theorem mergeF_filter (t : Int) : ∀ (high low : List Fd),Rises low → (mergeF low high).filter (fun x => x.tag == t) = low.filter (fun x => x.tag == t) ++ high.filter (fun x => x.tag == t)
 | [],low,h1 => by simp [mergeF]
 | y :: hs,low,h1 => by
  have hd : Rises (low.drop (upN low y.tag)) := h1.sublist (List.drop_sublist _ _);have ih := mergeF_filter t hs _ hd;rw [mergeF,List.filter_append,List.filter_cons,ih]
  have hl : low.filter (fun x => x.tag == t) = (low.take (upN low y.tag)).filter (fun x => x.tag == t) ++ (low.drop (upN low y.tag)).filter (fun x => x.tag == t) := by rw [← List.filter_append,List.take_append_drop]
  rw [hl,List.filter_cons]
  by_cases hy : y.tag = t
  ·have he : (low.drop (upN low y.tag)).filter (fun x => x.tag == t) = [] := by
    rw [List.filter_eq_nil_iff];intro x hx;have := drop_upN h1 x hx
    simp; omega
   rw [he]
   simp [hy]
  ·simp [hy]
theorem rises_short : ∀ {l : List Fd},risesB l = false → 2 ≤ l.length
 | [],h => by simp [risesB] at h
 | [_],h => by simp [risesB] at h
 | _ :: _ :: _,_ => by simp
def sortFF : Nat → List Fd → List Fd
 | 0,l => l
 | f + 1,l => if risesB l = true then l else mergeF (sortFF f (l.take (l.length / 2))) (sortFF f (l.drop (l.length / 2)))
def sortF (l : List Fd) : List Fd := sortFF l.length l
theorem sortFF_fuel (f : Nat) : ∀ (g : Nat) (l : List Fd),l.length ≤ f → l.length ≤ g → sortFF f l = sortFF g l := by
 induction f with
 | zero =>
  intro g l h1 _;obtain rfl : l = [] := List.eq_nil_of_length_eq_zero (by omega)
  cases g <;> rfl
 | succ f ih =>
  intro g l h1 h2
  cases g with
  | zero =>
   obtain rfl : l = [] := List.eq_nil_of_length_eq_zero (by omega)
   rfl
  | succ g =>
   simp only [sortFF]
   cases hr : risesB l with
   | true => rfl
   | false =>
    have h3 := rises_short hr;rw [if_neg (by simp),if_neg (by simp),ih g (l.take (l.length / 2)) (by rw [List.length_take]; omega) (by rw [List.length_take]; omega),ih g (l.drop (l.length / 2)) (by rw [List.length_drop]; omega) (by rw [List.length_drop]; omega)]
theorem sortF_id {l : List Fd} (h : risesB l = true) : sortF l = l := by
 unfold sortF
 cases e : l.length with
 | zero => rfl
 | succ f => simp only [sortFF]; rw [if_pos h]
theorem sortF_on {l : List Fd} (h : risesB l = false) : sortF l = mergeF (sortF (l.take (l.length / 2))) (sortF (l.drop (l.length / 2))) := by
 have h3 := rises_short h;unfold sortF
 cases e : l.length with
 | zero => omega
 | succ f =>
  simp only [sortFF];rw [if_neg (by simp [h]),e,sortFF_fuel f (l.take ((f + 1) / 2)).length _ (by rw [List.length_take]; omega) (Nat.le_refl _),sortFF_fuel f (l.drop ((f + 1) / 2)).length _ (by rw [List.length_drop]; omega) (Nat.le_refl _)]
theorem sortF_all : ∀ (k : Nat) (l : List Fd),l.length ≤ k → Rises (sortF l) ∧ (sortF l).length = l.length ∧ (∀ x ∈ sortF l,x ∈ l) ∧ ∀ t : Int,(sortF l).filter (fun x => x.tag == t) = l.filter (fun x => x.tag == t)
 | 0,l,h => by
  obtain rfl : l = [] := List.eq_nil_of_length_eq_zero (by omega);rw [sortF_id rfl];exact ⟨by simp [Rises],rfl,fun _ h => h,fun _ => rfl⟩
 | k + 1,l,h => by
  cases hr : risesB l with
  | true => rw [sortF_id hr]; exact ⟨(rises_iff l).1 hr,rfl,fun _ h => h,fun _ => rfl⟩
  | false =>
   have h2 := rises_short hr;obtain ⟨a1,a2,a3,a4⟩ := sortF_all k (l.take (l.length / 2)) (by rw [List.length_take]; omega);obtain ⟨b1,b2,b3,b4⟩ := sortF_all k (l.drop (l.length / 2)) (by rw [List.length_drop]; omega);rw [sortF_on hr];refine ⟨mergeF_rises _ _ a1 b1,?_,?_,?_⟩
   ·rw [mergeF_len,a2,b2,List.length_take,List.length_drop]; omega
   ·intro x hx
    rcases mergeF_mem _ _ x hx with h | h
    ·exact List.mem_of_mem_take (a3 x h)
    ·exact List.mem_of_mem_drop (b3 x h)
   ·intro t;rw [mergeF_filter t _ _ a1,a4,b4,← List.filter_append,List.take_append_drop]
theorem rises_steps : ∀ {l : List Fd},(∀ j x y,l[j]? = some x → l[j + 1]? = some y → x.tag ≤ y.tag) → risesB l = true
 | [],_ => rfl
 | [_],_ => rfl
 | x :: y :: l,h => by
  rw [risesB,Bool.and_eq_true,decide_eq_true_eq];exact ⟨h 0 x y rfl rfl,rises_steps fun j a b ha hb => h (j + 1) a b (by simpa using ha) (by simpa using hb)⟩
theorem rises_break : ∀ {l : List Fd} (j : Nat) (x y : Fd),l[j]? = some x → l[j + 1]? = some y → y.tag < x.tag → risesB l = false
 | [],j,x,y,hx,_,_ => by simp at hx
 | [a],j,x,y,hx,hy,_ => by simp at hy
 | a :: b :: l,0,x,y,hx,hy,h => by
  obtain rfl : a = x := by simpa using hx
  obtain rfl : b = y := by simpa using hy
  rw [risesB,Bool.and_eq_false_iff]
  left; simp; omega
 | a :: b :: l,j + 1,x,y,hx,hy,h => by
  rw [risesB,Bool.and_eq_false_iff]
  right
  exact rises_break j x y (by simpa using hx) (by simpa using hy) h
structure Tr where
 kind : Int
 n : Int
 s : ByteArray
 es : List (Int × List Tr)
 rest : List Fd
def tr0 : Tr := ⟨0,0,⟨#[]⟩,[],[]⟩
def subs (es : List (Int × List Tr)) : List Tr := es.flatMap (·.2)
theorem mem_subs {es : List (Int × List Tr)} {x : Tr} : x ∈ subs es ↔ ∃ e ∈ es,x ∈ e.2 := by simp [subs,List.mem_flatMap]
def cntN : Nat → Tr → Nat
 | 0,_ => 0
 | n + 1,t => 1 + ((subs t.es).map (cntN n)).sum
def SmN : Nat → Tr → Prop
 | 0,_ => False
 | n + 1,t => t.s.size ≤ 5000 ∧ t.rest.length ≤ 5000 ∧ t.es.length ≤ 500 ∧ (∀ f ∈ t.rest,f.b.size ≤ 5000) ∧ ∀ e ∈ t.es,e.2.length ≤ 70 ∧ ∀ x ∈ e.2,SmN n x
def dpN : Nat → Tr → Nat
 | 0,_ => 0
 | n + 1,t => if t.kind = 3 then 1 + ((subs t.es).map (dpN n)).foldr max 0 else 0
def entsB : Int → List (Int × List Tr) → Bool
 | _,[] => true
 | last,e :: l => decide (last < e.1) && decide (e.1 ≤ 500) && decide (1 ≤ e.2.length) && decide (e.2.length ≤ 64) && (e.2.all fun x => x.kind == (e.2.head?.map Tr.kind).getD 0) && entsB e.1 l
def hasB (es : List (Int × List Tr)) (tag : Int) : Bool := es.any fun e => e.1 == tag
def restB (rest : List Fd) (es : List (Int × List Tr)) : Bool := (rest.all fun f => okF f && !hasB es f.tag) && risesB rest
def lvB (t : Tr) : Bool :=
 if t.kind = 1 then t.s.size == 0 && t.es.isEmpty && t.rest.isEmpty
 else if t.kind = 2 then t.n == 0 && t.es.isEmpty && t.rest.isEmpty
 else if t.kind = 3 then t.n == 0 && t.s.size == 0 && entsB 0 t.es && restB t.rest t.es
 else false
def okN : Nat → Tr → Bool
 | 0,_ => true
 | n + 1,t => lvB t && (if t.kind = 3 then (subs t.es).all (okN n) else true)
def chkN (n : Nat) (t : Tr) : Bool := decide (dpN n t ≤ 10) && okN n t
theorem le_foldr_max {l : List Nat} {x : Nat} (h : x ∈ l) : x ≤ l.foldr max 0 := by
 induction l with
 | nil => cases h
 | cons a l ih =>
  rcases List.mem_cons.1 h with rfl | h
  ·simp only [List.foldr_cons]; exact Nat.le_max_left _ _
  ·simp only [List.foldr_cons]; exact Nat.le_trans (ih h) (Nat.le_max_right _ _)
theorem foldr_max_le {l : List Nat} {b : Nat} (h : ∀ x ∈ l,x ≤ b) : l.foldr max 0 ≤ b := by
 induction l with
 | nil => simp
 | cons a l ih => simp only [List.foldr_cons]; exact Nat.max_le.2 ⟨h a (List.mem_cons_self ..),ih fun x hx => h x (List.mem_cons_of_mem _ hx)⟩
theorem dpN_le : ∀ (n : Nat) (t : Tr),dpN n t ≤ n
 | 0,_ => Nat.le_refl _
 | n + 1,t => by
  simp only [dpN]
  split
  ·have : ((subs t.es).map (dpN n)).foldr max 0 ≤ n := foldr_max_le fun x hx => by
    obtain ⟨y,_,rfl⟩ := List.mem_map.1 hx;exact dpN_le n y
   omega
  ·exact Nat.zero_le _
theorem len_le_sum {α : Type} {f : α → Nat} {l : List α} (h : ∀ x ∈ l,1 ≤ f x) : l.length ≤ (l.map f).sum := by
 induction l with
 | nil => simp
 | cons a l ih =>
  have h1 := h a (List.mem_cons_self ..);have h2 := ih fun x hx => h x (List.mem_cons_of_mem _ hx)
  simp only [List.length_cons,List.map_cons,List.sum_cons]; omega
end
section
open Go.ChangeShapes Go.WideShapes Go.ChangeAt Go.RowKit
theorem own_below {w w1 : World} {base : Nat} {e : TypeId} {s : Nat} {v : Value} {n : Nat} {xs : List Value} (h : w.ownsRow base e s v n xs) (hb : Below w.heap.size w w1) : w1.ownsRow base e s v n xs := by
 refine ⟨h.1,?_⟩
 rcases h.2 with h | ⟨g,cap,cur,h1,h2,h3,h4⟩
 ·exact .inl h
 ·exact .inr ⟨g,cap,cur,h1,h2,(hb.block g (Array.getElem?_eq_some_iff.1 h3).1).trans h3,h4⟩
theorem own_belowH {w w1 : World} {base : Nat} {e : TypeId} {s : Nat} {v : Value} {n : Nat} {xs : List Value} (h : Hid (w.ownsRow base e s v n xs)) (hb : Below w.heap.size w w1) : Hid (w1.ownsRow base e s v n xs) := own_below h.out hb
theorem below_drewN {B : Nat} {w wr : World} (n : Nat) (h : Below B w wr) : Below B w (wr.drewN n) := h.trans ⟨rfl,rfl,rfl,Nat.le_refl _,fun _ _ => rfl⟩
structure RowG (w : World) (v : Value) (size : Nat) (rs : List (List Value)) : Prop where
 form : ∃ a cap,v = .slice a rs.length cap ∧ rs.length ≤ cap ∧ cap ≤ maxLen ∧ (a = none → cap = 0) ∧ (rs ≠ [] → ∃ g off,a = some ⟨g,off,none⟩ ∧ ∀ i c u j,rs[i]? = some c → c[j]? = some u → w.cell? ⟨g,off + i * size + j,none⟩ = some u)
theorem RowG.below {w w1 : World} {v : Value} {size : Nat} {rs : List (List Value)} (h : RowG w v size rs) (hb : Below w.heap.size w w1) : RowG w1 v size rs := by
 obtain ⟨a,cap,h1,h2,h3,h0,h4⟩ := h.form;refine ⟨a,cap,h1,h2,h3,h0,fun hne => ?_⟩;obtain ⟨g,off,h5,h6⟩ := h4 hne;refine ⟨g,off,h5,fun i c u j hc hu => ?_⟩;have := h6 i c u j hc hu;rw [hb.cell (World.block_lt_of_cell? _ _ this)];exact this
theorem RowG.nil (w : World) (size : Nat) : RowG w (.slice none 0 0) size [] := ⟨none,0,rfl,Nat.le_refl _,by decide,fun _ => rfl,fun h => absurd rfl h⟩
theorem RowG.open {w : World} {v : Value} {size : Nat} {rs : List (List Value)} (h : RowG w v size rs) : ∃ a cap,v = .slice a rs.length cap ∧ rs.length ≤ cap ∧ cap ≤ maxLen ∧ (rs ≠ [] → ∃ g off,a = some ⟨g,off,none⟩) ∧ ∀ g off,a = some ⟨g,off,none⟩ → ∀ i c,rs[i]? = some c → ∀ j u,c[j]? = some u → w.cell? ⟨g,off + i * size + j,none⟩ = some u := by
 obtain ⟨a,cap,h1,h2,h3,_,h4⟩ := h.form;refine ⟨a,cap,h1,h2,h3,fun hne => ?_,?_⟩
 ·obtain ⟨g,off,h5,_⟩ := h4 hne;exact ⟨g,off,h5⟩
 ·intro g off ha i c hc j u hu
  have hne : rs ≠ [] := by intro e; rw [e] at hc; simp at hc
  obtain ⟨g',off',h5,h6⟩ := h4 hne;rw [ha] at h5
  simp at h5
  obtain ⟨rfl,rfl⟩ := h5;exact h6 i c u j hc hu
theorem flat_get {size : Nat} : ∀ (rs : List (List Value)),(∀ r ∈ rs,r.length = size) → ∀ (i : Nat) (c : List Value),rs[i]? = some c → ∀ j u,c[j]? = some u → rs.flatten[i * size + j]? = some u
 | [],_,i,c,h,_,_,_ => by simp at h
 | x :: l,hl,0,c,h,j,u,hu => by
  obtain rfl : x = c := by simpa using h
  rw [List.flatten_cons,Nat.zero_mul,Nat.zero_add,List.getElem?_append_left (List.getElem?_eq_some_iff.1 hu).1];exact hu
 | x :: l,hl,i + 1,c,h,j,u,hu => by
  have := flat_get l (fun r hr => hl r (List.mem_cons_of_mem _ hr)) i c (by simpa using h) j u hu;have hx := hl x (List.mem_cons_self ..);rw [List.flatten_cons,List.getElem?_append_right (by rw [hx,Nat.add_mul]; omega)]
  have e : (i + 1) * size + j - x.length = i * size + j := by rw [hx,Nat.add_mul]; omega
  rw [e];exact this
theorem flat_len {size : Nat} : ∀ (rs : List (List Value)),(∀ r ∈ rs,r.length = size) → rs.flatten.length = rs.length * size
 | [],_ => by simp
 | x :: l,hl => by
  rw [List.flatten_cons,List.length_append,flat_len l (fun r hr => hl r (List.mem_cons_of_mem _ hr)),hl x (List.mem_cons_self ..),List.length_cons,Nat.add_mul]; omega
theorem RowG.own {w : World} {B e size : Nat} {v : Value} {n : Nat} {rs : List (List Value)} (hl : ∀ r ∈ rs,r.length = size) (hs : 0 < size) (h : w.ownsRow B e size v n rs.flatten) : RowG w v size rs ∧ n = rs.length := by
 have hn : n = rs.length := by
  have := h.1;rw [flat_len rs hl] at this;exact (Nat.eq_of_mul_eq_mul_right hs this).symm
 have h0 := h;subst hn;refine ⟨?_,rfl⟩
 rcases h.2 with ⟨rfl,h2⟩ | ⟨g,cap,cur,rfl,hb,hg,hc,hm,_⟩
 ·have : rs = [] := List.eq_nil_of_length_eq_zero h2;subst this;exact RowG.nil w size
 ·refine ⟨_,cap,rfl,hc,hm,(fun e => by cases e),fun _ => ⟨g,0,rfl,fun i c u j hc hu => ?_⟩⟩;have := h0.cells (g := g) rfl (i * size + j) u (flat_get rs hl i c hc j u hu);rw [Addr.add_lit,Nat.zero_add] at this;rw [Nat.zero_add];exact this
theorem RowG.get {w : World} {a : Option Addr} {N cap size : Nat} {rs : List (List Value)} (h : RowG w (.slice a N cap) size rs) {i : Nat} {c : List Value} (hi : rs[i]? = some c) : ∃ g off,a = some ⟨g,off,none⟩ ∧ ∀ j u,c[j]? = some u → w.cell? ⟨g,off + i * size + j,none⟩ = some u := by
 obtain ⟨a',cap',e1,e2,e3,e4,e5⟩ := h.open;simp only [Value.slice.injEq] at e1;obtain ⟨rfl,_,_⟩ := e1;obtain ⟨g,off,rfl⟩ := e4 (by intro e; rw [e] at hi; simp at hi);exact ⟨g,off,rfl,fun j u hu => e5 g off rfl i c hi j u hu⟩
theorem RowG.form2 {w : World} {v : Value} {size : Nat} {rs : List (List Value)} (h : RowG w v size rs) : ∃ a cap,v = .slice a rs.length cap ∧ rs.length ≤ cap ∧ cap ≤ 9223372036854775807 := by
 obtain ⟨a',cap',e1,e2,e3,_⟩ := h.open;exact ⟨a',cap',e1,e2,by unfold maxLen at e3; omega⟩
def fdRows (l : List Fd) : List (List Value) := l.map Fd.cells
theorem fdr_len (l : List Fd) : ∀ r ∈ fdRows l,r.length = 4 := fun r hr => by simp only [fdRows,List.mem_map] at hr; obtain ⟨_,_,rfl⟩ := hr; rfl
def RowP {α : Type} (P : List Value → α → Prop) (w : World) (size : Nat) (v : Value) (xs : List α) : Prop :=
 ∃ rows : List (List Value),RowG w v size rows ∧ rows.length = xs.length ∧ ∀ (i : Nat) (x : α),xs[i]? = some x → ∃ r,rows[i]? = some r ∧ P r x
def EnC (P : List Value → Tr → Prop) (w : World) (r : List Value) (e : Int × List Tr) : Prop := ∃ vt,r = [.int .i64 e.1,vt] ∧ Is64 e.1 ∧ RowP P w 5 vt e.2
def TrC : Nat → World → List Value → Tr → Prop
 | 0,_,_,_ => False
 | n + 1,w,r,t => ∃ ve vr,r = [.int .i64 t.kind,.int .i64 t.n,.string t.s,ve,vr] ∧ Is64 t.kind ∧ Is64 t.n ∧ t.s.size ≤ 140737488351232 ∧ (∀ f ∈ t.rest,Is64 f.tag ∧ Is64 f.wire ∧ Is64 f.n ∧ f.b.size ≤ 140737488351232) ∧ RowG w vr 4 (fdRows t.rest) ∧ RowP (EnC (TrC n w) w) w 2 ve t.es
abbrev TrsIn (n : Nat) (w : World) (v : Value) (ts : List Tr) : Prop := RowP (TrC n w) w 5 v ts
abbrev EnsIn (n : Nat) (w : World) (v : Value) (es : List (Int × List Tr)) : Prop := RowP (EnC (TrC n w) w) w 2 v es
def TrIn (n : Nat) (w : World) (v : Value) (t : Tr) : Prop := ∃ r,v = .agg r.toArray ∧ TrC n w r t
theorem RowP.mono {α : Type} {P Q : List Value → α → Prop} {w w1 : World} {size : Nat} {v : Value} {xs : List α} (h : RowP P w size v xs) (hb : Below w.heap.size w w1) (hp : ∀ r x,x ∈ xs → P r x → Q r x) : RowP Q w1 size v xs := by
 obtain ⟨rows,h1,h2,h3⟩ := h;refine ⟨rows,h1.below hb,h2,fun i x hx => ?_⟩;obtain ⟨r,g1,g2⟩ := h3 i x hx;exact ⟨r,g1,hp r x (List.mem_of_getElem? hx) g2⟩
theorem RowP.imp {α : Type} {P Q : List Value → α → Prop} {w : World} {size : Nat} {v : Value} {xs : List α} (h : RowP P w size v xs) (hp : ∀ r x,x ∈ xs → P r x → Q r x) : RowP Q w size v xs := h.mono (Below.refl _ _) hp
theorem TrC.below : ∀ {n : Nat} {w w1 : World} {r : List Value} {t : Tr},TrC n w r t → Below w.heap.size w w1 → TrC n w1 r t
 | 0,_,_,_,_,h,_ => h
 | n + 1,w,w1,r,t,h,hb => by
  obtain ⟨ve,vr,h1,h2,h3,h4,h5,h6,h7⟩ := h;refine ⟨ve,vr,h1,h2,h3,h4,h5,h6.below hb,h7.mono hb fun r x hx hp => ?_⟩;obtain ⟨vt,g1,g2,g3⟩ := hp;exact ⟨vt,g1,g2,g3.mono hb fun r x hx hp => hp.below hb⟩
theorem RowP.belowT {n : Nat} {w w1 : World} {v : Value} {ts : List Tr} (h : TrsIn n w v ts) (hb : Below w.heap.size w w1) : TrsIn n w1 v ts := RowP.mono h hb fun _ _ _ hp => hp.below hb
theorem RowP.belowE {n : Nat} {w w1 : World} {v : Value} {es : List (Int × List Tr)} (h : EnsIn n w v es) (hb : Below w.heap.size w w1) : EnsIn n w1 v es :=
 RowP.mono h hb fun _ _ _ hp => by
  obtain ⟨vt,g1,g2,g3⟩ := hp;exact ⟨vt,g1,g2,g3.belowT hb⟩
theorem TrIn.below {n : Nat} {w w1 : World} {v : Value} {t : Tr} (h : TrIn n w v t) (hb : Below w.heap.size w w1) : TrIn n w1 v t := by
 obtain ⟨r,h1,h2⟩ := h;exact ⟨r,h1,h2.below hb⟩
theorem TrC.more : ∀ {n : Nat} {w : World} {r : List Value} {t : Tr},TrC n w r t → TrC (n + 1) w r t
 | 0,_,_,_,h => h.elim
 | n + 1,w,r,t,h => by
  obtain ⟨ve,vr,h1,h2,h3,h4,h5,h6,h7⟩ := h;refine ⟨ve,vr,h1,h2,h3,h4,h5,h6,h7.imp fun r x hx hp => ?_⟩;obtain ⟨vt,g1,g2,g3⟩ := hp;exact ⟨vt,g1,g2,g3.imp fun r x hx hp => hp.more⟩
theorem RowP.open {α : Type} {P : List Value → α → Prop} {w : World} {size : Nat} {v : Value} {xs : List α} (h : RowP P w size v xs) : ∃ a cap,v = .slice a xs.length cap ∧ xs.length ≤ cap ∧ cap ≤ maxLen ∧ (xs = [] ∨ ∃ g off,a = some ⟨g,off,none⟩) ∧ (a = none → cap = 0) ∧
  ∀ g off,a = some ⟨g,off,none⟩ → ∀ (i : Nat) (x : α),xs[i]? = some x → ∃ r,P r x ∧ ∀ j u,r[j]? = some u → w.cell? ⟨g,off + i * size + j,none⟩ = some u := by
 obtain ⟨rows,h1,h2,h3⟩ := h;obtain ⟨a,cap,e1,e2,e3,e0,e4⟩ := h1.form;obtain ⟨_,_,e1',_,_,_,e5⟩ := h1.open;rw [e1] at e1';simp only [Value.slice.injEq] at e1';obtain ⟨rfl,_,rfl⟩ := e1';rw [h2] at e1 e2;refine ⟨a,cap,e1,e2,e3,?_,e0,fun g off ha i x hx => ?_⟩
 ·cases xs with
  | nil => exact .inl rfl
  | cons y l =>
   obtain ⟨g,off,q,_⟩ := e4 (by intro e; rw [e] at h2; simp at h2);exact .inr ⟨g,off,q⟩
 ·obtain ⟨r,g1,g2⟩ := h3 i x hx;exact ⟨r,g2,e5 g off ha i r g1⟩
theorem RowP.get {α : Type} {P : List Value → α → Prop} {w : World} {size : Nat} {a : Option Addr} {N cap : Nat} {xs : List α} (h : RowP P w size (.slice a N cap) xs) {i : Nat} {x : α} (hi : xs[i]? = some x) :
  ∃ g off,a = some ⟨g,off,none⟩ ∧ ∃ r,P r x ∧ ∀ j u,r[j]? = some u → w.cell? ⟨g,off + i * size + j,none⟩ = some u := by
 obtain ⟨a',cap',e1,e2,e3,e4,e5,e6⟩ := h.open;simp only [Value.slice.injEq] at e1;obtain ⟨rfl,_,_⟩ := e1
 rcases e4 with rfl | ⟨g,off,rfl⟩
 ·simp at hi
 ·exact ⟨g,off,rfl,e6 g off rfl i x hi⟩
theorem RowP.nil {α : Type} (P : List Value → α → Prop) (w : World) (size : Nat) : RowP P w size (.slice none 0 0) [] := ⟨[],RowG.nil w size,rfl,fun i x h => by simp at h⟩
theorem trs_at {n : Nat} {w : World} {g off : Nat} {i : Nat} {t : Tr} (h : ∃ r,TrC (n + 1) w r t ∧ ∀ j u,r[j]? = some u → w.cell? ⟨g,off + i * 5 + j,none⟩ = some u) :
  ∃ ve vr,w.cell? ⟨g,off + i * 5,none⟩ = some (.int .i64 t.kind) ∧ w.cell? ⟨g,off + i * 5 + 1,none⟩ = some (.int .i64 t.n) ∧ w.cell? ⟨g,off + i * 5 + 2,none⟩ = some (.string t.s) ∧ w.cell? ⟨g,off + i * 5 + 3,none⟩ = some ve ∧ w.cell? ⟨g,off + i * 5 + 4,none⟩ = some vr ∧
   TrIn (n + 1) w (.agg #[.int .i64 t.kind,.int .i64 t.n,.string t.s,ve,vr]) t ∧ EnsIn n w ve t.es ∧ RowG w vr 4 (fdRows t.rest) := by
 obtain ⟨r,h0,hc⟩ := h;obtain ⟨ve,vr,rfl,h2,h3,h4,h5,h6,h7⟩ := h0;exact ⟨ve,vr,hc 0 _ rfl,hc 1 _ rfl,hc 2 _ rfl,hc 3 _ rfl,hc 4 _ rfl,⟨_,rfl,ve,vr,rfl,h2,h3,h4,h5,h6,h7⟩,h7,h6⟩
theorem trs_get {n : Nat} {w : World} {g off : Nat} {i : Nat} {t : Tr} (h : ∃ r,TrC n w r t ∧ ∀ j u,r[j]? = some u → w.cell? ⟨g,off + i * 5 + j,none⟩ = some u) :
  ∃ a1 n1 c1 a2 n2 c2,w.cell? ⟨g,off + i * 5,none⟩ = some (.int .i64 t.kind) ∧ w.cell? ⟨g,off + i * 5 + 1,none⟩ = some (.int .i64 t.n) ∧ w.cell? ⟨g,off + i * 5 + 2,none⟩ = some (.string t.s) ∧ w.cell? ⟨g,off + i * 5 + 3,none⟩ = some (.slice a1 n1 c1) ∧ w.cell? ⟨g,off + i * 5 + 4,none⟩ = some (.slice a2 n2 c2) ∧
   TrIn n w (.agg #[.int .i64 t.kind,.int .i64 t.n,.string t.s,.slice a1 n1 c1,.slice a2 n2 c2]) t := by
 cases n with
 | zero => obtain ⟨r,h,_⟩ := h; exact h.elim
 | succ n =>
  obtain ⟨ve,vr,h0,h1,h2,h3,h4,h5,h6,h7⟩ := trs_at h;obtain ⟨a1,c1,rfl,_⟩ := h6.open;obtain ⟨a2,c2,rfl,_⟩ := h7.form2;exact ⟨_,_,_,_,_,_,h0,h1,h2,h3,h4,h5⟩
theorem ens_at {n : Nat} {w : World} {g off : Nat} {i : Nat} {e : Int × List Tr} (h : ∃ r,EnC (TrC n w) w r e ∧ ∀ j u,r[j]? = some u → w.cell? ⟨g,off + i * 2 + j,none⟩ = some u) :
  ∃ vt,w.cell? ⟨g,off + i * 2,none⟩ = some (.int .i64 e.1) ∧ w.cell? ⟨g,off + i * 2 + 1,none⟩ = some vt ∧ Is64 e.1 ∧ TrsIn n w vt e.2 := by
 obtain ⟨r,⟨vt,rfl,h2,h3⟩,hc⟩ := h;exact ⟨vt,hc 0 _ rfl,hc 1 _ rfl,h2,h3⟩
theorem TrIn.open {n : Nat} {w : World} {v : Value} {t : Tr} (h : TrIn n w v t) : ∃ m ve vr,n = m + 1 ∧ v = .agg #[.int .i64 t.kind,.int .i64 t.n,.string t.s,ve,vr] ∧ Is64 t.kind ∧ Is64 t.n ∧ t.s.size ≤ 140737488351232 ∧ (∀ f ∈ t.rest,Is64 f.tag ∧ Is64 f.wire ∧ Is64 f.n ∧ f.b.size ≤ 140737488351232) ∧ RowG w vr 4 (fdRows t.rest) ∧ EnsIn m w ve t.es := by
 obtain ⟨r,rfl,h⟩ := h
 cases n with
 | zero => exact h.elim
 | succ m =>
  obtain ⟨ve,vr,rfl,h2,h3,h4,h5,h6,h7⟩ := h;exact ⟨m,ve,vr,rfl,rfl,h2,h3,h4,h5,h6,h7⟩
theorem rest_holds {w : World} {v : Value} {l : List Fd} (h : RowG w v 4 (fdRows l)) : ∃ a cap,v = .slice a l.length cap ∧ l.length ≤ cap ∧ cap ≤ maxLen ∧ (l = [] ∨ ∃ g off,a = some ⟨g,off,none⟩) ∧ (a = none → cap = 0) ∧
  ∀ g off,a = some ⟨g,off,none⟩ → ∀ (i : Nat) (f : Fd),l[i]? = some f → w.cell? ⟨g,off + i * 4,none⟩ = some (.int .i64 f.tag) ∧ w.cell? ⟨g,off + i * 4 + 1,none⟩ = some (.int .i64 f.wire) ∧ w.cell? ⟨g,off + i * 4 + 2,none⟩ = some (.int .i64 f.n) ∧ w.cell? ⟨g,off + i * 4 + 3,none⟩ = some (.string f.b) := by
 obtain ⟨a,cap,e1,e2,e3,e4,e5,e6⟩ := RowP.open (P := fun r (f : Fd) => r = f.cells) (xs := l) ⟨fdRows l,h,by simp [fdRows],fun i x hx => ⟨x.cells,by simp [fdRows,hx],rfl⟩⟩;refine ⟨a,cap,e1,e2,e3,e4,e5,fun g off ha i f hf => ?_⟩;obtain ⟨r,rfl,hc⟩ := e6 g off ha i f hf;exact ⟨hc 0 _ rfl,hc 1 _ rfl,hc 2 _ rfl,hc 3 _ rfl⟩
structure Kp (S : Nat → Prop) (w w' : World) : Prop where
 os : w'.os = w.os
 tape : w'.tape = w.tape
 output : w'.output = w.output
 size : w.heap.size ≤ w'.heap.size
 block : ∀ k,k < w.heap.size → ¬ S k → w'.heap[k]? = w.heap[k]?
theorem Kp.refl (S : Nat → Prop) (w : World) : Kp S w w := ⟨rfl,rfl,rfl,Nat.le_refl _,fun _ _ _ => rfl⟩
theorem Kp.trans {S : Nat → Prop} {a b c : World} (h : Kp S a b) (k : Kp S b c) : Kp S a c :=
 ⟨k.os.trans h.os,k.tape.trans h.tape,k.output.trans h.output,Nat.le_trans h.size k.size,fun i hi hs => (k.block i (Nat.lt_of_lt_of_le hi h.size) hs).trans (h.block i hi hs)⟩
theorem Kp.trans2 {S S' : Nat → Prop} {a b c : World} (h : Kp S a b) (k : Kp S' b c) (hs : ∀ i,i < a.heap.size → S' i → S i) : Kp S a c :=
 ⟨k.os.trans h.os,k.tape.trans h.tape,k.output.trans h.output,Nat.le_trans h.size k.size,fun i hi hn => (k.block i (Nat.lt_of_lt_of_le hi h.size) (fun e => hn (hs i hi e))).trans (h.block i hi hn)⟩
theorem Kp.weak {S S' : Nat → Prop} {a b : World} (h : Kp S a b) (hs : ∀ i,i < a.heap.size → S i → S' i) : Kp S' a b :=
 ⟨h.os,h.tape,h.output,h.size,fun i hi hn => h.block i hi (fun e => hn (hs i hi e))⟩
theorem Kp.ofBelow {S : Nat → Prop} {w w' : World} (h : Below w.heap.size w w') : Kp S w w' := ⟨h.os,h.tape,h.output,h.size,fun k hk _ => h.block k hk⟩
theorem Kp.toBelow {S : Nat → Prop} {w w' : World} {B : Nat} (h : Kp S w w') (hB : B ≤ w.heap.size) (hs : ∀ k,S k → B ≤ k) : Below B w w' :=
 ⟨h.os,h.tape,h.output,h.size,fun k hk => h.block k (by omega) (fun e => by have := hs k e; omega)⟩
theorem Kp.alloc {S : Nat → Prop} {a w : World} (h : Kp S a w) (o : Obj) : Kp S a (w.alloc o) :=
 h.trans ⟨rfl,rfl,rfl,by simp,fun k hk _ => Below.heap_alloc _ _ _ hk⟩
theorem Kp.setCell {S : Nat → Prop} {a w : World} (h : Kp S a w) {p : Addr} (hp : p.block < a.heap.size → S p.block) (u : Value) : Kp S a (w.setCell p u) :=
 ⟨h.os,h.tape,h.output,by simp [World.setCell]; exact h.size,fun k hk hs => (Below.heap_setCell _ _ _ _ (fun e => hs (by subst e; exact hp hk))).trans (h.block k hk hs)⟩
theorem Kp.grown {S : Nat → Prop} {a w w' : World} {row : Option Nat} (h : Kp S a w) (hg : w.grownBy w' row) (hr : ∀ k,row = some k → k < a.heap.size → S k) : Kp S a w' :=
 ⟨hg.os.trans h.os,hg.tape.trans h.tape,hg.output.trans h.output,Nat.le_trans h.size hg.size,fun k hk hs => (hg.block k (Nat.lt_of_lt_of_le hk h.size) (fun e => hs (hr k e.symm hk))).trans (h.block k hk hs)⟩
theorem Kp.below {S : Nat → Prop} {a w w' : World} (h : Kp S a w) (hb : Below w.heap.size w w') : Kp S a w' := h.trans (Kp.ofBelow hb)
theorem Kp.cell {S : Nat → Prop} {w w' : World} (h : Kp S w w') {p : Addr} {u : Value} (hc : w.cell? p = some u) (hs : ¬ S p.block) : w'.cell? p = some u :=
 (World.cell?_of_block (w := w) (h.block p.block (World.block_lt_of_cell? _ _ hc) hs)).trans hc
theorem own_kp {S : Nat → Prop} {w w1 : World} {base : Nat} {e : TypeId} {s : Nat} {v : Value} {n : Nat} {xs : List Value} (h : w.ownsRow base e s v n xs) (hb : Kp S w w1) (hs : ∀ k,base ≤ k → ¬ S k) : w1.ownsRow base e s v n xs := by
 refine ⟨h.1,?_⟩
 rcases h.2 with h | ⟨g,cap,cur,h1,h2,h3,h4⟩
 ·exact .inl h
 ·exact .inr ⟨g,cap,cur,h1,h2,(hb.block g (Array.getElem?_eq_some_iff.1 h3).1 (hs g h2)).trans h3,h4⟩
theorem own_base {w : World} {base base' : Nat} {e : TypeId} {s : Nat} {v : Value} {n : Nat} {xs : List Value} (h : w.ownsRow base e s v n xs) (hb : base' ≤ base) : w.ownsRow base' e s v n xs := by
 refine ⟨h.1,?_⟩
 rcases h.2 with h | ⟨g,cap,cur,h1,h2,h3⟩
 ·exact .inl h
 ·exact .inr ⟨g,cap,cur,h1,by omega,h3⟩
theorem own_kpV {S : Nat → Prop} {w w1 : World} {base : Nat} {e : TypeId} {s : Nat} {v : Value} {n : Nat} {xs : List Value} (h : w.ownsRow base e s v n xs) (hb : Kp S w w1) (hs : ∀ k,v.ownBlock = some k → ¬ S k) : w1.ownsRow base e s v n xs := by
 refine ⟨h.1,?_⟩
 rcases h.2 with h | ⟨g,cap,cur,h1,h2,h3,h4⟩
 ·exact .inl h
 ·refine .inr ⟨g,cap,cur,h1,h2,(hb.block g (Array.getElem?_eq_some_iff.1 h3).1 (hs g ?_)).trans h3,h4⟩;rw [h1]; rfl
theorem block_set {w : World} {g : Nat} {cur : Array Value} {e : TypeId} {fz : Nat × Nat} (h : w.heap[g]? = some (.cells cur e fz)) (i : Nat) (u : Value) : (w.setCell ⟨g,i,none⟩ u).heap[g]? = some (.cells (cur.setIfInBounds i u) e fz) := by
 simp [World.setCell,Array.getElem?_modify,h]
theorem block_cell {w : World} {g : Nat} {cur : Array Value} {e : TypeId} {fz : Nat × Nat} (h : w.heap[g]? = some (.cells cur e fz)) (i : Nat) : w.cell? ⟨g,i,none⟩ = cur[i]? := by
 simp [World.cell?,h]
theorem block_froz {w : World} {g : Nat} {cur : Array Value} {e : TypeId} (h : w.heap[g]? = some (.cells cur e (0,0))) (i : Nat) : w.frozen? ⟨g,i,none⟩ = false := by
 simp [World.frozen?,h]
theorem own_form {w : World} {B : Nat} {e : TypeId} {s : Nat} {v : Value} {n : Nat} {xs : List Value} (h : w.ownsRow B e s v n xs) : ∃ a c,v = .slice a n c := by
 rcases h.2 with ⟨rfl,rfl⟩ | ⟨q,cap,cur,rfl,_⟩
 ·exact ⟨none,0,rfl⟩
 ·exact ⟨_,_,rfl⟩
def Blk (w : World) (b : Nat) (cs : Array Value) (t : TypeId) : Prop := w.heap[b]? = some (.cells cs t (0,0))
theorem Blk.new (w : World) (cs : Array Value) (t : TypeId) : Blk (w.alloc (.cells cs t)) w.heap.size cs t := heap_alloc_new w _
theorem Blk.kp {S : Nat → Prop} {w w' : World} {b : Nat} {cs : Array Value} {t : TypeId} (h : Blk w b cs t) (hk : Kp S w w') (hs : ¬ S b) : Blk w' b cs t := (hk.block b (Array.getElem?_eq_some_iff.1 h).1 hs).trans h
theorem Blk.lt {w : World} {b : Nat} {cs : Array Value} {t : TypeId} (h : Blk w b cs t) : b < w.heap.size := (Array.getElem?_eq_some_iff.1 h).1
theorem Blk.below {w w' : World} {b : Nat} {cs : Array Value} {t : TypeId} (h : Blk w b cs t) (hb : Below w.heap.size w w') : Blk w' b cs t := (hb.block b h.lt).trans h
theorem Blk.set {w : World} {b : Nat} {cs cs' : Array Value} {t : TypeId} (h : Blk w b cs t) (i : Nat) (u : Value) (hc : cs.setIfInBounds i u = cs') : Blk (w.setCell ⟨b,i,none⟩ u) b cs' t := by subst hc; exact block_set h i u
theorem Blk.other {w : World} {b : Nat} {cs : Array Value} {t : TypeId} (h : Blk w b cs t) {a : Addr} (hne : b ≠ a.block) (u : Value) : Blk (w.setCell a u) b cs t := by
 show _ = _
 rw [Below.heap_setCell _ _ _ _ hne]; exact h
theorem Blk.cell {w : World} {b : Nat} {cs : Array Value} {t : TypeId} (h : Blk w b cs t) (i : Nat) : w.cell? ⟨b,i,none⟩ = cs[i]? := block_cell h i
theorem cl2 {w : World} {b : Nat} {cs : Array Value} {t : TypeId} {a0 a1 : Value} (h : Blk w b cs t) (h0 : cs[0]? = some a0 := by rfl) (h1 : cs[1]? = some a1 := by rfl) : w.cell? ⟨b,0,none⟩ = some a0 ∧ w.cell? ⟨b,1,none⟩ = some a1 := ⟨(h.cell 0).trans h0,(h.cell 1).trans h1⟩
theorem cl3 {w : World} {b : Nat} {cs : Array Value} {t : TypeId} {a0 a1 a2 : Value} (h : Blk w b cs t) (h0 : cs[0]? = some a0 := by rfl) (h1 : cs[1]? = some a1 := by rfl) (h2 : cs[2]? = some a2 := by rfl) : w.cell? ⟨b,0,none⟩ = some a0 ∧ w.cell? ⟨b,1,none⟩ = some a1 ∧ w.cell? ⟨b,2,none⟩ = some a2 := ⟨(h.cell 0).trans h0,(h.cell 1).trans h1,(h.cell 2).trans h2⟩
theorem cl4 {w : World} {b : Nat} {cs : Array Value} {t : TypeId} {a0 a1 a2 a3 : Value} (h : Blk w b cs t) (h0 : cs[0]? = some a0 := by rfl) (h1 : cs[1]? = some a1 := by rfl) (h2 : cs[2]? = some a2 := by rfl) (h3 : cs[3]? = some a3 := by rfl) : w.cell? ⟨b,0,none⟩ = some a0 ∧ w.cell? ⟨b,1,none⟩ = some a1 ∧ w.cell? ⟨b,2,none⟩ = some a2 ∧ w.cell? ⟨b,3,none⟩ = some a3 := ⟨(h.cell 0).trans h0,(h.cell 1).trans h1,(h.cell 2).trans h2,(h.cell 3).trans h3⟩
theorem cl5 {w : World} {b : Nat} {cs : Array Value} {t : TypeId} {a0 a1 a2 a3 a4 : Value} (h : Blk w b cs t) (h0 : cs[0]? = some a0 := by rfl) (h1 : cs[1]? = some a1 := by rfl) (h2 : cs[2]? = some a2 := by rfl) (h3 : cs[3]? = some a3 := by rfl) (h4 : cs[4]? = some a4 := by rfl) : w.cell? ⟨b,0,none⟩ = some a0 ∧ w.cell? ⟨b,1,none⟩ = some a1 ∧ w.cell? ⟨b,2,none⟩ = some a2 ∧ w.cell? ⟨b,3,none⟩ = some a3 ∧ w.cell? ⟨b,4,none⟩ = some a4 := ⟨(h.cell 0).trans h0,(h.cell 1).trans h1,(h.cell 2).trans h2,(h.cell 3).trans h3,(h.cell 4).trans h4⟩
theorem Blk.froz {w : World} {b : Nat} {cs : Array Value} {t : TypeId} (h : Blk w b cs t) (i : Nat) : w.frozen? ⟨b,i,none⟩ = false := block_froz h i
theorem fz5 {w : World} {b : Nat} {cs : Array Value} {t : TypeId} (h : Blk w b cs t) : w.frozen? ⟨b,0,none⟩ = false ∧ w.frozen? ⟨b,1,none⟩ = false ∧ w.frozen? ⟨b,2,none⟩ = false ∧ w.frozen? ⟨b,3,none⟩ = false ∧ w.frozen? ⟨b,4,none⟩ = false := ⟨h.froz 0,h.froz 1,h.froz 2,h.froz 3,h.froz 4⟩
theorem results_cell {fn : Func} {p : Tmp} {ty : TypeId} (h : fn.results = #[.cell p ty]) (tmps : Array Value) (P : Program) (w : World) (a : Addr) (x : Value) (ha : (asAddr (tmps.getD p undef)).run P w = .ok a w) (hl : (loadVar ty a).run P w = .ok x w) :
  (results fn tmps).run P w = .ok x w := by
 simp only [results,h];simp only [Array.getD_eq_getD_getElem?] at ha
 simp [Sem.run_bind,Result.andThen,ha,hl]
theorem results_two {fn : Func} {p u : Tmp} {ty : TypeId} (h : fn.results = #[.cell p ty,.tmp u]) (tmps : Array Value) (P : Program) (w : World) (a : Addr) (x : Value) (ha : (asAddr (tmps.getD p undef)).run P w = .ok a w) (hl : (loadVar ty a).run P w = .ok x w) :
  (results fn tmps).run P w = .ok (.tuple #[x,tmps.getD u undef]) w := by
 simp only [results,h];simp only [Array.getD_eq_getD_getElem?] at ha
 simp [Sem.run_bind,Result.andThen,ha,hl]
theorem infoRaw : (Tryz.prog.info? 79).map (fun i => (i.zero,i.size,i.bytes)) = some (some (.agg #[.int .i64 0,.int .i64 0,.int .i64 0,.string ⟨#[]⟩]),4,40) := by kernel_rfl
def rawCells (rs : List Fd) : List Value := rs.flatMap Fd.cells
theorem rawCells_nil : rawCells [] = [] := rfl
theorem rawCells_cons (r : Fd) (l : List Fd) : rawCells (r :: l) = r.cells ++ rawCells l := by simp [rawCells]
theorem rawCells_app (a b : List Fd) : rawCells (a ++ b) = rawCells a ++ rawCells b := by simp [rawCells]
theorem rawCells_len (rs : List Fd) : (rawCells rs).length = rs.length * 4 := by
 induction rs with
 | nil => rfl
 | cons r l ih => rw [rawCells_cons,List.length_append,ih,List.length_cons]; simp [Fd.cells]; omega
theorem rawCells_one (rs : List Fd) : ∀ u ∈ rawCells rs,u.oneCell' = true := by
 intro u hu;simp only [rawCells,List.mem_flatMap] at hu;obtain ⟨r,_,h⟩ := hu;simp only [Fd.cells,List.mem_cons,List.not_mem_nil,or_false] at h
 rcases h with rfl | rfl | rfl | rfl <;> rfl
theorem rawCells_get : ∀ (rs : List Fd) (i : Nat) (r : Fd),rs[i]? = some r → ∀ c u,r.cells[c]? = some u → (rawCells rs)[i * 4 + c]? = some u
 | [],i,r,h,c,u,hu => by simp at h
 | x :: l,0,r,h,c,u,hu => by
  obtain rfl : x = r := by simpa using h
  rw [rawCells_cons,Nat.zero_mul,Nat.zero_add,List.getElem?_append_left (List.getElem?_eq_some_iff.1 hu).1];exact hu
 | x :: l,i + 1,r,h,c,u,hu => by
  have := rawCells_get l i r (by simpa using h) c u hu;rw [rawCells_cons,List.getElem?_append_right (by simp [Fd.cells]; omega)]
  have e : (i + 1) * 4 + c - x.cells.length = i * 4 + c := by simp [Fd.cells]; omega
  rw [e];exact this
def HoldsR (w : World) (a : Option Addr) (rs : List Fd) : Prop := ∀ b,a = some b → ∀ j u,(rawCells rs)[j]? = some u → w.cell? (b.add j) = some u
theorem HoldsR.below {w w1 : World} {a : Option Addr} {rs : List Fd} (h : HoldsR w a rs) (hb : Below w.heap.size w w1) : HoldsR w1 a rs := by
 intro b hab j u hu;have := h b hab j u hu;rw [hb.cell (World.block_lt_of_cell? _ _ this)];exact this
theorem HoldsR.nil {w : World} {a : Option Addr} : HoldsR w a [] := by
 intro b _ j u hu
 simp [rawCells] at hu
theorem HoldsR.at {w : World} {g off : Nat} {rs : List Fd} (h : HoldsR w (some ⟨g,off,none⟩) rs) {i : Nat} {r : Fd} (hi : rs[i]? = some r) :
  w.cell? ⟨g,off + i * 4,none⟩ = some (.int .i64 r.tag) ∧ w.cell? ⟨g,off + i * 4 + 1,none⟩ = some (.int .i64 r.wire) ∧ w.cell? ⟨g,off + i * 4 + 2,none⟩ = some (.int .i64 r.n) ∧ w.cell? ⟨g,off + i * 4 + 3,none⟩ = some (.string r.b) := by
 refine ⟨?_,?_,?_,?_⟩
 ·have := h _ rfl _ _ (rawCells_get rs i r hi 0 _ rfl); rwa [Addr.add_lit] at this
 ·have := h _ rfl _ _ (rawCells_get rs i r hi 1 _ rfl); rwa [Addr.add_lit,← Nat.add_assoc] at this
 ·have := h _ rfl _ _ (rawCells_get rs i r hi 2 _ rfl); rwa [Addr.add_lit,← Nat.add_assoc] at this
 ·have := h _ rfl _ _ (rawCells_get rs i r hi 3 _ rfl); rwa [Addr.add_lit,← Nat.add_assoc] at this
theorem own_openR {w : World} {B : Nat} {r : Value} {n : Nat} {rs : List Fd} (h : w.ownsRow B 79 4 r n (rawCells rs)) :
  ∃ a cap,r = .slice a rs.length cap ∧ n = rs.length ∧ ((a = none ∧ rs = [] ∧ cap = 0) ∨ ∃ g,a = some ⟨g,0,none⟩ ∧ B ≤ g ∧ g < w.heap.size) ∧ rs.length ≤ cap ∧ cap ≤ maxLen ∧ HoldsR w a rs := by
 have hn : n = rs.length := by have := h.1; rw [rawCells_len] at this; omega
 have h0 := h;subst hn
 rcases h.2 with ⟨rfl,h2⟩ | ⟨g,cap,cur,rfl,hb,hg,hc,hm,_⟩
 ·have : rs = [] := List.eq_nil_of_length_eq_zero h2;subst this;exact ⟨none,0,rfl,rfl,.inl ⟨rfl,rfl,rfl⟩,Nat.le_refl _,by decide,HoldsR.nil⟩
 ·refine ⟨_,cap,rfl,rfl,.inr ⟨g,rfl,hb,(Array.getElem?_eq_some_iff.1 hg).1⟩,hc,hm,?_⟩;intro b hb' j u hu
  obtain rfl : ⟨g,0,none⟩ = b := by simpa using hb'
  exact h0.cells (g := g) rfl j u hu
def blkOf (v : Value) : List Nat := match v.ownBlock with
 | some g => [g]
 | none => []
theorem mem_blkOf {v : Value} {k : Nat} : k ∈ blkOf v ↔ v.ownBlock = some k := by
 unfold blkOf
 cases v.ownBlock <;> simp [eq_comm]
def Sm (w w' : World) (bs : List Nat) : Prop := ∀ k ∈ bs,w'.heap[k]? = w.heap[k]?
theorem Sm.mono {w w' : World} {bs cs : List Nat} (h : Sm w w' bs) (hs : ∀ k ∈ cs,k ∈ bs) : Sm w w' cs := fun k hk => h k (hs k hk)
theorem own_sm {w w1 : World} {base : Nat} {e : TypeId} {s : Nat} {v : Value} {n : Nat} {xs : List Value} (h : w.ownsRow base e s v n xs) (hb : Sm w w1 (blkOf v)) : w1.ownsRow base e s v n xs := by
 refine ⟨h.1,?_⟩
 rcases h.2 with h | ⟨g,cap,cur,h1,h2,h3,h4⟩
 ·exact .inl h
 ·refine .inr ⟨g,cap,cur,h1,h2,(hb g ?_).trans h3,h4⟩;rw [mem_blkOf,h1]; rfl
structure RowO {α : Type} (P : World → List Value → α → List Nat → Prop) (B e size : Nat) (w : World) (v : Value) (xs : List α) (rows : List (List Value)) (bss : List (List Nat)) : Prop where
 own : w.ownsRow B e size v xs.length rows.flatten
 len : rows.length = xs.length
 blen : bss.length = xs.length
 wide : ∀ r ∈ rows,r.length = size
 each : ∀ (i : Nat) (x : α),xs[i]? = some x → ∃ r b,rows[i]? = some r ∧ bss[i]? = some b ∧ P w r x b
def allB (v : Value) (bss : List (List Nat)) : List Nat := blkOf v ++ bss.flatten
def Apt (B : Nat) (w : World) (bs : List Nat) : Prop := bs.Nodup ∧ ∀ k ∈ bs,B ≤ k ∧ k < w.heap.size
def EtO (P : World → List Value → Tr → List Nat → Prop) (B : Nat) (w : World) (r : List Value) (e : Int × List Tr) (bs : List Nat) : Prop :=
 ∃ vt rows bss,r = [.int .i64 e.1,vt] ∧ Is64 e.1 ∧ RowO P B 30 5 w vt e.2 rows bss ∧ bs = allB vt bss
def Fd64 (l : List Fd) : Prop := ∀ f ∈ l,Is64 f.tag ∧ Is64 f.wire ∧ Is64 f.n ∧ f.b.size ≤ 140737488351232
def TrO : Nat → Nat → World → List Value → Tr → List Nat → Prop
 | 0,_,_,_,_,_ => False
 | n + 1,B,w,r,t,bs => ∃ ve vr rows bss,r = [.int .i64 t.kind,.int .i64 t.n,.string t.s,ve,vr] ∧ Is64 t.kind ∧ Is64 t.n ∧ t.s.size ≤ 140737488351232 ∧ Fd64 t.rest ∧
   w.ownsRow B 79 4 vr t.rest.length (rawCells t.rest) ∧ RowO (EtO (TrO n B) B) B 69 2 w ve t.es rows bss ∧ bs = blkOf vr ++ allB ve bss
theorem RowO.sm {α : Type} {P : World → List Value → α → List Nat → Prop} {B e size : Nat} {w w' : World} {v : Value} {xs : List α} {rows : List (List Value)} {bss : List (List Nat)} (h : RowO P B e size w v xs rows bss) (hb : Sm w w' (allB v bss))
  (hp : ∀ r x b,P w r x b → Sm w w' b → P w' r x b) : RowO P B e size w' v xs rows bss := by
 refine ⟨own_sm h.own (hb.mono fun k hk => List.mem_append.2 (.inl hk)),h.len,h.blen,h.wide,fun i x hx => ?_⟩;obtain ⟨r,b,h1,h2,h3⟩ := h.each i x hx;exact ⟨r,b,h1,h2,hp r x b h3 (hb.mono fun k hk => List.mem_append.2 (.inr (List.mem_flatten.2 ⟨b,List.mem_of_getElem? h2,hk⟩)))⟩
theorem TrO.sm : ∀ {n B : Nat} {w w' : World} {r : List Value} {t : Tr} {bs : List Nat},TrO n B w r t bs → Sm w w' bs → TrO n B w' r t bs
 | 0,_,_,_,_,_,_,h,_ => h
 | n + 1,B,w,w',r,t,bs,h,hb => by
  obtain ⟨ve,vr,rows,bss,h1,h2,h3,h4,h5,h6,h7,rfl⟩ := h;refine ⟨ve,vr,rows,bss,h1,h2,h3,h4,h5,own_sm h6 (hb.mono fun k hk => List.mem_append.2 (.inl hk)),h7.sm (hb.mono fun k hk => List.mem_append.2 (.inr hk)) fun r x b hp hs => ?_,rfl⟩;obtain ⟨vt,rows',bss',g1,g2,g3,rfl⟩ := hp;exact ⟨vt,rows',bss',g1,g2,g3.sm hs fun r x b hp hs => hp.sm hs,rfl⟩
theorem EtO.sm {n B : Nat} {w w' : World} {r : List Value} {e : Int × List Tr} {bs : List Nat} (h : EtO (TrO n B) B w r e bs) (hb : Sm w w' bs) : EtO (TrO n B) B w' r e bs := by
 obtain ⟨vt,rows',bss',g1,g2,g3,rfl⟩ := h;exact ⟨vt,rows',bss',g1,g2,g3.sm hb fun r x b hp hs => hp.sm hs,rfl⟩
theorem rawCells_flat (l : List Fd) : rawCells l = (fdRows l).flatten := by simp [rawCells,fdRows,List.flatMap]
theorem own_rest {w : World} {B : Nat} {v : Value} {l : List Fd} (h : w.ownsRow B 79 4 v l.length (rawCells l)) : RowG w v 4 (fdRows l) := by
 rw [rawCells_flat] at h;exact (RowG.own (fdr_len l) (by decide) h).1
theorem RowO.rowP {α : Type} {P : World → List Value → α → List Nat → Prop} {Q : List Value → α → Prop} {B e size : Nat} {w : World} {v : Value} {xs : List α} {rows : List (List Value)} {bss : List (List Nat)} (h : RowO P B e size w v xs rows bss) (hs : 0 < size)
  (hp : ∀ r x b,x ∈ xs → P w r x b → Q r x) : RowP Q w size v xs := by
 refine ⟨rows,(RowG.own h.wide hs h.own).1,h.len,fun i x hx => ?_⟩;obtain ⟨r,b,h1,h2,h3⟩ := h.each i x hx;exact ⟨r,h1,hp r x b (List.mem_of_getElem? hx) h3⟩
theorem TrO.trC : ∀ {n B : Nat} {w : World} {r : List Value} {t : Tr} {bs : List Nat},TrO n B w r t bs → TrC n w r t
 | 0,_,_,_,_,_,h => h
 | n + 1,B,w,r,t,bs,h => by
  obtain ⟨ve,vr,rows,bss,h1,h2,h3,h4,h5,h6,h7,rfl⟩ := h;refine ⟨ve,vr,h1,h2,h3,h4,h5,own_rest h6,h7.rowP (by decide) fun r x b hx hp => ?_⟩;obtain ⟨vt,rows',bss',g1,g2,g3,rfl⟩ := hp;exact ⟨vt,g1,g2,g3.rowP (by decide) fun r x b hx hp => hp.trC⟩
def TrV (n B : Nat) (w : World) (v : Value) (t : Tr) (bs : List Nat) : Prop := ∃ r,v = .agg r.toArray ∧ TrO n B w r t bs ∧ Apt B w bs
theorem Apt.nil (B : Nat) (w : World) : Apt B w [] := ⟨List.nodup_nil,by simp⟩
theorem Apt.mono {B : Nat} {w w' : World} {bs : List Nat} (h : Apt B w bs) (hs : w.heap.size ≤ w'.heap.size) : Apt B w' bs := ⟨h.1,fun k hk => ⟨(h.2 k hk).1,Nat.lt_of_lt_of_le (h.2 k hk).2 hs⟩⟩
theorem Apt.base {B B' : Nat} {w : World} {bs : List Nat} (h : Apt B w bs) (hs : B' ≤ B) : Apt B' w bs := ⟨h.1,fun k hk => ⟨Nat.le_trans hs (h.2 k hk).1,(h.2 k hk).2⟩⟩
theorem Apt.append {B B' : Nat} {w w' : World} {bs cs : List Nat} (h : Apt B w bs) (k : Apt B' w' cs) (hB : B ≤ B') (h1 : w.heap.size ≤ B') (h2 : w.heap.size ≤ w'.heap.size) : Apt B w' (bs ++ cs) := by
 refine ⟨List.nodup_append.2 ⟨h.1,k.1,fun a ha b hb e => ?_⟩,fun x hx => ?_⟩
 ·subst e;have := (h.2 a ha).2;have := (k.2 a hb).1
  omega
 ·rcases List.mem_append.1 hx with hx | hx
  ·exact ⟨(h.2 x hx).1,Nat.lt_of_lt_of_le (h.2 x hx).2 h2⟩
  ·exact ⟨Nat.le_trans hB (k.2 x hx).1,(k.2 x hx).2⟩
abbrev Pl : Type := Option Addr × Nat
def plV (x : Pl) : Value := .agg #[.pointer x.1,.int .i64 (x.2 : Int)]
def PlOk (w : World) (x : Pl) : Prop := ∀ a,x.1 = some a → ∃ cs ty,w.heap[a.block]? = some (.cells cs ty (0,0))
theorem eql_ptr (w : World) (d : Nat) (p q : Option Addr) (hp : ∀ a,p = some a → ∃ cs ty,w.heap[a.block]? = some (.cells cs ty (0,0))) (hq : ∀ a,q = some a → ∃ cs ty,w.heap[a.block]? = some (.cells cs ty (0,0))) :
  (Op.equalIn (d + 1) 98 (.pointer p) (.pointer q)).run Tryz.prog w = .ok (decide (p = q)) w := by
 have hu : Tryz.prog.underlying 98 = some (.pointer 69) := by kernel_rfl
 have hi : (Tryz.prog.info? 69).map (fun i => i.size) = some 2 := by kernel_rfl
 obtain ⟨j,hj,hs⟩ : ∃ j,Tryz.prog.info? 69 = some j ∧ j.size = 2 := by
  cases h : Tryz.prog.info? 69 with
  | none => rw [h] at hi; cases hi
  | some j => rw [h] at hi; exact ⟨j,rfl,by simpa using hi⟩
 cases p with
 | none => cases q <;> simp [Op.equalIn,run_underlying hu]
 | some a =>
  cases q with
  | none => simp [Op.equalIn,run_underlying hu]
  | some b =>
   by_cases e : a = b
   ·subst e
    simp [Op.equalIn,run_underlying hu,sizeOf,typeInfo,hj,hs,run_sameAddr_same]
   ·obtain ⟨ca,ta,ha⟩ := hp a rfl;obtain ⟨cb,tb,hb⟩ := hq b rfl
    simp [Op.equalIn,run_underlying hu,sizeOf,typeInfo,hj,hs,run_sameAddr_other w e ha hb,e]
theorem eql_pl (w : World) (x y : Pl) (hx : PlOk w x) (hy : PlOk w y) : (Op.equal 142 (plV x) (plV y)).run Tryz.prog w = .ok (decide (x = y)) w := by
 obtain ⟨p,m⟩ := x;obtain ⟨q,n⟩ := y;have h1 := fun d => eql_ptr w d p q hx hy
 by_cases e : p = q
 ·subst e
  by_cases e2 : m = n
  ·subst e2
   simp [plV,Op.equal,Op.maxDepth,go_sem,h1]
  ·have e3 : ¬ (m : Int) = (n : Int) := by omega
   simp [plV,Op.equal,Op.maxDepth,go_sem,h1,e2,e3]
 ·simp [plV,Op.equal,Op.maxDepth,go_sem,h1,e]
theorem check_pl (w : World) (b : Bool) (x : Pl) : (Instr.checkKey b 10000 142 (plV x)).run Tryz.prog w = .ok () w := by kernel_rfl
def PlSet (w : World) (b : Nat) (L : List Value) : Prop := ∃ es clock,w.heap[b]? = some (.map es clock) ∧ es.toList.map MapEntry.key = L ∧ ∀ e ∈ es.toList,e.val = .agg #[]
theorem PlSet.lt {w : World} {b : Nat} {L : List Value} (h : PlSet w b L) : b < w.heap.size := by
 obtain ⟨es,c,h,_⟩ := h;exact (Array.getElem?_eq_some_iff.1 h).1
theorem PlSet.kp {S : Nat → Prop} {w w1 : World} {b : Nat} {L : List Value} (h : PlSet w b L) (hk : Kp S w w1) (hs : ¬ S b) : PlSet w1 b L := by
 have hl := h.lt;obtain ⟨es,c,h1,h2⟩ := h;exact ⟨es,c,(hk.block b hl hs).trans h1,h2⟩
theorem PlSet.below {w w1 : World} {b : Nat} {L : List Value} (h : PlSet w b L) (hk : Below w.heap.size w w1) : PlSet w1 b L := h.kp (S := fun _ => False) (Kp.ofBelow hk) (fun e => e)
theorem PlSet.made (w : World) : PlSet (w.alloc (.map #[] 0)) w.heap.size [] := ⟨#[],0,heap_alloc_new w _,rfl,by simp⟩
theorem PlSet.neB {w : World} {b : Nat} {L : List Value} (h : PlSet w b L) {g : Nat} {cs : Array Value} {t : TypeId} {fz : Nat × Nat} (hc : w.heap[g]? = some (.cells cs t fz)) : g ≠ b := by
 rintro rfl;obtain ⟨es,c,hb,_⟩ := h;rw [hb] at hc; cases hc
section
variable {T MT : TypeId} {w : World} {k : Value}
def Told (T : TypeId) (w : World) (k : Value) (L : List Value) : Prop := ∀ q ∈ L,(k = q → (Op.equal T k q).run Tryz.prog w = .ok true w) ∧ (k ≠ q → (Op.equal T k q).run Tryz.prog w = .ok false w)
theorem find_ask : ∀ (l : List MapEntry) (i : Nat),Told T w k (l.map MapEntry.key) → (∀ e ∈ l,e.val = .agg #[]) →
  (k ∈ l.map MapEntry.key → ∃ j,(Instr.findAsking T k l i).run Tryz.prog w = .ok (some (j,.agg #[])) w) ∧ (k ∉ l.map MapEntry.key → (Instr.findAsking T k l i).run Tryz.prog w = .ok none w)
 | [],i,_,_ => by simp [Instr.findAsking]
 | e :: l,i,ht,hv => by
  have ih := find_ask l (i + 1) (fun q hq => ht q (List.mem_cons_of_mem _ hq)) (fun x hx => hv x (List.mem_cons_of_mem _ hx));obtain ⟨h1,h2⟩ := ht e.key (List.mem_cons_self ..);have h3 := hv e (List.mem_cons_self ..)
  by_cases hke : k = e.key
  ·refine ⟨fun _ => ⟨i,?_⟩,fun h => absurd (by rw [hke]; simp) h⟩;unfold Instr.findAsking;rw [Sem.run_bind,h1 hke]
   simp [Result.andThen,h3]
  ·have hrun : (Instr.findAsking T k (e :: l) i).run Tryz.prog w = (Instr.findAsking T k l (i + 1)).run Tryz.prog w := by
    conv => lhs; unfold Instr.findAsking
    rw [Sem.run_bind,h2 hke]
    simp [Result.andThen]
   refine ⟨fun h => ?_,fun h => ?_⟩
   ·rcases List.mem_cons.1 h with h | h
    ·exact absurd h hke
    ·obtain ⟨j,hj⟩ := ih.1 h;exact ⟨j,hrun.trans hj⟩
   ·exact hrun.trans (ih.2 fun h2 => h (List.mem_cons_of_mem _ h2))
theorem find_key {fs : TypeDesc} (hu : Tryz.prog.underlying T = some fs) (hf : ∀ k q,Instr.sameNow fs (.agg k) q = none) {ks : Array Value} (hk : k = .agg ks) (l : List MapEntry) (ht : Told T w k (l.map MapEntry.key)) (hv : ∀ e ∈ l,e.val = .agg #[]) :
  (k ∈ l.map MapEntry.key → ∃ j,(Instr.findKey T k l).run Tryz.prog w = .ok (some (j,.agg #[])) w) ∧ (k ∉ l.map MapEntry.key → (Instr.findKey T k l).run Tryz.prog w = .ok none w) := by
 cases l with
 | nil => simp [Instr.findKey,run_underlying hu,Instr.findNow]
 | cons e l =>
  have h1 : Instr.findNow fs k (e :: l) 0 = none := by rw [hk]; simp [Instr.findNow,hf]
  have h2 : (Instr.findKey T k (e :: l)).run Tryz.prog w = (Instr.findAsking T k (e :: l) 0).run Tryz.prog w := by
   simp [Instr.findKey,run_underlying hu,h1]
  rw [h2];exact find_ask (e :: l) 0 ht hv
variable {E : TypeId} {L : List Value} {b : Nat}
theorem look_pl (hm : Tryz.prog.underlying MT = some (.map T E)) (hz : ∀ w,(zeroValue E).run Tryz.prog w = .ok (.agg #[]) w) {fs : TypeDesc} (hu : Tryz.prog.underlying T = some fs) (hf : ∀ k q,Instr.sameNow fs (.agg k) q = none) {ks : Array Value} (hk : k = .agg ks)
  (hc : ∀ e,(Instr.checkKey e 10000 T k).run Tryz.prog w = .ok () w) (hs : PlSet w b L) (ht : Told T w k L) (r : Bool) (hr : r = true ↔ k ∈ L) :
  (Instr.lookup MT (.map (some b)) k true).run Tryz.prog w = .ok (.tuple #[.agg #[],.bool r]) w := by
 obtain ⟨es,c,h1,rfl,h3⟩ := hs;have hfk := find_key hu hf hk es.toList ht h3
 have hgo : (getObj b).run Tryz.prog w = .ok (.map es c) w := by simp [getObj,Sem.run,h1]
 by_cases hm' : k ∈ es.toList.map MapEntry.key
 ·obtain ⟨j,hj⟩ := hfk.1 hm';obtain rfl : r = true := hr.2 hm'
  simp [Instr.lookup,run_underlying hm,hgo,hc,hj]
 ·have hj := hfk.2 hm'
  obtain rfl : r = false := by cases r; rfl; exact absurd (hr.1 rfl) hm'
  simp [Instr.lookup,run_underlying hm,hgo,hc,hj,hz]
theorem update_pl (hm : Tryz.prog.underlying MT = some (.map T E)) {fs : TypeDesc} (hu : Tryz.prog.underlying T = some fs) (hf : ∀ k q,Instr.sameNow fs (.agg k) q = none) {ks : Array Value} (hk : k = .agg ks)
  (hc : ∀ e,(Instr.checkKey e 10000 T k).run Tryz.prog w = .ok () w) (hs : PlSet w b L) (ht : Told T w k L) (hn : k ∉ L) :
  ∃ w',(Instr.mapUpdate MT (.map (some b)) k (.agg #[])).run Tryz.prog w = .ok () w' ∧ PlSet w' b (L ++ [k]) ∧ Kp (fun q => q = b) w w' ∧ w'.heap.size = w.heap.size := by
 obtain ⟨es,c,h1,rfl,h3⟩ := hs;have hj := (find_key hu hf hk es.toList ht h3).2 hn
 have hgo : (getObj b).run Tryz.prog w = .ok (.map es c) w := by simp [getObj,Sem.run,h1]
 have hse : ∀ o,(setObj b o).run Tryz.prog w = .ok () { w with heap := w.heap.setIfInBounds b o } := fun o => by simp [setObj,Sem.run,h1]
 refine ⟨{ w with heap := w.heap.setIfInBounds b (.map (es.push { key := k,val := .agg #[],born := c }) (c + 1)) },?_,?_,?_,by simp⟩
 ·simp [Instr.mapUpdate,run_underlying hm,hgo,hc,hj,hse]
 ·refine ⟨es.push { key := k,val := .agg #[],born := c },c + 1,?_,by simp,?_⟩
  ·have := (Array.getElem?_eq_some_iff.1 h1).1
   simp [this]
  ·intro e he;simp only [Array.toList_push,List.mem_append,List.mem_singleton] at he
   rcases he with he | rfl
   ·exact h3 e he
   ·rfl
 ·refine ⟨rfl,rfl,rfl,by simp,fun q hq hs => ?_⟩;simp only;rw [Array.getElem?_setIfInBounds_ne (Ne.symm hs)]
theorem wpList_lookup_pl {ops : Array Oper} {rest : List Oper} {o : Oper} {a : Act} {Q : Exit → Act → World → Prop} (hgd : o.guard = none) (m x : Operand) (hop : o.op = Op.lookup MT m x true) {v : Value}
  (hmm : a.eval m = .map (some b)) (hx : a.eval x = k) (hr : (Instr.lookup MT (.map (some b)) k true).run Tryz.prog w = .ok v w) (h : wpList Tryz.prog ops Q rest (a.put o.dst v) w) : wpList Tryz.prog ops Q (o :: rest) a w :=
 wpList_plain hgd fun K hK => by
  unfold Oper.wp
  simp [execOp,hop,hmm,hx,hr,Result.andThen]
  exact hK _ _ h
theorem wpList_update_pl {ops : Array Oper} {rest : List Oper} {o : Oper} {a : Act} {Q : Exit → Act → World → Prop} (hgd : o.guard = none) (m x y : Operand) (hop : o.op = Op.mapUpdate MT m x y) {w' : World} {v : Value}
  (hmm : a.eval m = .map (some b)) (hx : a.eval x = k) (hy : a.eval y = v) (hr : (Instr.mapUpdate MT (.map (some b)) k v).run Tryz.prog w = .ok () w') (h : wpList Tryz.prog ops Q rest (a.put o.dst undef) w') : wpList Tryz.prog ops Q (o :: rest) a w :=
 wpList_plain hgd fun K hK => by
  unfold Oper.wp
  simp [execOp,hop,hmm,hx,hy,hr,Result.andThen]
  exact hK _ _ h
end
def PlnV (w : World) (v : Value) : Prop := ∀ g off n cap,v = .slice (some ⟨g,off,none⟩) n cap → n ≠ 0 → ∃ cs ty,w.heap[g]? = some (.cells cs ty (0,0))
def TrQ : Nat → World → List Value → Tr → Prop
 | 0,_,_,_ => False
 | n + 1,w,r,t => ∃ ve vr,r = [.int .i64 t.kind,.int .i64 t.n,.string t.s,ve,vr] ∧ Is64 t.kind ∧ Is64 t.n ∧ t.s.size ≤ 140737488351232 ∧ Fd64 t.rest ∧ RowG w vr 4 (fdRows t.rest) ∧ RowP (EnC (TrQ n w) w) w 2 ve t.es ∧ PlnV w ve
abbrev TrsQ (n : Nat) (w : World) (v : Value) (ts : List Tr) : Prop := RowP (TrQ n w) w 5 v ts
abbrev EnsQ (n : Nat) (w : World) (v : Value) (es : List (Int × List Tr)) : Prop := RowP (EnC (TrQ n w) w) w 2 v es
theorem PlnV.below {w w1 : World} {v : Value} (h : PlnV w v) (hb : Below w.heap.size w w1) : PlnV w1 v := fun g off n cap e hn => by
 obtain ⟨cs,ty,h1⟩ := h g off n cap e hn;exact ⟨cs,ty,(hb.block g (Array.getElem?_eq_some_iff.1 h1).1).trans h1⟩
theorem TrQ.below : ∀ {n : Nat} {w w1 : World} {r : List Value} {t : Tr},TrQ n w r t → Below w.heap.size w w1 → TrQ n w1 r t
 | 0,_,_,_,_,h,_ => h
 | n + 1,w,w1,r,t,h,hb => by
  obtain ⟨ve,vr,h1,h2,h3,h4,h5,h6,h7,h8⟩ := h;refine ⟨ve,vr,h1,h2,h3,h4,h5,h6.below hb,h7.mono hb fun r x hx hp => ?_,h8.below hb⟩;obtain ⟨vt,g1,g2,g3⟩ := hp;exact ⟨vt,g1,g2,g3.mono hb fun r x hx hp => hp.below hb⟩
theorem RowP.belowTQ {n : Nat} {w w1 : World} {v : Value} {ts : List Tr} (h : TrsQ n w v ts) (hb : Below w.heap.size w w1) : TrsQ n w1 v ts := RowP.mono h hb fun _ _ _ hp => hp.below hb
theorem RowP.belowEQ {n : Nat} {w w1 : World} {v : Value} {es : List (Int × List Tr)} (h : EnsQ n w v es) (hb : Below w.heap.size w w1) : EnsQ n w1 v es :=
 RowP.mono h hb fun _ _ _ hp => by
  obtain ⟨vt,g1,g2,g3⟩ := hp;exact ⟨vt,g1,g2,g3.belowTQ hb⟩
theorem TrQ.trC : ∀ {n : Nat} {w : World} {r : List Value} {t : Tr},TrQ n w r t → TrC n w r t
 | 0,_,_,_,h => h
 | n + 1,w,r,t,h => by
  obtain ⟨ve,vr,h1,h2,h3,h4,h5,h6,h7,h8⟩ := h;refine ⟨ve,vr,h1,h2,h3,h4,h5,h6,h7.imp fun r x hx hp => ?_⟩;obtain ⟨vt,g1,g2,g3⟩ := hp;exact ⟨vt,g1,g2,g3.imp fun r x hx hp => hp.trC⟩
theorem own_pln {w : World} {B e s n : Nat} {v : Value} {xs : List Value} (h : w.ownsRow B e s v n xs) : PlnV w v := by
 intro g off m cap ev hm
 rcases h.2 with ⟨rfl,_⟩ | ⟨g',cap',cur,rfl,_,h3,_⟩
 ·cases ev
 ·simp at ev
  obtain ⟨⟨rfl,_⟩,_⟩ := ev;exact ⟨cur,e,h3⟩
theorem RowP.uniq {α : Type} {P Q : List Value → α → Prop} {w : World} {size : Nat} {a : Option Addr} {N c1 c2 : Nat} {xs ys : List α} (h : RowP P w size (.slice a N c1) xs) (k : RowP Q w size (.slice a N c2) ys)
  (hp : ∀ r s x y,P r x → Q s y → (∀ j : Nat,r[j]? ≠ none → s[j]? ≠ none → r[j]? = s[j]?) → x = y) : xs = ys := by
 obtain ⟨a1,c1',e1,_,_,_,_,_⟩ := h.open;obtain ⟨a2,c2',e2,_,_,_,_,_⟩ := k.open;simp only [Value.slice.injEq] at e1 e2;obtain ⟨_,e1,_⟩ := e1;obtain ⟨_,e2,_⟩ := e2;refine List.ext_getElem? fun i => ?_
 by_cases hi : i < xs.length
 ·obtain ⟨g,off,ha,r,hr,hcr⟩ := h.get (List.getElem?_eq_getElem hi);obtain ⟨g',off',ha',s,hs,hcs⟩ := k.get (i := i) (List.getElem?_eq_getElem (by omega));rw [ha] at ha'
  simp at ha'
  obtain ⟨rfl,rfl⟩ := ha';rw [List.getElem?_eq_getElem hi,List.getElem?_eq_getElem (by omega)];refine congrArg some (hp r s _ _ hr hs fun j h1 h2 => ?_)
  cases hrj : r[j]? with
  | none => exact absurd hrj h1
  | some u =>
   cases hsj : s[j]? with
   | none => exact absurd hsj h2
   | some u' =>
    have q1 := hcr j u hrj;have q2 := hcs j u' hsj;rw [q1] at q2;exact q2
 ·rw [List.getElem?_eq_none (by omega),List.getElem?_eq_none (by omega)]
theorem fd_uniq {w : World} {a : Option Addr} {N c1 c2 : Nat} {l m : List Fd} (h : RowG w (.slice a N c1) 4 (fdRows l)) (k : RowG w (.slice a N c2) 4 (fdRows m)) : l = m := by
 have h1 : RowP (fun r (f : Fd) => r = f.cells) w 4 (.slice a N c1) l := ⟨fdRows l,h,by simp [fdRows],fun i x hx => ⟨x.cells,by simp [fdRows,hx],rfl⟩⟩;have h2 : RowP (fun r (f : Fd) => r = f.cells) w 4 (.slice a N c2) m := ⟨fdRows m,k,by simp [fdRows],fun i x hx => ⟨x.cells,by simp [fdRows,hx],rfl⟩⟩;refine h1.uniq h2 fun r s x y hr hs hj => ?_
 subst hr hs;have j0 := hj 0 (by simp [Fd.cells]) (by simp [Fd.cells]);have j1 := hj 1 (by simp [Fd.cells]) (by simp [Fd.cells]);have j2 := hj 2 (by simp [Fd.cells]) (by simp [Fd.cells]);have j3 := hj 3 (by simp [Fd.cells]) (by simp [Fd.cells])
 simp [Fd.cells] at j0 j1 j2 j3
 cases x; cases y; simp_all
theorem TrC.uniq : ∀ {n m : Nat} {w : World} {r s : List Value} {t u : Tr},TrC n w r t → TrC m w s u → (∀ j : Nat,r[j]? ≠ none → s[j]? ≠ none → r[j]? = s[j]?) → t = u
 | 0,_,_,_,_,_,_,h,_,_ => h.elim
 | _ + 1,0,_,_,_,_,_,_,h,_ => h.elim
 | n + 1,m + 1,w,r,s,t,u,h,k,hj => by
  obtain ⟨ve,vr,rfl,_,_,_,_,h6,h7⟩ := h;obtain ⟨ve',vr',rfl,_,_,_,_,k6,k7⟩ := k;have j0 := hj 0 (by simp) (by simp);have j1 := hj 1 (by simp) (by simp);have j2 := hj 2 (by simp) (by simp);have j3 := hj 3 (by simp) (by simp);have j4 := hj 4 (by simp) (by simp)
  simp at j0 j1 j2 j3 j4
  subst j3 j4;obtain ⟨a1,c1,e1,_⟩ := h7.open;obtain ⟨a2,c2,e2,_⟩ := h6.form2;subst e1 e2
  have hes : t.es = u.es := h7.uniq k7 fun r s x y hp hq hj => by
   obtain ⟨vt,rfl,_,g3⟩ := hp;obtain ⟨vt',rfl,_,g3'⟩ := hq;have i0 := hj 0 (by simp) (by simp);have i1 := hj 1 (by simp) (by simp)
   simp at i0 i1
   subst i1;obtain ⟨a3,c3,e3,_⟩ := g3.open;subst e3;have := g3.uniq g3' fun r s x y hp hq hj => hp.uniq hq hj
   exact Prod.ext i0 this
  have hrs : t.rest = u.rest := fd_uniq h6 k6
  cases t; cases u; simp_all
def plOf (v : Value) : Pl := match v with
 | .slice a n _ => if n = 0 then (none,0) else (a,n)
 | _ => (none,0)
theorem plOf_ok {w : World} {v : Value} {P : List Value → (Int × List Tr) → Prop} {es : List (Int × List Tr)} (h : PlnV w v) (hr : RowP P w 2 v es) : PlOk w (plOf v) := by
 obtain ⟨a,cap,rfl,_,_,h4,_⟩ := hr.open;intro b hb;unfold plOf at hb;simp only at hb
 split at hb
 ·cases hb
 ·rename_i hne
  simp only at hb;subst hb
  rcases h4 with rfl | ⟨g,off,e⟩
  ·exact absurd rfl hne
  ·simp at e
   subst e;exact h g off _ cap rfl hne
theorem pl_uniq {n m : Nat} {w : World} {v v' : Value} {es es' : List (Int × List Tr)} (h : EnsQ n w v es) (k : EnsQ m w v' es') (e : plOf v = plOf v') : es = es' := by
 obtain ⟨a,cap,rfl,_,_,h4,_⟩ := RowP.open h;obtain ⟨a',cap',rfl,_,_,h4',_⟩ := RowP.open k;unfold plOf at e;simp only at e
 by_cases hn : es.length = 0
 ·rw [if_pos hn] at e
  by_cases hn' : es'.length = 0
  ·rw [List.eq_nil_of_length_eq_zero hn,List.eq_nil_of_length_eq_zero hn']
  ·rw [if_neg hn'] at e
   simp at e
   exact absurd (e.2.symm ▸ rfl) hn'
 ·rw [if_neg hn] at e
  by_cases hn' : es'.length = 0
  ·rw [if_pos hn'] at e
   simp at e
   exact absurd e.2 (by intro h0; rw [h0] at hn; exact hn rfl)
  ·rw [if_neg hn'] at e;simp only [Prod.mk.injEq] at e;obtain ⟨rfl,e2⟩ := e;rw [← e2] at k;refine RowP.uniq h k fun r s x y hp hq hj => ?_
   obtain ⟨vt,rfl,_,g3⟩ := hp;obtain ⟨vt',rfl,_,g3'⟩ := hq;have i0 := hj 0 (by simp) (by simp);have i1 := hj 1 (by simp) (by simp)
   simp at i0 i1
   subst i1;obtain ⟨a3,c3,e3,_⟩ := g3.open;subst e3;exact Prod.ext i0 (g3.uniq g3' fun r s x y hp hq hj => hp.trC.uniq hq.trC hj)
end
section
def DpN : Nat → Tr → Prop
 | 0,_ => False
 | n + 1,t => ∀ e ∈ t.es,∀ x ∈ e.2,DpN n x
end
section
open Go.ChangeShapes Go.WideShapes Go.ChangeAt Go.RowKit
def Cel (w w' : World) : Prop := ∀ (k : Nat) (cs : Array Value) (t : TypeId) (fz : Nat × Nat),w.heap[k]? = some (Obj.cells cs t fz) → w'.heap[k]? = some (Obj.cells cs t fz)
theorem Cel.ofBelow {w w' : World} (h : Below w.heap.size w w') : Cel w w' := fun k cs t fz e => (h.block k (Array.getElem?_eq_some_iff.1 e).1).trans e
theorem Cel.cell {w w' : World} (h : Cel w w') {p : Addr} {u : Value} (hc : w.cell? p = some u) : w'.cell? p = some u := by
 cases hb : w.heap[p.block]? with
 | none => simp [World.cell?,hb] at hc
 | some o =>
  cases o with
  | cells cs t fz =>
   have := h _ _ _ _ hb;simp only [World.cell?,hb] at hc;simp only [World.cell?,this];exact hc
  | _ => simp [World.cell?,hb] at hc
theorem RowG.cel {w w1 : World} {v : Value} {size : Nat} {rs : List (List Value)} (h : RowG w v size rs) (hb : Cel w w1) : RowG w1 v size rs := by
 obtain ⟨a,cap,h1,h2,h3,h0,h4⟩ := h.form;refine ⟨a,cap,h1,h2,h3,h0,fun hne => ?_⟩;obtain ⟨g,off,h5,h6⟩ := h4 hne;exact ⟨g,off,h5,fun i c u j hc hu => hb.cell (h6 i c u j hc hu)⟩
theorem RowP.cel {α : Type} {P Q : List Value → α → Prop} {w w1 : World} {size : Nat} {v : Value} {xs : List α} (h : RowP P w size v xs) (hb : Cel w w1) (hp : ∀ r x,x ∈ xs → P r x → Q r x) : RowP Q w1 size v xs := by
 obtain ⟨rows,h1,h2,h3⟩ := h;refine ⟨rows,h1.cel hb,h2,fun i x hx => ?_⟩;obtain ⟨r,g1,g2⟩ := h3 i x hx;exact ⟨r,g1,hp r x (List.mem_of_getElem? hx) g2⟩
theorem PlnV.cel {w w1 : World} {v : Value} (h : PlnV w v) (hb : Cel w w1) : PlnV w1 v := fun g off n cap e hn => by
 obtain ⟨cs,ty,h1⟩ := h g off n cap e hn;exact ⟨cs,ty,hb _ _ _ _ h1⟩
def TrR : Nat → World → List Value → Tr → Prop
 | 0,_,_,_ => False
 | n + 1,w,r,t => ∃ ve vr,r = [.int .i64 t.kind,.int .i64 t.n,.string t.s,ve,vr] ∧ Is64 t.kind ∧ Is64 t.n ∧ t.s.size ≤ 140737488351232 ∧ Fd64 t.rest ∧ RowG w vr 4 (fdRows t.rest) ∧ RowP (EnC (TrR n w) w) w 2 ve t.es ∧ PlnV w ve ∧ PlnV w vr
abbrev TrsR (n : Nat) (w : World) (v : Value) (ts : List Tr) : Prop := RowP (TrR n w) w 5 v ts
abbrev EnsR (n : Nat) (w : World) (v : Value) (es : List (Int × List Tr)) : Prop := RowP (EnC (TrR n w) w) w 2 v es
theorem TrR.cel : ∀ {n : Nat} {w w1 : World} {r : List Value} {t : Tr},TrR n w r t → Cel w w1 → TrR n w1 r t
 | 0,_,_,_,_,h,_ => h
 | n + 1,w,w1,r,t,h,hb => by
  obtain ⟨ve,vr,h1,h2,h3,h4,h5,h6,h7,h8,h9⟩ := h;refine ⟨ve,vr,h1,h2,h3,h4,h5,h6.cel hb,h7.cel hb fun r x hx hp => ?_,h8.cel hb,h9.cel hb⟩;obtain ⟨vt,g1,g2,g3⟩ := hp;exact ⟨vt,g1,g2,RowP.cel g3 hb fun r x hx hp => hp.cel hb⟩
theorem RowP.celT {n : Nat} {w w1 : World} {v : Value} {ts : List Tr} (h : TrsR n w v ts) (hb : Cel w w1) : TrsR n w1 v ts := RowP.cel h hb fun _ _ _ hp => hp.cel hb
theorem TrR.trQ : ∀ {n : Nat} {w : World} {r : List Value} {t : Tr},TrR n w r t → TrQ n w r t
 | 0,_,_,_,h => h
 | n + 1,w,r,t,h => by
  obtain ⟨ve,vr,h1,h2,h3,h4,h5,h6,h7,h8,h9⟩ := h;refine ⟨ve,vr,h1,h2,h3,h4,h5,h6,h7.imp fun r x hx hp => ?_,h8⟩;obtain ⟨vt,g1,g2,g3⟩ := hp;exact ⟨vt,g1,g2,g3.imp fun r x hx hp => hp.trQ⟩
theorem TrO.trR : ∀ {n B : Nat} {w : World} {r : List Value} {t : Tr} {bs : List Nat},TrO n B w r t bs → TrR n w r t
 | 0,_,_,_,_,_,h => h
 | n + 1,B,w,r,t,bs,h => by
  obtain ⟨ve,vr,rows,bss,h1,h2,h3,h4,h5,h6,h7,rfl⟩ := h;refine ⟨ve,vr,h1,h2,h3,h4,h5,own_rest h6,h7.rowP (by decide) (fun r x b hx hp => ?_),own_pln h7.own,own_pln h6⟩;obtain ⟨vt,rows',bss',g1,g2,g3,rfl⟩ := hp;exact ⟨vt,g1,g2,g3.rowP (by decide) fun r x b hx hp => hp.trR⟩
theorem RowP.all {α : Type} {P : List Value → α → Prop} {w : World} {size : Nat} {v : Value} {xs : List α} (h : RowP P w size v xs) : ∀ x ∈ xs,∃ r,P r x := fun x hx => by
 obtain ⟨rows,h1,h2,h3⟩ := h;obtain ⟨i,hi,e⟩ := List.getElem_of_mem hx;obtain ⟨r,_,g2⟩ := h3 i x (by rw [List.getElem?_eq_getElem hi,e]);exact ⟨r,g2⟩
theorem TrR.dp : ∀ {n : Nat} {w : World} {r : List Value} {t : Tr},TrR n w r t → DpN n t
 | 0,_,_,_,h => h
 | n + 1,w,r,t,h => by
  obtain ⟨ve,vr,h1,h2,h3,h4,h5,h6,h7,h8,h9⟩ := h;intro e he x hx;obtain ⟨r',vt,_,_,g3⟩ := h7.all e he;obtain ⟨r'',hp⟩ := RowP.all g3 x hx;exact hp.dp
def TrW (n : Nat) (w : World) (v : Value) (t : Tr) : Prop := ∃ r,v = .agg r.toArray ∧ TrR n w r t
theorem TrW.cel {n : Nat} {w w1 : World} {v : Value} {t : Tr} (h : TrW n w v t) (hb : Cel w w1) : TrW n w1 v t := by
 obtain ⟨r,h1,h2⟩ := h;exact ⟨r,h1,h2.cel hb⟩
theorem TrV.trW {n B : Nat} {w : World} {v : Value} {t : Tr} {bs : List Nat} (h : TrV n B w v t bs) : TrW n w v t := by
 obtain ⟨r,h1,h2,_⟩ := h;exact ⟨r,h1,h2.trR⟩
theorem TrW.open {n : Nat} {w : World} {v : Value} {t : Tr} (h : TrW n w v t) : ∃ m a1 c1 a2 c2,n = m + 1 ∧ v = .agg #[.int .i64 t.kind,.int .i64 t.n,.string t.s,.slice a1 t.es.length c1,.slice a2 t.rest.length c2] ∧ Is64 t.kind ∧ Is64 t.n ∧ t.s.size ≤ 140737488351232 ∧ t.es.length ≤ c1 ∧ c1 ≤ maxLen ∧ t.rest.length ≤ c2 ∧ c2 ≤ maxLen ∧
  (t.es.length = 0 ∨ ∃ g off,a1 = some ⟨g,off,none⟩) ∧ (t.rest.length = 0 ∨ ∃ g off,a2 = some ⟨g,off,none⟩) ∧ RowG w (.slice a2 t.rest.length c2) 4 (fdRows t.rest) ∧ EnsR m w (.slice a1 t.es.length c1) t.es ∧ PlnV w (.slice a1 t.es.length c1) ∧ PlnV w (.slice a2 t.rest.length c2) := by
 obtain ⟨r,rfl,h⟩ := h
 cases n with
 | zero => exact h.elim
 | succ m =>
  obtain ⟨ve,vr,rfl,h2,h3,h4,h5,h6,h7,h8,h9⟩ := h;obtain ⟨a1,c1,rfl,u1,u2,u3, -⟩ := RowP.open h7;obtain ⟨a2,c2,rfl,x1,x2,x3, -⟩ := rest_holds h6;exact ⟨m,a1,c1,a2,c2,rfl,rfl,h2,h3,h4,u1,u2,x1,x2,u3.imp (fun h => by rw [h]; rfl) id,x3.imp (fun h => by rw [h]; rfl) id,h6,h7,h8,h9⟩
theorem trsR_get {n : Nat} {w : World} {a : Option Addr} {N cap : Nat} {ts : List Tr} (h : TrsR n w (.slice a N cap) ts) {i : Nat} {t : Tr} (hi : ts[i]? = some t) :
  ∃ g off a1 n1 c1 a2 n2 c2,a = some ⟨g,off,none⟩ ∧ w.cell? ⟨g,off + i * 5,none⟩ = some (.int .i64 t.kind) ∧ w.cell? ⟨g,off + i * 5 + 1,none⟩ = some (.int .i64 t.n) ∧ w.cell? ⟨g,off + i * 5 + 2,none⟩ = some (.string t.s) ∧ w.cell? ⟨g,off + i * 5 + 3,none⟩ = some (.slice a1 n1 c1) ∧ w.cell? ⟨g,off + i * 5 + 4,none⟩ = some (.slice a2 n2 c2) ∧
   TrW n w (.agg #[.int .i64 t.kind,.int .i64 t.n,.string t.s,.slice a1 n1 c1,.slice a2 n2 c2]) t := by
 obtain ⟨g,off,ha,r,hr,hc⟩ := RowP.get h hi;obtain ⟨m,a1,c1,a2,c2,rfl,e,_⟩ := TrW.open ⟨r,rfl,hr⟩
 have e1 : r = [.int .i64 t.kind,.int .i64 t.n,.string t.s,.slice a1 t.es.length c1,.slice a2 t.rest.length c2] := by simpa using e
 subst e1;exact ⟨g,off,a1,_,c1,a2,_,c2,ha,hc 0 _ rfl,hc 1 _ rfl,hc 2 _ rfl,hc 3 _ rfl,hc 4 _ rfl,_,rfl,hr⟩
theorem TrW.parts {n : Nat} {w : World} {t : Tr} {K N : Int} {S : ByteArray} {a1 a2 : Option Addr} {n1 c1 n2 c2 : Nat} (h : TrW n w (.agg #[.int .i64 K,.int .i64 N,.string S,.slice a1 n1 c1,.slice a2 n2 c2]) t) : t.kind = K ∧ t.n = N ∧ t.s = S ∧ t.es.length = n1 ∧ t.rest.length = n2 := by
 obtain ⟨m,a1',c1',a2',c2', -,e, -⟩ := h.open;simp only [Value.agg.injEq,Array.mk.injEq,List.cons.injEq,Value.int.injEq,Value.string.injEq,Value.slice.injEq,and_true,true_and] at e;obtain ⟨e1,e2,e3,⟨-,e4, -⟩, -,e5, -⟩ := e;exact ⟨e1.symm,e2.symm,e3.symm,e4.symm,e5.symm⟩
theorem eql_ptrR (w : World) (d : Nat) (p q : Option Addr) (hp : ∀ a,p = some a → ∃ cs ty,w.heap[a.block]? = some (.cells cs ty (0,0))) (hq : ∀ a,q = some a → ∃ cs ty,w.heap[a.block]? = some (.cells cs ty (0,0))) :
  (Op.equalIn (d + 1) 101 (.pointer p) (.pointer q)).run Tryz.prog w = .ok (decide (p = q)) w := by
 have hu : Tryz.prog.underlying 101 = some (.pointer 79) := by kernel_rfl
 have hi : (Tryz.prog.info? 79).map (fun i => i.size) = some 4 := by kernel_rfl
 obtain ⟨j,hj,hs⟩ : ∃ j,Tryz.prog.info? 79 = some j ∧ j.size = 4 := by
  cases h : Tryz.prog.info? 79 with
  | none => rw [h] at hi; cases hi
  | some j => rw [h] at hi; exact ⟨j,rfl,by simpa using hi⟩
 cases p with
 | none => cases q <;> simp [Op.equalIn,run_underlying hu]
 | some a =>
  cases q with
  | none => simp [Op.equalIn,run_underlying hu]
  | some b =>
   by_cases e : a = b
   ·subst e
    simp [Op.equalIn,run_underlying hu,sizeOf,typeInfo,hj,hs,run_sameAddr_same]
   ·obtain ⟨ca,ta,ha⟩ := hp a rfl;obtain ⟨cb,tb,hb⟩ := hq b rfl
    simp [Op.equalIn,run_underlying hu,sizeOf,typeInfo,hj,hs,run_sameAddr_other w e ha hb,e]
theorem toList_ne {a b : ByteArray} (h : ¬ a = b) : ¬ a.toList = b.toList := fun e => h (by
 rw [ByteArray.toList_eq,ByteArray.toList_eq] at e;obtain ⟨⟨l⟩⟩ := a;obtain ⟨⟨m⟩⟩ := b;simp only at e;subst e
 rfl)
theorem plOf_ok4 {w : World} {v : Value} {l : List Fd} (h : PlnV w v) (hr : RowG w v 4 (fdRows l)) : PlOk w (plOf v) := by
 obtain ⟨a,cap,rfl,_,_,h4,_⟩ := rest_holds hr;intro b hb;unfold plOf at hb;simp only at hb
 split at hb
 ·cases hb
 ·rename_i hne
  simp only at hb;subst hb
  rcases h4 with rfl | ⟨g,off,e⟩
  ·exact absurd rfl hne
  ·simp at e
   subst e;exact h g off _ cap rfl hne
theorem EnC.trQ {n : Nat} {w : World} {v : Value} {es : List (Int × List Tr)} (h : EnsR n w v es) : EnsQ n w v es := RowP.imp h fun r x hx hp => by
 obtain ⟨vt,g1,g2,g3⟩ := hp;exact ⟨vt,g1,g2,g3.imp fun r x hx hp => hp.trQ⟩
def PlMap (w : World) (b : Nat) (L : List (Value × Value)) : Prop := ∃ es clock,w.heap[b]? = some (.map es clock) ∧ es.toList.map (fun e => (e.key,e.val)) = L
theorem PlMap.lt {w : World} {b : Nat} {L : List (Value × Value)} (h : PlMap w b L) : b < w.heap.size := by
 obtain ⟨es,c,h,_⟩ := h;exact (Array.getElem?_eq_some_iff.1 h).1
theorem PlMap.kp {S : Nat → Prop} {w w1 : World} {b : Nat} {L : List (Value × Value)} (h : PlMap w b L) (hk : Kp S w w1) (hs : ¬ S b) : PlMap w1 b L := by
 have hl := h.lt;obtain ⟨es,c,h1,h2⟩ := h;exact ⟨es,c,(hk.block b hl hs).trans h1,h2⟩
theorem PlMap.made (w : World) : PlMap (w.alloc (.map #[] 0)) w.heap.size [] := ⟨#[],0,heap_alloc_new w _,rfl⟩
theorem PlMap.neB {w : World} {b : Nat} {L : List (Value × Value)} (h : PlMap w b L) {g : Nat} {cs : Array Value} {t : TypeId} {fz : Nat × Nat} (hc : w.heap[g]? = some (.cells cs t fz)) : g ≠ b := by
 rintro rfl;obtain ⟨es,c,hb,_⟩ := h;rw [hb] at hc; cases hc
section
variable {T MT : TypeId} {w : World} {k : Value}
theorem find_askM : ∀ (l : List MapEntry) (i : Nat),Told T w k (l.map MapEntry.key) →
  (∃ j e,(Instr.findAsking T k l i).run Tryz.prog w = .ok (some (i + j,e.val)) w ∧ l[j]? = some e ∧ e.key = k) ∨ ((Instr.findAsking T k l i).run Tryz.prog w = .ok none w ∧ k ∉ l.map MapEntry.key)
 | [],i,_ => .inr (by simp [Instr.findAsking])
 | e :: l,i,ht => by
  obtain ⟨h1,h2⟩ := ht e.key (List.mem_cons_self ..)
  by_cases hke : k = e.key
  ·refine .inl ⟨0,e,?_,rfl,hke.symm⟩;unfold Instr.findAsking;rw [Sem.run_bind,h1 hke]
   simp [Result.andThen]
  ·have hrun : (Instr.findAsking T k (e :: l) i).run Tryz.prog w = (Instr.findAsking T k l (i + 1)).run Tryz.prog w := by
    conv => lhs; unfold Instr.findAsking
    rw [Sem.run_bind,h2 hke]
    simp [Result.andThen]
   rcases find_askM l (i + 1) (fun q hq => ht q (List.mem_cons_of_mem _ hq)) with ⟨j,e',g1,g2,g3⟩ | ⟨g1,g2⟩
   ·exact .inl ⟨j + 1,e',by rw [hrun,g1]; congr 3; omega,by simpa using g2,g3⟩
   ·refine .inr ⟨hrun.trans g1,fun h => ?_⟩
    rcases List.mem_cons.1 h with h | h
    ·exact hke h
    ·exact g2 h
theorem find_keyM {fs : TypeDesc} (hu : Tryz.prog.underlying T = some fs) (hf : ∀ k q,Instr.sameNow fs (.agg k) q = none) {ks : Array Value} (hk : k = .agg ks) (l : List MapEntry) (ht : Told T w k (l.map MapEntry.key)) :
  (∃ j e,(Instr.findKey T k l).run Tryz.prog w = .ok (some (j,e.val)) w ∧ l[j]? = some e ∧ e.key = k) ∨ ((Instr.findKey T k l).run Tryz.prog w = .ok none w ∧ k ∉ l.map MapEntry.key) := by
 cases l with
 | nil => exact .inr (by simp [Instr.findKey,run_underlying hu,Instr.findNow])
 | cons e l =>
  have h1 : Instr.findNow fs k (e :: l) 0 = none := by rw [hk]; simp [Instr.findNow,hf]
  have h2 : (Instr.findKey T k (e :: l)).run Tryz.prog w = (Instr.findAsking T k (e :: l) 0).run Tryz.prog w := by
   simp [Instr.findKey,run_underlying hu,h1]
  rw [h2];have := find_askM (e :: l) 0 ht
  simpa using this
variable {E : TypeId} {L : List (Value × Value)} {b : Nat}
theorem keys_of {es : Array MapEntry} : (es.toList.map (fun e => (e.key,e.val))).map Prod.fst = es.toList.map MapEntry.key := by simp [Function.comp_def]
theorem look_map (hm : Tryz.prog.underlying MT = some (.map T E)) {z : Value} (hz : ∀ w,(zeroValue E).run Tryz.prog w = .ok z w) {fs : TypeDesc} (hu : Tryz.prog.underlying T = some fs) (hf : ∀ k q,Instr.sameNow fs (.agg k) q = none) {ks : Array Value} (hk : k = .agg ks)
  (hc : ∀ e,(Instr.checkKey e 10000 T k).run Tryz.prog w = .ok () w) (hs : PlMap w b L) (ht : Told T w k (L.map Prod.fst)) :
  (∃ v,(k,v) ∈ L ∧ (Instr.lookup MT (.map (some b)) k true).run Tryz.prog w = .ok (.tuple #[v,.bool true]) w) ∨ (k ∉ L.map Prod.fst ∧ (Instr.lookup MT (.map (some b)) k true).run Tryz.prog w = .ok (.tuple #[z,.bool false]) w) := by
 obtain ⟨es,c,h1,rfl⟩ := hs;rw [keys_of] at ht ⊢
 have hgo : (getObj b).run Tryz.prog w = .ok (.map es c) w := by simp [getObj,Sem.run,h1]
 rcases find_keyM hu hf hk es.toList ht with ⟨j,e,hj,g2,g3⟩ | ⟨hj,g2⟩
 ·refine .inl ⟨e.val,List.mem_map.2 ⟨e,List.mem_of_getElem? g2,by rw [g3]⟩,?_⟩
  simp [Instr.lookup,run_underlying hm,hgo,hc,hj]
 ·refine .inr ⟨g2,?_⟩
  simp [Instr.lookup,run_underlying hm,hgo,hc,hj,hz]
theorem update_map (hm : Tryz.prog.underlying MT = some (.map T E)) {fs : TypeDesc} (hu : Tryz.prog.underlying T = some fs) (hf : ∀ k q,Instr.sameNow fs (.agg k) q = none) {ks : Array Value} (hk : k = .agg ks) (hsb : Instr.sameBits 10000 k k = true)
  (hc : ∀ e,(Instr.checkKey e 10000 T k).run Tryz.prog w = .ok () w) (hs : PlMap w b L) (ht : Told T w k (L.map Prod.fst)) (v : Value) :
  ∃ w' L',(Instr.mapUpdate MT (.map (some b)) k v).run Tryz.prog w = .ok () w' ∧ PlMap w' b L' ∧ (∀ p ∈ L',p ∈ L ∨ p = (k,v)) ∧ (k,v) ∈ L' ∧ (∀ p ∈ L,p.1 ≠ k → p ∈ L') ∧ Kp (fun q => q = b) w w' ∧ w'.heap.size = w.heap.size := by
 obtain ⟨es,c,h1,rfl⟩ := hs;rw [keys_of] at ht
 have hgo : (getObj b).run Tryz.prog w = .ok (.map es c) w := by simp [getObj,Sem.run,h1]
 have hse : ∀ o,(setObj b o).run Tryz.prog w = .ok () { w with heap := w.heap.setIfInBounds b o } := fun o => by simp [setObj,Sem.run,h1]
 have hlt := (Array.getElem?_eq_some_iff.1 h1).1
 have hkp : ∀ o,Kp (fun q => q = b) w { w with heap := w.heap.setIfInBounds b o } := fun o => ⟨rfl,rfl,rfl,by simp,fun q hq hs => by
  simp only
  rw [Array.getElem?_setIfInBounds_ne (Ne.symm hs)]⟩
 rcases find_keyM hu hf hk es.toList ht with ⟨j,e,hj,g2,g3⟩ | ⟨hj,g2⟩
 ·have hej : es[j]? = some e := by simpa using g2
  have hkt : (Instr.keyThatStays (((es[j]?).map (·.key)).getD k) k).run Tryz.prog w = .ok k w := by
   rw [hej]
   simp [Instr.keyThatStays,g3,hsb]
  have hmem : ∀ x,x ∈ (es.modify j fun e => { e with key := k,val := v }).toList ↔ ∃ i y,es[i]? = some y ∧ x = if j = i then { y with key := k,val := v } else y := fun x => by
   rw [Array.mem_toList_iff,Array.mem_iff_getElem?]
   constructor
   ·rintro ⟨i,hi⟩;rw [Array.getElem?_modify] at hi
    split at hi
    ·rename_i hij
     subst hij;rw [hej] at hi
     simp at hi
     exact ⟨j,e,hej,by rw [if_pos rfl]; exact hi.symm⟩
    ·rename_i hij
     exact ⟨i,x,hi,by rw [if_neg hij]⟩
   ·rintro ⟨i,y,hi,rfl⟩;refine ⟨i,?_⟩;rw [Array.getElem?_modify]
    split
    ·rename_i hij
     rw [hi]; rfl
    ·exact hi
  refine ⟨{ w with heap := w.heap.setIfInBounds b (.map (es.modify j fun e => { e with key := k,val := v }) c) },_,?_,⟨es.modify j fun e => { e with key := k,val := v },c,?_,rfl⟩,?_,?_,?_,hkp _,by simp⟩
  ·simp [Instr.mapUpdate,run_underlying hm,hgo,hc,hj,hkt,hse]
  ·simp [hlt]
  ·intro p hp;obtain ⟨x,hx,rfl⟩ := List.mem_map.1 hp;obtain ⟨i,y,hi,rfl⟩ := (hmem x).1 hx
   split
   ·exact .inr rfl
   ·exact .inl (List.mem_map.2 ⟨y,by rw [Array.mem_toList_iff]; exact Array.mem_of_getElem? hi,rfl⟩)
  ·exact List.mem_map.2 ⟨{ e with key := k,val := v },(hmem _).2 ⟨j,e,hej,by rw [if_pos rfl]⟩,rfl⟩
  ·intro p hp hne;obtain ⟨x,hx,rfl⟩ := List.mem_map.1 hp;rw [Array.mem_toList_iff,Array.mem_iff_getElem?] at hx;obtain ⟨i,hi⟩ := hx;refine List.mem_map.2 ⟨x,(hmem _).2 ⟨i,x,hi,?_⟩,rfl⟩;rw [if_neg];intro hij;subst hij;rw [hej] at hi
   obtain rfl : e = x := by simpa using hi
   exact hne g3
 ·refine ⟨{ w with heap := w.heap.setIfInBounds b (.map (es.push { key := k,val := v,born := c }) (c + 1)) },_,?_,⟨es.push { key := k,val := v,born := c },c + 1,?_,rfl⟩,?_,?_,?_,hkp _,by simp⟩
  ·simp [Instr.mapUpdate,run_underlying hm,hgo,hc,hj,hse]
  ·simp [hlt]
  ·intro p hp;simp only [Array.toList_push,List.map_append,List.map_cons,List.map_nil,List.mem_append,List.mem_singleton] at hp;exact hp
  ·simp
  ·intro p hp _;simp only [Array.toList_push,List.map_append,List.mem_append];exact .inl hp
end
end
end Go.Proofs.YtmgbhicogmclgaaGreat
