/- Part 1 of what the proof stands on. -/
import Derived.Test.YtiajaocckkghgabGreatRows
import Derived.WalkKit
import Derived.ProofKit
import Derived.OpenShut
import Derived.Below
import Derived.Laws.OwnMore
import Derived.BigQuiet
import Derived.Laws.StructEq
import Derived.Deep.QuietTactic
import Derived.Deep.RegionWith
namespace Go.Proofs.YtiajaocckkghgabGreat
set_option maxHeartbeats 8000000
set_option linter.unusedVariables false
set_option linter.unusedSimpArgs false
set_option maxRecDepth 20000
def bts (n m : Nat) : Array Bool := ((List.range n).map fun i => m.testBit i).toArray
theorem zsA {α : Type} (l : List α) (i : Nat) (a : α) : l.toArray.setIfInBounds i a = (l.set i a).toArray := List.setIfInBounds_toArray ..
theorem zsZ {α : Type} (a b : α) (l : List α) : (a :: l).set 0 b = b :: l := rfl
theorem zsS {α : Type} (a b : α) (l : List α) (n : Nat) : (a :: l).set (n + 1) b = a :: l.set n b := rfl
section
open Go.ChangeShapes Go.WideShapes Go.ChangeAt Go.RowKit
structure Fd where
 tag : Int
 wire : Int
 n : Int
 b : ByteArray
def Fd.val (r : Fd) : Value := .agg #[.int .i64 r.tag,.int .i64 r.wire,.int .i64 r.n,.string r.b]
def Fd.cells (r : Fd) : List Value := [.int .i64 r.tag,.int .i64 r.wire,.int .i64 r.n,.string r.b]
def fd0 : Fd := ⟨0,0,0,⟨#[]⟩⟩
def okV (t k n : Int) (b : ByteArray) : Bool := decide (1 ≤ t) && decide (t ≤ 500) && (((k == 0) && b.toList.isEmpty) || ((k == 1) && (n == 0) && decide ((b.size : Int) ≤ 4096)))
def okF (r : Fd) : Bool := okV r.tag r.wire r.n r.b
theorem toList_empty (b : ByteArray) : b.toList.isEmpty = true ↔ b = ⟨#[]⟩ := by
 rw [ByteArray.toList_eq];obtain ⟨⟨l⟩⟩ := b
 cases l <;> simp
def Is64 (n : Int) : Prop := -9223372036854775808 ≤ n ∧ n ≤ 9223372036854775807
theorem ok_cases {r : Fd} (h : okF r = true) (hn : Is64 r.n) :
  (∃ (t : Nat) (n : Int),r = ⟨t,0,n,⟨#[]⟩⟩ ∧ 1 ≤ t ∧ t ≤ 500 ∧ Is64 n) ∨ (∃ (t : Nat) (b : ByteArray),r = ⟨t,1,0,b⟩ ∧ 1 ≤ t ∧ t ≤ 500 ∧ b.size ≤ 4096) := by
 obtain ⟨t,k,n,b⟩ := r;simp only [okF,okV,Bool.and_eq_true,Bool.or_eq_true,decide_eq_true_eq,beq_iff_eq,toList_empty] at h;obtain ⟨⟨h1,h2⟩,⟨rfl,rfl⟩ | ⟨⟨rfl,rfl⟩,h5⟩⟩ := h
 ·exact .inl ⟨t.toNat,n,by rw [Int.toNat_of_nonneg (by omega)],by omega,by omega,hn⟩
 ·exact .inr ⟨t.toNat,b,by rw [Int.toNat_of_nonneg (by omega)],by omega,by omega,by omega⟩
end
section
def risesB : List Fd → Bool
 | [] => true
 | [_] => true
 | x :: y :: l => decide (x.tag ≤ y.tag) && risesB (y :: l)
def Rises (l : List Fd) : Prop := l.Pairwise fun x y => x.tag ≤ y.tag
theorem rises_iff : ∀ l : List Fd,risesB l = true ↔ Rises l
 | [] => by simp [risesB,Rises]
 | [x] => by simp [risesB,Rises]
 | x :: y :: l => by
  have ih := rises_iff (y :: l);simp only [risesB,Bool.and_eq_true,decide_eq_true_eq,Rises] at ih ⊢;rw [List.pairwise_cons,ih]
  constructor
  ·rintro ⟨h1,h2⟩;refine ⟨?_,h2⟩;intro z hz
   rcases List.mem_cons.1 hz with rfl | hz
   ·exact h1
   ·exact Int.le_trans h1 ((List.pairwise_cons.1 h2).1 z hz)
  ·rintro ⟨h1,h2⟩;exact ⟨h1 y (by simp),h2⟩
def upN (l : List Fd) (t : Int) : Nat := (l.takeWhile fun x => decide (x.tag ≤ t)).length
theorem upN_le (l : List Fd) (t : Int) : upN l t ≤ l.length := by
 unfold upN;exact (List.takeWhile_prefix _).length_le
theorem upN_cons_le {x : Fd} {l : List Fd} {t : Int} (h : x.tag ≤ t) : upN (x :: l) t = upN l t + 1 := by simp [upN,h]
theorem upN_cons_gt {x : Fd} {l : List Fd} {t : Int} (h : ¬ x.tag ≤ t) : upN (x :: l) t = 0 := by simp [upN,h]
theorem upN_step {l : List Fd} {t : Int} {i : Nat} (hi : ∀ j x, j < i → l[j]? = some x → x.tag ≤ t) (he : i = l.length ∨ ∃ x, l[i]? = some x ∧ ¬ x.tag ≤ t) : upN l t = i := by
  induction l generalizing i with
  | nil => rcases he with rfl | ⟨x, hx, _⟩
           · rfl
           · simp at hx
  | cons a l ih =>
    cases i with
    | zero =>
      rcases he with h | ⟨x, hx, h⟩
      · simp at h
      · obtain rfl : a = x := by simpa using hx
        exact upN_cons_gt h
    | succ i =>
      rw [upN_cons_le (hi 0 a (by omega) rfl), ih (i := i) (fun j x hj hx => hi (j + 1) x (by omega) (by simpa using hx))]
      rcases he with h | ⟨x, hx, h⟩
      · exact .inl (by simpa using h)
      · exact .inr ⟨x, by simpa using hx, h⟩
def mergeF (low : List Fd) : List Fd → List Fd
 | [] => low
 | h :: hs => low.take (upN low h.tag) ++ h :: mergeF (low.drop (upN low h.tag)) hs
theorem mergeF_len : ∀ (high low : List Fd),(mergeF low high).length = low.length + high.length
 | [],low => by simp [mergeF]
 | h :: hs,low => by
  have := upN_le low h.tag;rw [mergeF,List.length_append,List.length_cons,mergeF_len hs,List.length_take,List.length_drop,List.length_cons]
  omega
theorem take_upN {l : List Fd} {t : Int} : ∀ x ∈ l.take (upN l t),x.tag ≤ t := by
 induction l with
 | nil => intro x hx; simp at hx
 | cons a l ih =>
  by_cases ha : a.tag ≤ t
  ·rw [upN_cons_le ha,List.take_succ_cons];intro x hx
   rcases List.mem_cons.1 hx with rfl | hx
   ·exact ha
   ·exact ih x hx
  ·rw [upN_cons_gt ha];intro x hx
   simp at hx
theorem drop_upN {l : List Fd} {t : Int} (h : Rises l) : ∀ x ∈ l.drop (upN l t),t < x.tag := by
 induction l with
 | nil => intro x hx; simp at hx
 | cons a l ih =>
  have hp := List.pairwise_cons.1 h
  by_cases ha : a.tag ≤ t
  ·rw [upN_cons_le ha];intro x hx;exact ih hp.2 x (by simpa using hx)
  ·rw [upN_cons_gt ha];intro x hx
   rcases List.mem_cons.1 (by simpa using hx) with rfl | hx
   ·omega
   ·have := hp.1 x hx; omega
theorem mergeF_mem : ∀ (high low : List Fd) (x : Fd),x ∈ mergeF low high → x ∈ low ∨ x ∈ high
 | [],low,x,h => .inl (by simpa [mergeF] using h)
 | y :: hs,low,x,h => by
  rw [mergeF,List.mem_append,List.mem_cons] at h
  rcases h with h | rfl | h
  ·exact .inl (List.mem_of_mem_take h)
  ·exact .inr (by simp)
  ·rcases mergeF_mem hs _ x h with h | h
   ·exact .inl (List.mem_of_mem_drop h)
   ·exact .inr (by simp [h])
theorem mergeF_rises : ∀ (high low : List Fd),Rises low → Rises high → Rises (mergeF low high)
 | [],low,h1,_ => by simpa [mergeF] using h1
 | y :: hs,low,h1,h2 => by
  have hp := List.pairwise_cons.1 h2;have hd : Rises (low.drop (upN low y.tag)) := h1.sublist (List.drop_sublist _ _);have ht : Rises (low.take (upN low y.tag)) := h1.sublist (List.take_sublist _ _);have hm := mergeF_rises hs _ hd hp.2
  have hy : ∀ x ∈ mergeF (low.drop (upN low y.tag)) hs,y.tag ≤ x.tag := fun x hx => by
   rcases mergeF_mem _ _ x hx with h | h
   ·exact Int.le_of_lt (drop_upN h1 x h)
   ·exact hp.1 x h
  rw [mergeF];unfold Rises at *;rw [List.pairwise_append,List.pairwise_cons];refine ⟨ht,⟨hy,hm⟩,?_⟩;intro a ha b hb;have h1 := take_upN a ha
  rcases List.mem_cons.1 hb with rfl | hb
  ·exact h1
  ·exact Int.le_trans h1 (hy b hb)
theorem mergeF_filter (t : Int) : ∀ (high low : List Fd),Rises low → (mergeF low high).filter (fun x => x.tag == t) = low.filter (fun x => x.tag == t) ++ high.filter (fun x => x.tag == t)
 | [],low,h1 => by simp [mergeF]
 | y :: hs,low,h1 => by
  have hd : Rises (low.drop (upN low y.tag)) := h1.sublist (List.drop_sublist _ _);have ih := mergeF_filter t hs _ hd;rw [mergeF,List.filter_append,List.filter_cons,ih]
  have hl : low.filter (fun x => x.tag == t) = (low.take (upN low y.tag)).filter (fun x => x.tag == t) ++ (low.drop (upN low y.tag)).filter (fun x => x.tag == t) := by rw [← List.filter_append,List.take_append_drop]
  rw [hl,List.filter_cons]
  by_cases hy : y.tag = t
  ·have he : (low.drop (upN low y.tag)).filter (fun x => x.tag == t) = [] := by
    rw [List.filter_eq_nil_iff];intro x hx;have := drop_upN h1 x hx
    simp; omega
   rw [he]
   simp [hy]
  ·simp [hy]
theorem rises_short : ∀ {l : List Fd},risesB l = false → 2 ≤ l.length
 | [],h => by simp [risesB] at h
 | [_],h => by simp [risesB] at h
 | _ :: _ :: _,_ => by simp
def sortFF : Nat → List Fd → List Fd
 | 0,l => l
 | f + 1,l => if risesB l = true then l else mergeF (sortFF f (l.take (l.length / 2))) (sortFF f (l.drop (l.length / 2)))
def sortF (l : List Fd) : List Fd := sortFF l.length l
theorem sortFF_fuel (f : Nat) : ∀ (g : Nat) (l : List Fd),l.length ≤ f → l.length ≤ g → sortFF f l = sortFF g l := by
 induction f with
 | zero =>
  intro g l h1 _;obtain rfl : l = [] := List.eq_nil_of_length_eq_zero (by omega)
  cases g <;> rfl
 | succ f ih =>
  intro g l h1 h2
  cases g with
  | zero =>
   obtain rfl : l = [] := List.eq_nil_of_length_eq_zero (by omega)
   rfl
  | succ g =>
   simp only [sortFF]
   cases hr : risesB l with
   | true => rfl
   | false =>
    have h3 := rises_short hr;rw [if_neg (by simp),if_neg (by simp),ih g (l.take (l.length / 2)) (by rw [List.length_take]; omega) (by rw [List.length_take]; omega),ih g (l.drop (l.length / 2)) (by rw [List.length_drop]; omega) (by rw [List.length_drop]; omega)]
theorem sortF_id {l : List Fd} (h : risesB l = true) : sortF l = l := by
 unfold sortF
 cases e : l.length with
 | zero => rfl
 | succ f => simp only [sortFF]; rw [if_pos h]
theorem sortF_on {l : List Fd} (h : risesB l = false) : sortF l = mergeF (sortF (l.take (l.length / 2))) (sortF (l.drop (l.length / 2))) := by
 have h3 := rises_short h;unfold sortF
 cases e : l.length with
 | zero => omega
 | succ f =>
  simp only [sortFF];rw [if_neg (by simp [h]),e,sortFF_fuel f (l.take ((f + 1) / 2)).length _ (by rw [List.length_take]; omega) (Nat.le_refl _),sortFF_fuel f (l.drop ((f + 1) / 2)).length _ (by rw [List.length_drop]; omega) (Nat.le_refl _)]
theorem sortF_all : ∀ (k : Nat) (l : List Fd),l.length ≤ k → Rises (sortF l) ∧ (sortF l).length = l.length ∧ (∀ x ∈ sortF l,x ∈ l) ∧ ∀ t : Int,(sortF l).filter (fun x => x.tag == t) = l.filter (fun x => x.tag == t)
 | 0,l,h => by
  obtain rfl : l = [] := List.eq_nil_of_length_eq_zero (by omega);rw [sortF_id rfl];exact ⟨by simp [Rises],rfl,fun _ h => h,fun _ => rfl⟩
 | k + 1,l,h => by
  cases hr : risesB l with
  | true => rw [sortF_id hr]; exact ⟨(rises_iff l).1 hr,rfl,fun _ h => h,fun _ => rfl⟩
  | false =>
   have h2 := rises_short hr;obtain ⟨a1,a2,a3,a4⟩ := sortF_all k (l.take (l.length / 2)) (by rw [List.length_take]; omega);obtain ⟨b1,b2,b3,b4⟩ := sortF_all k (l.drop (l.length / 2)) (by rw [List.length_drop]; omega);rw [sortF_on hr];refine ⟨mergeF_rises _ _ a1 b1,?_,?_,?_⟩
   ·rw [mergeF_len,a2,b2,List.length_take,List.length_drop]; omega
   ·intro x hx
    rcases mergeF_mem _ _ x hx with h | h
    ·exact List.mem_of_mem_take (a3 x h)
    ·exact List.mem_of_mem_drop (b3 x h)
   ·intro t;rw [mergeF_filter t _ _ a1,a4,b4,← List.filter_append,List.take_append_drop]
theorem rises_steps : ∀ {l : List Fd},(∀ j x y,l[j]? = some x → l[j + 1]? = some y → x.tag ≤ y.tag) → risesB l = true
 | [],_ => rfl
 | [_],_ => rfl
 | x :: y :: l,h => by
  rw [risesB,Bool.and_eq_true,decide_eq_true_eq];exact ⟨h 0 x y rfl rfl,rises_steps fun j a b ha hb => h (j + 1) a b (by simpa using ha) (by simpa using hb)⟩
theorem rises_break : ∀ {l : List Fd} (j : Nat) (x y : Fd),l[j]? = some x → l[j + 1]? = some y → y.tag < x.tag → risesB l = false
 | [],j,x,y,hx,_,_ => by simp at hx
 | [a],j,x,y,hx,hy,_ => by simp at hy
 | a :: b :: l,0,x,y,hx,hy,h => by
  obtain rfl : a = x := by simpa using hx
  obtain rfl : b = y := by simpa using hy
  rw [risesB,Bool.and_eq_false_iff]
  left; simp; omega
 | a :: b :: l,j + 1,x,y,hx,hy,h => by
  rw [risesB,Bool.and_eq_false_iff]
  right
  exact rises_break j x y (by simpa using hx) (by simpa using hy) h
structure Tr where
 kind : Int
 n : Int
 s : ByteArray
 es : List (Int × List Tr)
 rest : List Fd
def tr0 : Tr := ⟨0,0,⟨#[]⟩,[],[]⟩
def subs (es : List (Int × List Tr)) : List Tr := es.flatMap (·.2)
theorem mem_subs {es : List (Int × List Tr)} {x : Tr} : x ∈ subs es ↔ ∃ e ∈ es,x ∈ e.2 := by simp [subs,List.mem_flatMap]
def cntN : Nat → Tr → Nat
 | 0,_ => 0
 | n + 1,t => 1 + ((subs t.es).map (cntN n)).sum
def SmN : Nat → Tr → Prop
 | 0,_ => False
 | n + 1,t => t.s.size ≤ 5000 ∧ t.rest.length ≤ 5000 ∧ t.es.length ≤ 500 ∧ (∀ f ∈ t.rest,f.b.size ≤ 5000) ∧ ∀ e ∈ t.es,e.2.length ≤ 70 ∧ ∀ x ∈ e.2,SmN n x
def dpN : Nat → Tr → Nat
 | 0,_ => 0
 | n + 1,t => if t.kind = 3 then 1 + ((subs t.es).map (dpN n)).foldr max 0 else 0
def entsB : Int → List (Int × List Tr) → Bool
 | _,[] => true
 | last,e :: l => decide (last < e.1) && decide (e.1 ≤ 500) && decide (1 ≤ e.2.length) && decide (e.2.length ≤ 64) && (e.2.all fun x => x.kind == (e.2.head?.map Tr.kind).getD 0) && entsB e.1 l
def hasB (es : List (Int × List Tr)) (tag : Int) : Bool := es.any fun e => e.1 == tag
def restB (rest : List Fd) (es : List (Int × List Tr)) : Bool := (rest.all fun f => okF f && !hasB es f.tag) && risesB rest
def lvB (t : Tr) : Bool :=
 if t.kind = 1 then t.s.size == 0 && t.es.isEmpty && t.rest.isEmpty
 else if t.kind = 2 then t.n == 0 && t.es.isEmpty && t.rest.isEmpty
 else if t.kind = 3 then t.n == 0 && t.s.size == 0 && entsB 0 t.es && restB t.rest t.es
 else false
def okN : Nat → Tr → Bool
 | 0,_ => true
 | n + 1,t => lvB t && (if t.kind = 3 then (subs t.es).all (okN n) else true)
def chkN (n : Nat) (t : Tr) : Bool := decide (dpN n t ≤ 10) && okN n t
theorem le_foldr_max {l : List Nat} {x : Nat} (h : x ∈ l) : x ≤ l.foldr max 0 := by
 induction l with
 | nil => cases h
 | cons a l ih =>
  rcases List.mem_cons.1 h with rfl | h
  ·simp only [List.foldr_cons]; exact Nat.le_max_left _ _
  ·simp only [List.foldr_cons]; exact Nat.le_trans (ih h) (Nat.le_max_right _ _)
theorem foldr_max_le {l : List Nat} {b : Nat} (h : ∀ x ∈ l,x ≤ b) : l.foldr max 0 ≤ b := by
 induction l with
 | nil => simp
 | cons a l ih => simp only [List.foldr_cons]; exact Nat.max_le.2 ⟨h a (List.mem_cons_self ..),ih fun x hx => h x (List.mem_cons_of_mem _ hx)⟩
theorem dpN_le : ∀ (n : Nat) (t : Tr),dpN n t ≤ n
 | 0,_ => Nat.le_refl _
 | n + 1,t => by
  simp only [dpN]
  split
  ·have : ((subs t.es).map (dpN n)).foldr max 0 ≤ n := foldr_max_le fun x hx => by
    obtain ⟨y,_,rfl⟩ := List.mem_map.1 hx;exact dpN_le n y
   omega
  ·exact Nat.zero_le _
theorem SmN.one {n : Nat} {t : Tr} (h : SmN n t) : 1 ≤ cntN n t := by
 cases n with
 | zero => exact h.elim
 | succ n => simp [cntN]
theorem len_le_sum {α : Type} {f : α → Nat} {l : List α} (h : ∀ x ∈ l,1 ≤ f x) : l.length ≤ (l.map f).sum := by
 induction l with
 | nil => simp
 | cons a l ih =>
  have h1 := h a (List.mem_cons_self ..);have h2 := ih fun x hx => h x (List.mem_cons_of_mem _ hx)
  simp only [List.length_cons,List.map_cons,List.sum_cons]; omega
end
section
open Go.ChangeShapes Go.WideShapes Go.ChangeAt Go.RowKit
theorem own_below {w w1 : World} {base : Nat} {e : TypeId} {s : Nat} {v : Value} {n : Nat} {xs : List Value} (h : w.ownsRow base e s v n xs) (hb : Below w.heap.size w w1) : w1.ownsRow base e s v n xs := by
 refine ⟨h.1,?_⟩
 rcases h.2 with h | ⟨g,cap,cur,h1,h2,h3,h4⟩
 ·exact .inl h
 ·exact .inr ⟨g,cap,cur,h1,h2,(hb.block g (Array.getElem?_eq_some_iff.1 h3).1).trans h3,h4⟩
theorem own_belowH {w w1 : World} {base : Nat} {e : TypeId} {s : Nat} {v : Value} {n : Nat} {xs : List Value} (h : Hid (w.ownsRow base e s v n xs)) (hb : Below w.heap.size w w1) : Hid (w1.ownsRow base e s v n xs) := own_below h.out hb
theorem below_drewN {B : Nat} {w wr : World} (n : Nat) (h : Below B w wr) : Below B w (wr.drewN n) := h.trans ⟨rfl,rfl,rfl,Nat.le_refl _,fun _ _ => rfl⟩
structure RowG (w : World) (v : Value) (size : Nat) (rs : List (List Value)) : Prop where
 form : ∃ a cap,v = .slice a rs.length cap ∧ rs.length ≤ cap ∧ cap ≤ maxLen ∧ (a = none → cap = 0) ∧ (rs ≠ [] → ∃ g off,a = some ⟨g,off,none⟩ ∧ ∀ i c u j,rs[i]? = some c → c[j]? = some u → w.cell? ⟨g,off + i * size + j,none⟩ = some u)
theorem RowG.below {w w1 : World} {v : Value} {size : Nat} {rs : List (List Value)} (h : RowG w v size rs) (hb : Below w.heap.size w w1) : RowG w1 v size rs := by
 obtain ⟨a,cap,h1,h2,h3,h0,h4⟩ := h.form;refine ⟨a,cap,h1,h2,h3,h0,fun hne => ?_⟩;obtain ⟨g,off,h5,h6⟩ := h4 hne;refine ⟨g,off,h5,fun i c u j hc hu => ?_⟩;have := h6 i c u j hc hu;rw [hb.cell (World.block_lt_of_cell? _ _ this)];exact this
theorem RowG.nil (w : World) (size : Nat) : RowG w (.slice none 0 0) size [] := ⟨none,0,rfl,Nat.le_refl _,by decide,fun _ => rfl,fun h => absurd rfl h⟩
theorem RowG.open {w : World} {v : Value} {size : Nat} {rs : List (List Value)} (h : RowG w v size rs) : ∃ a cap,v = .slice a rs.length cap ∧ rs.length ≤ cap ∧ cap ≤ maxLen ∧ (rs ≠ [] → ∃ g off,a = some ⟨g,off,none⟩) ∧ ∀ g off,a = some ⟨g,off,none⟩ → ∀ i c,rs[i]? = some c → ∀ j u,c[j]? = some u → w.cell? ⟨g,off + i * size + j,none⟩ = some u := by
 obtain ⟨a,cap,h1,h2,h3,_,h4⟩ := h.form;refine ⟨a,cap,h1,h2,h3,fun hne => ?_,?_⟩
 ·obtain ⟨g,off,h5,_⟩ := h4 hne;exact ⟨g,off,h5⟩
 ·intro g off ha i c hc j u hu
  have hne : rs ≠ [] := by intro e; rw [e] at hc; simp at hc
  obtain ⟨g',off',h5,h6⟩ := h4 hne;rw [ha] at h5
  simp at h5
  obtain ⟨rfl,rfl⟩ := h5;exact h6 i c u j hc hu
theorem flat_get {size : Nat} : ∀ (rs : List (List Value)),(∀ r ∈ rs,r.length = size) → ∀ (i : Nat) (c : List Value),rs[i]? = some c → ∀ j u,c[j]? = some u → rs.flatten[i * size + j]? = some u
 | [],_,i,c,h,_,_,_ => by simp at h
 | x :: l,hl,0,c,h,j,u,hu => by
  obtain rfl : x = c := by simpa using h
  rw [List.flatten_cons,Nat.zero_mul,Nat.zero_add,List.getElem?_append_left (List.getElem?_eq_some_iff.1 hu).1];exact hu
 | x :: l,hl,i + 1,c,h,j,u,hu => by
  have := flat_get l (fun r hr => hl r (List.mem_cons_of_mem _ hr)) i c (by simpa using h) j u hu;have hx := hl x (List.mem_cons_self ..);rw [List.flatten_cons,List.getElem?_append_right (by rw [hx,Nat.add_mul]; omega)]
  have e : (i + 1) * size + j - x.length = i * size + j := by rw [hx,Nat.add_mul]; omega
  rw [e];exact this
theorem flat_len {size : Nat} : ∀ (rs : List (List Value)),(∀ r ∈ rs,r.length = size) → rs.flatten.length = rs.length * size
 | [],_ => by simp
 | x :: l,hl => by
  rw [List.flatten_cons,List.length_append,flat_len l (fun r hr => hl r (List.mem_cons_of_mem _ hr)),hl x (List.mem_cons_self ..),List.length_cons,Nat.add_mul]; omega
theorem RowG.own {w : World} {B e size : Nat} {v : Value} {n : Nat} {rs : List (List Value)} (hl : ∀ r ∈ rs,r.length = size) (hs : 0 < size) (h : w.ownsRow B e size v n rs.flatten) : RowG w v size rs ∧ n = rs.length := by
 have hn : n = rs.length := by
  have := h.1;rw [flat_len rs hl] at this;exact (Nat.eq_of_mul_eq_mul_right hs this).symm
 have h0 := h;subst hn;refine ⟨?_,rfl⟩
 rcases h.2 with ⟨rfl,h2⟩ | ⟨g,cap,cur,rfl,hb,hg,hc,hm,_⟩
 ·have : rs = [] := List.eq_nil_of_length_eq_zero h2;subst this;exact RowG.nil w size
 ·refine ⟨_,cap,rfl,hc,hm,(fun e => by cases e),fun _ => ⟨g,0,rfl,fun i c u j hc hu => ?_⟩⟩;have := h0.cells (g := g) rfl (i * size + j) u (flat_get rs hl i c hc j u hu);rw [Addr.add_lit,Nat.zero_add] at this;rw [Nat.zero_add];exact this
theorem RowG.get {w : World} {a : Option Addr} {N cap size : Nat} {rs : List (List Value)} (h : RowG w (.slice a N cap) size rs) {i : Nat} {c : List Value} (hi : rs[i]? = some c) : ∃ g off,a = some ⟨g,off,none⟩ ∧ ∀ j u,c[j]? = some u → w.cell? ⟨g,off + i * size + j,none⟩ = some u := by
 obtain ⟨a',cap',e1,e2,e3,e4,e5⟩ := h.open;simp only [Value.slice.injEq] at e1;obtain ⟨rfl,_,_⟩ := e1;obtain ⟨g,off,rfl⟩ := e4 (by intro e; rw [e] at hi; simp at hi);exact ⟨g,off,rfl,fun j u hu => e5 g off rfl i c hi j u hu⟩
theorem RowG.form2 {w : World} {v : Value} {size : Nat} {rs : List (List Value)} (h : RowG w v size rs) : ∃ a cap,v = .slice a rs.length cap ∧ rs.length ≤ cap ∧ cap ≤ 9223372036854775807 := by
 obtain ⟨a',cap',e1,e2,e3,_⟩ := h.open;exact ⟨a',cap',e1,e2,by unfold maxLen at e3; omega⟩
def fdRows (l : List Fd) : List (List Value) := l.map Fd.cells
theorem fdr_len (l : List Fd) : ∀ r ∈ fdRows l,r.length = 4 := fun r hr => by simp only [fdRows,List.mem_map] at hr; obtain ⟨_,_,rfl⟩ := hr; rfl
def RowP {α : Type} (P : List Value → α → Prop) (w : World) (size : Nat) (v : Value) (xs : List α) : Prop :=
 ∃ rows : List (List Value),RowG w v size rows ∧ rows.length = xs.length ∧ ∀ (i : Nat) (x : α),xs[i]? = some x → ∃ r,rows[i]? = some r ∧ P r x
def EnC (P : List Value → Tr → Prop) (w : World) (r : List Value) (e : Int × List Tr) : Prop := ∃ vt,r = [.int .i64 e.1,vt] ∧ Is64 e.1 ∧ RowP P w 5 vt e.2
def TrC : Nat → World → List Value → Tr → Prop
 | 0,_,_,_ => False
 | n + 1,w,r,t => ∃ ve vr,r = [.int .i64 t.kind,.int .i64 t.n,.string t.s,ve,vr] ∧ Is64 t.kind ∧ Is64 t.n ∧ t.s.size ≤ 140737488351232 ∧ (∀ f ∈ t.rest,Is64 f.tag ∧ Is64 f.wire ∧ Is64 f.n ∧ f.b.size ≤ 140737488351232) ∧ RowG w vr 4 (fdRows t.rest) ∧ RowP (EnC (TrC n w) w) w 2 ve t.es
abbrev TrsIn (n : Nat) (w : World) (v : Value) (ts : List Tr) : Prop := RowP (TrC n w) w 5 v ts
abbrev EnsIn (n : Nat) (w : World) (v : Value) (es : List (Int × List Tr)) : Prop := RowP (EnC (TrC n w) w) w 2 v es
def TrIn (n : Nat) (w : World) (v : Value) (t : Tr) : Prop := ∃ r,v = .agg r.toArray ∧ TrC n w r t
theorem RowP.mono {α : Type} {P Q : List Value → α → Prop} {w w1 : World} {size : Nat} {v : Value} {xs : List α} (h : RowP P w size v xs) (hb : Below w.heap.size w w1) (hp : ∀ r x,x ∈ xs → P r x → Q r x) : RowP Q w1 size v xs := by
 obtain ⟨rows,h1,h2,h3⟩ := h;refine ⟨rows,h1.below hb,h2,fun i x hx => ?_⟩;obtain ⟨r,g1,g2⟩ := h3 i x hx;exact ⟨r,g1,hp r x (List.mem_of_getElem? hx) g2⟩
theorem RowP.imp {α : Type} {P Q : List Value → α → Prop} {w : World} {size : Nat} {v : Value} {xs : List α} (h : RowP P w size v xs) (hp : ∀ r x,x ∈ xs → P r x → Q r x) : RowP Q w size v xs := h.mono (Below.refl _ _) hp
theorem TrC.below : ∀ {n : Nat} {w w1 : World} {r : List Value} {t : Tr},TrC n w r t → Below w.heap.size w w1 → TrC n w1 r t
 | 0,_,_,_,_,h,_ => h
 | n + 1,w,w1,r,t,h,hb => by
  obtain ⟨ve,vr,h1,h2,h3,h4,h5,h6,h7⟩ := h;refine ⟨ve,vr,h1,h2,h3,h4,h5,h6.below hb,h7.mono hb fun r x hx hp => ?_⟩;obtain ⟨vt,g1,g2,g3⟩ := hp;exact ⟨vt,g1,g2,g3.mono hb fun r x hx hp => hp.below hb⟩
theorem RowP.belowT {n : Nat} {w w1 : World} {v : Value} {ts : List Tr} (h : TrsIn n w v ts) (hb : Below w.heap.size w w1) : TrsIn n w1 v ts := RowP.mono h hb fun _ _ _ hp => hp.below hb
theorem RowP.belowE {n : Nat} {w w1 : World} {v : Value} {es : List (Int × List Tr)} (h : EnsIn n w v es) (hb : Below w.heap.size w w1) : EnsIn n w1 v es :=
 RowP.mono h hb fun _ _ _ hp => by
  obtain ⟨vt,g1,g2,g3⟩ := hp;exact ⟨vt,g1,g2,g3.belowT hb⟩
theorem TrIn.below {n : Nat} {w w1 : World} {v : Value} {t : Tr} (h : TrIn n w v t) (hb : Below w.heap.size w w1) : TrIn n w1 v t := by
 obtain ⟨r,h1,h2⟩ := h;exact ⟨r,h1,h2.below hb⟩
theorem RowP.open {α : Type} {P : List Value → α → Prop} {w : World} {size : Nat} {v : Value} {xs : List α} (h : RowP P w size v xs) : ∃ a cap,v = .slice a xs.length cap ∧ xs.length ≤ cap ∧ cap ≤ maxLen ∧ (xs = [] ∨ ∃ g off,a = some ⟨g,off,none⟩) ∧ (a = none → cap = 0) ∧
  ∀ g off,a = some ⟨g,off,none⟩ → ∀ (i : Nat) (x : α),xs[i]? = some x → ∃ r,P r x ∧ ∀ j u,r[j]? = some u → w.cell? ⟨g,off + i * size + j,none⟩ = some u := by
 obtain ⟨rows,h1,h2,h3⟩ := h;obtain ⟨a,cap,e1,e2,e3,e0,e4⟩ := h1.form;obtain ⟨_,_,e1',_,_,_,e5⟩ := h1.open;rw [e1] at e1';simp only [Value.slice.injEq] at e1';obtain ⟨rfl,_,rfl⟩ := e1';rw [h2] at e1 e2;refine ⟨a,cap,e1,e2,e3,?_,e0,fun g off ha i x hx => ?_⟩
 ·cases xs with
  | nil => exact .inl rfl
  | cons y l =>
   obtain ⟨g,off,q,_⟩ := e4 (by intro e; rw [e] at h2; simp at h2);exact .inr ⟨g,off,q⟩
 ·obtain ⟨r,g1,g2⟩ := h3 i x hx;exact ⟨r,g2,e5 g off ha i r g1⟩
theorem RowP.get {α : Type} {P : List Value → α → Prop} {w : World} {size : Nat} {a : Option Addr} {N cap : Nat} {xs : List α} (h : RowP P w size (.slice a N cap) xs) {i : Nat} {x : α} (hi : xs[i]? = some x) :
  ∃ g off,a = some ⟨g,off,none⟩ ∧ ∃ r,P r x ∧ ∀ j u,r[j]? = some u → w.cell? ⟨g,off + i * size + j,none⟩ = some u := by
 obtain ⟨a',cap',e1,e2,e3,e4,e5,e6⟩ := h.open;simp only [Value.slice.injEq] at e1;obtain ⟨rfl,_,_⟩ := e1
 rcases e4 with rfl | ⟨g,off,rfl⟩
 ·simp at hi
 ·exact ⟨g,off,rfl,e6 g off rfl i x hi⟩
theorem trs_at {n : Nat} {w : World} {g off : Nat} {i : Nat} {t : Tr} (h : ∃ r,TrC (n + 1) w r t ∧ ∀ j u,r[j]? = some u → w.cell? ⟨g,off + i * 5 + j,none⟩ = some u) :
  ∃ ve vr,w.cell? ⟨g,off + i * 5,none⟩ = some (.int .i64 t.kind) ∧ w.cell? ⟨g,off + i * 5 + 1,none⟩ = some (.int .i64 t.n) ∧ w.cell? ⟨g,off + i * 5 + 2,none⟩ = some (.string t.s) ∧ w.cell? ⟨g,off + i * 5 + 3,none⟩ = some ve ∧ w.cell? ⟨g,off + i * 5 + 4,none⟩ = some vr ∧
   TrIn (n + 1) w (.agg #[.int .i64 t.kind,.int .i64 t.n,.string t.s,ve,vr]) t ∧ EnsIn n w ve t.es ∧ RowG w vr 4 (fdRows t.rest) := by
 obtain ⟨r,h0,hc⟩ := h;obtain ⟨ve,vr,rfl,h2,h3,h4,h5,h6,h7⟩ := h0;exact ⟨ve,vr,hc 0 _ rfl,hc 1 _ rfl,hc 2 _ rfl,hc 3 _ rfl,hc 4 _ rfl,⟨_,rfl,ve,vr,rfl,h2,h3,h4,h5,h6,h7⟩,h7,h6⟩
theorem trs_get {n : Nat} {w : World} {g off : Nat} {i : Nat} {t : Tr} (h : ∃ r,TrC n w r t ∧ ∀ j u,r[j]? = some u → w.cell? ⟨g,off + i * 5 + j,none⟩ = some u) :
  ∃ a1 n1 c1 a2 n2 c2,w.cell? ⟨g,off + i * 5,none⟩ = some (.int .i64 t.kind) ∧ w.cell? ⟨g,off + i * 5 + 1,none⟩ = some (.int .i64 t.n) ∧ w.cell? ⟨g,off + i * 5 + 2,none⟩ = some (.string t.s) ∧ w.cell? ⟨g,off + i * 5 + 3,none⟩ = some (.slice a1 n1 c1) ∧ w.cell? ⟨g,off + i * 5 + 4,none⟩ = some (.slice a2 n2 c2) ∧
   TrIn n w (.agg #[.int .i64 t.kind,.int .i64 t.n,.string t.s,.slice a1 n1 c1,.slice a2 n2 c2]) t := by
 cases n with
 | zero => obtain ⟨r,h,_⟩ := h; exact h.elim
 | succ n =>
  obtain ⟨ve,vr,h0,h1,h2,h3,h4,h5,h6,h7⟩ := trs_at h;obtain ⟨a1,c1,rfl,_⟩ := h6.open;obtain ⟨a2,c2,rfl,_⟩ := h7.form2;exact ⟨_,_,_,_,_,_,h0,h1,h2,h3,h4,h5⟩
theorem ens_at {n : Nat} {w : World} {g off : Nat} {i : Nat} {e : Int × List Tr} (h : ∃ r,EnC (TrC n w) w r e ∧ ∀ j u,r[j]? = some u → w.cell? ⟨g,off + i * 2 + j,none⟩ = some u) :
  ∃ vt,w.cell? ⟨g,off + i * 2,none⟩ = some (.int .i64 e.1) ∧ w.cell? ⟨g,off + i * 2 + 1,none⟩ = some vt ∧ Is64 e.1 ∧ TrsIn n w vt e.2 := by
 obtain ⟨r,⟨vt,rfl,h2,h3⟩,hc⟩ := h;exact ⟨vt,hc 0 _ rfl,hc 1 _ rfl,h2,h3⟩
theorem TrIn.open {n : Nat} {w : World} {v : Value} {t : Tr} (h : TrIn n w v t) : ∃ m ve vr,n = m + 1 ∧ v = .agg #[.int .i64 t.kind,.int .i64 t.n,.string t.s,ve,vr] ∧ Is64 t.kind ∧ Is64 t.n ∧ t.s.size ≤ 140737488351232 ∧ (∀ f ∈ t.rest,Is64 f.tag ∧ Is64 f.wire ∧ Is64 f.n ∧ f.b.size ≤ 140737488351232) ∧ RowG w vr 4 (fdRows t.rest) ∧ EnsIn m w ve t.es := by
 obtain ⟨r,rfl,h⟩ := h
 cases n with
 | zero => exact h.elim
 | succ m =>
  obtain ⟨ve,vr,rfl,h2,h3,h4,h5,h6,h7⟩ := h;exact ⟨m,ve,vr,rfl,rfl,h2,h3,h4,h5,h6,h7⟩
theorem rest_holds {w : World} {v : Value} {l : List Fd} (h : RowG w v 4 (fdRows l)) : ∃ a cap,v = .slice a l.length cap ∧ l.length ≤ cap ∧ cap ≤ maxLen ∧ (l = [] ∨ ∃ g off,a = some ⟨g,off,none⟩) ∧ (a = none → cap = 0) ∧
  ∀ g off,a = some ⟨g,off,none⟩ → ∀ (i : Nat) (f : Fd),l[i]? = some f → w.cell? ⟨g,off + i * 4,none⟩ = some (.int .i64 f.tag) ∧ w.cell? ⟨g,off + i * 4 + 1,none⟩ = some (.int .i64 f.wire) ∧ w.cell? ⟨g,off + i * 4 + 2,none⟩ = some (.int .i64 f.n) ∧ w.cell? ⟨g,off + i * 4 + 3,none⟩ = some (.string f.b) := by
 obtain ⟨a,cap,e1,e2,e3,e4,e5,e6⟩ := RowP.open (P := fun r (f : Fd) => r = f.cells) (xs := l) ⟨fdRows l,h,by simp [fdRows],fun i x hx => ⟨x.cells,by simp [fdRows,hx],rfl⟩⟩;refine ⟨a,cap,e1,e2,e3,e4,e5,fun g off ha i f hf => ?_⟩;obtain ⟨r,rfl,hc⟩ := e6 g off ha i f hf;exact ⟨hc 0 _ rfl,hc 1 _ rfl,hc 2 _ rfl,hc 3 _ rfl⟩
structure Kp (S : Nat → Prop) (w w' : World) : Prop where
 os : w'.os = w.os
 tape : w'.tape = w.tape
 output : w'.output = w.output
 size : w.heap.size ≤ w'.heap.size
 block : ∀ k,k < w.heap.size → ¬ S k → w'.heap[k]? = w.heap[k]?
theorem Kp.refl (S : Nat → Prop) (w : World) : Kp S w w := ⟨rfl,rfl,rfl,Nat.le_refl _,fun _ _ _ => rfl⟩
theorem Kp.trans {S : Nat → Prop} {a b c : World} (h : Kp S a b) (k : Kp S b c) : Kp S a c :=
 ⟨k.os.trans h.os,k.tape.trans h.tape,k.output.trans h.output,Nat.le_trans h.size k.size,fun i hi hs => (k.block i (Nat.lt_of_lt_of_le hi h.size) hs).trans (h.block i hi hs)⟩
theorem Kp.trans2 {S S' : Nat → Prop} {a b c : World} (h : Kp S a b) (k : Kp S' b c) (hs : ∀ i,i < a.heap.size → S' i → S i) : Kp S a c :=
 ⟨k.os.trans h.os,k.tape.trans h.tape,k.output.trans h.output,Nat.le_trans h.size k.size,fun i hi hn => (k.block i (Nat.lt_of_lt_of_le hi h.size) (fun e => hn (hs i hi e))).trans (h.block i hi hn)⟩
theorem Kp.weak {S S' : Nat → Prop} {a b : World} (h : Kp S a b) (hs : ∀ i,i < a.heap.size → S i → S' i) : Kp S' a b :=
 ⟨h.os,h.tape,h.output,h.size,fun i hi hn => h.block i hi (fun e => hn (hs i hi e))⟩
theorem Kp.ofBelow {S : Nat → Prop} {w w' : World} (h : Below w.heap.size w w') : Kp S w w' := ⟨h.os,h.tape,h.output,h.size,fun k hk _ => h.block k hk⟩
theorem Kp.toBelow {S : Nat → Prop} {w w' : World} {B : Nat} (h : Kp S w w') (hB : B ≤ w.heap.size) (hs : ∀ k,S k → B ≤ k) : Below B w w' :=
 ⟨h.os,h.tape,h.output,h.size,fun k hk => h.block k (by omega) (fun e => by have := hs k e; omega)⟩
theorem Kp.alloc {S : Nat → Prop} {a w : World} (h : Kp S a w) (o : Obj) : Kp S a (w.alloc o) :=
 h.trans ⟨rfl,rfl,rfl,by simp,fun k hk _ => Below.heap_alloc _ _ _ hk⟩
theorem Kp.setCell {S : Nat → Prop} {a w : World} (h : Kp S a w) {p : Addr} (hp : p.block < a.heap.size → S p.block) (u : Value) : Kp S a (w.setCell p u) :=
 ⟨h.os,h.tape,h.output,by simp [World.setCell]; exact h.size,fun k hk hs => (Below.heap_setCell _ _ _ _ (fun e => hs (by subst e; exact hp hk))).trans (h.block k hk hs)⟩
theorem Kp.grown {S : Nat → Prop} {a w w' : World} {row : Option Nat} (h : Kp S a w) (hg : w.grownBy w' row) (hr : ∀ k,row = some k → k < a.heap.size → S k) : Kp S a w' :=
 ⟨hg.os.trans h.os,hg.tape.trans h.tape,hg.output.trans h.output,Nat.le_trans h.size hg.size,fun k hk hs => (hg.block k (Nat.lt_of_lt_of_le hk h.size) (fun e => hs (hr k e.symm hk))).trans (h.block k hk hs)⟩
theorem Kp.drewN {S : Nat → Prop} {a w : World} (n : Nat) (h : Kp S a w) : Kp S a (w.drewN n) := ⟨h.os,h.tape,h.output,h.size,h.block⟩
theorem Kp.below {S : Nat → Prop} {a w w' : World} (h : Kp S a w) (hb : Below w.heap.size w w') : Kp S a w' := h.trans (Kp.ofBelow hb)
theorem Kp.cell {S : Nat → Prop} {w w' : World} (h : Kp S w w') {p : Addr} {u : Value} (hc : w.cell? p = some u) (hs : ¬ S p.block) : w'.cell? p = some u :=
 (World.cell?_of_block (w := w) (h.block p.block (World.block_lt_of_cell? _ _ hc) hs)).trans hc
theorem own_kp {S : Nat → Prop} {w w1 : World} {base : Nat} {e : TypeId} {s : Nat} {v : Value} {n : Nat} {xs : List Value} (h : w.ownsRow base e s v n xs) (hb : Kp S w w1) (hs : ∀ k,base ≤ k → ¬ S k) : w1.ownsRow base e s v n xs := by
 refine ⟨h.1,?_⟩
 rcases h.2 with h | ⟨g,cap,cur,h1,h2,h3,h4⟩
 ·exact .inl h
 ·exact .inr ⟨g,cap,cur,h1,h2,(hb.block g (Array.getElem?_eq_some_iff.1 h3).1 (hs g h2)).trans h3,h4⟩
theorem own_base {w : World} {base base' : Nat} {e : TypeId} {s : Nat} {v : Value} {n : Nat} {xs : List Value} (h : w.ownsRow base e s v n xs) (hb : base' ≤ base) : w.ownsRow base' e s v n xs := by
 refine ⟨h.1,?_⟩
 rcases h.2 with h | ⟨g,cap,cur,h1,h2,h3⟩
 ·exact .inl h
 ·exact .inr ⟨g,cap,cur,h1,by omega,h3⟩
theorem own_kpV {S : Nat → Prop} {w w1 : World} {base : Nat} {e : TypeId} {s : Nat} {v : Value} {n : Nat} {xs : List Value} (h : w.ownsRow base e s v n xs) (hb : Kp S w w1) (hs : ∀ k,v.ownBlock = some k → ¬ S k) : w1.ownsRow base e s v n xs := by
 refine ⟨h.1,?_⟩
 rcases h.2 with h | ⟨g,cap,cur,h1,h2,h3,h4⟩
 ·exact .inl h
 ·refine .inr ⟨g,cap,cur,h1,h2,(hb.block g (Array.getElem?_eq_some_iff.1 h3).1 (hs g ?_)).trans h3,h4⟩;rw [h1]; rfl
theorem block_set {w : World} {g : Nat} {cur : Array Value} {e : TypeId} {fz : Nat × Nat} (h : w.heap[g]? = some (.cells cur e fz)) (i : Nat) (u : Value) : (w.setCell ⟨g,i,none⟩ u).heap[g]? = some (.cells (cur.setIfInBounds i u) e fz) := by
 simp [World.setCell,Array.getElem?_modify,h]
theorem block_cell {w : World} {g : Nat} {cur : Array Value} {e : TypeId} {fz : Nat × Nat} (h : w.heap[g]? = some (.cells cur e fz)) (i : Nat) : w.cell? ⟨g,i,none⟩ = cur[i]? := by
 simp [World.cell?,h]
theorem block_froz {w : World} {g : Nat} {cur : Array Value} {e : TypeId} (h : w.heap[g]? = some (.cells cur e (0,0))) (i : Nat) : w.frozen? ⟨g,i,none⟩ = false := by
 simp [World.frozen?,h]
theorem own_form {w : World} {B : Nat} {e : TypeId} {s : Nat} {v : Value} {n : Nat} {xs : List Value} (h : w.ownsRow B e s v n xs) : ∃ a c,v = .slice a n c := by
 rcases h.2 with ⟨rfl,rfl⟩ | ⟨q,cap,cur,rfl,_⟩
 ·exact ⟨none,0,rfl⟩
 ·exact ⟨_,_,rfl⟩
def Blk (w : World) (b : Nat) (cs : Array Value) (t : TypeId) : Prop := w.heap[b]? = some (.cells cs t (0,0))
theorem Blk.new (w : World) (cs : Array Value) (t : TypeId) : Blk (w.alloc (.cells cs t)) w.heap.size cs t := heap_alloc_new w _
theorem Blk.kp {S : Nat → Prop} {w w' : World} {b : Nat} {cs : Array Value} {t : TypeId} (h : Blk w b cs t) (hk : Kp S w w') (hs : ¬ S b) : Blk w' b cs t := (hk.block b (Array.getElem?_eq_some_iff.1 h).1 hs).trans h
theorem Blk.lt {w : World} {b : Nat} {cs : Array Value} {t : TypeId} (h : Blk w b cs t) : b < w.heap.size := (Array.getElem?_eq_some_iff.1 h).1
theorem Blk.below {w w' : World} {b : Nat} {cs : Array Value} {t : TypeId} (h : Blk w b cs t) (hb : Below w.heap.size w w') : Blk w' b cs t := (hb.block b h.lt).trans h
theorem Blk.set {w : World} {b : Nat} {cs cs' : Array Value} {t : TypeId} (h : Blk w b cs t) (i : Nat) (u : Value) (hc : cs.setIfInBounds i u = cs') : Blk (w.setCell ⟨b,i,none⟩ u) b cs' t := by subst hc; exact block_set h i u
theorem Blk.cell {w : World} {b : Nat} {cs : Array Value} {t : TypeId} (h : Blk w b cs t) (i : Nat) : w.cell? ⟨b,i,none⟩ = cs[i]? := block_cell h i
theorem Blk.froz {w : World} {b : Nat} {cs : Array Value} {t : TypeId} (h : Blk w b cs t) (i : Nat) : w.frozen? ⟨b,i,none⟩ = false := block_froz h i
theorem results_cell {fn : Func} {p : Tmp} {ty : TypeId} (h : fn.results = #[.cell p ty]) (tmps : Array Value) (P : Program) (w : World) (a : Addr) (x : Value) (ha : (asAddr (tmps.getD p undef)).run P w = .ok a w) (hl : (loadVar ty a).run P w = .ok x w) :
  (results fn tmps).run P w = .ok x w := by
 simp only [results,h];simp only [Array.getD_eq_getD_getElem?] at ha
 simp [Sem.run_bind,Result.andThen,ha,hl]
theorem results_two {fn : Func} {p u : Tmp} {ty : TypeId} (h : fn.results = #[.cell p ty,.tmp u]) (tmps : Array Value) (P : Program) (w : World) (a : Addr) (x : Value) (ha : (asAddr (tmps.getD p undef)).run P w = .ok a w) (hl : (loadVar ty a).run P w = .ok x w) :
  (results fn tmps).run P w = .ok (.tuple #[x,tmps.getD u undef]) w := by
 simp only [results,h];simp only [Array.getD_eq_getD_getElem?] at ha
 simp [Sem.run_bind,Result.andThen,ha,hl]
theorem toList_ext {a b : ByteArray} (h : a.toList = b.toList) : a = b := by
 rw [ByteArray.toList_eq,ByteArray.toList_eq] at h;obtain ⟨⟨l⟩⟩ := a;obtain ⟨⟨m⟩⟩ := b
 simp at h
 rw [h]
theorem fd_neq (t1 t2 t3 s1 s2 s3 : Int) (t4 s4 : ByteArray) (h : Fd.mk t1 t2 t3 t4 ≠ Fd.mk s1 s2 s3 s4) (W : World) :
  (binOp .neq 44 (.agg #[.int .i64 t1,.int .i64 t2,.int .i64 t3,.string t4]) (.agg #[.int .i64 s1,.int .i64 s2,.int .i64 s3,.string s4])).run Tryz.prog W = .ok (.bool true) W := by
 by_cases h1 : t1 = s1
 ·by_cases h2 : t2 = s2
  ·by_cases h3 : t3 = s3
   ·by_cases h4 : t4.toList = s4.toList
    ·exact absurd (by rw [h1,h2,h3,toList_ext h4]) h
    ·subst h1 h2 h3
     simp [go_sem,h4]
   ·subst h1 h2
    simp [go_sem,h3]
  ·subst h1
   simp [go_sem,h2]
 ·simp [go_sem,h1]
end
section
open Go.RowKit
structure Kept (B : Nat) (w0 : World) where
 w : World
 below : Below B w0 w
theorem wp_region_qb {P : Program} {id : Nat} {Q : Exit → Act → World → Prop} {a : Act} {w : World} {l : List Oper} {B : Nat} {w0 : World} (h0 : Below B w0 w) (hm : P.follows .mixedOrders = true) (hB : Region.lexB .any l.toArray = true)
  (h : wpQuiet P l.toArray (fun w' => ∃ x : Kept B w0,w' = x.w) (fun a' => ∀ w',(∃ x : Kept B w0,w' = x.w) → Q .normal a' w') l a) : (Code.region id l.toArray true).wp P Q a w :=
 wp_region_quiet (C := fun w' => ∃ x : Kept B w0,w' = x.w) hm hB ⟨⟨_,h0.drew⟩,rfl⟩ (by simpa using h)
theorem nonempty_qb {B : Nat} {w0 w : World} (h0 : Below B w0 w) : Nonempty (Kept B w0) := ⟨⟨w,h0⟩⟩
theorem qb_call {P : Program} {f : FuncId} {args : Array Value} {B : Nat} {w0 : World} {x : Kept B w0} {v : Value}
  (h : ∀ W,Below B w0 W → Calls P f args W fun e W' => e = .returned v ∧ Below B w0 W') : Calls P f args x.w fun e w'' => e = .returned v ∧ ∃ y : Kept B w0,w'' = y.w :=
 (h _ x.below).mono fun _ W' h => ⟨h.1,⟨⟨W',h.2⟩,rfl⟩⟩
end
end Go.Proofs.YtiajaocckkghgabGreat
