/- Part 8 of what the proof stands on. -/
import Derived.Test.YtdkolhfpfimeoabPkHAG
import Derived.SizedLaws
import Derived.Deep.Slices
import Derived.Deep.Strs
import Derived.Lib.SmallJoins
import Derived.Laws.MathBits
import Derived.ArgAppend
import Derived.Laws.AppendOwn
import Derived.Laws.BytesArg
import Derived.Lib.AppendStr
namespace Go.Proofs.Ytdkolhfpfimeoab
set_option maxHeartbeats 8000000
set_option linter.unusedVariables false
set_option linter.unusedSimpArgs false
set_option maxRecDepth 20000
section
open Go.ChangeShapes Go.WideShapes Go.ChangeAt Go.RowKit
theorem own_at {w : World} {B e size q n cap : Nat} {rs : List (List Value)} (hl : ∀ r ∈ rs,r.length = size) (h : w.ownsRow B e size (.slice (some ⟨q,0,none⟩) n cap) n rs.flatten) {i : Nat} {c : List Value} (hc : rs[i]? = some c) {j : Nat} {u : Value} (hu : c[j]? = some u) : w.cell? ⟨q,i * size + j,none⟩ = some u := by
 have := h.cells (g := q) rfl (i * size + j) u (flat_get rs hl i c hc j u hu);rw [Addr.add_lit,Nat.zero_add] at this;exact this
theorem own_froz {w : World} {B e size q n cap : Nat} {xs : List Value} (h : w.ownsRow B e size (.slice (some ⟨q,0,none⟩) n cap) n xs) (i : Nat) : w.frozen? ⟨q,i,none⟩ = false := by
 rcases h.2 with ⟨h,_⟩ | ⟨q',cap',cur,h1,h2,h3,_⟩
 ·cases h
 ·simp only [Value.slice.injEq,Option.some.injEq,Addr.mk.injEq] at h1;obtain ⟨⟨rfl,_⟩,_⟩ := h1;exact block_froz h3 i
theorem own_addr {w : World} {B e size n : Nat} {v : Value} {xs : List Value} (h : w.ownsRow B e size v n xs) (hn : 0 < n) : ∃ q cap,v = .slice (some ⟨q,0,none⟩) n cap ∧ n ≤ cap ∧ cap ≤ maxLen ∧ B ≤ q ∧ q < w.heap.size := by
 rcases h.2 with ⟨_,h⟩ | ⟨q',cap',cur,h1,h2,h3,h4,h5,_⟩
 ·omega
 ·exact ⟨q',cap',h1,h4,h5,h2,(Array.getElem?_eq_some_iff.1 h3).1⟩
theorem own_set {w : World} {B e size q n cap : Nat} {xs : List Value} (h : w.ownsRow B e size (.slice (some ⟨q,0,none⟩) n cap) n xs) {j : Nat} (u : Value) : (w.setCell ⟨q,j,none⟩ u).ownsRow B e size (.slice (some ⟨q,0,none⟩) n cap) n (xs.set j u) := by
 refine ⟨by rw [List.length_set]; exact h.1,?_⟩
 rcases h.2 with ⟨h,_⟩ | ⟨q',cap',cur,h1,h2,h3,h4,h5,h6,h7⟩
 ·cases h
 ·simp only [Value.slice.injEq,Option.some.injEq,Addr.mk.injEq] at h1;obtain ⟨⟨rfl,_⟩,_,rfl⟩ := h1;refine .inr ⟨q,cap,cur.setIfInBounds j u,rfl,h2,block_set h3 j u,h4,h5,by simpa using h6,?_⟩;rw [Array.toList_setIfInBounds,List.take_set,h7]
theorem own_type {w : World} {B : Nat} {e : TypeId} {sz : Nat} {v : Value} {n : Nat} {xs : List Value} {k : Nat} {cs : Array Value} {t : TypeId} (h : w.ownsRow B e sz v n xs) (hk : v.ownBlock = some k) (hb : Blk w k cs t) : e = t := by
 rcases h.2 with ⟨rfl,_⟩ | ⟨q,cap,cur,rfl,_,hq,_⟩
 ·cases hk
 ·simp only [Value.ownBlock,Option.some.injEq] at hk;subst hk;unfold Blk at hb;rw [hq] at hb;simp only [Option.some.injEq,Obj.cells.injEq] at hb;exact hb.2.1
theorem own_blk {w w1 : World} {B : Nat} {e : TypeId} {sz n b : Nat} {v : Value} {xs : List Value} {cs : Array Value} {t : TypeId} (h : w.ownsRow B e sz v n xs) (hb : Blk w b cs t) (ht : e ≠ t) (hk : Kp (fun k => k = b) w w1) : w1.ownsRow B e sz v n xs :=
 own_kpV h hk (fun k hv e' => by subst e'; exact ht (own_type h hv hb))
section
variable {H : Type} {enc : TypeId × Value → H} {W : World} {base : Nat} {spare : Nat → Bool} {held : Bool}
end
end
section
theorem msgOf_mem {s : ScS} (hs : OkS s) {m : MsS} (hm : m ∈ s.msgs) : msgOf s m.name = some m := by
 unfold msgOf;have hn : (s.msgs.map MsS.name).Nodup := hs.names;generalize s.msgs = l at hm hn
 induction l with
 | nil => cases hm
 | cons a l ih =>
  simp only [List.map_cons,List.nodup_cons] at hn
  rcases List.mem_cons.1 hm with rfl | hm
  ·simp
  ·have : a.name ≠ m.name := fun e => hn.1 (by rw [e]; exact List.mem_map.2 ⟨m,hm,rfl⟩)
   rw [List.find?_cons_of_neg (by simpa using this)];exact ih hm hn.2
def eMs : MsS := ⟨⟨#[109]⟩,[⟨⟨#[120]⟩,1,1,6,⟨#[101]⟩⟩],[]⟩
def eS (vs : List NmS) : ScS := ⟨⟨#[97]⟩,[eMs],[⟨⟨#[101]⟩,vs⟩],[⟨⟨#[99]⟩,⟨#[109]⟩,⟨#[109]⟩⟩]⟩
def eZ (turn : Bool) : NmS := ⟨if turn = true then ⟨#[110,111,117,103,104,116]⟩ else ⟨#[122,101,114,111]⟩,0⟩
def eV (n : Nat) : NmS := ⟨⟨#[118,(48 + n).toUInt8]⟩,(n : Int)⟩
def eVs (turn : Bool) (p : Nat → Bool) : List NmS := eZ turn :: ((List.range' 1 9).filter p).map eV
theorem eVs_congr {turn : Bool} {p q : Nat → Bool} (h : ∀ n,1 ≤ n → n < 10 → p n = q n) : eVs turn p = eVs turn q := by
 unfold eVs
 congr 2
 refine List.filter_congr fun n hn => ?_
 simp only [List.mem_range'_1] at hn;exact h n hn.1 (by omega)
theorem enum_chk : ∀ b,b < 512 → ∀ turn : Bool,checkA (eS (eVs turn fun n => b.testBit (n - 1))) = 0 := by decide +kernel
theorem mask_of (p : Nat → Bool) : ∃ b,b < 512 ∧ ∀ n,1 ≤ n → n < 10 → p n = b.testBit (n - 1) := by
 have key : ∀ c1 c2 c3 c4 c5 c6 c7 c8 c9 : Bool,∃ b,b < 512 ∧ b.testBit 0 = c1 ∧ b.testBit 1 = c2 ∧ b.testBit 2 = c3 ∧ b.testBit 3 = c4 ∧ b.testBit 4 = c5 ∧ b.testBit 5 = c6 ∧ b.testBit 6 = c7 ∧ b.testBit 7 = c8 ∧ b.testBit 8 = c9 := by
  intro c1 c2 c3 c4 c5 c6 c7 c8 c9;refine ⟨c1.toNat + 2 * c2.toNat + 4 * c3.toNat + 8 * c4.toNat + 16 * c5.toNat + 32 * c6.toNat + 64 * c7.toNat + 128 * c8.toNat + 256 * c9.toNat,?_⟩
  revert c1 c2 c3 c4 c5 c6 c7 c8 c9
  decide +kernel
 obtain ⟨b,h0,h1,h2,h3,h4,h5,h6,h7,h8,h9⟩ := key (p 1) (p 2) (p 3) (p 4) (p 5) (p 6) (p 7) (p 8) (p 9);refine ⟨b,h0,fun n g1 g2 => ?_⟩
 have hn : n = 1 ∨ n = 2 ∨ n = 3 ∨ n = 4 ∨ n = 5 ∨ n = 6 ∨ n = 7 ∨ n = 8 ∨ n = 9 := by omega
 rcases hn with rfl | rfl | rfl | rfl | rfl | rfl | rfl | rfl | rfl
 ·exact h1.symm
 ·exact h2.symm
 ·exact h3.symm
 ·exact h4.symm
 ·exact h5.symm
 ·exact h6.symm
 ·exact h7.symm
 ·exact h8.symm
 ·exact h9.symm
theorem enum_ok (turn : Bool) (p : Nat → Bool) : OkS (eS (eVs turn p)) := by
 obtain ⟨b,h0,h1⟩ := mask_of p;rw [eVs_congr h1];exact (checkA_ok _).1 (enum_chk b h0 turn)
theorem evol_enum {x y : List NmS} (hx : OkS (eS x)) (hy : OkS (eS y)) : evolA (eS x) (eS y) = if (x.all fun v => inVs v y) = true then (⟨#[]⟩,0,true) else (⟨#[109]⟩,1,false) := by
 have hmx : msG (eS x) ⟨#[109]⟩ = eMs := by unfold msG; rw [show (⟨#[109]⟩ : ByteArray) = eMs.name from rfl,msgOf_mem hx (by simp [eS])]; rfl
 have hmy : msG (eS y) ⟨#[109]⟩ = eMs := by unfold msG; rw [show (⟨#[109]⟩ : ByteArray) = eMs.name from rfl,msgOf_mem hy (by simp [eS])]; rfl
 have hex : ∀ z : List NmS,enmOf (eS z) ⟨#[101]⟩ = some ⟨⟨#[101]⟩,z⟩ := fun z => by simp [enmOf,eS]
 have hfit : fitsY (eS x) (eS y) 6 ⟨#[101]⟩ 6 ⟨#[101]⟩ = x.all fun v => inVs v y := by
  unfold fitsY;rw [if_neg (by omega),if_neg (by simp),if_neg (by simp),hex,hex]
  simp
 have hmt : ∀ m ∈ (eS x).methods,∃ k,mtOf (eS y) m.name = some k ∧ m.inn = k.inn ∧ m.out = k.out := fun m hm => by
  simp only [eS,List.mem_singleton] at hm;subst hm;exact ⟨⟨⟨#[99]⟩,⟨#[109]⟩,⟨#[109]⟩⟩,by simp [mtOf,eS],rfl,rfl⟩
 have hmt2 : mtOf (eS y) ⟨#[99]⟩ = some ⟨⟨#[99]⟩,⟨#[109]⟩,⟨#[109]⟩⟩ := by simp [mtOf,eS]
 have hfl : ∀ tag : Int,fldOf eMs.fields tag = if tag = 1 then some ⟨⟨#[120]⟩,1,1,6,⟨#[101]⟩⟩ else none := fun tag => by
  unfold fldOf eMs
  by_cases h : tag = 1
  ·subst h; simp
  ·rw [if_neg h,List.find?_cons_of_neg (by simp; omega)]; rfl
 by_cases h : (x.all fun v => inVs v y) = true
 ·rw [if_pos h];refine evol_of (R := fun p => p.1 = ⟨#[109]⟩ ∧ p.2 = ⟨#[109]⟩) hx hy ⟨fun m hm => ?_,fun p hp tag g1 g2 => ?_⟩
  ·simp only [eS,List.mem_singleton] at hm;subst hm;exact ⟨_,hmt2,⟨rfl,rfl⟩,rfl,rfl⟩
  ·obtain ⟨A,B⟩ := p;obtain ⟨rfl,rfl⟩ := hp;refine okAt_iff.2 ⟨(fun e => by simp only [hmx] at e; cases e),fun e f hf hn => ?_⟩;simp only [hmx,hfl] at hf
   by_cases ht : tag = 1
   ·rw [if_pos ht] at hf;obtain rfl := Option.some.inj hf;exact ⟨⟨⟨#[120]⟩,1,1,6,⟨#[101]⟩⟩,by simp only [hmy,hfl]; rw [if_pos ht],rfl,by rw [hfit]; exact h,fun h7 => by simp at h7⟩
   ·rw [if_neg ht] at hf; cases hf
 ·rw [if_neg h]
  have h1 := evol_bad (s := eS x) (t := eS y) (R := fun p => p = (⟨#[109]⟩,⟨#[109]⟩)) (p0 := (⟨#[109]⟩,⟨#[109]⟩)) (tag0 := 1) hx hy (fun m hm => by
   simp only [eS,List.mem_singleton] at hm;subst hm
   exact ⟨_,hmt2,rfl,rfl⟩) (fun p hp hne => absurd hp hne) (fun tag g1 g2 => by omega) (by
   simp only [hmx,hmy];unfold atE;rw [if_neg (by simp [eMs]),hfl,if_pos rfl];simp only;rw [if_neg (by simp [eMs])]
   rw [if_neg (fun hc => h (by rw [← hfit]; exact hc.2))]) (by omega) (by omega) ⟨⟨⟨#[99]⟩,⟨#[109]⟩,⟨#[109]⟩⟩,⟨⟨#[99]⟩,⟨#[109]⟩,⟨#[109]⟩⟩,by simp [eS],hmt2,rfl⟩
  exact h1
theorem eV_inj : ∀ i,i < 10 → ∀ j,j < 10 → ((eV i).name = (eV j).name ∧ (eV i).n = (eV j).n ↔ i = j) := fun i hi j hj => by
 constructor
 ·rintro ⟨-,h⟩;have h' : (i : Int) = (j : Int) := h
  omega
 ·rintro rfl;exact ⟨rfl,rfl⟩
theorem enum_all (turn : Bool) (p q : Nat → Bool) : ((eVs false p).all fun v => inVs v (eVs turn q)) = (!turn && (List.range' 1 9).all fun n => !p n || q n) := by
 unfold eVs;rw [List.all_cons]
 have h0 : inVs (eZ false) (eZ turn :: ((List.range' 1 9).filter q).map eV) = !turn := by
  unfold inVs;rw [List.any_cons]
  have h1 : (((List.range' 1 9).filter q).map eV).any (fun x => decide ((eZ false).name = x.name ∧ (eZ false).n = x.n)) = false := by
   rw [List.any_eq_false];intro x hx;obtain ⟨n,hn,rfl⟩ := List.mem_map.1 hx;have hn1 := (List.mem_filter.1 hn).1;simp only [List.mem_range'_1] at hn1
   have hne : ¬ (0 : Int) = (n : Int) := by omega
   rw [decide_eq_true_eq];exact fun e => hne e.2
  rw [h1,Bool.or_false]
  cases turn <;> decide +kernel
 rw [h0]
 congr 1
 rw [Bool.eq_iff_iff];simp only [List.all_eq_true,Bool.or_eq_true,Bool.not_eq_true']
 constructor
 ·intro h n hn
  cases hp : p n with
  | false => exact .inl rfl
  | true =>
   refine .inr ?_;have h1 := h (eV n) (List.mem_map.2 ⟨n,List.mem_filter.2 ⟨hn,hp⟩,rfl⟩);simp only [List.mem_range'_1] at hn;unfold inVs at h1;rw [List.any_eq_true] at h1;obtain ⟨x,hx,he⟩ := h1;simp only [decide_eq_true_eq] at he
   rcases List.mem_cons.1 hx with rfl | hx
   ·have := he.2
    simp [eZ,eV] at this
    omega
   ·obtain ⟨k,hk,rfl⟩ := List.mem_map.1 hx;obtain ⟨hk1,hk2⟩ := List.mem_filter.1 hk;simp only [List.mem_range'_1] at hk1;have := (eV_inj n (by omega) k (by omega)).1 he;rw [this]; exact hk2
 ·intro h v hv;obtain ⟨n,hn,rfl⟩ := List.mem_map.1 hv;obtain ⟨hn1,hn2⟩ := List.mem_filter.1 hn
  rcases h n hn1 with h1 | h1
  ·rw [hn2] at h1; cases h1
  ·exact inVs_of (List.mem_cons_of_mem _ (List.mem_map.2 ⟨n,List.mem_filter.2 ⟨hn1,h1⟩,rfl⟩))
end
section
open Go.ChangeShapes Go.WideShapes Go.ChangeAt Go.RowKit
theorem run_joinF {w : World} (t ty e : TypeId) (size bytes : Nat) (z : Value) (ht : Try.prog.underlying t = some (.slice e)) (hinfo : (Try.prog.info? e).map (fun i => (i.zero,i.size,i.bytes)) = some (some z,size,bytes)) (hzs : z.cells.size = size) (hsz : 0 < size)
  (base : Nat) (v : Value) (n : Nat) (xs : List Value) (hown : w.ownsRow base e size v n xs)
  (xv : Value) (rs : List (List Value)) (hr : RowG w xv size rs) (hl : ∀ r ∈ rs,r.length = size) (h1 : ∀ u ∈ rs.flatten,u.oneCell' = true) (hb : n + rs.length ≤ 1000000) (hby : bytes ≤ 1000) (hbase : base ≤ w.heap.size) :
  ∃ v' w',(Builtin.append_ #[t,t] ty #[v,xv]).run Try.prog w = .ok v' w' ∧ w'.ownsRow base e size v' (n + rs.length) (xs ++ rs.flatten) ∧ w.grownBy w' v.ownBlock ∧ (v'.ownBlock = v.ownBlock ∨ v'.ownBlock = some w.heap.size) := by
 obtain ⟨i0,hi,hz0,hz1,hz2⟩ := info_parts hinfo;obtain ⟨ao,cap,rfl,q1,q2,q0,q3⟩ := hr.form
 cases ao with
 | none =>
  have hrs : rs = [] := by
   cases rs with
   | nil => rfl
   | cons r l => obtain ⟨g,off,e,_⟩ := q3 (by simp); cases e
  subst hrs;have := q0 rfl;subst this;have hrun := run_append_owned_none (P := Try.prog) (w := w) base t ty e i0 size ht hi v n xs hown;refine ⟨v,w,hrun,?_,⟨rfl,rfl,rfl,Nat.le_refl _,fun _ _ _ => rfl⟩,.inl rfl⟩;rw [List.flatten_nil,List.append_nil];exact hown
 | some ad =>
  obtain ⟨v',w',g0,g1,g2,_,g3⟩ := run_append_own_at w base t ty e i0 z size bytes ht hi hz0 hz1 hz2 hzs hsz v _ _ hown ad rs.length cap rs.flatten (by rw [flat_len rs hl]) (fun j u hu => by
   obtain ⟨i,c,k,e1,e2,rfl⟩ := flat_inv rs hl j u hu;obtain ⟨g,off,e3,e4⟩ := q3 (by intro e; rw [e] at e1; simp at e1)
   cases e3
   have := e4 i c u k e1 e2;rw [Nat.add_assoc] at this;rw [Addr.add_lit]
   exact this) h1 (by unfold maxLen; omega) (Nat.le_trans (Nat.mul_le_mul hb hby) (by decide)) hbase
  exact ⟨v',w',g0,g1,g2,g3⟩
theorem set_bel {w D : World} {g i : Nat} {u : Value} (h : Below w.heap.size w D) (hg : w.heap.size ≤ g) : Below w.heap.size w (D.setCell ⟨g,i,none⟩ u) := by
 have hk : Kp (fun q => q = g) D (D.setCell ⟨g,i,none⟩ u) := by
  refine Kp.setCell ?_ (fun _ => by simp) _;exact Kp.refl _ _
 exact h.trans (hk.toBelow h.size fun q e => by rw [e]; exact hg)
theorem info_parts {e : Nat} {z : Value} {s b : Nat} (h : (Try.prog.info? e).map (fun i => (i.zero,i.size,i.bytes)) = some (some z,s,b)) :
  ∃ i,Try.prog.info? e = some i ∧ i.zero = some z ∧ i.size = s ∧ i.bytes = b := by
 cases hi : Try.prog.info? e with
 | none => rw [hi] at h; simp at h
 | some i => rw [hi] at h; simp at h; exact ⟨i,rfl,h.1,h.2.1,h.2.2⟩
def IsRow (k : IntKind) (w : World) (a : Option Addr) (len cap : Nat) (zs : List Int) : Prop :=
 (a = none ∧ len = 0 ∧ cap = 0 ∧ zs = []) ∨
 ∃ x,a = some x ∧ len ≤ cap ∧ cap ≤ maxLen ∧ zs.length = cap ∧ (∀ i,i < zs.length → w.cell? (x.add i) = some (.int k (zs.getD i 0))) ∧ ∀ n ∈ zs,(Lit.int k n).wf = true
theorem IsRow.rowG {w : World} {a : Option Addr} {len cap : Nat} {zs : List Int} (h : IsRow .i64 w a len cap zs) : RowG w (.slice a len cap) 1 (inRows (zs.take len)) ∧ (zs.take len).length = len := by
 rcases h with ⟨rfl,rfl,rfl,rfl⟩ | ⟨x,rfl,hl,hm,hz,hc,hw⟩
 ·exact ⟨RowG.nil _ _,rfl⟩
 ·have hlen : (zs.take len).length = len := by rw [List.length_take]; omega
  refine ⟨⟨some x,cap,by rw [show (inRows (zs.take len)).length = len by rw [inRows,List.length_map,hlen]],by rw [show (inRows (zs.take len)).length = len by rw [inRows,List.length_map,hlen]]; exact hl,hm,(fun e => by cases e),fun hne => ?_⟩,hlen⟩
  have hp : 0 < len := by
   cases len with
   | zero => exact absurd (by simp [inRows]) hne
   | succ n => omega
  obtain ⟨b,off,rfl,hcell⟩ := ints_at hc (by omega);refine ⟨b,off,rfl,fun i c u j hi hu => ?_⟩;simp only [inRows,List.getElem?_map,Option.map_eq_some_iff] at hi;obtain ⟨n,hn,rfl⟩ := hi
  obtain ⟨hj,rfl⟩ : j = 0 ∧ Value.int .i64 n = u := by
   cases j with
   | zero => simpa using hu
   | succ j => simp at hu
  subst hj
  have hi' : i < len := by
   have := (List.getElem?_eq_some_iff.1 hn).1
   omega
  rw [Nat.mul_one,Nat.add_zero,hcell i (by omega)];rw [List.getElem?_take_of_lt hi'] at hn
  simp [List.getD_eq_getElem?_getD,hn]
theorem IsRow.i64 {w : World} {a : Option Addr} {len cap : Nat} {zs : List Int} (h : IsRow .i64 w a len cap zs) : ∀ n ∈ zs.take len,Is64 n := fun n hn => by
 rcases h with ⟨rfl,rfl,rfl,rfl⟩ | ⟨x,rfl,hl,hm,hz,hc,hw⟩
 ·simp at hn
 ·have h1 := bounds_i64 (hw n (List.mem_of_mem_take hn));unfold Is64; omega
def placeI (v n : Int) : Int := if v.tmod n < 0 then v.tmod n + n else v.tmod n
theorem placeI_in (v n : Int) (hn : 1 ≤ n) : 0 ≤ placeI v n ∧ placeI v n < n := by
 have t1 := Int.tmod_lt_of_pos v (b := n) (by omega);have t2 := Int.lt_tmod_of_pos v (b := n) (by omega);unfold placeI; split <;> omega
theorem place_is (v n : Int) (hv1 : -9223372036854775808 ≤ v) (hv2 : v ≤ 9223372036854775807) (hn1 : 1 ≤ n) (hn2 : n ≤ 4611686018427387904) (w : World) :
  Calls Try.prog 6 #[.int .i64 v,.int .i64 n] w fun e w' => e = .returned (.int .i64 (placeI v n)) ∧ w' = w := by
 have t1 := Int.tmod_lt_of_pos v (b := n) (by omega);have t2 := Int.lt_tmod_of_pos v (b := n) (by omega)
 have hz : (n == 0) = false := by rw [beq_eq_false_iff_ne]; omega
 by_cases h : v.tmod n < 0
 ·have HP : Hid (v.tmod n + n = placeI v n) := by show _ = _; unfold placeI; rw [if_pos h]
  go_enter Try.func6,Try.ntmps6
  go_wp2_with fail;go_ret;exact ⟨by rw [← HP.out]; rfl,rfl⟩
 ·have HP : Hid (v.tmod n = placeI v n) := by show _ = _; unfold placeI; rw [if_neg h]
  go_enter Try.func6,Try.ntmps6
  go_wp2_with fail;go_ret;exact ⟨by rw [← HP.out]; rfl,rfl⟩
end
section
open Go.ChangeShapes Go.WideShapes Go.ChangeAt Go.RowKit Go.Maps
def hitE (n : Nat) (x : Int) : Bool := decide (1 + placeI x 9 = (n : Int))
def inE (zs : List Int) (n : Nat) : Bool := (zs.take 30).any (hitE n)
def eUp (p : Nat → Bool) (n : Nat) : List NmS := eZ false :: ((List.range' 1 (n - 1)).filter p).map eV
theorem eUp_all (p : Nat → Bool) : eUp p 10 = eVs false p := rfl
theorem eUp_step (p : Nat → Bool) {n : Nat} (h : 1 ≤ n) : eUp p (n + 1) = if p n = true then eUp p n ++ [eV n] else eUp p n := by
 unfold eUp;rw [show n + 1 - 1 = (n - 1) + 1 by omega,List.range'_concat,List.filter_append,List.map_append];rw [show 1 + 1 * (n - 1) = n by omega]
 cases hp : p n <;> simp [hp]
theorem eUp_len (p : Nat → Bool) (n : Nat) : (eUp p n).length ≤ n + 1 := by
 unfold eUp;rw [List.length_cons,List.length_map];have := List.length_filter_le p (List.range' 1 (n - 1));rw [List.length_range'] at this
 omega
theorem digit_of : ∀ n,n < 10 → (⟨#[118]⟩ : ByteArray) ++ (⟨#[48,49,50,51,52,53,54,55,56,57]⟩ : ByteArray).extract n (n + 1) = (eV n).name := by decide +kernel
theorem take_anyE {zs : List Int} {i : Nat} {x : Int} (h : zs[i]? = some x) (f : Int → Bool) : (zs.take (i + 1)).any f = ((zs.take i).any f || f x) := by
 rw [List.take_add_one,h,Option.toList_some,List.any_append]
 simp
theorem infoNmE : (Try.prog.info? 27).map (fun i => (i.zero,i.size,i.bytes)) = some (some (.agg #[.string ⟨#[]⟩,.int .i64 0]),2,24) := by kernel_rfl
theorem eV_W (n : Nat) (h : n < 10) : NmW (eV n) := ⟨by show ByteArray.size ⟨#[118,(48 + n).toUInt8]⟩ ≤ _; exact Nat.le_trans (Nat.le_refl 2) (by decide),by show -9223372036854775808 ≤ (n : Int); omega,by show (n : Int) ≤ 9223372036854775807; omega⟩
theorem en1_any {w : World} {la : Option Addr} {LL lc : Nat} {ys : List Int} (hR : RowG w (.slice la LL lc) 1 (inRows ys)) (hl : ys.length = LL) (h64 : ∀ n ∈ ys,Is64 n) :
  Calls Try.prog 5 #[.slice la LL lc] w fun e w' => ∃ a c,e = .returned (.agg #[.string ⟨#[101]⟩,.slice a (eVs false (inE ys)).length c]) ∧ w'.ownsRow w.heap.size 27 2 (.slice a (eVs false (inE ys)).length c) (eVs false (inE ys)).length (nmRows (eVs false (inE ys))).flatten ∧ Below w.heap.size w w' := by
 have HR : Hid (RowG w (.slice la LL lc) 1 (inRows ys)) := hR;have HL : Hid (ys.length = LL) := hl;have H64 : Hid (∀ n ∈ ys,Is64 n) := h64
 have hLm : LL ≤ 9223372036854775807 := by
  obtain ⟨a,cap,e,q1,q2, -, -⟩ := hR.form;simp only [Value.slice.injEq] at e;unfold maxLen at q2
  omega
 clear hR hl h64;obtain ⟨P,hP⟩ : ∃ z,inE ys = z := ⟨_,rfl⟩;have HP : Hid (inE ys = P) := hP;rw [hP];clear hP
 have HBB : Hid (Below w.heap.size w (((w.alloc (Obj.cells #[.string ⟨#[]⟩,.slice none 0 0] 25)).alloc (Obj.cells #[.string ⟨#[122,101,114,111]⟩,.int .i64 0] 27)).alloc (Obj.cells #[.string ⟨#[101]⟩,.slice (some ⟨w.heap.size + 1,0,none⟩) 1 1] 25)) ∧ Blk (((w.alloc (Obj.cells #[.string ⟨#[]⟩,.slice none 0 0] 25)).alloc (Obj.cells #[.string ⟨#[122,101,114,111]⟩,.int .i64 0] 27)).alloc (Obj.cells #[.string ⟨#[101]⟩,.slice (some ⟨w.heap.size + 1,0,none⟩) 1 1] 25)) w.heap.size #[.string ⟨#[]⟩,.slice none 0 0] 25 ∧ Blk (((w.alloc (Obj.cells #[.string ⟨#[]⟩,.slice none 0 0] 25)).alloc (Obj.cells #[.string ⟨#[122,101,114,111]⟩,.int .i64 0] 27)).alloc (Obj.cells #[.string ⟨#[101]⟩,.slice (some ⟨w.heap.size + 1,0,none⟩) 1 1] 25)) (w.heap.size + 1) #[.string ⟨#[122,101,114,111]⟩,.int .i64 0] 27 ∧ Blk (((w.alloc (Obj.cells #[.string ⟨#[]⟩,.slice none 0 0] 25)).alloc (Obj.cells #[.string ⟨#[122,101,114,111]⟩,.int .i64 0] 27)).alloc (Obj.cells #[.string ⟨#[101]⟩,.slice (some ⟨w.heap.size + 1,0,none⟩) 1 1] 25)) (w.heap.size + 1 + 1) #[.string ⟨#[101]⟩,.slice (some ⟨w.heap.size + 1,0,none⟩) 1 1] 25) := (by
  have h1 := alls_below [(#[.string ⟨#[]⟩,.slice none 0 0],25),(#[.string ⟨#[122,101,114,111]⟩,.int .i64 0],27),(#[.string ⟨#[101]⟩,.slice (some ⟨w.heap.size + 1,0,none⟩) 1 1],25)] w;have h2 := alls_blk [(#[.string ⟨#[]⟩,.slice none 0 0],25),(#[.string ⟨#[122,101,114,111]⟩,.int .i64 0],27),(#[.string ⟨#[101]⟩,.slice (some ⟨w.heap.size + 1,0,none⟩) 1 1],25)] w
  exact ⟨h1.1,h2 0 _ rfl,h2 1 _ rfl,h2 2 _ rfl⟩ : _ ∧ _)
 go_enter Try.func5,Try.ntmps5
 go_upto_region 2 with fail
 generalize (((w.alloc (Obj.cells #[.string ⟨#[]⟩,.slice none 0 0] 25)).alloc (Obj.cells #[.string ⟨#[122,101,114,111]⟩,.int .i64 0] 27)).alloc (Obj.cells #[.string ⟨#[101]⟩,.slice (some ⟨w.heap.size + 1,0,none⟩) 1 1] 25)) = WA at *;obtain ⟨b0,hb0⟩ : ∃ z,w.heap.size = z := ⟨_,rfl⟩;have HBZ : Hid (w.heap.size = b0) := hb0;rw [hb0] at HBB
 try simp only [hb0]
 have HI0 : Hid (∃ a K c,(Blk WA b0 #[.string ⟨#[]⟩,.slice none 0 0] 25 ∧ Blk WA (b0 + 2) #[.string ⟨#[101]⟩,.slice a K c] 25 ∧ WA.ownsRow b0 27 2 (.slice a K c) K (nmRows (eUp P 1)).flatten ∧ (eUp P 1).length = K ∧ Below w.heap.size w WA)) := ⟨some ⟨b0 + 1,0,none⟩,1,1,HBB.out.2.1,HBB.out.2.2.2,⟨rfl,.inr ⟨b0 + 1,1,_,rfl,by omega,HBB.out.2.2.1,Nat.le_refl _,by decide,rfl,rfl⟩⟩,rfl,(by have h1 := HBB.out.1; rw [hb0]; exact h1)⟩;clear hb0 HBB;go_wp2_with fail
 go_loopw [4] (fun nv wr => ∃ n : Nat,nv = .int .i64 (n : Int) ∧ 1 ≤ n ∧ n ≤ 10 ∧ Hid (∃ a K c,(Blk wr b0 #[.string ⟨#[]⟩,.slice none 0 0] 25 ∧ Blk wr (b0 + 2) #[.string ⟨#[101]⟩,.slice a K c] 25 ∧ wr.ownsRow b0 27 2 (.slice a K c) K (nmRows (eUp P n)).flatten ∧ (eUp P n).length = K ∧ Below w.heap.size w wr))) (fun nv _ => 11 - (intOf nv).toNat)
 case atStart => exact ⟨1,rfl,by omega,by omega,HI0⟩
 case round =>
  clear HI0;obtain ⟨n,rfl,hn1,hn2,HI⟩ := hrel;obtain ⟨a,K,c,hr0,he0,hrow,hK,hbel⟩ := HI.out;have HV : Hid (Blk wr b0 #[.string ⟨#[]⟩,.slice none 0 0] 25 ∧ Blk wr (b0 + 2) #[.string ⟨#[101]⟩,.slice a K c] 25 ∧ wr.ownsRow b0 27 2 (.slice a K c) K (nmRows (eUp P n)).flatten ∧ (eUp P n).length = K ∧ Below w.heap.size w wr) := ⟨hr0,he0,hrow,hK,hbel⟩;clear HI
  by_cases hlt : n < 10
  rotate_left
  ·obtain rfl : n = 10 := by omega
   have hl2 := he0.lt;have q0 := (he0.cell 0).trans rfl;have q1 := (he0.cell 1).trans rfl;have y0 := (hr0.cell 0).trans rfl;have y1 := (hr0.cell 1).trans rfl;have z0 := hr0.froz 0;have z1 := hr0.froz 1;have hl0 := hr0.lt
   have KS : Kp (fun q => q = b0) wr ((wr.setCell ⟨b0,0,none⟩ (.string ⟨#[101]⟩)).setCell ⟨b0,1,none⟩ (.slice a K c)) := by
    refine Kp.setCell ?_ (fun _ => by simp) _;refine Kp.setCell ?_ (fun _ => by simp) _;exact Kp.refl _ _
   have HE : Hid (((wr.setCell ⟨b0,0,none⟩ (.string ⟨#[101]⟩)).setCell ⟨b0,1,none⟩ (.slice a K c)).ownsRow b0 27 2 (.slice a (eVs false P).length c) (eVs false P).length (nmRows (eVs false P)).flatten ∧ (eVs false P).length = K ∧ Below w.heap.size w ((wr.setCell ⟨b0,0,none⟩ (.string ⟨#[101]⟩)).setCell ⟨b0,1,none⟩ (.slice a K c))) := (by
    rw [eUp_all] at hrow hK;rw [hK];refine ⟨own_blk hrow hr0 (by decide) KS,rfl,?_⟩
    exact hbel.trans (KS.toBelow hbel.size fun q e => by rw [e,HBZ.out]; exact Nat.le_refl _) : _ ∧ _ ∧ _)
   clear hr0 he0 hrow hK hbel HV KS;go_wp2_with fail;refine bodyPost_ret (results_cell rfl _ _ _ ⟨b0,0,none⟩ (.agg #[.string ⟨#[101]⟩,.slice a K c]) (by go_simp) (by go_simp)) rfl ?_;obtain ⟨h1,h2,h3⟩ := HE.out;refine ⟨a,c,by rw [h2],?_,h3⟩;rw [HBZ.out];exact h1
  have hnd : decide ((n : Int) < 10) = true := by simp; omega
  have HBL : Hid (Below w.heap.size w wr) := hbel;clear hr0 he0 hrow hK hbel;go_wp2_with fail
  go_loopw [5,6] (fun bv iv wx => ∃ i : Nat,iv = .int .i64 (i : Int) ∧ bv = .bool ((ys.take i).any (hitE n)) ∧ i ≤ LL ∧ i ≤ 30 ∧ Hid (Below wr.heap.size wr wx)) (fun _ iv _ => 31 - (intOf iv).toNat)
  case atStart => exact ⟨0,rfl,by simp,by omega,by omega,Below.refl _ _⟩
  case round =>
   obtain ⟨i,rfl,rfl,hi1,hi2,HBX⟩ := hrel;obtain ⟨ib,hib⟩ : ∃ z,(ys.take i).any (hitE n) = z := ⟨_,rfl⟩;have HIB : Hid ((ys.take i).any (hitE n) = ib) := hib
   try rw [hib]
   try simp only [hib]
   clear hib
   by_cases hil : i < LL
   rotate_left
   ·obtain rfl : LL = i := by omega
    have HPN : Hid (P n = ib) := (by
     rw [← HIB.out,← HP.out];unfold inE
     rw [List.take_of_length_le (by rw [HL.out]; omega),List.take_of_length_le (by rw [HL.out]; omega)] : P n = ib)
    have hib1 : decide ((LL : Int) < (LL : Int)) = false := by simp
    clear hil;have hbx : Below w.heap.size w wr := HBL.out.trans (HBX.out.mono HBL.out.size);clear HIB hib1
    cases ib with
    | false =>
     have HN : Hid (∃ a K c,(Blk wr b0 #[.string ⟨#[]⟩,.slice none 0 0] 25 ∧ Blk wr (b0 + 2) #[.string ⟨#[101]⟩,.slice a K c] 25 ∧ wr.ownsRow b0 27 2 (.slice a K c) K (nmRows (eUp P (n + 1))).flatten ∧ (eUp P (n + 1)).length = K ∧ Below w.heap.size w wr)) := ⟨a,K,c,HV.out.1.below HBX.out,HV.out.2.1.below HBX.out,by rw [eUp_step P hn1,if_neg (by rw [HPN.out]; decide)]; exact own_below HV.out.2.2.1 HBX.out,by rw [eUp_step P hn1,if_neg (by rw [HPN.out]; decide)]; exact HV.out.2.2.2.1,hbx⟩;clear HV HBL HBX HPN hbx;go_wp2_with fail
     go_roundw
     case rel => exact ⟨n + 1,congrArg (Value.int .i64) (Int.natCast_add n 1).symm,by omega,by omega,HN⟩
     case measure => simp [intOf]; omega
    | true =>
     have hown := own_below HV.out.2.2.1 HBX.out;have BE := HV.out.2.1.below HBX.out;have BR := HV.out.1.below HBX.out
     have hKB : K ≤ 11 := by rw [← HV.out.2.2.2.1]; have := eUp_len P n; omega
     have hal : Below wr.heap.size wr (wr.drew.alloc (Obj.cells #[.string (eV n).name,.int .i64 (n : Int)] 27)) := (Below.refl _ _).drew.alloc (Nat.le_refl _) _;have BNN : Blk (wr.drew.alloc (Obj.cells #[.string (eV n).name,.int .i64 (n : Int)] 27)) wr.heap.size #[.string (eV n).name,.int .i64 (n : Int)] 27 := Blk.new wr.drew _ _
     have hb0x : b0 ≤ wr.heap.size := by rw [← HBZ.out]; exact hbx.size
     obtain ⟨v',W7,r1,r2,r3,r4⟩ := run_joinF (w := (wr.drew.alloc (Obj.cells #[.string (eV n).name,.int .i64 (n : Int)] 27))) 23 23 27 2 24 _ Try.underlying23 infoNmE rfl (by decide) b0 (.slice a K c) K (nmRows (eUp P n)).flatten (own_below hown hal) (.slice (some ⟨wr.heap.size,0,none⟩) 1 1) [[.string (eV n).name,.int .i64 (n : Int)]] (RowG.blk BNN rfl (by simp) rfl (by omega)) (by simp) (by simp [Value.oneCell']) (by simp; omega) (by decide) (Nat.le_trans hb0x hal.size)
     replace r2 : W7.ownsRow b0 27 2 v' (K + 1) ((nmRows (eUp P n)).flatten ++ [.string (eV n).name,.int .i64 (n : Int)]) := r2
     obtain ⟨na,nc,rfl⟩ := own_form r2;have HRUN : Hid ((Builtin.append_ #[23,23] 23 #[.slice a K c,.slice (some ⟨wr.heap.size,0,none⟩) 1 1]).run Try.prog (wr.drew.alloc (Obj.cells #[.string (eV n).name,.int .i64 (n : Int)] 27)) = .ok (.slice na (K + 1) nc) W7) := r1;have hkr : Kp (fun b => (.slice a K c : Value).ownBlock = some b) wr W7 := (Kp.ofBelow hal).trans2 ((Kp.refl _ _).grown r3 fun k hk _ => hk) fun _ _ e => e
     have hne : ∀ {bb : Nat} {cs : Array Value},Blk wr bb cs 25 → ¬ (.slice a K c : Value).ownBlock = some bb := fun hB e => by have h1 := own_type hown e hB; revert h1; decide
     have BE7 := BE.kp hkr (hne BE);have BR7 := BR.kp hkr (hne BR)
     have KS : Kp (fun q => q = b0 + 2) W7 (W7.setCell ⟨b0 + 2,1,none⟩ (.slice na (K + 1) nc)) := by
      refine Kp.setCell ?_ (fun _ => by simp) _;exact Kp.refl _ _
     have hlo : ∀ b,(.slice a K c : Value).ownBlock = some b → w.heap.size ≤ b := fun b hb => by rw [HBZ.out]; exact (World.ownsRow.lt hown b hb).1
     have hb7 : Below w.heap.size w W7 := hbx.trans (hkr.toBelow hbx.size fun b e => hlo b e)
     have HN : Hid (∃ a9 K9 c9,(Blk (W7.setCell ⟨b0 + 2,1,none⟩ (.slice na (K + 1) nc)) b0 #[.string ⟨#[]⟩,.slice none 0 0] 25 ∧ Blk (W7.setCell ⟨b0 + 2,1,none⟩ (.slice na (K + 1) nc)) (b0 + 2) #[.string ⟨#[101]⟩,.slice a9 K9 c9] 25 ∧ (W7.setCell ⟨b0 + 2,1,none⟩ (.slice na (K + 1) nc)).ownsRow b0 27 2 (.slice a9 K9 c9) K9 (nmRows (eUp P (n + 1))).flatten ∧ (eUp P (n + 1)).length = K9 ∧ Below w.heap.size w (W7.setCell ⟨b0 + 2,1,none⟩ (.slice na (K + 1) nc)))) := ⟨na,K + 1,nc,BR7.kp KS (by omega),BE7.set 1 _ rfl,(by
      rw [eUp_step P hn1,if_pos HPN.out,show (nmRows (eUp P n ++ [eV n])).flatten = (nmRows (eUp P n)).flatten ++ [.string (eV n).name,.int .i64 (n : Int)] by simp [nmRows,NmS.cells,eV]]
      exact own_blk r2 BE7 (by decide) KS),by rw [eUp_step P hn1,if_pos HPN.out,List.length_append,HV.out.2.2.2.1]; rfl,hb7.trans (KS.toBelow hb7.size fun q e => by rw [e,HBZ.out]; omega)⟩
     have hl7 := BE7.lt;have j1 := (BE7.cell 1).trans rfl;have jz := BE7.froz 1;have HKZ : Hid (b0 + 2 < W7.heap.size ∧ W7.cell? ⟨b0 + 2,1,none⟩ = some (.slice a K c) ∧ W7.frozen? ⟨b0 + 2,1,none⟩ = false) := ⟨hl7,j1,jz⟩;have HCW : Hid (∀ W,Below wr.heap.size wr W → W.cell? ⟨b0 + 2,1,none⟩ = some (.slice a K c)) := fun W hW => ((BE.below hW).cell 1).trans rfl
     have HAL : Hid (Below wr.heap.size wr (wr.drew.alloc (Obj.cells #[.string (eV n).name,.int .i64 (n : Int)] 27))) := hal
     have HSL : Hid (∀ wq : World,(Instr.slice 9 (.string ⟨#[48,49,50,51,52,53,54,55,56,57]⟩) (some (.int .i64 (n : Int))) (some (.int .i64 ((n : Int) + 1))) none).run Try.prog wq = .ok (.string (ByteArray.extract ⟨#[48,49,50,51,52,53,54,55,56,57]⟩ n (n + 1))) wq) := fun wq => by
      have h := run_slice_string (P := Try.prog) (w := wq) 9 ⟨#[48,49,50,51,52,53,54,55,56,57]⟩ .i64 .i64 (n : Int) ((n : Int) + 1) Try.underlying9 (by omega) (by omega) (by show (n : Int) + 1 ≤ 10; omega);rw [show ((n : Int)).toNat = n by omega,show ((n : Int) + 1).toNat = n + 1 by omega] at h;exact h
     have hwk : IntKind.i64.wrap ((n : Int) + 1) = ((n + 1 : Nat) : Int) := by rw [IntKind.wrap_i64]; omega
     clear r1 r2 r3 r4 hkr hne BE7 BR7 KS hlo hb7 hl7 j1 jz hal BNN hown BE BR HV HPN hb0x
     go_upto_region 11 with fail
     refine M_region (T := fun W => Below wr.heap.size wr W ∨ W = W7) (m := 11) (by kernel_rfl) ?_;have hS : Below wr.heap.size wr wr.drew ∨ wr.drew = W7 := .inl (Below.refl _ _).drew;refine M_take 0 36 (.pointer (some ⟨b0 + 2,1,none⟩)) _ rfl rfl (by kernel_rfl) (by kernel_rfl) (by kernel_rfl) (by kernel_rfl) (by kernel_rfl) (fun _ _ _ h => h) (by rfl) (fun w' hw' => ?_) hS (listed' := bts 13 1) (by kernel_rfl) rfl ?_
     ·go_simp
     simp only [zsA,zsZ,zsS];refine M_take 1 37 (.slice a K c) _ rfl rfl (by kernel_rfl) (by kernel_rfl) (by kernel_rfl) (by kernel_rfl) (by kernel_rfl) (fun _ _ _ h => h) (by rfl) (fun w' hw' => ?_) hS (listed' := bts 13 3) (by kernel_rfl) rfl ?_
     ·have g1 : w'.cell? ⟨b0 + 2,1,none⟩ = some (.slice a K c) := (by rcases hw' with h | h; exact HCW.out _ h; rw [h]; exact HKZ.out.2.1); go_simp
     simp only [zsA,zsZ,zsS];refine M_take 2 38 (.int .i64 (n : Int)) _ rfl rfl (by kernel_rfl) (by kernel_rfl) (by kernel_rfl) (by kernel_rfl) (by kernel_rfl) (fun _ _ _ h => h) (by rfl) (fun w' hw' => ?_) hS (listed' := bts 13 7) (by kernel_rfl) rfl ?_
     ·go_simp
     simp only [zsA,zsZ,zsS];refine M_take 3 39 (.int .i64 (n : Int)) _ rfl rfl (by kernel_rfl) (by kernel_rfl) (by kernel_rfl) (by kernel_rfl) (by kernel_rfl) (fun _ _ _ h => h) (by rfl) (fun w' hw' => ?_) hS (listed' := bts 13 15) (by kernel_rfl) rfl ?_
     ·go_simp
     simp only [zsA,zsZ,zsS];refine M_take 4 40 (.int .i64 ((n + 1 : Nat) : Int)) _ rfl rfl (by kernel_rfl) (by kernel_rfl) (by kernel_rfl) (by kernel_rfl) (by kernel_rfl) (fun _ _ _ h => h) (by rfl) (fun w' hw' => ?_) hS (listed' := bts 13 31) (by kernel_rfl) rfl ?_
     ·go_simp
     simp only [zsA,zsZ,zsS];refine M_take 5 41 (.string (ByteArray.extract ⟨#[48,49,50,51,52,53,54,55,56,57]⟩ n (n + 1))) _ rfl rfl (by kernel_rfl) (by kernel_rfl) (by kernel_rfl) (by kernel_rfl) (by kernel_rfl) (fun _ _ _ h => h) (by rfl) (fun w' hw' => ?_) hS (listed' := bts 13 63) (by kernel_rfl) rfl ?_
     ·go_simp; rw [HSL.out w']; rfl
     simp only [zsA,zsZ,zsS];refine M_take 6 42 (.string (eV n).name) _ rfl rfl (by kernel_rfl) (by kernel_rfl) (by kernel_rfl) (by kernel_rfl) (by kernel_rfl) (fun _ _ _ h => h) (by rfl) (fun w' hw' => ?_) hS (listed' := bts 13 127) (by kernel_rfl) rfl ?_
     ·go_simp; rw [if_neg (by omega)]; exact congrArg (fun x => Result.ok (Next.value (Value.string x)) w') (digit_of n hlt)
     simp only [zsA,zsZ,zsS];refine M_take 7 43 (.int .i64 (n : Int)) _ rfl rfl (by kernel_rfl) (by kernel_rfl) (by kernel_rfl) (by kernel_rfl) (by kernel_rfl) (fun _ _ _ h => h) (by rfl) (fun w' hw' => ?_) hS (listed' := bts 13 255) (by kernel_rfl) rfl ?_
     ·go_simp
     simp only [zsA,zsZ,zsS];refine M_take 8 44 (.agg #[.string (eV n).name,.int .i64 (n : Int)]) _ rfl rfl (by kernel_rfl) (by kernel_rfl) (by kernel_rfl) (by kernel_rfl) (by kernel_rfl) (fun _ _ _ h => h) (by rfl) (fun w' hw' => ?_) hS (listed' := bts 13 511) (by kernel_rfl) rfl ?_
     ·go_simp
     simp only [zsA,zsZ,zsS];refine M_run 9 45 (.slice (some ⟨wr.heap.size,0,none⟩) 1 1) ((wr.drew.alloc (Obj.cells #[.string (eV n).name,.int .i64 (n : Int)] 27))) rfl rfl (by kernel_rfl) (by rfl) (listed' := bts 13 1023) (by kernel_rfl) (by go_simp) (.inl HAL.out) ?_;simp only [zsA,zsZ,zsS];refine M_run 10 46 (.slice na (K + 1) nc) (W7) rfl rfl (by kernel_rfl) (by rfl) (listed' := bts 13 2047) (by kernel_rfl) (append_run rfl rfl rfl HRUN.out) (.inr rfl) ?_;simp only [zsA,zsZ,zsS];obtain ⟨g0,g1,g2⟩ := HKZ.out;refine M_runA 11 47 (.pointer (some ⟨b0 + 2,1,none⟩)) W7 rfl rfl (by kernel_rfl) (by rfl) (listed' := bts 13 4095) (by kernel_rfl) (by go_simp) (by kernel_rfl) ?_;simp only [zsA,zsZ,zsS];refine M_store 12 (W7.setCell ⟨b0 + 2,1,none⟩ (.slice na (K + 1) nc)) rfl rfl (by kernel_rfl) (by rfl) (listed' := bts 13 8191) (by kernel_rfl) (by go_simp) (by kernel_rfl) ?_;refine M_done (by kernel_rfl) ?_ _;clear g0 g1 g2 hS HKZ HCW HAL HRUN HSL hwk hbx HBL HBX;generalize (W7.setCell ⟨b0 + 2,1,none⟩ (.slice na (K + 1) nc)) = D8 at *;go_wp2_with fail
     go_roundw
     case rel => exact ⟨n + 1,congrArg (Value.int .i64) (Int.natCast_add n 1).symm,by omega,by omega,HN⟩
     case measure => simp [intOf]; omega
   have hid : decide ((i : Int) < (LL : Int)) = true := by simp; omega
   by_cases hi30 : i < 30
   rotate_left
   ·have hj30 : i = 30 := by omega
    have HPN : Hid (P n = ib) := (by
     rw [← HIB.out,← HP.out];unfold inE
     rw [hj30] : P n = ib)
    have hib1 : decide ((i : Int) < 30) = false := by simp; omega
    clear hj30 hi30;have hbx : Below w.heap.size w wr := HBL.out.trans (HBX.out.mono HBL.out.size);clear HIB
    cases ib with
    | false =>
     have HN : Hid (∃ a K c,(Blk wr b0 #[.string ⟨#[]⟩,.slice none 0 0] 25 ∧ Blk wr (b0 + 2) #[.string ⟨#[101]⟩,.slice a K c] 25 ∧ wr.ownsRow b0 27 2 (.slice a K c) K (nmRows (eUp P (n + 1))).flatten ∧ (eUp P (n + 1)).length = K ∧ Below w.heap.size w wr)) := ⟨a,K,c,HV.out.1.below HBX.out,HV.out.2.1.below HBX.out,by rw [eUp_step P hn1,if_neg (by rw [HPN.out]; decide)]; exact own_below HV.out.2.2.1 HBX.out,by rw [eUp_step P hn1,if_neg (by rw [HPN.out]; decide)]; exact HV.out.2.2.2.1,hbx⟩;clear HV HBL HBX HPN hbx;go_wp2_with fail
     go_roundw
     case rel => exact ⟨n + 1,congrArg (Value.int .i64) (Int.natCast_add n 1).symm,by omega,by omega,HN⟩
     case measure => simp [intOf]; omega
    | true =>
     have hown := own_below HV.out.2.2.1 HBX.out;have BE := HV.out.2.1.below HBX.out;have BR := HV.out.1.below HBX.out
     have hKB : K ≤ 11 := by rw [← HV.out.2.2.2.1]; have := eUp_len P n; omega
     have hal : Below wr.heap.size wr (wr.drew.alloc (Obj.cells #[.string (eV n).name,.int .i64 (n : Int)] 27)) := (Below.refl _ _).drew.alloc (Nat.le_refl _) _;have BNN : Blk (wr.drew.alloc (Obj.cells #[.string (eV n).name,.int .i64 (n : Int)] 27)) wr.heap.size #[.string (eV n).name,.int .i64 (n : Int)] 27 := Blk.new wr.drew _ _
     have hb0x : b0 ≤ wr.heap.size := by rw [← HBZ.out]; exact hbx.size
     obtain ⟨v',W7,r1,r2,r3,r4⟩ := run_joinF (w := (wr.drew.alloc (Obj.cells #[.string (eV n).name,.int .i64 (n : Int)] 27))) 23 23 27 2 24 _ Try.underlying23 infoNmE rfl (by decide) b0 (.slice a K c) K (nmRows (eUp P n)).flatten (own_below hown hal) (.slice (some ⟨wr.heap.size,0,none⟩) 1 1) [[.string (eV n).name,.int .i64 (n : Int)]] (RowG.blk BNN rfl (by simp) rfl (by omega)) (by simp) (by simp [Value.oneCell']) (by simp; omega) (by decide) (Nat.le_trans hb0x hal.size)
     replace r2 : W7.ownsRow b0 27 2 v' (K + 1) ((nmRows (eUp P n)).flatten ++ [.string (eV n).name,.int .i64 (n : Int)]) := r2
     obtain ⟨na,nc,rfl⟩ := own_form r2;have HRUN : Hid ((Builtin.append_ #[23,23] 23 #[.slice a K c,.slice (some ⟨wr.heap.size,0,none⟩) 1 1]).run Try.prog (wr.drew.alloc (Obj.cells #[.string (eV n).name,.int .i64 (n : Int)] 27)) = .ok (.slice na (K + 1) nc) W7) := r1;have hkr : Kp (fun b => (.slice a K c : Value).ownBlock = some b) wr W7 := (Kp.ofBelow hal).trans2 ((Kp.refl _ _).grown r3 fun k hk _ => hk) fun _ _ e => e
     have hne : ∀ {bb : Nat} {cs : Array Value},Blk wr bb cs 25 → ¬ (.slice a K c : Value).ownBlock = some bb := fun hB e => by have h1 := own_type hown e hB; revert h1; decide
     have BE7 := BE.kp hkr (hne BE);have BR7 := BR.kp hkr (hne BR)
     have KS : Kp (fun q => q = b0 + 2) W7 (W7.setCell ⟨b0 + 2,1,none⟩ (.slice na (K + 1) nc)) := by
      refine Kp.setCell ?_ (fun _ => by simp) _;exact Kp.refl _ _
     have hlo : ∀ b,(.slice a K c : Value).ownBlock = some b → w.heap.size ≤ b := fun b hb => by rw [HBZ.out]; exact (World.ownsRow.lt hown b hb).1
     have hb7 : Below w.heap.size w W7 := hbx.trans (hkr.toBelow hbx.size fun b e => hlo b e)
     have HN : Hid (∃ a9 K9 c9,(Blk (W7.setCell ⟨b0 + 2,1,none⟩ (.slice na (K + 1) nc)) b0 #[.string ⟨#[]⟩,.slice none 0 0] 25 ∧ Blk (W7.setCell ⟨b0 + 2,1,none⟩ (.slice na (K + 1) nc)) (b0 + 2) #[.string ⟨#[101]⟩,.slice a9 K9 c9] 25 ∧ (W7.setCell ⟨b0 + 2,1,none⟩ (.slice na (K + 1) nc)).ownsRow b0 27 2 (.slice a9 K9 c9) K9 (nmRows (eUp P (n + 1))).flatten ∧ (eUp P (n + 1)).length = K9 ∧ Below w.heap.size w (W7.setCell ⟨b0 + 2,1,none⟩ (.slice na (K + 1) nc)))) := ⟨na,K + 1,nc,BR7.kp KS (by omega),BE7.set 1 _ rfl,(by
      rw [eUp_step P hn1,if_pos HPN.out,show (nmRows (eUp P n ++ [eV n])).flatten = (nmRows (eUp P n)).flatten ++ [.string (eV n).name,.int .i64 (n : Int)] by simp [nmRows,NmS.cells,eV]]
      exact own_blk r2 BE7 (by decide) KS),by rw [eUp_step P hn1,if_pos HPN.out,List.length_append,HV.out.2.2.2.1]; rfl,hb7.trans (KS.toBelow hb7.size fun q e => by rw [e,HBZ.out]; omega)⟩
     have hl7 := BE7.lt;have j1 := (BE7.cell 1).trans rfl;have jz := BE7.froz 1;have HKZ : Hid (b0 + 2 < W7.heap.size ∧ W7.cell? ⟨b0 + 2,1,none⟩ = some (.slice a K c) ∧ W7.frozen? ⟨b0 + 2,1,none⟩ = false) := ⟨hl7,j1,jz⟩;have HCW : Hid (∀ W,Below wr.heap.size wr W → W.cell? ⟨b0 + 2,1,none⟩ = some (.slice a K c)) := fun W hW => ((BE.below hW).cell 1).trans rfl
     have HAL : Hid (Below wr.heap.size wr (wr.drew.alloc (Obj.cells #[.string (eV n).name,.int .i64 (n : Int)] 27))) := hal
     have HSL : Hid (∀ wq : World,(Instr.slice 9 (.string ⟨#[48,49,50,51,52,53,54,55,56,57]⟩) (some (.int .i64 (n : Int))) (some (.int .i64 ((n : Int) + 1))) none).run Try.prog wq = .ok (.string (ByteArray.extract ⟨#[48,49,50,51,52,53,54,55,56,57]⟩ n (n + 1))) wq) := fun wq => by
      have h := run_slice_string (P := Try.prog) (w := wq) 9 ⟨#[48,49,50,51,52,53,54,55,56,57]⟩ .i64 .i64 (n : Int) ((n : Int) + 1) Try.underlying9 (by omega) (by omega) (by show (n : Int) + 1 ≤ 10; omega);rw [show ((n : Int)).toNat = n by omega,show ((n : Int) + 1).toNat = n + 1 by omega] at h;exact h
     have hwk : IntKind.i64.wrap ((n : Int) + 1) = ((n + 1 : Nat) : Int) := by rw [IntKind.wrap_i64]; omega
     clear r1 r2 r3 r4 hkr hne BE7 BR7 KS hlo hb7 hl7 j1 jz hal BNN hown BE BR HV HPN hb0x
     go_upto_region 11 with fail
     refine M_region (T := fun W => Below wr.heap.size wr W ∨ W = W7) (m := 11) (by kernel_rfl) ?_;have hS : Below wr.heap.size wr wr.drew ∨ wr.drew = W7 := .inl (Below.refl _ _).drew;refine M_take 0 36 (.pointer (some ⟨b0 + 2,1,none⟩)) _ rfl rfl (by kernel_rfl) (by kernel_rfl) (by kernel_rfl) (by kernel_rfl) (by kernel_rfl) (fun _ _ _ h => h) (by rfl) (fun w' hw' => ?_) hS (listed' := bts 13 1) (by kernel_rfl) rfl ?_
     ·go_simp
     simp only [zsA,zsZ,zsS];refine M_take 1 37 (.slice a K c) _ rfl rfl (by kernel_rfl) (by kernel_rfl) (by kernel_rfl) (by kernel_rfl) (by kernel_rfl) (fun _ _ _ h => h) (by rfl) (fun w' hw' => ?_) hS (listed' := bts 13 3) (by kernel_rfl) rfl ?_
     ·have g1 : w'.cell? ⟨b0 + 2,1,none⟩ = some (.slice a K c) := (by rcases hw' with h | h; exact HCW.out _ h; rw [h]; exact HKZ.out.2.1); go_simp
     simp only [zsA,zsZ,zsS];refine M_take 2 38 (.int .i64 (n : Int)) _ rfl rfl (by kernel_rfl) (by kernel_rfl) (by kernel_rfl) (by kernel_rfl) (by kernel_rfl) (fun _ _ _ h => h) (by rfl) (fun w' hw' => ?_) hS (listed' := bts 13 7) (by kernel_rfl) rfl ?_
     ·go_simp
     simp only [zsA,zsZ,zsS];refine M_take 3 39 (.int .i64 (n : Int)) _ rfl rfl (by kernel_rfl) (by kernel_rfl) (by kernel_rfl) (by kernel_rfl) (by kernel_rfl) (fun _ _ _ h => h) (by rfl) (fun w' hw' => ?_) hS (listed' := bts 13 15) (by kernel_rfl) rfl ?_
     ·go_simp
     simp only [zsA,zsZ,zsS];refine M_take 4 40 (.int .i64 ((n + 1 : Nat) : Int)) _ rfl rfl (by kernel_rfl) (by kernel_rfl) (by kernel_rfl) (by kernel_rfl) (by kernel_rfl) (fun _ _ _ h => h) (by rfl) (fun w' hw' => ?_) hS (listed' := bts 13 31) (by kernel_rfl) rfl ?_
     ·go_simp
     simp only [zsA,zsZ,zsS];refine M_take 5 41 (.string (ByteArray.extract ⟨#[48,49,50,51,52,53,54,55,56,57]⟩ n (n + 1))) _ rfl rfl (by kernel_rfl) (by kernel_rfl) (by kernel_rfl) (by kernel_rfl) (by kernel_rfl) (fun _ _ _ h => h) (by rfl) (fun w' hw' => ?_) hS (listed' := bts 13 63) (by kernel_rfl) rfl ?_
     ·go_simp; rw [HSL.out w']; rfl
     simp only [zsA,zsZ,zsS];refine M_take 6 42 (.string (eV n).name) _ rfl rfl (by kernel_rfl) (by kernel_rfl) (by kernel_rfl) (by kernel_rfl) (by kernel_rfl) (fun _ _ _ h => h) (by rfl) (fun w' hw' => ?_) hS (listed' := bts 13 127) (by kernel_rfl) rfl ?_
     ·go_simp; rw [if_neg (by omega)]; exact congrArg (fun x => Result.ok (Next.value (Value.string x)) w') (digit_of n hlt)
     simp only [zsA,zsZ,zsS];refine M_take 7 43 (.int .i64 (n : Int)) _ rfl rfl (by kernel_rfl) (by kernel_rfl) (by kernel_rfl) (by kernel_rfl) (by kernel_rfl) (fun _ _ _ h => h) (by rfl) (fun w' hw' => ?_) hS (listed' := bts 13 255) (by kernel_rfl) rfl ?_
     ·go_simp
     simp only [zsA,zsZ,zsS];refine M_take 8 44 (.agg #[.string (eV n).name,.int .i64 (n : Int)]) _ rfl rfl (by kernel_rfl) (by kernel_rfl) (by kernel_rfl) (by kernel_rfl) (by kernel_rfl) (fun _ _ _ h => h) (by rfl) (fun w' hw' => ?_) hS (listed' := bts 13 511) (by kernel_rfl) rfl ?_
     ·go_simp
     simp only [zsA,zsZ,zsS];refine M_run 9 45 (.slice (some ⟨wr.heap.size,0,none⟩) 1 1) ((wr.drew.alloc (Obj.cells #[.string (eV n).name,.int .i64 (n : Int)] 27))) rfl rfl (by kernel_rfl) (by rfl) (listed' := bts 13 1023) (by kernel_rfl) (by go_simp) (.inl HAL.out) ?_;simp only [zsA,zsZ,zsS];refine M_run 10 46 (.slice na (K + 1) nc) (W7) rfl rfl (by kernel_rfl) (by rfl) (listed' := bts 13 2047) (by kernel_rfl) (append_run rfl rfl rfl HRUN.out) (.inr rfl) ?_;simp only [zsA,zsZ,zsS];obtain ⟨g0,g1,g2⟩ := HKZ.out;refine M_runA 11 47 (.pointer (some ⟨b0 + 2,1,none⟩)) W7 rfl rfl (by kernel_rfl) (by rfl) (listed' := bts 13 4095) (by kernel_rfl) (by go_simp) (by kernel_rfl) ?_;simp only [zsA,zsZ,zsS];refine M_store 12 (W7.setCell ⟨b0 + 2,1,none⟩ (.slice na (K + 1) nc)) rfl rfl (by kernel_rfl) (by rfl) (listed' := bts 13 8191) (by kernel_rfl) (by go_simp) (by kernel_rfl) ?_;refine M_done (by kernel_rfl) ?_ _;clear g0 g1 g2 hS HKZ HCW HAL HRUN HSL hwk hbx HBL HBX;generalize (W7.setCell ⟨b0 + 2,1,none⟩ (.slice na (K + 1) nc)) = D8 at *;go_wp2_with fail
     go_roundw
     case rel => exact ⟨n + 1,congrArg (Value.int .i64) (Int.natCast_add n 1).symm,by omega,by omega,HN⟩
     case measure => simp [intOf]; omega
   have hi3 : decide ((i : Int) < 30) = true := by simp; omega
   obtain ⟨x,hx⟩ : ∃ z,ys[i]? = some z := ⟨_,List.getElem?_eq_getElem (by rw [HL.out]; exact hil)⟩;have HX : Hid (ys[i]? = some x) := hx;have HT : Hid ((ys.take (i + 1)).any (hitE n) = (ib || hitE n x)) := (by rw [take_anyE hx,HIB.out] : _ = _);have h64x := H64.out x (List.mem_of_getElem? hx);have hgl := HR.out.get (show (inRows ys)[i]? = some [.int .i64 x] by simp [inRows,hx]);obtain ⟨g,off,rfl,c1⟩ := hgl;have hwr : Below w.heap.size w wr := HBL.out.trans (HBX.out.mono HBL.out.size);have p0 := (Kp.ofBelow (S := fun _ => False) hwr).cell (c1 0 _ rfl) (fun e => e);simp only [Nat.mul_one,Nat.add_zero] at p0;obtain ⟨q1,q2⟩ := placeI_in x 9 (by omega);have HPL : Hid (∀ W,Calls Try.prog 6 #[.int .i64 x,.int .i64 9] W fun e w1 => e = .returned (.int .i64 (placeI x 9)) ∧ w1 = W) := fun W => place_is x 9 (by unfold Is64 at h64x; omega) (by unfold Is64 at h64x; omega) (by omega) (by omega) W
   obtain ⟨T,hT⟩ : ∃ z,placeI x 9 = z := ⟨_,rfl⟩;rw [hT] at q1 q2;have HTT : Hid (placeI x 9 = T) := hT;rw [hT] at HPL
   have hwT : IntKind.i64.wrap (1 + T) = 1 + T := by rw [IntKind.wrap_i64]; omega
   clear hx c1 h64x hT HX hwr
   cases ib with
   | true =>
    clear p0 q1 q2 HPL hwT HTT HIB;go_wp2_with fail
    go_roundw
    case rel => exact ⟨i + 1,congrArg (Value.int .i64) (Int.natCast_add i 1).symm,by rw [HT.out]; rfl,by omega,by omega,HBX⟩
    case measure => simp [intOf]; omega
   | false =>
    go_wp2_with fail;refine (HPL.out _).mono ?_;rintro e w5 ⟨rfl,h5⟩;obtain rfl : wr = w5 := h5.symm
    by_cases hh : 1 + T = (n : Int)
    ·have e1 : (1 + T == (n : Int)) = true := by simpa using hh
     have HH : Hid (hitE n x = true) := (by unfold hitE; rw [HTT.out]; simpa using hh : _ = _);clear hh q1 q2 HPL p0 HTT HIB;go_wp2_with fail
     go_roundw
     case rel => exact ⟨i + 1,congrArg (Value.int .i64) (Int.natCast_add i 1).symm,by rw [HT.out,HH.out]; rfl,by omega,by omega,HBX⟩
     case measure => simp [intOf]; omega
    ·have e1 : (1 + T == (n : Int)) = false := by simpa using hh
     have HH : Hid (hitE n x = false) := (by unfold hitE; rw [HTT.out]; simpa using hh : _ = _);clear hh q1 q2 HPL p0 HTT HIB;go_wp2_with fail
     go_roundw
     case rel => exact ⟨i + 1,congrArg (Value.int .i64) (Int.natCast_add i 1).symm,by rw [HT.out,HH.out]; rfl,by omega,by omega,HBX⟩
     case measure => simp [intOf]; omega
theorem en2_any {w : World} {a : Option Addr} {n c : Nat} {vs : List NmS} (hr : RowG w (.slice a n c) 2 (nmRows vs)) :
  Calls Try.prog 7 #[.agg #[.string ⟨#[101]⟩,.slice a n c]] w fun e w' => ∃ sv,e = .returned sv ∧ ScIn w' sv (eS vs) ∧ Below w.heap.size w w' := by
 have HR : Hid (RowG w (.slice a n c) 2 (nmRows vs)) := hr;clear hr
 go_enter Try.func7,Try.ntmps7
 go_wp2_with fail
 have HBB : Hid (Below w.heap.size w ((((((w.alloc (Obj.cells #[.string ⟨#[101]⟩,.slice a n c] 25)).alloc (Obj.cells #[.string ⟨#[97]⟩,.slice (some ⟨w.heap.size + 1 + 1 + 1,0,none⟩) 1 1,.slice (some ⟨w.heap.size + 1 + 1 + 1 + 1,0,none⟩) 1 1,.slice (some ⟨w.heap.size + 1 + 1 + 1 + 1 + 1,0,none⟩) 1 1] 34)).alloc (Obj.cells #[.string ⟨#[120]⟩,.int .i64 1,.int .i64 1,.int .i64 6,.string ⟨#[101]⟩] 38)).alloc (Obj.cells #[.string ⟨#[109]⟩,.slice (some ⟨w.heap.size + 1 + 1,0,none⟩) 1 1,.slice none 0 0] 41)).alloc (Obj.cells #[.string ⟨#[101]⟩,.slice a n c] 25)).alloc (Obj.cells #[.string ⟨#[99]⟩,.string ⟨#[109]⟩,.string ⟨#[109]⟩] 43)) ∧ Blk ((((((w.alloc (Obj.cells #[.string ⟨#[101]⟩,.slice a n c] 25)).alloc (Obj.cells #[.string ⟨#[97]⟩,.slice (some ⟨w.heap.size + 1 + 1 + 1,0,none⟩) 1 1,.slice (some ⟨w.heap.size + 1 + 1 + 1 + 1,0,none⟩) 1 1,.slice (some ⟨w.heap.size + 1 + 1 + 1 + 1 + 1,0,none⟩) 1 1] 34)).alloc (Obj.cells #[.string ⟨#[120]⟩,.int .i64 1,.int .i64 1,.int .i64 6,.string ⟨#[101]⟩] 38)).alloc (Obj.cells #[.string ⟨#[109]⟩,.slice (some ⟨w.heap.size + 1 + 1,0,none⟩) 1 1,.slice none 0 0] 41)).alloc (Obj.cells #[.string ⟨#[101]⟩,.slice a n c] 25)).alloc (Obj.cells #[.string ⟨#[99]⟩,.string ⟨#[109]⟩,.string ⟨#[109]⟩] 43)) (w.heap.size) #[.string ⟨#[101]⟩,.slice a n c] 25 ∧ Blk ((((((w.alloc (Obj.cells #[.string ⟨#[101]⟩,.slice a n c] 25)).alloc (Obj.cells #[.string ⟨#[97]⟩,.slice (some ⟨w.heap.size + 1 + 1 + 1,0,none⟩) 1 1,.slice (some ⟨w.heap.size + 1 + 1 + 1 + 1,0,none⟩) 1 1,.slice (some ⟨w.heap.size + 1 + 1 + 1 + 1 + 1,0,none⟩) 1 1] 34)).alloc (Obj.cells #[.string ⟨#[120]⟩,.int .i64 1,.int .i64 1,.int .i64 6,.string ⟨#[101]⟩] 38)).alloc (Obj.cells #[.string ⟨#[109]⟩,.slice (some ⟨w.heap.size + 1 + 1,0,none⟩) 1 1,.slice none 0 0] 41)).alloc (Obj.cells #[.string ⟨#[101]⟩,.slice a n c] 25)).alloc (Obj.cells #[.string ⟨#[99]⟩,.string ⟨#[109]⟩,.string ⟨#[109]⟩] 43)) (w.heap.size + 1) #[.string ⟨#[97]⟩,.slice (some ⟨w.heap.size + 1 + 1 + 1,0,none⟩) 1 1,.slice (some ⟨w.heap.size + 1 + 1 + 1 + 1,0,none⟩) 1 1,.slice (some ⟨w.heap.size + 1 + 1 + 1 + 1 + 1,0,none⟩) 1 1] 34 ∧ Blk ((((((w.alloc (Obj.cells #[.string ⟨#[101]⟩,.slice a n c] 25)).alloc (Obj.cells #[.string ⟨#[97]⟩,.slice (some ⟨w.heap.size + 1 + 1 + 1,0,none⟩) 1 1,.slice (some ⟨w.heap.size + 1 + 1 + 1 + 1,0,none⟩) 1 1,.slice (some ⟨w.heap.size + 1 + 1 + 1 + 1 + 1,0,none⟩) 1 1] 34)).alloc (Obj.cells #[.string ⟨#[120]⟩,.int .i64 1,.int .i64 1,.int .i64 6,.string ⟨#[101]⟩] 38)).alloc (Obj.cells #[.string ⟨#[109]⟩,.slice (some ⟨w.heap.size + 1 + 1,0,none⟩) 1 1,.slice none 0 0] 41)).alloc (Obj.cells #[.string ⟨#[101]⟩,.slice a n c] 25)).alloc (Obj.cells #[.string ⟨#[99]⟩,.string ⟨#[109]⟩,.string ⟨#[109]⟩] 43)) (w.heap.size + 1 + 1) #[.string ⟨#[120]⟩,.int .i64 1,.int .i64 1,.int .i64 6,.string ⟨#[101]⟩] 38 ∧ Blk ((((((w.alloc (Obj.cells #[.string ⟨#[101]⟩,.slice a n c] 25)).alloc (Obj.cells #[.string ⟨#[97]⟩,.slice (some ⟨w.heap.size + 1 + 1 + 1,0,none⟩) 1 1,.slice (some ⟨w.heap.size + 1 + 1 + 1 + 1,0,none⟩) 1 1,.slice (some ⟨w.heap.size + 1 + 1 + 1 + 1 + 1,0,none⟩) 1 1] 34)).alloc (Obj.cells #[.string ⟨#[120]⟩,.int .i64 1,.int .i64 1,.int .i64 6,.string ⟨#[101]⟩] 38)).alloc (Obj.cells #[.string ⟨#[109]⟩,.slice (some ⟨w.heap.size + 1 + 1,0,none⟩) 1 1,.slice none 0 0] 41)).alloc (Obj.cells #[.string ⟨#[101]⟩,.slice a n c] 25)).alloc (Obj.cells #[.string ⟨#[99]⟩,.string ⟨#[109]⟩,.string ⟨#[109]⟩] 43)) (w.heap.size + 1 + 1 + 1) #[.string ⟨#[109]⟩,.slice (some ⟨w.heap.size + 1 + 1,0,none⟩) 1 1,.slice none 0 0] 41 ∧ Blk ((((((w.alloc (Obj.cells #[.string ⟨#[101]⟩,.slice a n c] 25)).alloc (Obj.cells #[.string ⟨#[97]⟩,.slice (some ⟨w.heap.size + 1 + 1 + 1,0,none⟩) 1 1,.slice (some ⟨w.heap.size + 1 + 1 + 1 + 1,0,none⟩) 1 1,.slice (some ⟨w.heap.size + 1 + 1 + 1 + 1 + 1,0,none⟩) 1 1] 34)).alloc (Obj.cells #[.string ⟨#[120]⟩,.int .i64 1,.int .i64 1,.int .i64 6,.string ⟨#[101]⟩] 38)).alloc (Obj.cells #[.string ⟨#[109]⟩,.slice (some ⟨w.heap.size + 1 + 1,0,none⟩) 1 1,.slice none 0 0] 41)).alloc (Obj.cells #[.string ⟨#[101]⟩,.slice a n c] 25)).alloc (Obj.cells #[.string ⟨#[99]⟩,.string ⟨#[109]⟩,.string ⟨#[109]⟩] 43)) (w.heap.size + 1 + 1 + 1 + 1) #[.string ⟨#[101]⟩,.slice a n c] 25 ∧ Blk ((((((w.alloc (Obj.cells #[.string ⟨#[101]⟩,.slice a n c] 25)).alloc (Obj.cells #[.string ⟨#[97]⟩,.slice (some ⟨w.heap.size + 1 + 1 + 1,0,none⟩) 1 1,.slice (some ⟨w.heap.size + 1 + 1 + 1 + 1,0,none⟩) 1 1,.slice (some ⟨w.heap.size + 1 + 1 + 1 + 1 + 1,0,none⟩) 1 1] 34)).alloc (Obj.cells #[.string ⟨#[120]⟩,.int .i64 1,.int .i64 1,.int .i64 6,.string ⟨#[101]⟩] 38)).alloc (Obj.cells #[.string ⟨#[109]⟩,.slice (some ⟨w.heap.size + 1 + 1,0,none⟩) 1 1,.slice none 0 0] 41)).alloc (Obj.cells #[.string ⟨#[101]⟩,.slice a n c] 25)).alloc (Obj.cells #[.string ⟨#[99]⟩,.string ⟨#[109]⟩,.string ⟨#[109]⟩] 43)) (w.heap.size + 1 + 1 + 1 + 1 + 1) #[.string ⟨#[99]⟩,.string ⟨#[109]⟩,.string ⟨#[109]⟩] 43) := (by
  have h1 := alls_below [(#[.string ⟨#[101]⟩,.slice a n c],25),(#[.string ⟨#[97]⟩,.slice (some ⟨w.heap.size + 1 + 1 + 1,0,none⟩) 1 1,.slice (some ⟨w.heap.size + 1 + 1 + 1 + 1,0,none⟩) 1 1,.slice (some ⟨w.heap.size + 1 + 1 + 1 + 1 + 1,0,none⟩) 1 1],34),(#[.string ⟨#[120]⟩,.int .i64 1,.int .i64 1,.int .i64 6,.string ⟨#[101]⟩],38),(#[.string ⟨#[109]⟩,.slice (some ⟨w.heap.size + 1 + 1,0,none⟩) 1 1,.slice none 0 0],41),(#[.string ⟨#[101]⟩,.slice a n c],25),(#[.string ⟨#[99]⟩,.string ⟨#[109]⟩,.string ⟨#[109]⟩],43)] w;have h2 := alls_blk [(#[.string ⟨#[101]⟩,.slice a n c],25),(#[.string ⟨#[97]⟩,.slice (some ⟨w.heap.size + 1 + 1 + 1,0,none⟩) 1 1,.slice (some ⟨w.heap.size + 1 + 1 + 1 + 1,0,none⟩) 1 1,.slice (some ⟨w.heap.size + 1 + 1 + 1 + 1 + 1,0,none⟩) 1 1],34),(#[.string ⟨#[120]⟩,.int .i64 1,.int .i64 1,.int .i64 6,.string ⟨#[101]⟩],38),(#[.string ⟨#[109]⟩,.slice (some ⟨w.heap.size + 1 + 1,0,none⟩) 1 1,.slice none 0 0],41),(#[.string ⟨#[101]⟩,.slice a n c],25),(#[.string ⟨#[99]⟩,.string ⟨#[109]⟩,.string ⟨#[109]⟩],43)] w
  exact ⟨h1.1,h2 0 _ rfl,h2 1 _ rfl,h2 2 _ rfl,h2 3 _ rfl,h2 4 _ rfl,h2 5 _ rfl⟩ : _ ∧ _)
 generalize ((((((w.alloc (Obj.cells #[.string ⟨#[101]⟩,.slice a n c] 25)).alloc (Obj.cells #[.string ⟨#[97]⟩,.slice (some ⟨w.heap.size + 1 + 1 + 1,0,none⟩) 1 1,.slice (some ⟨w.heap.size + 1 + 1 + 1 + 1,0,none⟩) 1 1,.slice (some ⟨w.heap.size + 1 + 1 + 1 + 1 + 1,0,none⟩) 1 1] 34)).alloc (Obj.cells #[.string ⟨#[120]⟩,.int .i64 1,.int .i64 1,.int .i64 6,.string ⟨#[101]⟩] 38)).alloc (Obj.cells #[.string ⟨#[109]⟩,.slice (some ⟨w.heap.size + 1 + 1,0,none⟩) 1 1,.slice none 0 0] 41)).alloc (Obj.cells #[.string ⟨#[101]⟩,.slice a n c] 25)).alloc (Obj.cells #[.string ⟨#[99]⟩,.string ⟨#[109]⟩,.string ⟨#[109]⟩] 43)) = WA at *;obtain ⟨b0,hb0⟩ : ∃ z,w.heap.size = z := ⟨_,rfl⟩;have HWA : Hid (Below w.heap.size w WA) := HBB.out.1;rw [hb0] at HBB
 try simp only [hb0]
 obtain ⟨-,B0,B1,B2,B3,B4,B5⟩ := HBB.out;have hl := B1.lt;have q0 := (B1.cell 0).trans rfl;have q1 := (B1.cell 1).trans rfl;have q2 := (B1.cell 2).trans rfl;have q3 := (B1.cell 3).trans rfl;refine bodyPost_ret (results_cell rfl _ _ _ ⟨b0 + 1,0,none⟩ (.agg #[.string ⟨#[97]⟩,.slice (some ⟨b0 + 1 + 1 + 1,0,none⟩) 1 1,.slice (some ⟨b0 + 1 + 1 + 1 + 1,0,none⟩) 1 1,.slice (some ⟨b0 + 1 + 1 + 1 + 1 + 1,0,none⟩) 1 1]) (by go_simp) (by go_simp)) rfl ?_;refine ⟨_,rfl,⟨_,_,_,rfl,⟨[[.string ⟨#[109]⟩,.slice (some ⟨b0 + 1 + 1,0,none⟩) 1 1,.slice none 0 0]],RowG.blk B3 rfl (by simp) rfl (by omega),rfl,fun i m hm => ?_⟩,⟨[[.string ⟨#[101]⟩,.slice a n c]],RowG.blk B4 rfl (by simp) rfl (by omega),rfl,fun i m hm => ?_⟩,RowG.blk B5 rfl (by simp [eS,mtRows,MtS.cells]) rfl (by omega)⟩,(by rw [← hb0]; exact HWA.out)⟩
 ·cases i with
  | zero =>
   cases hm
   exact ⟨_,_,rfl,RowG.blk B2 rfl (by simp [flRows,eMs,FlS.cells]) rfl (by omega),RowG.nil _ _⟩
  | succ i => simp [eS] at hm
 ·cases i with
  | zero =>
   cases hm
   exact ⟨_,rfl,HR.out.below HWA.out⟩
  | succ i => simp [eS] at hm
end
end Go.Proofs.Ytdkolhfpfimeoab
