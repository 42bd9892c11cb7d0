/- Part 7 of what the proof stands on. -/
import Derived.Test.YtiajaocckkghgaaGreatPkEAF
import Derived.Deep.QuietTactic
import Derived.Deep.RegionWith
import Derived.Lib.ConvBytes
namespace Go.Proofs.YtiajaocckkghgaaGreat
set_option maxHeartbeats 8000000
set_option linter.unusedVariables false
set_option linter.unusedSimpArgs false
set_option maxRecDepth 20000
section
open Go.ChangeShapes Go.WideShapes Go.ChangeAt Go.RowKit
theorem wireOf_any (k : Int) (nm : ByteArray) (w : World) : Calls Tryz.prog 107 #[.agg #[.int .i64 k,.string nm]] w fun e w' => e = .returned (.int .i64 (wirK k)) ∧ Below w.heap.size w w' := by
 have hb : Below w.heap.size w (w.alloc (Obj.cells #[.int .i64 k,.string nm] 56)) := bra _
 by_cases h4 : k = 4
 ·subst h4
  go_enter Tryz.func107,Tryz.ntmps107
  go_wp2_with fail;go_ret;exact ⟨rfl,hb⟩
 by_cases h5 : k = 5
 ·subst h5;clear h4
  go_enter Tryz.func107,Tryz.ntmps107
  go_wp2_with fail;go_ret;exact ⟨rfl,hb⟩
 by_cases h7 : k = 7
 ·subst h7;clear h4 h5
  go_enter Tryz.func107,Tryz.ntmps107
  go_wp2_with fail;go_ret;exact ⟨rfl,hb⟩
 have hk : wirK k = 0 := by simp [wirK,h4,h5,h7]
 rw [hk]
 have d4 : (k == 4) = false := by simpa using h4
 have d5 : (k == 5) = false := by simpa using h5
 have d7 : (k == 7) = false := by simpa using h7
 clear h4 h5 h7 hk
 go_enter Tryz.func107,Tryz.ntmps107
 go_wp2_with fail;go_ret;exact ⟨rfl,hb⟩
def leafC (t : Tr) : List Value := [.int .i64 t.kind,.int .i64 t.n,.string t.s,.slice none 0 0,.slice none 0 0]
theorem leaf_any (tag wire n : Int) (b : ByteArray) (w : World) : Calls Tryz.prog 110 #[.agg #[.int .i64 tag,.int .i64 wire,.int .i64 n,.string b]] w fun e w' => e = .returned (.agg (leafC (leafD ⟨tag,wire,n,b⟩)).toArray) ∧ Below w.heap.size w w' := by
 by_cases h1 : wire = 1
 ·subst h1
  go_enter Tryz.func110,Tryz.ntmps110
  go_wp2_with fail;refine bodyPost_ret (results_cell rfl _ _ _ ⟨w.heap.size + 1,0,none⟩ (.agg #[.int .i64 2,.int .i64 0,.string b,.slice none 0 0,.slice none 0 0]) (by go_simp) (by go_simp)) rfl ⟨rfl,?_⟩
  repeat' first | exact Below.refl _ _ | refine Below.setCell ?_ (by simp) _ | refine Below.alloc ?_ (by simp) _
 ·have hl : leafD ⟨tag,wire,n,b⟩ = ⟨1,n,⟨#[]⟩,[],[]⟩ := by simp [leafD,h1]
  rw [hl]
  have d1 : (wire == 1) = false := by simpa using h1
  clear h1 hl
  go_enter Tryz.func110,Tryz.ntmps110
  go_wp2_with fail;refine bodyPost_ret (results_cell rfl _ _ _ ⟨w.heap.size + 1,0,none⟩ (.agg #[.int .i64 1,.int .i64 n,.string ⟨#[]⟩,.slice none 0 0,.slice none 0 0]) (by go_simp) (by go_simp)) rfl ⟨rfl,?_⟩
  repeat' first | exact Below.refl _ _ | refine Below.setCell ?_ (by simp) _ | refine Below.alloc ?_ (by simp) _
def set5 (w : World) (g o : Nat) (a b c d e : Value) : World := ((((w.setCell ⟨g,o,none⟩ a).setCell ⟨g,o + 1,none⟩ b).setCell ⟨g,o + 2,none⟩ c).setCell ⟨g,o + 3,none⟩ d).setCell ⟨g,o + 4,none⟩ e
theorem set5_kp (w : World) (g o : Nat) (a b c d e : Value) : Kp (fun q => q = g) w (set5 w g o a b c d e) := by
 unfold set5;refine Kp.setCell ?_ (fun _ => by simp) _;refine Kp.setCell ?_ (fun _ => by simp) _;refine Kp.setCell ?_ (fun _ => by simp) _;refine Kp.setCell ?_ (fun _ => by simp) _;refine Kp.setCell ?_ (fun _ => by simp) _;exact Kp.refl _ _
theorem valid_any (s : ByteArray) (w : World) (hs : s.size ≤ 140737488351232) :
  Calls Tryz.prog 109 #[.string s] w fun e w' => e = .returned (.bool (validB s.data.toList)) ∧ Below w.heap.size w w' := by
 go_enter Tryz.func109,Tryz.ntmps109
 go_wp2
 go_loopw [] (fun wr => ∃ (pos : Nat) (acc : List Nat),wr = w.iter s pos ∧ Hid (Gone s.data.toList pos acc)) (fun wr => s.size - wr.iterPos w.heap.size)
 case atStart => exact ⟨0,[],rfl,Gone.start _⟩
 case round =>
  obtain ⟨pos,acc,rfl,H⟩ := hrel
  by_cases hp : pos < s.size
  ·obtain ⟨c,k,hd,h1,h2⟩ := dec_at s pos hp
   have hnx : ∀ ty,(Instr.next (.pointer (some ⟨w.heap.size,0,none⟩)) true ty).run Tryz.prog (w.iter s pos) = .ok (.tuple #[.bool true,.int .i64 (pos : Int),.int .i32 (c : Int)]) (w.iter s (pos + k)) := by
    intro ty;have := run_next_any (P := Tryz.prog) w s pos ty hp;rw [hd] at this;exact this
   have H1 : Hid (standsB (s.data.toList.drop pos) c = true → nxL (s.data.toList.drop pos) = some (c,k)) := h1;have H2 : Hid (standsB (s.data.toList.drop pos) c = false → nxL (s.data.toList.drop pos) = none) := h2;clear hd h1 h2;go_wp2_with fail;refine (stands_any s _ _ _ hs (by omega) (by omega)).mono ?_;rintro e w' ⟨rfl,rfl⟩;rw [Int.toNat_natCast]
   cases hst : standsB (s.data.toList.drop pos) c with
   | false =>
    go_wp2
    go_ret;exact ⟨ret_bool (by unfold validB; rw [H.out.bad (by rw [len_data]; exact hp) (H2.out hst)]; rfl),below_iter _ _ _⟩
   | true =>
    have HN := H1.out hst;have hk : 1 ≤ k := (nxL_some _ _ _ HN).2.2.2.1;have HG : Hid (Gone s.data.toList (pos + k) (acc ++ [c])) := H.out.step HN;clear HN
    go_wp2
    go_roundw
    case rel => exact ⟨pos + k,acc ++ [c],rfl,HG⟩
    case measure => simp; omega
  ·have hnx : ∀ ty,(Instr.next (.pointer (some ⟨w.heap.size,0,none⟩)) true ty).run Tryz.prog (w.iter s pos) = _ := fun ty => run_next_end w s pos ty hp
   go_wp2
   go_ret;exact ⟨ret_bool (by unfold validB; rw [H.out.done (by rw [len_data]; omega)]; rfl),below_iter _ _ _⟩
end
section
open Go.RowKit
structure Kept (B : Nat) (w0 : World) where
 w : World
 below : Below B w0 w
theorem wp_region_qb {P : Program} {id : Nat} {Q : Exit → Act → World → Prop} {a : Act} {w : World} {l : List Oper} {B : Nat} {w0 : World} (h0 : Below B w0 w) (hm : P.follows .mixedOrders = true) (hB : Region.lexB .any l.toArray = true)
  (h : wpQuiet P l.toArray (fun w' => ∃ x : Kept B w0,w' = x.w) (fun a' => ∀ w',(∃ x : Kept B w0,w' = x.w) → Q .normal a' w') l a) : (Code.region id l.toArray true).wp P Q a w :=
 wp_region_quiet (C := fun w' => ∃ x : Kept B w0,w' = x.w) hm hB ⟨⟨_,h0.drew⟩,rfl⟩ (by simpa using h)
theorem nonempty_qb {B : Nat} {w0 w : World} (h0 : Below B w0 w) : Nonempty (Kept B w0) := ⟨⟨w,h0⟩⟩
theorem qb_call {P : Program} {f : FuncId} {args : Array Value} {B : Nat} {w0 : World} {x : Kept B w0} {v : Value}
  (h : ∀ W,Below B w0 W → Calls P f args W fun e W' => e = .returned v ∧ Below B w0 W') : Calls P f args x.w fun e w'' => e = .returned v ∧ ∃ y : Kept B w0,w'' = y.w :=
 (h _ x.below).mono fun _ W' h => ⟨h.1,⟨⟨W',h.2⟩,rfl⟩⟩
end
section
open Go.ChangeShapes Go.WideShapes Go.ChangeAt Go.RowKit
theorem getF_put0 (v p : Nat) (rest : List Nat) (hv : v < 18446744073709551616) : getF (digs v ++ rest) 0 0 p = (v,p + (digs v).length,0) := by
 rw [getF_digs v 0 0 p rest (by omega) (by omega) (by omega)]
 simp
theorem drop_pre (pre l : List Nat) : (pre ++ l).drop pre.length = l := List.drop_left
theorem drop_pre2 (pre l m : List Nat) (q : Nat) (hq : q = pre.length + l.length) : (pre ++ (l ++ m)).drop q = m := by
 rw [← List.append_assoc,hq,← List.length_append];exact List.drop_left
theorem next_put {r : Fd} (h : okF r = true) (hn : Is64 r.n) (pre rest : List Nat) : nextN (pre ++ (fieldN r ++ rest)) pre.length = (r,pre.length + (fieldN r).length,0) := by
 rcases ok_cases h hn with ⟨t,n,rfl,h1,h2,h3⟩ | ⟨t,b,rfl,h1,h2,h3⟩
 ·have hz := zigN_bd n h3.1 h3.2;have hzz : ((zigN n).toNat : Int) = zigN n := Int.toNat_of_nonneg hz.1;rw [fieldN_num]
  have g1 : getF ((pre ++ (digs (2 * t) ++ digs (zigN n).toNat ++ rest)).drop pre.length) 0 0 pre.length = (2 * t,pre.length + (digs (2 * t)).length,0) := by
   rw [drop_pre,List.append_assoc]; exact getF_put0 _ _ _ (by omega)
  have g2 : getF ((pre ++ (digs (2 * t) ++ digs (zigN n).toNat ++ rest)).drop (pre.length + (digs (2 * t)).length)) 0 0 (pre.length + (digs (2 * t)).length) = ((zigN n).toNat,pre.length + (digs (2 * t)).length + (digs (zigN n).toNat).length,0) := by
   rw [List.append_assoc,drop_pre2 pre _ _ _ rfl]; exact getF_put0 _ _ _ (by omega)
  rw [next_num g1 (by omega) g2 (by omega),hzz,zag_zig,show 2 * t / 2 = t by omega,List.length_append,Nat.add_assoc]
 ·rw [fieldN_text]
  have g1 : getF ((pre ++ (digs (2 * t + 1) ++ (digs b.size ++ bytesN b) ++ rest)).drop pre.length) 0 0 pre.length = (2 * t + 1,pre.length + (digs (2 * t + 1)).length,0) := by
   rw [drop_pre,List.append_assoc]; exact getF_put0 _ _ _ (by omega)
  have g2 : getF ((pre ++ (digs (2 * t + 1) ++ (digs b.size ++ bytesN b) ++ rest)).drop (pre.length + (digs (2 * t + 1)).length)) 0 0 (pre.length + (digs (2 * t + 1)).length) = (b.size,pre.length + (digs (2 * t + 1)).length + (digs b.size).length,0) := by
   rw [List.append_assoc,drop_pre2 pre _ _ _ rfl,List.append_assoc]; exact getF_put0 _ _ _ (by omega)
  have hd : (pre ++ (digs (2 * t + 1) ++ (digs b.size ++ bytesN b) ++ rest)).drop (pre.length + (digs (2 * t + 1)).length + (digs b.size).length) = bytesN b ++ rest := by
   have e : pre ++ (digs (2 * t + 1) ++ (digs b.size ++ bytesN b) ++ rest) = (pre ++ digs (2 * t + 1)) ++ (digs b.size ++ (bytesN b ++ rest)) := by simp
   rw [e,drop_pre2 _ _ _ _ (by rw [List.length_append])]
  rw [next_text g1 (by omega) g2 (by omega) (by simp [bytesN_len]; omega),hd]
  have ht : (bytesN b ++ rest).take b.size = bytesN b := by rw [← bytesN_len b]; exact List.take_left
  rw [ht,strN_bytesN,show (2 * t + 1) / 2 = t by omega,List.length_append,List.length_append,bytesN_len];simp only [Prod.mk.injEq,true_and,and_true]
  omega
theorem getA_skip : ∀ (rs : List Fd) (pre tail : List Nat),(∀ r ∈ rs,okF r = true) → (∀ r ∈ rs,Is64 r.n) → (∀ n ∈ pre ++ (flatN rs ++ tail),n < 256) →
  getA (pre ++ (flatN rs ++ tail)) pre.length = joinA rs (getA (pre ++ (flatN rs ++ tail)) (pre.length + (flatN rs).length))
 | [],pre,tail,_,_,hb => by
  rw [flatN_nil,List.length_nil,Nat.add_zero,joinA_nil _ (getA_nil _ _)]
 | r :: rs,pre,tail,ho,hn,hb => by
  have hr := ho r (by simp);have hr64 := hn r (by simp);have hl := (fieldN_len hr hr64).1
  have e : pre ++ (flatN (r :: rs) ++ tail) = pre ++ (fieldN r ++ (flatN rs ++ tail)) := by rw [flatN_cons,List.append_assoc]
  have e2 : pre ++ (fieldN r ++ (flatN rs ++ tail)) = (pre ++ fieldN r) ++ (flatN rs ++ tail) := by rw [List.append_assoc]
  have hx := next_put hr hr64 pre (flatN rs ++ tail);rw [e] at hb ⊢;rw [getA_on (by simp; omega) hx hb];have ih := getA_skip rs (pre ++ fieldN r) tail (fun x hx => ho x (by simp [hx])) (fun x hx => hn x (by simp [hx])) (by rw [← e2]; exact hb);rw [← e2,List.length_append] at ih;rw [ih,joinA_join,List.singleton_append,flatN_cons,List.length_append,Nat.add_assoc]
theorem getL_put {rs : List Fd} (ho : rs.all okF = true) (hn : ∀ r ∈ rs,Is64 r.n) (hl : (flatN rs).length ≤ 4096) : getL (flatN rs) = (rs,0) := by
 have := getA_skip rs [] [] (List.all_eq_true.1 ho) hn (by simpa using flatN_lt rs);simp only [List.nil_append,List.append_nil,List.length_nil,Nat.zero_add] at this;rw [getL,if_neg (by omega),this,getA_end (Nat.le_refl _),joinA,if_pos rfl,List.append_nil]
theorem getF_inv : ∀ (l : List Nat) (i acc p v q : Nat),getF l i acc p = (v,q,0) → (∀ n ∈ l,n < 256) → ∃ u rest,l = digs u ++ rest ∧ v = acc + u * 128 ^ i ∧ q = p + i + (digs u).length ∧ (0 < i → 0 < u)
 | [],i,acc,p,v,q,hg,_ => by simp [getF] at hg
 | c :: r,i,acc,p,v,q,hg,hb => by
  have hc := hb c (by simp)
  by_cases h9 : i = 9 ∧ 1 < c
  ·rw [getF_ten r acc p h9.1 h9.2] at hg; simp at hg
  ·by_cases h1 : 128 ≤ c
   ·rw [getF_on r acc p h9 h1] at hg;obtain ⟨u,rest,rfl,rfl,rfl,hu⟩ := getF_inv r (i + 1) _ p v q hg (fun n hn => hb n (by simp [hn]));have hu0 := hu (by omega);refine ⟨c % 128 + 128 * u,rest,?_,?_,?_,fun _ => by omega⟩
    ·rw [digs_big (v := c % 128 + 128 * u) (by omega),show (c % 128 + 128 * u) % 128 + 128 = c by omega,show (c % 128 + 128 * u) / 128 = u by omega]
     rfl
    ·rw [Nat.pow_succ,Nat.add_mul,Nat.add_assoc]
     congr 2
     rw [Nat.mul_comm 128 u,Nat.mul_assoc,Nat.mul_comm 128]
    ·rw [digs_big (v := c % 128 + 128 * u) (by omega),show (c % 128 + 128 * u) / 128 = u by omega,List.length_cons]
     omega
   ·by_cases h0 : c = 0 ∧ 0 < i
    ·rw [getF_zero r acc p h9 h0.1 h0.2] at hg; simp at hg
    ·rw [getF_end r acc p h9 (by omega) h0] at hg;simp only [Prod.mk.injEq,and_true] at hg;obtain ⟨rfl,rfl⟩ := hg;refine ⟨c,r,?_,rfl,?_,fun hi => by omega⟩
     ·rw [digs_small (by omega)]; rfl
     ·rw [digs_small (by omega)]; simp
theorem getF_at_inv {ns : List Nat} {p v q : Nat} (hg : getF (ns.drop p) 0 0 p = (v,q,0)) (hb : ∀ n ∈ ns,n < 256) : ns.drop p = digs v ++ ns.drop q ∧ q = p + (digs v).length := by
 obtain ⟨u,rest,hl,hv,hq, -⟩ := getF_inv _ 0 0 p v q hg (fun n hn => hb n (List.mem_of_mem_drop hn));simp only [Nat.pow_zero,Nat.mul_one,Nat.zero_add,Nat.add_zero] at hv hq;subst hv
 have hd : ns.drop q = rest := by
  rw [hq,← List.drop_drop,hl];exact List.drop_left
 rw [hd];exact ⟨hl,hq⟩
theorem next_inv {ns : List Nat} {p q : Nat} {r : Fd} (hx : nextN ns p = (r,q,0)) (hb : ∀ n ∈ ns,n < 256) (hp : p ≤ ns.length) (hl : ns.length ≤ 4096) : okF r = true ∧ Is64 r.n ∧ ns.drop p = fieldN r ++ ns.drop q := by
 obtain ⟨⟨h,q1,e1⟩,g1⟩ : ∃ x,getF (ns.drop p) 0 0 p = x := ⟨_,rfl⟩
 by_cases he1 : e1 = 0
 ·subst he1
  by_cases ht : h / 2 = 0 ∨ 500 < h / 2
  ·rw [next_tag g1 ht] at hx; simp at hx
  ·have b1 := getF_at_bd g1 hb hp;have i1 := getF_at_inv g1 hb;obtain ⟨⟨v,q2,e2⟩,g2⟩ : ∃ x,getF (ns.drop q1) 0 0 q1 = x := ⟨_,rfl⟩
   by_cases he2 : e2 = 0
   ·subst he2;have b2 := getF_at_bd g2 hb (by omega);have i2 := getF_at_inv g2 hb
    by_cases hw : h % 2 = 0
    ·rw [next_num g1 ht g2 hw] at hx;simp only [Prod.mk.injEq,and_true] at hx;obtain ⟨rfl,rfl⟩ := hx;have hz := zagN_bd v (by omega) (by omega);refine ⟨?_,hz,?_⟩
     ·unfold okF okV;rw [(toList_empty _).2 rfl]
      simp
      omega
     ·rw [fieldN_num,zig_zag v (by omega),show 2 * (h / 2) = h by omega,Int.toNat_natCast,i1.1,i2.1,List.append_assoc]
    ·by_cases hv : ns.length - q2 < v
     ·rw [next_short g1 ht g2 hw hv] at hx; simp at hx
     ·rw [next_text g1 ht g2 hw (by omega)] at hx;simp only [Prod.mk.injEq,and_true] at hx;obtain ⟨rfl,rfl⟩ := hx
      have hlen : ((ns.drop q2).take v).length = v := by simp; omega
      have hsz : (strN ((ns.drop q2).take v)).size = v := by rw [strN_size,hlen]
      refine ⟨?_,by unfold Is64; simp,?_⟩
      ·unfold okF okV
       simp [hsz]
       omega
      ·rw [fieldN_text,hsz,bytesN_strN _ (fun n hn => hb n (List.mem_of_mem_drop (List.mem_of_mem_take hn))),show 2 * (h / 2) + 1 = h by omega,i1.1,i2.1];simp only [List.append_assoc];rw [← List.drop_drop,List.take_append_drop]
   ·rw [next_e2 g1 ht g2 he2] at hx; simp at hx; omega
 ·rw [next_e1 g1 he1] at hx; simp at hx; omega
theorem getA_inv {ns : List Nat} (hb : ∀ n ∈ ns,n < 256) (hl : ns.length ≤ 4096) : ∀ k p rs,ns.length - p ≤ k → p ≤ ns.length → getA ns p = (rs,0) → (∀ r ∈ rs,okF r = true ∧ Is64 r.n) ∧ flatN rs = ns.drop p
 | 0,p,rs,hk,hp,h => by
  rw [getA_end (by omega)] at h;obtain rfl : [] = rs := (Prod.mk.inj h).1;exact ⟨by simp,by rw [List.drop_of_length_le (by omega),flatN_nil]⟩
 | k + 1,p,rs,hk,hp,h => by
  by_cases hlt : p < ns.length
  ·obtain ⟨⟨r,q,e⟩,hx⟩ : ∃ x,nextN ns p = x := ⟨_,rfl⟩
   by_cases he : e = 0
   ·subst he;have hq := nextN_bd hx hb hp;have hi := next_inv hx hb hp hl;rw [getA_on hlt hx hb,joinA] at h
    split at h <;> rename_i h2
    ·obtain rfl : [r] ++ (getA ns q).1 = rs := (Prod.mk.inj h).1;have ih := getA_inv hb hl k q (getA ns q).1 (by omega) hq.2 (Prod.ext rfl h2);refine ⟨?_,?_⟩
     ·intro x hx
      rcases List.mem_append.1 hx with hx | hx
      ·obtain rfl : x = r := by simpa using hx
       exact ⟨hi.1,hi.2.1⟩
      ·exact ih.1 x hx
     ·rw [flatN_app,flatN_cons,flatN_nil,List.append_nil,ih.2,hi.2.2]
    ·exact absurd (Prod.mk.inj h).2 h2
   ·rw [getA_err hlt hx he] at h;exact absurd (Prod.mk.inj h).2 he
  ·rw [getA_end (by omega)] at h;obtain rfl : [] = rs := (Prod.mk.inj h).1;exact ⟨by simp,by rw [List.drop_of_length_le (by omega),flatN_nil]⟩
theorem putL_get {ns : List Nat} (hb : ∀ n ∈ ns,n < 256) {rs : List Fd} (h : getL ns = (rs,0)) : putL rs = (ns,0) ∧ (∀ r ∈ rs,Is64 r.n) := by
 rw [getL] at h
 split at h
 ·simp at h
 ·rename_i hl
  have hi := getA_inv hb (by omega) ns.length 0 rs (by omega) (by omega) h;rw [List.drop_zero] at hi;refine ⟨?_,fun r hr => (hi.1 r hr).2⟩;rw [putL_ok (List.all_eq_true.2 fun r hr => (hi.1 r hr).1) (by rw [hi.2]; omega),hi.2]
def DtrP (n : Nat) (R : Tr × Int) (w : World) (e : Ending) (w' : World) : Prop :=
 ∃ r bs,e = .returned (.tuple #[.agg r.toArray,.int .i64 R.2]) ∧ TrO n w.heap.size w' r R.1 bs ∧ Apt w.heap.size w' bs ∧ Below w.heap.size w w'
theorem kept_cellD {w : World} {a : Addr} {u : Value} (h : w.cell? a = some u) (x : Kept w.heap.size w) : x.w.cell? a = some u := by
 rw [x.below.cell (World.block_lt_of_cell? _ _ h)]; exact h
def ByS (w : World) (v : Value) (ns : List Nat) : Prop := ∃ a cap,v = .slice a ns.length cap ∧ Holds w a ns ∧ (∀ n ∈ ns,n < 256) ∧ ns.length ≤ cap ∧ cap ≤ maxLen ∧ (ns = [] ∨ ∃ g off,a = some ⟨g,off,none⟩)
theorem ByS.below {w w' : World} {v : Value} {ns : List Nat} (h : ByS w v ns) (hb : Below w.heap.size w w') : ByS w' v ns := by
 obtain ⟨a,cap,h1,h2,h3⟩ := h;exact ⟨a,cap,h1,h2.below hb,h3⟩
theorem is64_0 : Is64 0 := by unfold Is64; omega
theorem is64_1 : Is64 1 := by unfold Is64; omega
theorem is64_2 : Is64 2 := by unfold Is64; omega
theorem TrO.leafO (n B : Nat) (W : World) (t : Tr) (he : t.es = []) (hr : t.rest = []) (h1 : Is64 t.kind) (h2 : Is64 t.n) (h3 : t.s.size ≤ 140737488351232) : TrO (n + 1) B W [.int .i64 t.kind,.int .i64 t.n,.string t.s,.slice none 0 0,.slice none 0 0] t [] := by
 refine ⟨.slice none 0 0,.slice none 0 0,[],[],rfl,h1,h2,h3,(by rw [hr]; intro f hf; cases hf),(by rw [hr]; exact World.ownsRow_nil _ _ _ _),(by rw [he]; exact RowO.nil _ _ _ _ _),rfl⟩
theorem TrO.zeroO (n B : Nat) (W : World) : TrO (n + 1) B W [.int .i64 0,.int .i64 0,.string ⟨#[]⟩,.slice none 0 0,.slice none 0 0] tr0 [] := TrO.leafO n B W tr0 rfl rfl is64_0 is64_0 (by decide)
theorem DtrP.done {n b : Nat} {w W : World} {R : Tr × Int} {x0 x1 x2 x3 x4 : Value} {bs : List Nat} {y : Int} (hB : Below w.heap.size w W) (hb : w.heap.size ≤ b) (ht : TrO n w.heap.size W [x0,x1,x2,x3,x4] R.1 bs) (hap : Apt w.heap.size W bs) (hn : b ∉ bs) (hy : R.2 = y) :
  DtrP n R w (.returned (.tuple #[.agg #[x0,x1,x2,x3,x4],.int .i64 y])) (set5 W b 0 x0 x1 x2 x3 x4) := by
 have hk := set5_kp W b 0 x0 x1 x2 x3 x4;subst hy;refine ⟨_,bs,rfl,ht.sm (hk.sm fun k hk' => ⟨(hap.2 k hk').2,fun e => hn (e ▸ hk')⟩),hap.mono hk.size,?_⟩;exact hB.trans (hk.toBelow hB.size fun k e => e ▸ hb)
theorem conv_bytes (W : World) (S : ByteArray) (hS : S.size ≤ 140737488351232) : ∃ cap WB,(convert 9 27 (.string S)).run Tryz.prog W = .ok (.slice (some ⟨W.heap.size,0,none⟩) S.size cap) WB ∧ ByS WB (.slice (some ⟨W.heap.size,0,none⟩) S.size cap) (bytesN S) ∧ Below W.heap.size W WB := by
 have hm : S.size ≤ maxLen := by unfold maxLen; omega
 refine ⟨_,_,Lib.run_convert_string_bytes W 9 27 5 S Tryz.underlying9 Tryz.underlying27 Tryz.underlying5,⟨some ⟨W.heap.size,0,none⟩,_,by rw [bytesN_len],?_,bytesN_lt S,by rw [bytesN_len]; exact grownCap_ge _ _ _ _,grownCap_le_maxLen _ _ _ _ hm,.inr ⟨_,_,rfl⟩⟩,?_⟩
 ·refine Holds.of fun j hj => ?_
  rw [bytesN_len] at hj;rw [Nat.zero_add];refine (Lib.bytesWorld_cell W _ S j hj).trans ?_
  have hj' : j < S.data.toList.length := by simpa using hj
  have hj2 : j < (bytesN S).length := by rw [bytesN_len]; exact hj
  simp [bytesN,List.getD,List.getElem?_eq_getElem hj',List.getElem?_eq_getElem hj2]
 ·exact ⟨rfl,rfl,rfl,by rw [Lib.bytesWorld_size]; omega,fun k hk => Lib.bytesWorld_at_old W _ S k hk⟩
theorem dblk4 (w : World) (c1 c2 c3 c4 : Array Value) (t1 t2 t3 t4 : TypeId) : Blk ((((w.alloc (Obj.cells c1 t1)).alloc (Obj.cells c2 t2)).alloc (Obj.cells c3 t3)).alloc (Obj.cells c4 t4)) w.heap.size c1 t1 ∧ Blk ((((w.alloc (Obj.cells c1 t1)).alloc (Obj.cells c2 t2)).alloc (Obj.cells c3 t3)).alloc (Obj.cells c4 t4)) (w.heap.size + 1) c2 t2 ∧ Blk ((((w.alloc (Obj.cells c1 t1)).alloc (Obj.cells c2 t2)).alloc (Obj.cells c3 t3)).alloc (Obj.cells c4 t4)) (w.heap.size + 2) c3 t3 ∧ Blk ((((w.alloc (Obj.cells c1 t1)).alloc (Obj.cells c2 t2)).alloc (Obj.cells c3 t3)).alloc (Obj.cells c4 t4)) (w.heap.size + 3) c4 t4 ∧ Below w.heap.size w ((((w.alloc (Obj.cells c1 t1)).alloc (Obj.cells c2 t2)).alloc (Obj.cells c3 t3)).alloc (Obj.cells c4 t4)) := by
 have s1 : (w.alloc (Obj.cells c1 t1)).heap.size = w.heap.size + 1 := by simp
 have s2 : ((w.alloc (Obj.cells c1 t1)).alloc (Obj.cells c2 t2)).heap.size = w.heap.size + 2 := by simp
 have s3 : (((w.alloc (Obj.cells c1 t1)).alloc (Obj.cells c2 t2)).alloc (Obj.cells c3 t3)).heap.size = w.heap.size + 3 := by simp
 have al : ∀ (W : World) (x : Obj),Below W.heap.size W (W.alloc x) := fun W x => bra _
 have b1 := Blk.new w c1 t1;have b2 := Blk.new (w.alloc (Obj.cells c1 t1)) c2 t2;have b3 := Blk.new ((w.alloc (Obj.cells c1 t1)).alloc (Obj.cells c2 t2)) c3 t3;have b4 := Blk.new (((w.alloc (Obj.cells c1 t1)).alloc (Obj.cells c2 t2)).alloc (Obj.cells c3 t3)) c4 t4;rw [s1] at b2;rw [s2] at b3;rw [s3] at b4;refine ⟨((b1.below (al _ _)).below (al _ _)).below (al _ _),(b2.below (al _ _)).below (al _ _),b3.below (al _ _),b4,?_⟩;exact ((((Below.refl _ w).alloc (Nat.le_refl _) _).alloc (by omega) _).alloc (by omega) _).alloc (by omega) _
theorem dtree_step (s : ScS) (sn : ByteArray) (ma ea ta : Option Addr) (mn mc en ec tn tc : Nat) (d n : Nat) (hd : d + n = 10)
  (IH : d < 10 → ∀ nm v ns w,ByS w v ns → ScIn w (.agg #[.string sn,.slice ma mn mc,.slice ea en ec,.slice ta tn tc]) s → Calls Tryz.prog 31 #[.agg #[.string sn,.slice ma mn mc,.slice ea en ec,.slice ta tn tc],.string nm,v,.int .i64 ((d : Int) + 1)] w (DtrP (n + 1) (decM n s nm ns) w))
  (f : FlS) (r : Fd) (w : World) (hs : ScIn w (.agg #[.string sn,.slice ma mn mc,.slice ea en ec,.slice ta tn tc]) s) (h64 : Is64 r.n) (hsz : r.b.size ≤ 140737488351232) :
  Calls Tryz.prog 59 #[.agg #[.string sn,.slice ma mn mc,.slice ea en ec,.slice ta tn tc],.agg #[.int .i64 f.kind,.string f.tname],.agg #[.int .i64 r.tag,.int .i64 r.wire,.int .i64 r.n,.string r.b],.int .i64 (d : Int)] w (DtrP (n + 1) (treeD (decM n s) f r) w) := by
 obtain ⟨k,hk⟩ : ∃ z,f.kind = z := ⟨_,rfl⟩;obtain ⟨tnm,htnm⟩ : ∃ z,f.tname = z := ⟨_,rfl⟩;obtain ⟨rt,hrt⟩ : ∃ z,r.tag = z := ⟨_,rfl⟩;obtain ⟨rw',hrw⟩ : ∃ z,r.wire = z := ⟨_,rfl⟩;obtain ⟨rn,hrn⟩ : ∃ z,r.n = z := ⟨_,rfl⟩;obtain ⟨rb,hrb⟩ : ∃ z,r.b = z := ⟨_,rfl⟩;obtain ⟨R,hR⟩ : ∃ R,treeD (decM n s) f r = R := ⟨_,rfl⟩
 have HV : Hid ((if rw' ≠ wirK k then (tr0,8) else if (k = 3 ∨ k = 6) ∧ nmrB k rn = false then (tr0,11) else if k = 4 ∧ validB rb.data.toList = false then (tr0,9) else if k = 7 then decM n s tnm (bytesN rb) else (leafD r,0)) = R) := hid (by
  have := hR; simp only [treeD,hk,htnm,hrw,hrn,hrb] at this; exact this)
 rw [hR,hk,htnm,hrt,hrw,hrn,hrb];obtain ⟨T,hT⟩ : ∃ T,leafD r = T := ⟨_,rfl⟩
 have HLF : Hid (∀ W,Calls Tryz.prog 110 #[.agg #[.int .i64 rt,.int .i64 rw',.int .i64 rn,.string rb]] W fun e w' => e = .returned (.agg #[.int .i64 T.kind,.int .i64 T.n,.string T.s,.slice none 0 0,.slice none 0 0]) ∧ Below W.heap.size W w') := fun W => by
  have h1 := leaf_any r.tag r.wire r.n r.b W;have h2 : leafD ⟨r.tag,r.wire,r.n,r.b⟩ = T := hT;rw [h2,hrt,hrw,hrn,hrb] at h1;exact h1
 have HTO : Hid (∀ W B,TrO (n + 1) B W [.int .i64 T.kind,.int .i64 T.n,.string T.s,.slice none 0 0,.slice none 0 0] T []) := hid (fun W B => by
  rw [← hT]
  by_cases h1 : r.wire = 1
  ·have e : leafD r = ⟨2,0,r.b,[],[]⟩ := by simp [leafD,h1]
   rw [e];exact TrO.leafO n B W ⟨2,0,r.b,[],[]⟩ rfl rfl is64_2 is64_0 hsz
  ·have e : leafD r = ⟨1,r.n,⟨#[]⟩,[],[]⟩ := by simp [leafD,h1]
   rw [e]
   exact TrO.leafO n B W ⟨1,r.n,⟨#[]⟩,[],[]⟩ rfl rfl is64_1 h64 (show (0 : Nat) ≤ 140737488351232 by omega))
 rw [hT] at HV;rw [hrb] at hsz;have HS : Hid (ScIn w (.agg #[.string sn,.slice ma mn mc,.slice ea en ec,.slice ta tn tc]) s) := hs;have HI : Hid (d < 10 → ∀ nm v ns w,ByS w v ns → ScIn w (.agg #[.string sn,.slice ma mn mc,.slice ea en ec,.slice ta tn tc]) s → Calls Tryz.prog 31 #[.agg #[.string sn,.slice ma mn mc,.slice ea en ec,.slice ta tn tc],.string nm,v,.int .i64 ((d : Int) + 1)] w (DtrP (n + 1) (decM n s nm ns) w)) := IH
 have hd10 : d ≤ 10 := by omega
 have HD : Hid (d + n = 10) := hd;have HSZ : Hid (rb.size ≤ 140737488351232) := hsz;generalize rw' = rw at *;clear hk htnm hrt hrw hrn hrb hR hT hs IH h64 hsz hd;obtain ⟨BS,BY,BR,BT,hbw⟩ := dblk4 w #[.string sn,.slice ma mn mc,.slice ea en ec,.slice ta tn tc] #[.int .i64 k,.string tnm] #[.int .i64 rt,.int .i64 rw,.int .i64 rn,.string rb] #[.int .i64 0,.int .i64 0,.string ⟨#[]⟩,.slice none 0 0,.slice none 0 0] 26 56 61 33;obtain ⟨wk,hwk⟩ : ∃ z,wirK k = z := ⟨_,rfl⟩
 have HKC : Hid (∀ W,Calls Tryz.prog 107 #[.agg #[.int .i64 k,.string tnm]] W fun e w' => e = .returned (.int .i64 wk) ∧ Below W.heap.size W w') := fun W => by
  have h1 := wireOf_any k tnm W;rw [hwk] at h1;exact h1
 rw [hwk] at HV;clear hwk
 go_enter Tryz.func59,Tryz.ntmps59
 go_wp2_with fail;obtain ⟨b0,hb0⟩ : ∃ z,w.heap.size = z := ⟨_,rfl⟩;have HBZ : Hid (w.heap.size = b0) := hb0;generalize ((((w.alloc (Obj.cells #[.string sn,.slice ma mn mc,.slice ea en ec,.slice ta tn tc] 26)).alloc (Obj.cells #[.int .i64 k,.string tnm] 56)).alloc (Obj.cells #[.int .i64 rt,.int .i64 rw,.int .i64 rn,.string rb] 61)).alloc (Obj.cells #[.int .i64 0,.int .i64 0,.string ⟨#[]⟩,.slice none 0 0,.slice none 0 0] 33)) = WA at *;rw [hb0] at BS BY BR BT;simp only [hb0];clear hb0;obtain ⟨y0,y1⟩ := cl2 BY;have q1 := (BR.cell 1).trans rfl;have k0 := kept_cellD y0;have k1 := kept_cellD y1;have k2 := kept_cellD q1;clear y0 y1 q1
 have HKD : Hid (∀ W1,Below WA.heap.size WA W1 → Calls Tryz.prog 107 #[.agg #[.int .i64 k,.string tnm]] W1 fun e w' => e = .returned (.int .i64 wk) ∧ Below WA.heap.size WA w') := fun W1 hW1 => by
  refine (HKC.out W1).mono ?_;rintro e W' ⟨rfl,hb⟩;exact ⟨rfl,hW1.trans (hb.mono hW1.size)⟩
 have HBT : Hid (Blk WA (b0 + 3) #[.int .i64 0,.int .i64 0,.string ⟨#[]⟩,.slice none 0 0,.slice none 0 0] 33) := BT
 have FIN : Hid (∀ (W : World) (x0 x1 x2 x3 x4 : Value) (bs : List Nat) (y : Int),Below WA.heap.size WA W → TrO (n + 1) w.heap.size W [x0,x1,x2,x3,x4] R.1 bs → Apt w.heap.size W bs → b0 + 3 ∉ bs → R.2 = y → DtrP (n + 1) R w (.returned (.tuple #[.agg #[x0,x1,x2,x3,x4],.int .i64 y])) (set5 W (b0 + 3) 0 x0 x1 x2 x3 x4)) := fun W x0 x1 x2 x3 x4 bs y hW h1 h2 h3 h4 =>
  DtrP.done (hbw.trans (hW.mono hbw.size)) (by have := HBZ.out; omega) h1 h2 h3 h4
 have ZFIN : Hid (∀ (W : World) (y : Int),Below WA.heap.size WA W → R = (tr0,y) → DtrP (n + 1) R w (.returned (.tuple #[.agg #[.int .i64 0,.int .i64 0,.string ⟨#[]⟩,.slice none 0 0,.slice none 0 0],.int .i64 y])) (set5 W (b0 + 3) 0 (.int .i64 0) (.int .i64 0) (.string ⟨#[]⟩) (.slice none 0 0) (.slice none 0 0))) := fun W y hW hR =>
  FIN.out W _ _ _ _ _ [] y hW (by rw [hR]; exact TrO.zeroO n _ W) (Apt.nil _ _) (by simp) (by rw [hR])
 haveI := nonempty_qb (Below.refl WA.heap.size WA)
 refine wp_region_qb (Below.refl WA.heap.size WA) (by kernel_rfl) (by kernel_rfl) ?_
 repeat (go_big_quiet_step (first | (go_at_call 107; exact qb_call HKD.out)))
 refine wpQuiet_nil ?_;rintro W1 ⟨⟨_,hW1⟩,rfl⟩;clear k0 k1 k2 HKD HKC;have BS1 := BS.below hW1;obtain ⟨s0,s1,s2,s3⟩ := cl4 BS1;clear BS1;have BY1 := BY.below hW1;obtain ⟨y0,y1⟩ := cl2 BY1;clear BY1;have BR1 := BR.below hW1;obtain ⟨q0,q1,q2,q3⟩ := cl4 BR1;clear BR1;have BT1 := BT.below hW1;obtain ⟨t0,t1,t2,t3,t4⟩ := cl5 BT1;obtain ⟨z0,z1,z2,z3,z4⟩ := fz5 BT1;clear BT1
 by_cases hne : rw = wk
 rotate_left
 ·have hq : (rw != wk) = true := by simpa using hne
  have HX : Hid (R = (tr0,8)) := hid (by rw [← HV.out,if_pos hne]);clear hne;go_wp2_with fail;refine bodyPost_ret (results_two rfl _ _ _ ⟨b0 + 3,0,none⟩ (.agg #[.int .i64 0,.int .i64 0,.string ⟨#[]⟩,.slice none 0 0,.slice none 0 0]) (by go_simp) (by go_simp)) rfl ?_;exact ZFIN.out W1 _ hW1 HX.out
 have hq : (rw != wk) = false := by simpa using hne
 have HV2 : Hid ((if (k = 3 ∨ k = 6) ∧ nmrB k rn = false then (tr0,11) else if k = 4 ∧ validB rb.data.toList = false then (tr0,9) else if k = 7 then decM n s tnm (bytesN rb) else (T,0)) = R) := hid (by have := HV.out; rwa [if_neg (by simpa using hne)] at this);clear hne HV
 by_cases hk3 : k = 3
 ·subst hk3
  cases hR : nmrB 3 rn with
  | false =>
   have HX : Hid (R = (tr0,11)) := hid (by rw [← HV2.out,if_pos ⟨by decide,hR⟩]);have HN : Hid (Calls Tryz.prog 108 #[.agg #[.int .i64 3,.string tnm],.int .i64 rn] W1 fun e w' => e = .returned (.bool false) ∧ Below W1.heap.size W1 w') := (by have h1 := number_any 3 rn tnm W1; rw [hR] at h1; exact h1 : Calls Tryz.prog _ _ W1 _);clear hR;go_wp2_with fail;refine HN.out.mono ?_;rintro e W2 ⟨rfl,hb2⟩;have hW2 : Below WA.heap.size WA W2 := hW1.trans (hb2.mono hW1.size);clear HN hb2;clear s0 s1 s2 s3 y0 y1 q0 q1 q2 q3 t0 t1 t2 t3 t4 z0 z1 z2 z3 z4;have BR2 := BR.below hW2;obtain ⟨q0,q1,q2,q3⟩ := cl4 BR2;clear BR2;have BY2 := BY.below hW2;obtain ⟨y0,y1⟩ := cl2 BY2;clear BY2;have BT2 := BT.below hW2;obtain ⟨t0,t1,t2,t3,t4⟩ := cl5 BT2;obtain ⟨z0,z1,z2,z3,z4⟩ := fz5 BT2;clear BT2;go_wp2_with fail;refine bodyPost_ret (results_two rfl _ _ _ ⟨b0 + 3,0,none⟩ (.agg #[.int .i64 0,.int .i64 0,.string ⟨#[]⟩,.slice none 0 0,.slice none 0 0]) (by go_simp) (by go_simp)) rfl ?_;exact ZFIN.out W2 _ hW2 HX.out
  | true =>
   have HX : Hid (R = (T,0)) := hid (by rw [← HV2.out,if_neg (by rw [hR]; simp),if_neg (by simp),if_neg (by decide)]);have HN : Hid (Calls Tryz.prog 108 #[.agg #[.int .i64 3,.string tnm],.int .i64 rn] W1 fun e w' => e = .returned (.bool true) ∧ Below W1.heap.size W1 w') := (by have h1 := number_any 3 rn tnm W1; rw [hR] at h1; exact h1 : Calls Tryz.prog _ _ W1 _);clear hR;go_wp2_with fail;refine HN.out.mono ?_;rintro e W2 ⟨rfl,hb2⟩;have hW2 : Below WA.heap.size WA W2 := hW1.trans (hb2.mono hW1.size);clear HN hb2;clear s0 s1 s2 s3 y0 y1 q0 q1 q2 q3 t0 t1 t2 t3 t4 z0 z1 z2 z3 z4;have BR2 := BR.below hW2;obtain ⟨q0,q1,q2,q3⟩ := cl4 BR2;clear BR2;have BY2 := BY.below hW2;obtain ⟨y0,y1⟩ := cl2 BY2;clear BY2;have BT2 := BT.below hW2;obtain ⟨t0,t1,t2,t3,t4⟩ := cl5 BT2;obtain ⟨z0,z1,z2,z3,z4⟩ := fz5 BT2;clear BT2;have HLW : Hid (Calls Tryz.prog 110 #[.agg #[.int .i64 rt,.int .i64 rw,.int .i64 rn,.string rb]] W2 fun e w' => e = .returned (.agg #[.int .i64 T.kind,.int .i64 T.n,.string T.s,.slice none 0 0,.slice none 0 0]) ∧ Below W2.heap.size W2 w') := HLF.out W2;go_wp2_with fail;refine HLW.out.mono ?_;rintro e W5 ⟨rfl,hb5⟩;have hW5 : Below WA.heap.size WA W5 := hW2.trans (hb5.mono hW2.size);clear hb5 HLW;clear q0 q1 q2 q3 y0 y1 t0 t1 t2 t3 t4 z0 z1 z2 z3 z4;have BT5 := BT.below hW5;obtain ⟨t0,t1,t2,t3,t4⟩ := cl5 BT5;obtain ⟨z0,z1,z2,z3,z4⟩ := fz5 BT5;clear BT5;go_wp2_with fail;refine bodyPost_ret (results_two rfl _ _ _ ⟨b0 + 3,0,none⟩ (.agg #[.int .i64 T.kind,.int .i64 T.n,.string T.s,.slice none 0 0,.slice none 0 0]) (by go_simp) (by go_simp)) rfl ?_;exact FIN.out W5 _ _ _ _ _ [] _ hW5 (by rw [HX.out]; exact HTO.out _ _) (Apt.nil _ _) (by simp) (by rw [HX.out])
 by_cases hk6 : k = 6
 ·subst hk6
  cases hR : nmrB 6 rn with
  | false =>
   have HX : Hid (R = (tr0,11)) := hid (by rw [← HV2.out,if_pos ⟨by decide,hR⟩]);have HN : Hid (Calls Tryz.prog 108 #[.agg #[.int .i64 6,.string tnm],.int .i64 rn] W1 fun e w' => e = .returned (.bool false) ∧ Below W1.heap.size W1 w') := (by have h1 := number_any 6 rn tnm W1; rw [hR] at h1; exact h1 : Calls Tryz.prog _ _ W1 _);clear hR;go_wp2_with fail;refine HN.out.mono ?_;rintro e W2 ⟨rfl,hb2⟩;have hW2 : Below WA.heap.size WA W2 := hW1.trans (hb2.mono hW1.size);clear HN hb2;clear s0 s1 s2 s3 y0 y1 q0 q1 q2 q3 t0 t1 t2 t3 t4 z0 z1 z2 z3 z4;have BR2 := BR.below hW2;obtain ⟨q0,q1,q2,q3⟩ := cl4 BR2;clear BR2;have BY2 := BY.below hW2;obtain ⟨y0,y1⟩ := cl2 BY2;clear BY2;have BT2 := BT.below hW2;obtain ⟨t0,t1,t2,t3,t4⟩ := cl5 BT2;obtain ⟨z0,z1,z2,z3,z4⟩ := fz5 BT2;clear BT2;go_wp2_with fail;refine bodyPost_ret (results_two rfl _ _ _ ⟨b0 + 3,0,none⟩ (.agg #[.int .i64 0,.int .i64 0,.string ⟨#[]⟩,.slice none 0 0,.slice none 0 0]) (by go_simp) (by go_simp)) rfl ?_;exact ZFIN.out W2 _ hW2 HX.out
  | true =>
   have HX : Hid (R = (T,0)) := hid (by rw [← HV2.out,if_neg (by rw [hR]; simp),if_neg (by simp),if_neg (by decide)]);have HN : Hid (Calls Tryz.prog 108 #[.agg #[.int .i64 6,.string tnm],.int .i64 rn] W1 fun e w' => e = .returned (.bool true) ∧ Below W1.heap.size W1 w') := (by have h1 := number_any 6 rn tnm W1; rw [hR] at h1; exact h1 : Calls Tryz.prog _ _ W1 _);clear hR;go_wp2_with fail;refine HN.out.mono ?_;rintro e W2 ⟨rfl,hb2⟩;have hW2 : Below WA.heap.size WA W2 := hW1.trans (hb2.mono hW1.size);clear HN hb2;clear s0 s1 s2 s3 y0 y1 q0 q1 q2 q3 t0 t1 t2 t3 t4 z0 z1 z2 z3 z4;have BR2 := BR.below hW2;obtain ⟨q0,q1,q2,q3⟩ := cl4 BR2;clear BR2;have BY2 := BY.below hW2;obtain ⟨y0,y1⟩ := cl2 BY2;clear BY2;have BT2 := BT.below hW2;obtain ⟨t0,t1,t2,t3,t4⟩ := cl5 BT2;obtain ⟨z0,z1,z2,z3,z4⟩ := fz5 BT2;clear BT2;have HLW : Hid (Calls Tryz.prog 110 #[.agg #[.int .i64 rt,.int .i64 rw,.int .i64 rn,.string rb]] W2 fun e w' => e = .returned (.agg #[.int .i64 T.kind,.int .i64 T.n,.string T.s,.slice none 0 0,.slice none 0 0]) ∧ Below W2.heap.size W2 w') := HLF.out W2;go_wp2_with fail;refine HLW.out.mono ?_;rintro e W5 ⟨rfl,hb5⟩;have hW5 : Below WA.heap.size WA W5 := hW2.trans (hb5.mono hW2.size);clear hb5 HLW;clear q0 q1 q2 q3 y0 y1 t0 t1 t2 t3 t4 z0 z1 z2 z3 z4;have BT5 := BT.below hW5;obtain ⟨t0,t1,t2,t3,t4⟩ := cl5 BT5;obtain ⟨z0,z1,z2,z3,z4⟩ := fz5 BT5;clear BT5;go_wp2_with fail;refine bodyPost_ret (results_two rfl _ _ _ ⟨b0 + 3,0,none⟩ (.agg #[.int .i64 T.kind,.int .i64 T.n,.string T.s,.slice none 0 0,.slice none 0 0]) (by go_simp) (by go_simp)) rfl ?_;exact FIN.out W5 _ _ _ _ _ [] _ hW5 (by rw [HX.out]; exact HTO.out _ _) (Apt.nil _ _) (by simp) (by rw [HX.out])
 have d3 : (k == 3) = false := by simpa using hk3
 have d6 : (k == 6) = false := by simpa using hk6
 have HV3 : Hid ((if k = 4 ∧ validB rb.data.toList = false then (tr0,9) else if k = 7 then decM n s tnm (bytesN rb) else (T,0)) = R) := hid (by have := HV2.out; rwa [if_neg (fun e => e.1.elim hk3 hk6)] at this);clear HV2 hk3 hk6
 by_cases hk4 : k = 4
 ·subst hk4
  cases hR : validB rb.data.toList with
  | false =>
   have HX : Hid (R = (tr0,9)) := hid (by rw [← HV3.out,if_pos ⟨rfl,hR⟩]);have HN : Hid (Calls Tryz.prog 109 #[.string rb] W1 fun e w' => e = .returned (.bool false) ∧ Below W1.heap.size W1 w') := (by have h1 := valid_any rb W1 HSZ.out; rw [hR] at h1; exact h1 : Calls Tryz.prog _ _ W1 _);clear hR;go_wp2_with fail;refine HN.out.mono ?_;rintro e W2 ⟨rfl,hb2⟩;have hW2 : Below WA.heap.size WA W2 := hW1.trans (hb2.mono hW1.size);clear HN hb2;clear s0 s1 s2 s3 y0 y1 q0 q1 q2 q3 t0 t1 t2 t3 t4 z0 z1 z2 z3 z4;have BR2 := BR.below hW2;obtain ⟨q0,q1,q2,q3⟩ := cl4 BR2;clear BR2;have BY2 := BY.below hW2;obtain ⟨y0,y1⟩ := cl2 BY2;clear BY2;have BT2 := BT.below hW2;obtain ⟨t0,t1,t2,t3,t4⟩ := cl5 BT2;obtain ⟨z0,z1,z2,z3,z4⟩ := fz5 BT2;clear BT2;go_wp2_with fail;refine bodyPost_ret (results_two rfl _ _ _ ⟨b0 + 3,0,none⟩ (.agg #[.int .i64 0,.int .i64 0,.string ⟨#[]⟩,.slice none 0 0,.slice none 0 0]) (by go_simp) (by go_simp)) rfl ?_;exact ZFIN.out W2 _ hW2 HX.out
  | true =>
   have HX : Hid (R = (T,0)) := hid (by rw [← HV3.out,if_neg (by rw [hR]; simp),if_neg (by decide)]);have HN : Hid (Calls Tryz.prog 109 #[.string rb] W1 fun e w' => e = .returned (.bool true) ∧ Below W1.heap.size W1 w') := (by have h1 := valid_any rb W1 HSZ.out; rw [hR] at h1; exact h1 : Calls Tryz.prog _ _ W1 _);clear hR;go_wp2_with fail;refine HN.out.mono ?_;rintro e W2 ⟨rfl,hb2⟩;have hW2 : Below WA.heap.size WA W2 := hW1.trans (hb2.mono hW1.size);clear HN hb2;clear s0 s1 s2 s3 y0 y1 q0 q1 q2 q3 t0 t1 t2 t3 t4 z0 z1 z2 z3 z4;have BR2 := BR.below hW2;obtain ⟨q0,q1,q2,q3⟩ := cl4 BR2;clear BR2;have BY2 := BY.below hW2;obtain ⟨y0,y1⟩ := cl2 BY2;clear BY2;have BT2 := BT.below hW2;obtain ⟨t0,t1,t2,t3,t4⟩ := cl5 BT2;obtain ⟨z0,z1,z2,z3,z4⟩ := fz5 BT2;clear BT2;have HLW : Hid (Calls Tryz.prog 110 #[.agg #[.int .i64 rt,.int .i64 rw,.int .i64 rn,.string rb]] W2 fun e w' => e = .returned (.agg #[.int .i64 T.kind,.int .i64 T.n,.string T.s,.slice none 0 0,.slice none 0 0]) ∧ Below W2.heap.size W2 w') := HLF.out W2;go_wp2_with fail;refine HLW.out.mono ?_;rintro e W5 ⟨rfl,hb5⟩;have hW5 : Below WA.heap.size WA W5 := hW2.trans (hb5.mono hW2.size);clear hb5 HLW;clear q0 q1 q2 q3 y0 y1 t0 t1 t2 t3 t4 z0 z1 z2 z3 z4;have BT5 := BT.below hW5;obtain ⟨t0,t1,t2,t3,t4⟩ := cl5 BT5;obtain ⟨z0,z1,z2,z3,z4⟩ := fz5 BT5;clear BT5;go_wp2_with fail;refine bodyPost_ret (results_two rfl _ _ _ ⟨b0 + 3,0,none⟩ (.agg #[.int .i64 T.kind,.int .i64 T.n,.string T.s,.slice none 0 0,.slice none 0 0]) (by go_simp) (by go_simp)) rfl ?_;exact FIN.out W5 _ _ _ _ _ [] _ hW5 (by rw [HX.out]; exact HTO.out _ _) (Apt.nil _ _) (by simp) (by rw [HX.out])
 have d4 : (k == 4) = false := by simpa using hk4
 have HV4 : Hid ((if k = 7 then decM n s tnm (bytesN rb) else (T,0)) = R) := hid (by have := HV3.out; rwa [if_neg (fun e => hk4 e.1)] at this);clear HV3 hk4
 by_cases hk7 : k = 7
 rotate_left
 ·have d7 : (k == 7) = false := by simpa using hk7
  have HX : Hid (R = (T,0)) := hid (by rw [← HV4.out,if_neg hk7]);clear hk7;have HLW : Hid (Calls Tryz.prog 110 #[.agg #[.int .i64 rt,.int .i64 rw,.int .i64 rn,.string rb]] W1 fun e w' => e = .returned (.agg #[.int .i64 T.kind,.int .i64 T.n,.string T.s,.slice none 0 0,.slice none 0 0]) ∧ Below W1.heap.size W1 w') := HLF.out W1;go_wp2_with fail;refine HLW.out.mono ?_;rintro e W5 ⟨rfl,hb5⟩;have hW5 : Below WA.heap.size WA W5 := hW1.trans (hb5.mono hW1.size);clear hb5 HLW;clear s0 s1 s2 s3 y0 y1 q0 q1 q2 q3 t0 t1 t2 t3 t4 z0 z1 z2 z3 z4;have BT5 := BT.below hW5;obtain ⟨t0,t1,t2,t3,t4⟩ := cl5 BT5;obtain ⟨z0,z1,z2,z3,z4⟩ := fz5 BT5;clear BT5;go_wp2_with fail;refine bodyPost_ret (results_two rfl _ _ _ ⟨b0 + 3,0,none⟩ (.agg #[.int .i64 T.kind,.int .i64 T.n,.string T.s,.slice none 0 0,.slice none 0 0]) (by go_simp) (by go_simp)) rfl ?_;exact FIN.out W5 _ _ _ _ _ [] _ hW5 (by rw [HX.out]; exact HTO.out _ _) (Apt.nil _ _) (by simp) (by rw [HX.out])
 subst hk7;have HX : Hid (R = decM n s tnm (bytesN rb)) := hid (by rw [← HV4.out,if_pos rfl]);clear HV4
 by_cases hdd : d = 10
 ·subst hdd
  have HX : Hid (R = (tr0,10)) := hid (by
   have h1 : n = 0 := by have := HD.out; omega
   rw [HX.out,h1]; rfl)
  go_wp2_with fail;refine bodyPost_ret (results_two rfl _ _ _ ⟨b0 + 3,0,none⟩ (.agg #[.int .i64 0,.int .i64 0,.string ⟨#[]⟩,.slice none 0 0,.slice none 0 0]) (by go_simp) (by go_simp)) rfl ?_;exact ZFIN.out W1 _ hW1 HX.out
 have hdl : d < 10 := by omega
 have dge : ((d : Int) ≥ 10) = False := by simp; omega
 have dgd : decide ((10 : Int) ≤ (d : Int)) = false := by simp; omega
 obtain ⟨cap,WB,hcv,hby,hbB⟩ := conv_bytes W1 rb HSZ.out;have hWB : Below WA.heap.size WA WB := hW1.trans (hbB.mono hW1.size);have hwB : Below w.heap.size w WB := hbw.trans (hWB.mono hbw.size);have HN : Hid (Calls Tryz.prog 31 #[.agg #[.string sn,.slice ma mn mc,.slice ea en ec,.slice ta tn tc],.string tnm,.slice (some ⟨W1.heap.size,0,none⟩) rb.size cap,.int .i64 ((d : Int) + 1)] WB (DtrP (n + 1) R WB)) := (by rw [HX.out]; exact HI.out hdl tnm _ _ WB hby (HS.out.below hwB) : Calls Tryz.prog _ _ WB _)
 have hwr : IntKind.i64.wrap ((d : Int) + 1) = (d : Int) + 1 := by rw [IntKind.wrap_i64]; omega
 clear hby hbB hdd HI HX;go_wp2_with fail;refine HN.out.mono ?_;rintro e W2 ⟨r',bs,rfl,ht,hap,hb2⟩;have hW2 : Below WA.heap.size WA W2 := hWB.trans (hb2.mono hWB.size);obtain ⟨a1,n1,c1,a2,n2,c2,rfl⟩ := ht.open;have hle : w.heap.size ≤ WB.heap.size := hwB.size;have HTT : Hid (TrO (n + 1) w.heap.size W2 [.int .i64 R.1.kind,.int .i64 R.1.n,.string R.1.s,.slice a1 n1 c1,.slice a2 n2 c2] R.1 bs) := ht.base hle;have HAP : Hid (Apt w.heap.size W2 bs) := ⟨hap.1,fun k hk => ⟨Nat.le_trans hle (hap.2 k hk).1,(hap.2 k hk).2⟩⟩
 have HNB : Hid (b0 + 3 ∉ bs) := fun e => by have h1 := (hap.2 _ e).1; have h2 := hWB.size; have h3 := HBT.out.lt; omega
 clear HN hb2 hcv ht hap hle hwB;clear s0 s1 s2 s3 y0 y1 q0 q1 q2 q3 t0 t1 t2 t3 t4 z0 z1 z2 z3 z4;have BT2 := BT.below hW2;obtain ⟨t0,t1,t2,t3,t4⟩ := cl5 BT2;obtain ⟨z0,z1,z2,z3,z4⟩ := fz5 BT2;clear BT2;obtain ⟨R1,R2⟩ := R;obtain ⟨K,N,S,E,Q⟩ := R1;go_wp2_with fail;refine bodyPost_ret (results_two rfl _ _ _ ⟨b0 + 3,0,none⟩ (.agg #[.int .i64 K,.int .i64 N,.string S,.slice a1 n1 c1,.slice a2 n2 c2]) (by go_simp) (by go_simp)) rfl ?_;exact FIN.out W2 _ _ _ _ _ bs _ hW2 HTT.out HAP.out HNB.out rfl
end
section
open Go.ChangeShapes Go.WideShapes Go.ChangeAt Go.RowKit Go.Maps
theorem r7field_any {w : World} {snm : ByteArray} {nm : Int} {am : Option Addr} {M cm : Nat} {vt : Value} {ts : List FlS} (hr : RowG w vt 5 (flRows ts)) :
  Calls Tryz.prog 63 #[.agg #[.string snm,vt,.slice am M cm],.int .i64 nm] w fun e w' => e = .returned (.tuple #[flV ((ts.find? fun m => decide (m.tag = nm)).getD zeroF),.bool (ts.find? fun m => decide (m.tag = nm)).isSome]) ∧ Below w.heap.size w w' := by
 obtain ⟨a,c,rfl,q1,q2⟩ := hr.form2
 have hN : (flRows ts).length = ts.length := by simp [flRows]
 rw [hN] at hr q1 ⊢;clear hN;obtain ⟨N,hN⟩ : ∃ N,ts.length = N := ⟨_,rfl⟩;rw [hN] at hr q1 ⊢;have HN : Hid (ts.length = N) := hN;have HR : Hid (RowG w (.slice a N c) 5 (flRows ts)) := hr;clear hN hr;obtain ⟨A,hA⟩ : ∃ A,(ts.find? fun m => decide (m.tag = nm)) = A := ⟨_,rfl⟩;rw [hA];have HA : Hid (A = ((ts.drop 0).find? fun m => decide (m.tag = nm))) := hA.symm;clear hA;have BX0 : Blk ((w.alloc (.cells #[.string snm,.slice a N c,.slice am M cm] 50)).alloc (.cells #[.string ⟨#[]⟩,.int .i64 0,.int .i64 0,.int .i64 0,.string ⟨#[]⟩] 58)) w.heap.size #[.string snm,.slice a N c,.slice am M cm] 50 := (Blk.new w _ _).below (bra _)
 have BR0 : Blk ((w.alloc (.cells #[.string snm,.slice a N c,.slice am M cm] 50)).alloc (.cells #[.string ⟨#[]⟩,.int .i64 0,.int .i64 0,.int .i64 0,.string ⟨#[]⟩] 58)) (w.heap.size + 1) #[.string ⟨#[]⟩,.int .i64 0,.int .i64 0,.int .i64 0,.string ⟨#[]⟩] 58 := by
  have := Blk.new (w.alloc (.cells #[.string snm,.slice a N c,.slice am M cm] 50)) #[.string ⟨#[]⟩,.int .i64 0,.int .i64 0,.int .i64 0,.string ⟨#[]⟩] 58
  rwa [show (w.alloc (.cells #[.string snm,.slice a N c,.slice am M cm] 50)).heap.size = w.heap.size + 1 by simp] at this
 have hb0 : Below w.heap.size w ((w.alloc (.cells #[.string snm,.slice a N c,.slice am M cm] 50)).alloc (.cells #[.string ⟨#[]⟩,.int .i64 0,.int .i64 0,.int .i64 0,.string ⟨#[]⟩] 58)) := (bra _).alloc (by simp) _
 go_enter Tryz.func63,Tryz.ntmps63
 go_wp2_with fail
 go_loopw [6] (fun iv wr => ∃ k : Nat,iv = .int .i64 (k : Int) ∧ k ≤ N ∧ Hid (A = ((ts.drop k).find? fun m => decide (m.tag = nm))) ∧ Below w.heap.size w wr ∧ Blk wr (w.heap.size + 1) #[.string ⟨#[]⟩,.int .i64 0,.int .i64 0,.int .i64 0,.string ⟨#[]⟩] 58 ∧ Blk wr w.heap.size #[.string snm,.slice a N c,.slice am M cm] 50) (fun iv _ => N - (intOf iv).toNat)
 case atStart => exact ⟨0,rfl,by omega,HA,hb0,BR0,BX0⟩
 case round =>
  obtain ⟨k,rfl,hk,HAk,hbel,BR,BX⟩ := hrel;clear BX0 BR0 hb0;have hlt2 : w.heap.size + 1 < wr.heap.size := BR.lt;obtain ⟨r0,r1,r2,r3,r4⟩ := cl5 BR;obtain ⟨z0,z1,z2,z3,z4⟩ := fz5 BR;have x1 : wr.cell? ⟨w.heap.size,1,none⟩ = some (.slice a N c) := BX.cell 1
  by_cases hlt : k < N
  ·obtain ⟨f,hf⟩ : ∃ n,ts[k]? = some n := ⟨_,List.getElem?_eq_getElem (by rw [HN.out]; exact hlt)⟩
   have hrr : (flRows ts)[k]? = some f.cells := by simp [flRows,hf]
   obtain ⟨g,off,rfl,c1⟩ := (HR.out.below hbel).get hrr;obtain ⟨f0,f1,f2,f3,f4⟩ := f
   have HA2 : Hid (A = if decide (f1 = nm) = true then some ⟨f0,f1,f2,f3,f4⟩ else ((ts.drop (k + 1)).find? fun m => decide (m.tag = nm))) := by
    show _ = _
    rw [HAk.out,drop_at hf,List.find?_cons]
    cases decide (f1 = nm) <;> rfl
   have p0 := c1 0 _ rfl;have p1 := c1 1 _ rfl;have p2 := c1 2 _ rfl;have p3 := c1 3 _ rfl;have p4 := c1 4 _ rfl;simp only [Nat.add_zero] at p0 p1 p2 p3 p4;clear c1 hrr hf HAk
   by_cases he : f1 = nm
   ·subst he;go_wp2_with fail;refine bodyPost_ret (results_two rfl _ _ _ ⟨w.heap.size + 1,0,none⟩ (.agg #[.string f0,.int .i64 f1,.int .i64 f2,.int .i64 f3,.string f4]) (by go_simp) (by go_simp)) rfl ?_;exact ⟨ret_two (by rw [HA2.out,if_pos (by simp)]; rfl) (by rw [HA2.out,if_pos (by simp)]; rfl),(Below.setCell (Below.setCell (Below.setCell (Below.setCell (Below.setCell hbel (by simp) _) (by simp) _) (by simp) _) (by simp) _) (by simp) _)⟩
   ·have hq : (f1 == nm) = false := by simpa using he
    have HA3 : Hid (A = ((ts.drop (k + 1)).find? fun m => decide (m.tag = nm))) := by show _ = _; rw [HA2.out,if_neg (by simpa using he)]
    go_wp2_with fail
    go_roundw
    case rel => exact ⟨k + 1,by go_num,by omega,HA3,hbel,BR,BX⟩
    case measure => simp [intOf]; omega
  ·have HA2 : Hid (A = none) := by show _ = _; rw [HAk.out,drop_end (by rw [HN.out]; omega)]; rfl
   go_wp2_with fail;refine bodyPost_ret (results_two rfl _ _ _ ⟨w.heap.size + 1,0,none⟩ (.agg #[.string ⟨#[]⟩,.int .i64 0,.int .i64 0,.int .i64 0,.string ⟨#[]⟩]) (by go_simp) (by go_simp)) rfl ?_;exact ⟨ret_two (by rw [HA2.out]; rfl) (by rw [HA2.out]; rfl),(Below.setCell (Below.setCell (Below.setCell (Below.setCell (Below.setCell hbel (by simp) _) (by simp) _) (by simp) _) (by simp) _) (by simp) _)⟩
end
section
open Go.ChangeShapes Go.WideShapes Go.ChangeAt Go.RowKit
theorem rzero_any (t : Tr) (a1 a2 : Option Addr) (n1 c1 n2 c2 : Nat) (w : World) (h1 : n1 = t.es.length) (h2 : n2 = t.rest.length) : Calls Tryz.prog 77 #[.agg #[.int .i64 t.kind,.int .i64 t.n,.string t.s,.slice a1 n1 c1,.slice a2 n2 c2]] w fun e w' => e = .returned (.bool (zroB t)) ∧ Below w.heap.size w w' := by
 have hb : Below w.heap.size w (w.alloc (Obj.cells #[.int .i64 t.kind,.int .i64 t.n,.string t.s,.slice a1 n1 c1,.slice a2 n2 c2] 33)) := bra _
 have hz : zroB t = (decide (t.kind = 1 ∨ t.kind = 2 ∨ t.kind = 3) && decide (t.n = 0) && decide (t.s.size = 0) && decide (n1 = 0) && decide (n2 = 0)) := by rw [zroB,h1,h2]
 rw [hz];clear hz h1 h2;generalize t.kind = K at *;generalize t.n = N at *;generalize t.s = S at *
 have kk : K = 1 ∨ K = 2 ∨ K = 3 ∨ (¬ K = 1 ∧ ¬ K = 2 ∧ ¬ K = 3) := by omega
 rcases kk with rfl | rfl | rfl | ⟨h1,h2,h3⟩
 ·by_cases hN : N = 0
  ·subst hN
   by_cases hS : S.size = 0
   ·obtain rfl := size_empty hS
    by_cases h1 : n1 = 0
    ·subst h1
     by_cases h2 : n2 = 0
     ·subst h2
      go_enter Tryz.func77,Tryz.ntmps77
      go_wp2_with fail;go_ret;exact ⟨rfl,hb⟩
     ·have d2 : ((n2 : Int) == 0) = false := by simp; omega
      simp only [decide_eq_false h2,Bool.and_false];clear h2
      go_enter Tryz.func77,Tryz.ntmps77
      go_wp2_with fail;go_ret;exact ⟨rfl,hb⟩
    ·have d1 : ((n1 : Int) == 0) = false := by simp; omega
     simp only [decide_eq_false h1,Bool.and_false,Bool.false_and];clear h1
     go_enter Tryz.func77,Tryz.ntmps77
     go_wp2_with fail;go_ret;exact ⟨rfl,hb⟩
   ·have dS : (S.toList == ([] : List UInt8)) = false := by rw [ByteArray.toList_eq]; simp; intro e; exact hS (by rw [← ByteArray.size_data,e]; rfl)
    simp only [decide_eq_false hS,Bool.and_false,Bool.false_and];clear hS
    go_enter Tryz.func77,Tryz.ntmps77
    go_wp2_with fail;go_ret;exact ⟨rfl,hb⟩
  ·have dN : (N == 0) = false := by simpa using hN
   simp only [decide_eq_false hN,Bool.and_false,Bool.false_and];clear hN
   go_enter Tryz.func77,Tryz.ntmps77
   go_wp2_with fail;go_ret;exact ⟨rfl,hb⟩
 ·by_cases hN : N = 0
  ·subst hN
   by_cases hS : S.size = 0
   ·obtain rfl := size_empty hS
    by_cases h1 : n1 = 0
    ·subst h1
     by_cases h2 : n2 = 0
     ·subst h2
      go_enter Tryz.func77,Tryz.ntmps77
      go_wp2_with fail;go_ret;exact ⟨rfl,hb⟩
     ·have d2 : ((n2 : Int) == 0) = false := by simp; omega
      simp only [decide_eq_false h2,Bool.and_false];clear h2
      go_enter Tryz.func77,Tryz.ntmps77
      go_wp2_with fail;go_ret;exact ⟨rfl,hb⟩
    ·have d1 : ((n1 : Int) == 0) = false := by simp; omega
     simp only [decide_eq_false h1,Bool.and_false,Bool.false_and];clear h1
     go_enter Tryz.func77,Tryz.ntmps77
     go_wp2_with fail;go_ret;exact ⟨rfl,hb⟩
   ·have dS : (S.toList == ([] : List UInt8)) = false := by rw [ByteArray.toList_eq]; simp; intro e; exact hS (by rw [← ByteArray.size_data,e]; rfl)
    simp only [decide_eq_false hS,Bool.and_false,Bool.false_and];clear hS
    go_enter Tryz.func77,Tryz.ntmps77
    go_wp2_with fail;go_ret;exact ⟨rfl,hb⟩
  ·have dN : (N == 0) = false := by simpa using hN
   simp only [decide_eq_false hN,Bool.and_false,Bool.false_and];clear hN
   go_enter Tryz.func77,Tryz.ntmps77
   go_wp2_with fail;go_ret;exact ⟨rfl,hb⟩
 ·by_cases hN : N = 0
  ·subst hN
   by_cases hS : S.size = 0
   ·obtain rfl := size_empty hS
    by_cases h1 : n1 = 0
    ·subst h1
     by_cases h2 : n2 = 0
     ·subst h2
      go_enter Tryz.func77,Tryz.ntmps77
      go_wp2_with fail;go_ret;exact ⟨rfl,hb⟩
     ·have d2 : ((n2 : Int) == 0) = false := by simp; omega
      simp only [decide_eq_false h2,Bool.and_false];clear h2
      go_enter Tryz.func77,Tryz.ntmps77
      go_wp2_with fail;go_ret;exact ⟨rfl,hb⟩
    ·have d1 : ((n1 : Int) == 0) = false := by simp; omega
     simp only [decide_eq_false h1,Bool.and_false,Bool.false_and];clear h1
     go_enter Tryz.func77,Tryz.ntmps77
     go_wp2_with fail;go_ret;exact ⟨rfl,hb⟩
   ·have dS : (S.toList == ([] : List UInt8)) = false := by rw [ByteArray.toList_eq]; simp; intro e; exact hS (by rw [← ByteArray.size_data,e]; rfl)
    simp only [decide_eq_false hS,Bool.and_false,Bool.false_and];clear hS
    go_enter Tryz.func77,Tryz.ntmps77
    go_wp2_with fail;go_ret;exact ⟨rfl,hb⟩
  ·have dN : (N == 0) = false := by simpa using hN
   simp only [decide_eq_false hN,Bool.and_false,Bool.false_and];clear hN
   go_enter Tryz.func77,Tryz.ntmps77
   go_wp2_with fail;go_ret;exact ⟨rfl,hb⟩
 ·have hk : decide (K = 1 ∨ K = 2 ∨ K = 3) = false := by simp [h1,h2,h3]
  simp only [hk,Bool.false_and]
  rcases (by omega : K < 1 ∨ (1 ≤ K ∧ 3 < K)) with h5 | ⟨h5,h6⟩
  ·have e1 : decide (1 ≤ K) = false := by simp; omega
   clear h1 h2 h3 hk
   go_enter Tryz.func77,Tryz.ntmps77
   go_wp2_with fail;go_ret;exact ⟨rfl,hb⟩
  ·have e1 : decide (1 ≤ K) = true := by simp; omega
   have e2 : decide (K ≤ 3) = false := by simp; omega
   clear h1 h2 h3 hk
   go_enter Tryz.func77,Tryz.ntmps77
   go_wp2_with fail;go_ret;exact ⟨rfl,hb⟩
end
section
section
variable {P : Program} {md : Region.Mode} {ops : Array Oper} {Q : Exit → Act → World → Prop} {T : World → Prop} {m : Nat}
theorem M_fork {o1 o2 : Oper} {fuel : Nat} {listed : Array Bool} {a : Act} {w : World} (i j d1 d2 f : Nat) (vals : Array Value) (v2 : Value) (w2 : World) (h1 : ops[i]? = some o1) (h2 : ops[j]? = some o2) (hd1 : o1.dst = some d1) (hd2 : o2.dst = some d2)
  (hr : Region.ready md ops listed = [i,j]) (hw1 : Region.wanted o1 (yielded ops a.tmps) = true) (hw2 : Region.wanted o2 (yielded ops a.tmps) = true)
  (hx1 : (execOp a.eval o1).run P w = .ok (.enter f vals) w) (hx2 : (execOp a.eval o2).run P w = .ok (.value v2) w2)
  (hA : Calls P f vals w fun e w' => ∃ v,e = .returned v ∧ T w' ∧ wpAnyM P md ops Q T m fuel (listed.setIfInBounds i true) { a with tmps := a.tmps.setIfInBounds d1 v } w')
  (hT : T w2) (hB : wpAnyM P md ops Q T m fuel (listed.setIfInBounds j true) { a with tmps := a.tmps.setIfInBounds d2 v2 } w2) : wpAnyM P md ops Q T m (fuel + 1) listed a w := by
 refine ⟨fun h0 => (by rw [hr] at h0; cases h0),fun k hk => ?_⟩;rw [hr] at hk;simp only [List.mem_cons,List.not_mem_nil,or_false] at hk
 rcases hk with rfl | rfl
 ·unfold wpOp;simp only [h1];rw [if_pos hw1];refine .inl ?_;unfold Oper.wp;rw [hx1];refine Calls.mono hA ?_;rintro e w' ⟨v,rfl,hT',h'⟩;rw [hd1];exact ⟨fun _ => hT',h'⟩
 ·unfold wpOp;simp only [h2];rw [if_pos hw2];refine .inl ?_;unfold Oper.wp;rw [hx2,Oper.upon_value,hd2];exact ⟨fun _ => hT,hB⟩
end
end
end Go.Proofs.YtiajaocckkghgaaGreat
