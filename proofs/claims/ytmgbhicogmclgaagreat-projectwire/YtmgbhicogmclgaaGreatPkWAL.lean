/- Part 12 of what the proof stands on. -/
import Derived.Test.YtmgbhicogmclgaaGreatPkWAK
import Derived.Lib.ConvBytes
namespace Go.Proofs.YtmgbhicogmclgaaGreat
set_option maxHeartbeats 8000000
set_option linter.unusedVariables false
set_option linter.unusedSimpArgs false
set_option maxRecDepth 20000
section
open Go.ChangeShapes Go.WideShapes Go.ChangeAt Go.RowKit
theorem getF_put0 (v p : Nat) (rest : List Nat) (hv : v < 18446744073709551616) : getF (digs v ++ rest) 0 0 p = (v,p + (digs v).length,0) := by
 rw [getF_digs v 0 0 p rest (by omega) (by omega) (by omega)]
 simp
theorem drop_pre (pre l : List Nat) : (pre ++ l).drop pre.length = l := List.drop_left
theorem drop_pre2 (pre l m : List Nat) (q : Nat) (hq : q = pre.length + l.length) : (pre ++ (l ++ m)).drop q = m := by
 rw [← List.append_assoc,hq,← List.length_append];exact List.drop_left
theorem next_put {r : Fd} (h : okF r = true) (hn : Is64 r.n) (pre rest : List Nat) : nextN (pre ++ (fieldN r ++ rest)) pre.length = (r,pre.length + (fieldN r).length,0) := by
 rcases ok_cases h hn with ⟨t,n,rfl,h1,h2,h3⟩ | ⟨t,b,rfl,h1,h2,h3⟩
 ·have hz := zigN_bd n h3.1 h3.2;have hzz : ((zigN n).toNat : Int) = zigN n := Int.toNat_of_nonneg hz.1;rw [fieldN_num]
  have g1 : getF ((pre ++ (digs (2 * t) ++ digs (zigN n).toNat ++ rest)).drop pre.length) 0 0 pre.length = (2 * t,pre.length + (digs (2 * t)).length,0) := by
   rw [drop_pre,List.append_assoc]; exact getF_put0 _ _ _ (by omega)
  have g2 : getF ((pre ++ (digs (2 * t) ++ digs (zigN n).toNat ++ rest)).drop (pre.length + (digs (2 * t)).length)) 0 0 (pre.length + (digs (2 * t)).length) = ((zigN n).toNat,pre.length + (digs (2 * t)).length + (digs (zigN n).toNat).length,0) := by
   rw [List.append_assoc,drop_pre2 pre _ _ _ rfl]; exact getF_put0 _ _ _ (by omega)
  rw [next_num g1 (by omega) g2 (by omega),hzz,zag_zig,show 2 * t / 2 = t by omega,List.length_append,Nat.add_assoc]
 ·rw [fieldN_text]
  have g1 : getF ((pre ++ (digs (2 * t + 1) ++ (digs b.size ++ bytesN b) ++ rest)).drop pre.length) 0 0 pre.length = (2 * t + 1,pre.length + (digs (2 * t + 1)).length,0) := by
   rw [drop_pre,List.append_assoc]; exact getF_put0 _ _ _ (by omega)
  have g2 : getF ((pre ++ (digs (2 * t + 1) ++ (digs b.size ++ bytesN b) ++ rest)).drop (pre.length + (digs (2 * t + 1)).length)) 0 0 (pre.length + (digs (2 * t + 1)).length) = (b.size,pre.length + (digs (2 * t + 1)).length + (digs b.size).length,0) := by
   rw [List.append_assoc,drop_pre2 pre _ _ _ rfl,List.append_assoc]; exact getF_put0 _ _ _ (by omega)
  have hd : (pre ++ (digs (2 * t + 1) ++ (digs b.size ++ bytesN b) ++ rest)).drop (pre.length + (digs (2 * t + 1)).length + (digs b.size).length) = bytesN b ++ rest := by
   have e : pre ++ (digs (2 * t + 1) ++ (digs b.size ++ bytesN b) ++ rest) = (pre ++ digs (2 * t + 1)) ++ (digs b.size ++ (bytesN b ++ rest)) := by simp
   rw [e,drop_pre2 _ _ _ _ (by rw [List.length_append])]
  rw [next_text g1 (by omega) g2 (by omega) (by simp [bytesN_len]; omega),hd]
  have ht : (bytesN b ++ rest).take b.size = bytesN b := by rw [← bytesN_len b]; exact List.take_left
  rw [ht,strN_bytesN,show (2 * t + 1) / 2 = t by omega,List.length_append,List.length_append,bytesN_len];simp only [Prod.mk.injEq,true_and,and_true]
  omega
theorem getA_skip : ∀ (rs : List Fd) (pre tail : List Nat),(∀ r ∈ rs,okF r = true) → (∀ r ∈ rs,Is64 r.n) → (∀ n ∈ pre ++ (flatN rs ++ tail),n < 256) →
  getA (pre ++ (flatN rs ++ tail)) pre.length = joinA rs (getA (pre ++ (flatN rs ++ tail)) (pre.length + (flatN rs).length))
 | [],pre,tail,_,_,hb => by
  rw [flatN_nil,List.length_nil,Nat.add_zero,joinA_nil _ (getA_nil _ _)]
 | r :: rs,pre,tail,ho,hn,hb => by
  have hr := ho r (by simp);have hr64 := hn r (by simp);have hl := (fieldN_len hr hr64).1
  have e : pre ++ (flatN (r :: rs) ++ tail) = pre ++ (fieldN r ++ (flatN rs ++ tail)) := by rw [flatN_cons,List.append_assoc]
  have e2 : pre ++ (fieldN r ++ (flatN rs ++ tail)) = (pre ++ fieldN r) ++ (flatN rs ++ tail) := by rw [List.append_assoc]
  have hx := next_put hr hr64 pre (flatN rs ++ tail);rw [e] at hb ⊢;rw [getA_on (by simp; omega) hx hb];have ih := getA_skip rs (pre ++ fieldN r) tail (fun x hx => ho x (by simp [hx])) (fun x hx => hn x (by simp [hx])) (by rw [← e2]; exact hb);rw [← e2,List.length_append] at ih;rw [ih,joinA_join,List.singleton_append,flatN_cons,List.length_append,Nat.add_assoc]
theorem getL_put {rs : List Fd} (ho : rs.all okF = true) (hn : ∀ r ∈ rs,Is64 r.n) (hl : (flatN rs).length ≤ 4096) : getL (flatN rs) = (rs,0) := by
 have := getA_skip rs [] [] (List.all_eq_true.1 ho) hn (by simpa using flatN_lt rs);simp only [List.nil_append,List.append_nil,List.length_nil,Nat.zero_add] at this;rw [getL,if_neg (by omega),this,getA_end (Nat.le_refl _),joinA,if_pos rfl,List.append_nil]
theorem getF_inv : ∀ (l : List Nat) (i acc p v q : Nat),getF l i acc p = (v,q,0) → (∀ n ∈ l,n < 256) → ∃ u rest,l = digs u ++ rest ∧ v = acc + u * 128 ^ i ∧ q = p + i + (digs u).length ∧ (0 < i → 0 < u)
 | [],i,acc,p,v,q,hg,_ => by simp [getF] at hg
 | c :: r,i,acc,p,v,q,hg,hb => by
  have hc := hb c (by simp)
  by_cases h9 : i = 9 ∧ 1 < c
  ·rw [getF_ten r acc p h9.1 h9.2] at hg; simp at hg
  ·by_cases h1 : 128 ≤ c
   ·rw [getF_on r acc p h9 h1] at hg;obtain ⟨u,rest,rfl,rfl,rfl,hu⟩ := getF_inv r (i + 1) _ p v q hg (fun n hn => hb n (by simp [hn]));have hu0 := hu (by omega);refine ⟨c % 128 + 128 * u,rest,?_,?_,?_,fun _ => by omega⟩
    ·rw [digs_big (v := c % 128 + 128 * u) (by omega),show (c % 128 + 128 * u) % 128 + 128 = c by omega,show (c % 128 + 128 * u) / 128 = u by omega]
     rfl
    ·rw [Nat.pow_succ,Nat.add_mul,Nat.add_assoc]
     congr 2
     rw [Nat.mul_comm 128 u,Nat.mul_assoc,Nat.mul_comm 128]
    ·rw [digs_big (v := c % 128 + 128 * u) (by omega),show (c % 128 + 128 * u) / 128 = u by omega,List.length_cons]
     omega
   ·by_cases h0 : c = 0 ∧ 0 < i
    ·rw [getF_zero r acc p h9 h0.1 h0.2] at hg; simp at hg
    ·rw [getF_end r acc p h9 (by omega) h0] at hg;simp only [Prod.mk.injEq,and_true] at hg;obtain ⟨rfl,rfl⟩ := hg;refine ⟨c,r,?_,rfl,?_,fun hi => by omega⟩
     ·rw [digs_small (by omega)]; rfl
     ·rw [digs_small (by omega)]; simp
theorem getF_at_inv {ns : List Nat} {p v q : Nat} (hg : getF (ns.drop p) 0 0 p = (v,q,0)) (hb : ∀ n ∈ ns,n < 256) : ns.drop p = digs v ++ ns.drop q ∧ q = p + (digs v).length := by
 obtain ⟨u,rest,hl,hv,hq, -⟩ := getF_inv _ 0 0 p v q hg (fun n hn => hb n (List.mem_of_mem_drop hn));simp only [Nat.pow_zero,Nat.mul_one,Nat.zero_add,Nat.add_zero] at hv hq;subst hv
 have hd : ns.drop q = rest := by
  rw [hq,← List.drop_drop,hl];exact List.drop_left
 rw [hd];exact ⟨hl,hq⟩
theorem next_inv {ns : List Nat} {p q : Nat} {r : Fd} (hx : nextN ns p = (r,q,0)) (hb : ∀ n ∈ ns,n < 256) (hp : p ≤ ns.length) (hl : ns.length ≤ 4096) : okF r = true ∧ Is64 r.n ∧ ns.drop p = fieldN r ++ ns.drop q := by
 obtain ⟨⟨h,q1,e1⟩,g1⟩ : ∃ x,getF (ns.drop p) 0 0 p = x := ⟨_,rfl⟩
 by_cases he1 : e1 = 0
 ·subst he1
  by_cases ht : h / 2 = 0 ∨ 500 < h / 2
  ·rw [next_tag g1 ht] at hx; simp at hx
  ·have b1 := getF_at_bd g1 hb hp;have i1 := getF_at_inv g1 hb;obtain ⟨⟨v,q2,e2⟩,g2⟩ : ∃ x,getF (ns.drop q1) 0 0 q1 = x := ⟨_,rfl⟩
   by_cases he2 : e2 = 0
   ·subst he2;have b2 := getF_at_bd g2 hb (by omega);have i2 := getF_at_inv g2 hb
    by_cases hw : h % 2 = 0
    ·rw [next_num g1 ht g2 hw] at hx;simp only [Prod.mk.injEq,and_true] at hx;obtain ⟨rfl,rfl⟩ := hx;have hz := zagN_bd v (by omega) (by omega);refine ⟨?_,hz,?_⟩
     ·unfold okF okV;rw [(toList_empty _).2 rfl]
      simp
      omega
     ·rw [fieldN_num,zig_zag v (by omega),show 2 * (h / 2) = h by omega,Int.toNat_natCast,i1.1,i2.1,List.append_assoc]
    ·by_cases hv : ns.length - q2 < v
     ·rw [next_short g1 ht g2 hw hv] at hx; simp at hx
     ·rw [next_text g1 ht g2 hw (by omega)] at hx;simp only [Prod.mk.injEq,and_true] at hx;obtain ⟨rfl,rfl⟩ := hx
      have hlen : ((ns.drop q2).take v).length = v := by simp; omega
      have hsz : (strN ((ns.drop q2).take v)).size = v := by rw [strN_size,hlen]
      refine ⟨?_,by unfold Is64; simp,?_⟩
      ·unfold okF okV
       simp [hsz]
       omega
      ·rw [fieldN_text,hsz,bytesN_strN _ (fun n hn => hb n (List.mem_of_mem_drop (List.mem_of_mem_take hn))),show 2 * (h / 2) + 1 = h by omega,i1.1,i2.1];simp only [List.append_assoc];rw [← List.drop_drop,List.take_append_drop]
   ·rw [next_e2 g1 ht g2 he2] at hx; simp at hx; omega
 ·rw [next_e1 g1 he1] at hx; simp at hx; omega
theorem getA_inv {ns : List Nat} (hb : ∀ n ∈ ns,n < 256) (hl : ns.length ≤ 4096) : ∀ k p rs,ns.length - p ≤ k → p ≤ ns.length → getA ns p = (rs,0) → (∀ r ∈ rs,okF r = true ∧ Is64 r.n) ∧ flatN rs = ns.drop p
 | 0,p,rs,hk,hp,h => by
  rw [getA_end (by omega)] at h;obtain rfl : [] = rs := (Prod.mk.inj h).1;exact ⟨by simp,by rw [List.drop_of_length_le (by omega),flatN_nil]⟩
 | k + 1,p,rs,hk,hp,h => by
  by_cases hlt : p < ns.length
  ·obtain ⟨⟨r,q,e⟩,hx⟩ : ∃ x,nextN ns p = x := ⟨_,rfl⟩
   by_cases he : e = 0
   ·subst he;have hq := nextN_bd hx hb hp;have hi := next_inv hx hb hp hl;rw [getA_on hlt hx hb,joinA] at h
    split at h <;> rename_i h2
    ·obtain rfl : [r] ++ (getA ns q).1 = rs := (Prod.mk.inj h).1;have ih := getA_inv hb hl k q (getA ns q).1 (by omega) hq.2 (Prod.ext rfl h2);refine ⟨?_,?_⟩
     ·intro x hx
      rcases List.mem_append.1 hx with hx | hx
      ·obtain rfl : x = r := by simpa using hx
       exact ⟨hi.1,hi.2.1⟩
      ·exact ih.1 x hx
     ·rw [flatN_app,flatN_cons,flatN_nil,List.append_nil,ih.2,hi.2.2]
    ·exact absurd (Prod.mk.inj h).2 h2
   ·rw [getA_err hlt hx he] at h;exact absurd (Prod.mk.inj h).2 he
  ·rw [getA_end (by omega)] at h;obtain rfl : [] = rs := (Prod.mk.inj h).1;exact ⟨by simp,by rw [List.drop_of_length_le (by omega),flatN_nil]⟩
theorem putL_get {ns : List Nat} (hb : ∀ n ∈ ns,n < 256) {rs : List Fd} (h : getL ns = (rs,0)) : putL rs = (ns,0) ∧ (∀ r ∈ rs,Is64 r.n) := by
 rw [getL] at h
 split at h
 ·simp at h
 ·rename_i hl
  have hi := getA_inv hb (by omega) ns.length 0 rs (by omega) (by omega) h;rw [List.drop_zero] at hi;refine ⟨?_,fun r hr => (hi.1 r hr).2⟩;rw [putL_ok (List.all_eq_true.2 fun r hr => (hi.1 r hr).1) (by rw [hi.2]; omega),hi.2]
def DtrP (n : Nat) (R : Tr × Int) (w : World) (e : Ending) (w' : World) : Prop :=
 ∃ r bs,e = .returned (.tuple #[.agg r.toArray,.int .i64 R.2]) ∧ TrO n w.heap.size w' r R.1 bs ∧ Apt w.heap.size w' bs ∧ Below w.heap.size w w'
def ByS (w : World) (v : Value) (ns : List Nat) : Prop := ∃ a cap,v = .slice a ns.length cap ∧ Holds w a ns ∧ (∀ n ∈ ns,n < 256) ∧ ns.length ≤ cap ∧ cap ≤ maxLen ∧ (ns = [] ∨ ∃ g off,a = some ⟨g,off,none⟩)
theorem ByS.below {w w' : World} {v : Value} {ns : List Nat} (h : ByS w v ns) (hb : Below w.heap.size w w') : ByS w' v ns := by
 obtain ⟨a,cap,h1,h2,h3⟩ := h;exact ⟨a,cap,h1,h2.below hb,h3⟩
theorem is64_0 : Is64 0 := by unfold Is64; omega
theorem is64_1 : Is64 1 := by unfold Is64; omega
theorem is64_2 : Is64 2 := by unfold Is64; omega
theorem TrO.leafO (n B : Nat) (W : World) (t : Tr) (he : t.es = []) (hr : t.rest = []) (h1 : Is64 t.kind) (h2 : Is64 t.n) (h3 : t.s.size ≤ 140737488351232) : TrO (n + 1) B W [.int .i64 t.kind,.int .i64 t.n,.string t.s,.slice none 0 0,.slice none 0 0] t [] := by
 refine ⟨.slice none 0 0,.slice none 0 0,[],[],rfl,h1,h2,h3,(by rw [hr]; intro f hf; cases hf),(by rw [hr]; exact World.ownsRow_nil _ _ _ _),(by rw [he]; exact RowO.nil _ _ _ _ _),rfl⟩
theorem TrO.zeroO (n B : Nat) (W : World) : TrO (n + 1) B W [.int .i64 0,.int .i64 0,.string ⟨#[]⟩,.slice none 0 0,.slice none 0 0] tr0 [] := TrO.leafO n B W tr0 rfl rfl is64_0 is64_0 (by decide)
theorem DtrP.done {n b : Nat} {w W : World} {R : Tr × Int} {x0 x1 x2 x3 x4 : Value} {bs : List Nat} {y : Int} (hB : Below w.heap.size w W) (hb : w.heap.size ≤ b) (ht : TrO n w.heap.size W [x0,x1,x2,x3,x4] R.1 bs) (hap : Apt w.heap.size W bs) (hn : b ∉ bs) (hy : R.2 = y) :
  DtrP n R w (.returned (.tuple #[.agg #[x0,x1,x2,x3,x4],.int .i64 y])) (set5 W b 0 x0 x1 x2 x3 x4) := by
 have hk := set5_kp W b 0 x0 x1 x2 x3 x4;subst hy;refine ⟨_,bs,rfl,ht.sm (hk.sm fun k hk' => ⟨(hap.2 k hk').2,fun e => hn (e ▸ hk')⟩),hap.mono hk.size,?_⟩;exact hB.trans (hk.toBelow hB.size fun k e => e ▸ hb)
theorem conv_bytes (W : World) (S : ByteArray) (hS : S.size ≤ 140737488351232) : ∃ cap WB,(convert 9 43 (.string S)).run Tryz.prog W = .ok (.slice (some ⟨W.heap.size,0,none⟩) S.size cap) WB ∧ ByS WB (.slice (some ⟨W.heap.size,0,none⟩) S.size cap) (bytesN S) ∧ Below W.heap.size W WB := by
 have hm : S.size ≤ maxLen := by unfold maxLen; omega
 refine ⟨_,_,Lib.run_convert_string_bytes W 9 43 5 S Tryz.underlying9 Tryz.underlying43 Tryz.underlying5,⟨some ⟨W.heap.size,0,none⟩,_,by rw [bytesN_len],?_,bytesN_lt S,by rw [bytesN_len]; exact grownCap_ge _ _ _ _,grownCap_le_maxLen _ _ _ _ hm,.inr ⟨_,_,rfl⟩⟩,?_⟩
 ·refine Holds.of fun j hj => ?_
  rw [bytesN_len] at hj;rw [Nat.zero_add];refine (Lib.bytesWorld_cell W _ S j hj).trans ?_
  have hj' : j < S.data.toList.length := by simpa using hj
  have hj2 : j < (bytesN S).length := by rw [bytesN_len]; exact hj
  simp [bytesN,List.getD,List.getElem?_eq_getElem hj',List.getElem?_eq_getElem hj2]
 ·exact ⟨rfl,rfl,rfl,by rw [Lib.bytesWorld_size]; omega,fun k hk => Lib.bytesWorld_at_old W _ S k hk⟩
theorem dblk4 (w : World) (c1 c2 c3 c4 : Array Value) (t1 t2 t3 t4 : TypeId) : Blk ((((w.alloc (Obj.cells c1 t1)).alloc (Obj.cells c2 t2)).alloc (Obj.cells c3 t3)).alloc (Obj.cells c4 t4)) w.heap.size c1 t1 ∧ Blk ((((w.alloc (Obj.cells c1 t1)).alloc (Obj.cells c2 t2)).alloc (Obj.cells c3 t3)).alloc (Obj.cells c4 t4)) (w.heap.size + 1) c2 t2 ∧ Blk ((((w.alloc (Obj.cells c1 t1)).alloc (Obj.cells c2 t2)).alloc (Obj.cells c3 t3)).alloc (Obj.cells c4 t4)) (w.heap.size + 2) c3 t3 ∧ Blk ((((w.alloc (Obj.cells c1 t1)).alloc (Obj.cells c2 t2)).alloc (Obj.cells c3 t3)).alloc (Obj.cells c4 t4)) (w.heap.size + 3) c4 t4 ∧ Below w.heap.size w ((((w.alloc (Obj.cells c1 t1)).alloc (Obj.cells c2 t2)).alloc (Obj.cells c3 t3)).alloc (Obj.cells c4 t4)) := by
 have s1 : (w.alloc (Obj.cells c1 t1)).heap.size = w.heap.size + 1 := by simp
 have s2 : ((w.alloc (Obj.cells c1 t1)).alloc (Obj.cells c2 t2)).heap.size = w.heap.size + 2 := by simp
 have s3 : (((w.alloc (Obj.cells c1 t1)).alloc (Obj.cells c2 t2)).alloc (Obj.cells c3 t3)).heap.size = w.heap.size + 3 := by simp
 have al : ∀ (W : World) (x : Obj),Below W.heap.size W (W.alloc x) := fun W x => bra _
 have b1 := Blk.new w c1 t1;have b2 := Blk.new (w.alloc (Obj.cells c1 t1)) c2 t2;have b3 := Blk.new ((w.alloc (Obj.cells c1 t1)).alloc (Obj.cells c2 t2)) c3 t3;have b4 := Blk.new (((w.alloc (Obj.cells c1 t1)).alloc (Obj.cells c2 t2)).alloc (Obj.cells c3 t3)) c4 t4;rw [s1] at b2;rw [s2] at b3;rw [s3] at b4;refine ⟨((b1.below (al _ _)).below (al _ _)).below (al _ _),(b2.below (al _ _)).below (al _ _),b3.below (al _ _),b4,?_⟩;exact ((((Below.refl _ w).alloc (Nat.le_refl _) _).alloc (by omega) _).alloc (by omega) _).alloc (by omega) _
end
section
open Go.ChangeShapes Go.WideShapes Go.ChangeAt Go.RowKit Go.Maps
theorem r7field_any {w : World} {snm : ByteArray} {nm : Int} {am : Option Addr} {M cm : Nat} {vt : Value} {ts : List FlS} (hr : RowG w vt 5 (flRows ts)) :
  Calls Tryz.prog 49 #[.agg #[.string snm,vt,.slice am M cm],.int .i64 nm] w fun e w' => e = .returned (.tuple #[flV ((ts.find? fun m => decide (m.tag = nm)).getD zeroF),.bool (ts.find? fun m => decide (m.tag = nm)).isSome]) ∧ Below w.heap.size w w' := by
 obtain ⟨a,c,rfl,q1,q2⟩ := hr.form2
 have hN : (flRows ts).length = ts.length := by simp [flRows]
 rw [hN] at hr q1 ⊢;clear hN;obtain ⟨N,hN⟩ : ∃ N,ts.length = N := ⟨_,rfl⟩;rw [hN] at hr q1 ⊢;have HN : Hid (ts.length = N) := hN;have HR : Hid (RowG w (.slice a N c) 5 (flRows ts)) := hr;clear hN hr;obtain ⟨A,hA⟩ : ∃ A,(ts.find? fun m => decide (m.tag = nm)) = A := ⟨_,rfl⟩;rw [hA];have HA : Hid (A = ((ts.drop 0).find? fun m => decide (m.tag = nm))) := hA.symm;clear hA;have BX0 : Blk ((w.alloc (.cells #[.string snm,.slice a N c,.slice am M cm] 52)).alloc (.cells #[.string ⟨#[]⟩,.int .i64 0,.int .i64 0,.int .i64 0,.string ⟨#[]⟩] 56)) w.heap.size #[.string snm,.slice a N c,.slice am M cm] 52 := (Blk.new w _ _).below (bra _)
 have BR0 : Blk ((w.alloc (.cells #[.string snm,.slice a N c,.slice am M cm] 52)).alloc (.cells #[.string ⟨#[]⟩,.int .i64 0,.int .i64 0,.int .i64 0,.string ⟨#[]⟩] 56)) (w.heap.size + 1) #[.string ⟨#[]⟩,.int .i64 0,.int .i64 0,.int .i64 0,.string ⟨#[]⟩] 56 := by
  have := Blk.new (w.alloc (.cells #[.string snm,.slice a N c,.slice am M cm] 52)) #[.string ⟨#[]⟩,.int .i64 0,.int .i64 0,.int .i64 0,.string ⟨#[]⟩] 56
  rwa [show (w.alloc (.cells #[.string snm,.slice a N c,.slice am M cm] 52)).heap.size = w.heap.size + 1 by simp] at this
 have hb0 : Below w.heap.size w ((w.alloc (.cells #[.string snm,.slice a N c,.slice am M cm] 52)).alloc (.cells #[.string ⟨#[]⟩,.int .i64 0,.int .i64 0,.int .i64 0,.string ⟨#[]⟩] 56)) := (bra _).alloc (by simp) _
 go_enter Tryz.func49,Tryz.ntmps49
 go_wp2_with fail
 go_loopw [6] (fun iv wr => ∃ k : Nat,iv = .int .i64 (k : Int) ∧ k ≤ N ∧ Hid (A = ((ts.drop k).find? fun m => decide (m.tag = nm))) ∧ Below w.heap.size w wr ∧ Blk wr (w.heap.size + 1) #[.string ⟨#[]⟩,.int .i64 0,.int .i64 0,.int .i64 0,.string ⟨#[]⟩] 56 ∧ Blk wr w.heap.size #[.string snm,.slice a N c,.slice am M cm] 52) (fun iv _ => N - (intOf iv).toNat)
 case atStart => exact ⟨0,rfl,by omega,HA,hb0,BR0,BX0⟩
 case round =>
  obtain ⟨k,rfl,hk,HAk,hbel,BR,BX⟩ := hrel;clear BX0 BR0 hb0;have hlt2 : w.heap.size + 1 < wr.heap.size := BR.lt;obtain ⟨r0,r1,r2,r3,r4⟩ := cl5 BR;obtain ⟨z0,z1,z2,z3,z4⟩ := fz5 BR;have x1 : wr.cell? ⟨w.heap.size,1,none⟩ = some (.slice a N c) := BX.cell 1
  by_cases hlt : k < N
  ·obtain ⟨f,hf⟩ : ∃ n,ts[k]? = some n := ⟨_,List.getElem?_eq_getElem (by rw [HN.out]; exact hlt)⟩
   have hrr : (flRows ts)[k]? = some f.cells := by simp [flRows,hf]
   obtain ⟨g,off,rfl,c1⟩ := (HR.out.below hbel).get hrr;obtain ⟨f0,f1,f2,f3,f4⟩ := f
   have HA2 : Hid (A = if decide (f1 = nm) = true then some ⟨f0,f1,f2,f3,f4⟩ else ((ts.drop (k + 1)).find? fun m => decide (m.tag = nm))) := by
    show _ = _
    rw [HAk.out,drop_at hf,List.find?_cons]
    cases decide (f1 = nm) <;> rfl
   have p0 := c1 0 _ rfl;have p1 := c1 1 _ rfl;have p2 := c1 2 _ rfl;have p3 := c1 3 _ rfl;have p4 := c1 4 _ rfl;simp only [Nat.add_zero] at p0 p1 p2 p3 p4;clear c1 hrr hf HAk
   by_cases he : f1 = nm
   ·subst he;go_wp2_with fail;refine bodyPost_ret (results_two rfl _ _ _ ⟨w.heap.size + 1,0,none⟩ (.agg #[.string f0,.int .i64 f1,.int .i64 f2,.int .i64 f3,.string f4]) (by go_simp) (by go_simp)) rfl ?_;exact ⟨ret_two (by rw [HA2.out,if_pos (by simp)]; rfl) (by rw [HA2.out,if_pos (by simp)]; rfl),(Below.setCell (Below.setCell (Below.setCell (Below.setCell (Below.setCell hbel (by simp) _) (by simp) _) (by simp) _) (by simp) _) (by simp) _)⟩
   ·have hq : (f1 == nm) = false := by simpa using he
    have HA3 : Hid (A = ((ts.drop (k + 1)).find? fun m => decide (m.tag = nm))) := by show _ = _; rw [HA2.out,if_neg (by simpa using he)]
    go_wp2_with fail
    go_roundw
    case rel => exact ⟨k + 1,by go_num,by omega,HA3,hbel,BR,BX⟩
    case measure => simp [intOf]; omega
  ·have HA2 : Hid (A = none) := by show _ = _; rw [HAk.out,drop_end (by rw [HN.out]; omega)]; rfl
   go_wp2_with fail;refine bodyPost_ret (results_two rfl _ _ _ ⟨w.heap.size + 1,0,none⟩ (.agg #[.string ⟨#[]⟩,.int .i64 0,.int .i64 0,.int .i64 0,.string ⟨#[]⟩]) (by go_simp) (by go_simp)) rfl ?_;exact ⟨ret_two (by rw [HA2.out]; rfl) (by rw [HA2.out]; rfl),(Below.setCell (Below.setCell (Below.setCell (Below.setCell (Below.setCell hbel (by simp) _) (by simp) _) (by simp) _) (by simp) _) (by simp) _)⟩
end
section
open Go.ChangeShapes Go.WideShapes Go.ChangeAt Go.RowKit
theorem rzero_any (t : Tr) (a1 a2 : Option Addr) (n1 c1 n2 c2 : Nat) (w : World) (h1 : n1 = t.es.length) (h2 : n2 = t.rest.length) : Calls Tryz.prog 52 #[.agg #[.int .i64 t.kind,.int .i64 t.n,.string t.s,.slice a1 n1 c1,.slice a2 n2 c2]] w fun e w' => e = .returned (.bool (zroB t)) ∧ Below w.heap.size w w' := by
 have hb : Below w.heap.size w (w.alloc (Obj.cells #[.int .i64 t.kind,.int .i64 t.n,.string t.s,.slice a1 n1 c1,.slice a2 n2 c2] 30)) := bra _
 have hz : zroB t = (decide (t.kind = 1 ∨ t.kind = 2 ∨ t.kind = 3) && decide (t.n = 0) && decide (t.s.size = 0) && decide (n1 = 0) && decide (n2 = 0)) := by rw [zroB,h1,h2]
 rw [hz];clear hz h1 h2;generalize t.kind = K at *;generalize t.n = N at *;generalize t.s = S at *
 have kk : K = 1 ∨ K = 2 ∨ K = 3 ∨ (¬ K = 1 ∧ ¬ K = 2 ∧ ¬ K = 3) := by omega
 rcases kk with rfl | rfl | rfl | ⟨h1,h2,h3⟩
 ·by_cases hN : N = 0
  ·subst hN
   by_cases hS : S.size = 0
   ·obtain rfl := size_empty hS
    by_cases h1 : n1 = 0
    ·subst h1
     by_cases h2 : n2 = 0
     ·subst h2
      go_enter Tryz.func52,Tryz.ntmps52
      go_wp2_with fail;go_ret;exact ⟨rfl,hb⟩
     ·have d2 : ((n2 : Int) == 0) = false := by simp; omega
      simp only [decide_eq_false h2,Bool.and_false];clear h2
      go_enter Tryz.func52,Tryz.ntmps52
      go_wp2_with fail;go_ret;exact ⟨rfl,hb⟩
    ·have d1 : ((n1 : Int) == 0) = false := by simp; omega
     simp only [decide_eq_false h1,Bool.and_false,Bool.false_and];clear h1
     go_enter Tryz.func52,Tryz.ntmps52
     go_wp2_with fail;go_ret;exact ⟨rfl,hb⟩
   ·have dS : (S.toList == ([] : List UInt8)) = false := by rw [ByteArray.toList_eq]; simp; intro e; exact hS (by rw [← ByteArray.size_data,e]; rfl)
    simp only [decide_eq_false hS,Bool.and_false,Bool.false_and];clear hS
    go_enter Tryz.func52,Tryz.ntmps52
    go_wp2_with fail;go_ret;exact ⟨rfl,hb⟩
  ·have dN : (N == 0) = false := by simpa using hN
   simp only [decide_eq_false hN,Bool.and_false,Bool.false_and];clear hN
   go_enter Tryz.func52,Tryz.ntmps52
   go_wp2_with fail;go_ret;exact ⟨rfl,hb⟩
 ·by_cases hN : N = 0
  ·subst hN
   by_cases hS : S.size = 0
   ·obtain rfl := size_empty hS
    by_cases h1 : n1 = 0
    ·subst h1
     by_cases h2 : n2 = 0
     ·subst h2
      go_enter Tryz.func52,Tryz.ntmps52
      go_wp2_with fail;go_ret;exact ⟨rfl,hb⟩
     ·have d2 : ((n2 : Int) == 0) = false := by simp; omega
      simp only [decide_eq_false h2,Bool.and_false];clear h2
      go_enter Tryz.func52,Tryz.ntmps52
      go_wp2_with fail;go_ret;exact ⟨rfl,hb⟩
    ·have d1 : ((n1 : Int) == 0) = false := by simp; omega
     simp only [decide_eq_false h1,Bool.and_false,Bool.false_and];clear h1
     go_enter Tryz.func52,Tryz.ntmps52
     go_wp2_with fail;go_ret;exact ⟨rfl,hb⟩
   ·have dS : (S.toList == ([] : List UInt8)) = false := by rw [ByteArray.toList_eq]; simp; intro e; exact hS (by rw [← ByteArray.size_data,e]; rfl)
    simp only [decide_eq_false hS,Bool.and_false,Bool.false_and];clear hS
    go_enter Tryz.func52,Tryz.ntmps52
    go_wp2_with fail;go_ret;exact ⟨rfl,hb⟩
  ·have dN : (N == 0) = false := by simpa using hN
   simp only [decide_eq_false hN,Bool.and_false,Bool.false_and];clear hN
   go_enter Tryz.func52,Tryz.ntmps52
   go_wp2_with fail;go_ret;exact ⟨rfl,hb⟩
 ·by_cases hN : N = 0
  ·subst hN
   by_cases hS : S.size = 0
   ·obtain rfl := size_empty hS
    by_cases h1 : n1 = 0
    ·subst h1
     by_cases h2 : n2 = 0
     ·subst h2
      go_enter Tryz.func52,Tryz.ntmps52
      go_wp2_with fail;go_ret;exact ⟨rfl,hb⟩
     ·have d2 : ((n2 : Int) == 0) = false := by simp; omega
      simp only [decide_eq_false h2,Bool.and_false];clear h2
      go_enter Tryz.func52,Tryz.ntmps52
      go_wp2_with fail;go_ret;exact ⟨rfl,hb⟩
    ·have d1 : ((n1 : Int) == 0) = false := by simp; omega
     simp only [decide_eq_false h1,Bool.and_false,Bool.false_and];clear h1
     go_enter Tryz.func52,Tryz.ntmps52
     go_wp2_with fail;go_ret;exact ⟨rfl,hb⟩
   ·have dS : (S.toList == ([] : List UInt8)) = false := by rw [ByteArray.toList_eq]; simp; intro e; exact hS (by rw [← ByteArray.size_data,e]; rfl)
    simp only [decide_eq_false hS,Bool.and_false,Bool.false_and];clear hS
    go_enter Tryz.func52,Tryz.ntmps52
    go_wp2_with fail;go_ret;exact ⟨rfl,hb⟩
  ·have dN : (N == 0) = false := by simpa using hN
   simp only [decide_eq_false hN,Bool.and_false,Bool.false_and];clear hN
   go_enter Tryz.func52,Tryz.ntmps52
   go_wp2_with fail;go_ret;exact ⟨rfl,hb⟩
 ·have hk : decide (K = 1 ∨ K = 2 ∨ K = 3) = false := by simp [h1,h2,h3]
  simp only [hk,Bool.false_and]
  rcases (by omega : K < 1 ∨ (1 ≤ K ∧ 3 < K)) with h5 | ⟨h5,h6⟩
  ·have e1 : decide (1 ≤ K) = false := by simp; omega
   clear h1 h2 h3 hk
   go_enter Tryz.func52,Tryz.ntmps52
   go_wp2_with fail;go_ret;exact ⟨rfl,hb⟩
  ·have e1 : decide (1 ≤ K) = true := by simp; omega
   have e2 : decide (K ≤ 3) = false := by simp; omega
   clear h1 h2 h3 hk
   go_enter Tryz.func52,Tryz.ntmps52
   go_wp2_with fail;go_ret;exact ⟨rfl,hb⟩
theorem Blk.set5 {w : World} {b : Nat} {c0 c1 c2 c3 c4 x0 x1 x2 x3 x4 : Value} {t : TypeId} (h : Blk w b #[c0,c1,c2,c3,c4] t) : Blk (set5 w b 0 x0 x1 x2 x3 x4) b #[x0,x1,x2,x3,x4] t :=
 ((((h.set 0 x0 rfl).set 1 x1 rfl).set 2 x2 rfl).set 3 x3 rfl).set 4 x4 rfl
theorem dblk4r (w : World) (c1 c2 c3 c4 : Array Value) (t1 t2 t3 t4 : TypeId) : Blk ((((w.alloc (Obj.cells c1 t1)).alloc (Obj.cells c2 t2)).alloc (Obj.cells c3 t3)).alloc (Obj.cells c4 t4)) w.heap.size c1 t1 ∧ Blk ((((w.alloc (Obj.cells c1 t1)).alloc (Obj.cells c2 t2)).alloc (Obj.cells c3 t3)).alloc (Obj.cells c4 t4)) (w.heap.size + 1) c2 t2 ∧ Blk ((((w.alloc (Obj.cells c1 t1)).alloc (Obj.cells c2 t2)).alloc (Obj.cells c3 t3)).alloc (Obj.cells c4 t4)) (w.heap.size + 2) c3 t3 ∧ Blk ((((w.alloc (Obj.cells c1 t1)).alloc (Obj.cells c2 t2)).alloc (Obj.cells c3 t3)).alloc (Obj.cells c4 t4)) (w.heap.size + 3) c4 t4 ∧ Below w.heap.size w ((((w.alloc (Obj.cells c1 t1)).alloc (Obj.cells c2 t2)).alloc (Obj.cells c3 t3)).alloc (Obj.cells c4 t4)) := dblk4 w c1 c2 c3 c4 t1 t2 t3 t4
theorem below_kp2 {w a b : World} {S : Nat → Prop} (h : Below w.heap.size w a) (k : Kp S a b) (hs : ∀ q,S q → w.heap.size ≤ q) : Below w.heap.size w b := h.trans (k.toBelow h.size hs)
def keepK (fs : List FlS) (k : KE) : Bool := keepR fs (k.1,k.2.2.1)
theorem esK_keep (fs : List FlS) (K : List KE) : esK (K.filter (keepK fs)) = setldR fs (esK K) := by
 unfold esK setldR;rw [List.filter_map]
 rfl
structure EnK (n B : Nat) (K : List KE) (ve : Value) (w : World) : Prop where
 er : w.ownsRow B 69 2 ve K.length (entCells K)
 row : ∀ k ∈ K,∃ rows bss,RowO (TrO n B) B 30 5 w k.2.1 k.2.2.1 rows bss ∧ k.2.2.2 = allB k.2.1 bss
theorem EnK.below {n B : Nat} {K : List KE} {ve : Value} {w w' : World} (h : EnK n B K ve w) (ap : Apt B w (fpK K ++ blkOf ve)) (hb : Below w.heap.size w w') : EnK n B K ve w' := by
 have hs := Sm.below hb fun q hq => (ap.2 q hq).2
 refine ⟨own_sm h.er (hs.mono fun q hq => by simp [hq]),fun k hk => ?_⟩;obtain ⟨rows,bss,g1,g2⟩ := h.row k hk;exact ⟨rows,bss,g1.sm (hs.mono fun q hq => List.mem_append.2 (.inl (fpK_mem hk q (by rw [g2]; exact hq)))) fun _ _ _ hp hb => hp.sm hb,g2⟩
theorem EnK.at {n B N ec : Nat} {K : List KE} {ea : Option Addr} {w : World} (h : EnK n B K (.slice ea N ec) w) {i : Nat} {k : KE} (hk : K[i]? = some k) (hne : k.2.2.1 ≠ []) : ∃ g gt tc t l a1 n1 c1 a2 n2 c2,ea = some ⟨g,0,none⟩ ∧ k.2.1 = .slice (some ⟨gt,0,none⟩) k.2.2.1.length tc ∧ k.2.2.1 = t :: l ∧ n1 = t.es.length ∧ n2 = t.rest.length ∧ B ≤ g ∧ g < w.heap.size ∧
  w.cell? ⟨g,i * 2,none⟩ = some (.int .i64 k.1) ∧ w.cell? ⟨g,i * 2 + 1,none⟩ = some k.2.1 ∧ w.cell? ⟨gt,0,none⟩ = some (.int .i64 t.kind) ∧ w.cell? ⟨gt,1,none⟩ = some (.int .i64 t.n) ∧ w.cell? ⟨gt,2,none⟩ = some (.string t.s) ∧ w.cell? ⟨gt,3,none⟩ = some (.slice a1 n1 c1) ∧ w.cell? ⟨gt,4,none⟩ = some (.slice a2 n2 c2) := by
 have hg := (RowG.own (entC_two K) (by decide) h.er).1
 have hr : (K.map entC)[i]? = some (entC k) := by simp [hk]
 obtain ⟨g,off,e1,hc⟩ := hg.get hr;subst e1;obtain ⟨rows,bss,g1,g2⟩ := h.row k (List.mem_of_getElem? hk);obtain ⟨t,l,hts⟩ := List.exists_cons_of_ne_nil hne
 have h0 : k.2.2.1[0]? = some t := by rw [hts]; rfl
 obtain ⟨r0,b0,q1,q2,q3⟩ := g1.each 0 t h0;obtain ⟨a1,c1,a2,c2,hr0⟩ := q3.lens;subst hr0;have hg2 := (RowG.own g1.wide (by decide) g1.own).1
 rcases h.er.2 with ⟨e,_⟩ | ⟨g',cap,cur,e,h2,h3,_⟩
 ·cases e
 simp only [Value.slice.injEq,Option.some.injEq,Addr.mk.injEq,and_true] at e;obtain ⟨⟨rfl,rfl⟩, -, -⟩ := e
 rcases g1.own.2 with ⟨_,e0⟩ | ⟨gt,tc,cur2,e2,_⟩
 ·rw [hts] at e0; simp at e0
 rw [e2] at hg2;obtain ⟨g',off',e3,hd⟩ := hg2.get q1;simp only [Option.some.injEq,Addr.mk.injEq,and_true] at e3;obtain ⟨rfl,rfl⟩ := e3;have c0 := hc 0 _ rfl;have c1' := hc 1 _ rfl;have d0 := hd 0 _ rfl;have d1 := hd 1 _ rfl;have d2 := hd 2 _ rfl;have d3 := hd 3 _ rfl;have d4 := hd 4 _ rfl;simp only [Nat.zero_mul,Nat.zero_add,Nat.add_zero] at c0 c1' d0 d1 d2 d3 d4;exact ⟨g,gt,tc,t,l,a1,_,c1,a2,_,c2,rfl,e2,hts,rfl,rfl,h2,(Array.getElem?_eq_some_iff.1 h3).1,c0,c1',d0,d1,d2,d3,d4⟩
theorem keep_snoc {fs : List FlS} {K : List KE} {i : Nat} {k : KE} (hk : K[i]? = some k) : (K.take (i + 1)).filter (keepK fs) = (K.take i).filter (keepK fs) ++ if keepK fs k = true then [k] else [] := by
 obtain ⟨hi,rfl⟩ := List.getElem?_eq_some_iff.1 hk;rw [List.take_succ_eq_append_getElem hi,List.filter_append];simp only [List.filter_cons,List.filter_nil]
theorem rsettled_any {n B : Nat} {K : List KE} {ve : Value} {xa : Option Addr} {xn xc : Nat} {w : World} (mnm : ByteArray) (fa ra : Option Addr) (fl fc rl rc : Nat) (fs : List FlS) (hf : RowG w (.slice fa fl fc) 5 (flRows fs)) (h : EnK n B K ve w) (hap : Apt B w (fpK K ++ blkOf ve)) (hne : ∀ k ∈ K,k.2.2.1 ≠ [] ∧ (fldOf fs k.1).isSome = true) (hN : K.length ≤ 1000) :
  Calls Tryz.prog 65 #[.agg #[.string mnm,.slice fa fl fc,.slice ra rl rc],.agg #[.int .i64 3,.int .i64 0,.string ⟨#[]⟩,ve,.slice xa xn xc]] w fun e w' => ∃ v,e = .returned (.agg #[.int .i64 3,.int .i64 0,.string ⟨#[]⟩,v,.slice xa xn xc]) ∧ w'.ownsRow w.heap.size 69 2 v (K.filter (keepK fs)).length (entCells (K.filter (keepK fs))) ∧ Below w.heap.size w w' := by
 obtain ⟨i0,hi0,hz0,hz1,hz2⟩ := info_parts infoEt;obtain ⟨ea,ec,hve⟩ := own_form h.er;obtain ⟨N,hNN⟩ : ∃ N,K.length = N := ⟨_,rfl⟩;rw [hNN] at hve hN;subst hve;obtain ⟨BM,BT,BR,BX,hbw⟩ := dblk4r w #[.string mnm,.slice fa fl fc,.slice ra rl rc] #[.int .i64 3,.int .i64 0,.string ⟨#[]⟩,.slice ea N ec,.slice xa xn xc] #[.int .i64 0,.int .i64 0,.string ⟨#[]⟩,.slice none 0 0,.slice none 0 0] #[.int .i64 3,.int .i64 0,.string ⟨#[]⟩,.slice none 0 0,.slice xa xn xc] 52 30 30 30;have HNK : Hid (K.length = N) := hNN;have HH : Hid (EnK n B K (.slice ea N ec) w ∧ Apt B w (fpK K ++ blkOf (.slice ea N ec)) ∧ (∀ k ∈ K,k.2.2.1 ≠ [] ∧ (fldOf fs k.1).isSome = true)) := ⟨h,hap,hne⟩;have HRF : Hid (RowG w (.slice fa fl fc) 5 (flRows fs)) := hf;clear hf h hap hne hNN
 go_enter Tryz.func65,Tryz.ntmps65
 go_wp2_with fail;obtain ⟨b0,hb0⟩ : ∃ z,w.heap.size = z := ⟨_,rfl⟩;have HBZ : Hid (w.heap.size = b0) := hb0;generalize ((((w.alloc (Obj.cells #[.string mnm,.slice fa fl fc,.slice ra rl rc] 52)).alloc (Obj.cells #[.int .i64 3,.int .i64 0,.string ⟨#[]⟩,.slice ea N ec,.slice xa xn xc] 30)).alloc (Obj.cells #[.int .i64 0,.int .i64 0,.string ⟨#[]⟩,.slice none 0 0,.slice none 0 0] 30)).alloc (Obj.cells #[.int .i64 3,.int .i64 0,.string ⟨#[]⟩,.slice none 0 0,.slice xa xn xc] 30)) = WA at *;rw [hb0] at BM BT BR BX
 try simp only [hb0]
 clear hb0;have HBW : Hid (Below w.heap.size w WA) := hbw;have HB4 : Hid (Blk WA b0 #[.string mnm,.slice fa fl fc,.slice ra rl rc] 52 ∧ Blk WA (b0 + 1) #[.int .i64 3,.int .i64 0,.string ⟨#[]⟩,.slice ea N ec,.slice xa xn xc] 30 ∧ Blk WA (b0 + 2) #[.int .i64 0,.int .i64 0,.string ⟨#[]⟩,.slice none 0 0,.slice none 0 0] 30) := ⟨BM,BT,BR⟩;have HWZ : Hid (b0 + 3 < WA.heap.size) := BX.lt;have HBX : Hid (Blk WA (b0 + 3) #[.int .i64 3,.int .i64 0,.string ⟨#[]⟩,.slice none 0 0,.slice xa xn xc] 30) := BX;clear BM BT BR BX hbw
 go_loopw [6] (fun iv wr => ∃ (i : Nat) (v : Value),iv = .int .i64 (i : Int) ∧ i ≤ N ∧ Hid (Blk wr (b0 + 3) #[.int .i64 3,.int .i64 0,.string ⟨#[]⟩,v,.slice xa xn xc] 30) ∧ Hid (wr.ownsRow WA.heap.size 69 2 v ((K.take i).filter (keepK fs)).length (entCells ((K.take i).filter (keepK fs)))) ∧ Hid (Kp (fun q => q = b0 + 3) WA wr)) (fun iv _ => N - (intOf iv).toNat)
 case atStart => exact ⟨0,.slice none 0 0,rfl,by omega,HBX,(by rw [List.take_zero]; exact World.ownsRow_nil _ _ _ _ : World.ownsRow _ _ _ _ _ _ _),Kp.refl _ _⟩
 case round =>
  obtain ⟨i,v,rfl,hi,HX,HO,HK⟩ := hrel
  have HLE : Hid (((K.take i).filter (keepK fs)).length ≤ N) := hid (by
   have h1 := List.length_filter_le (keepK fs) (K.take i)
   have h2 : (K.take i).length ≤ K.length := by rw [List.length_take]; omega
   have := HNK.out
   omega)
  obtain ⟨va,vc,hv⟩ := own_form HO.out;obtain ⟨V,hV⟩ : ∃ z,((K.take i).filter (keepK fs)).length = z := ⟨_,rfl⟩;have HVL : Hid (((K.take i).filter (keepK fs)).length = V) := hV;rw [hV] at hv HO HLE;have hVN : V ≤ N := HLE.out;subst hv;clear hV HLE;have BM := HB4.out.1.kp HK.out (by omega);have BT := HB4.out.2.1.kp HK.out (by omega);have BR := HB4.out.2.2.kp HK.out (by omega);have HBM : Hid (Blk wr b0 #[.string mnm,.slice fa fl fc,.slice ra rl rc] 52 ∧ Blk wr (b0 + 1) #[.int .i64 3,.int .i64 0,.string ⟨#[]⟩,.slice ea N ec,.slice xa xn xc] 30 ∧ Blk wr (b0 + 2) #[.int .i64 0,.int .i64 0,.string ⟨#[]⟩,.slice none 0 0,.slice none 0 0] 30) := ⟨BM,BT,BR⟩;have t3 := (BT.cell 3).trans rfl
  by_cases hlt : i < N
  ·obtain ⟨k,hk⟩ : ∃ k,K[i]? = some k := ⟨_,List.getElem?_eq_getElem (by rw [HNK.out]; exact hlt)⟩;have HKM : Hid (K[i]? = some k) := hk;have hwb : Below w.heap.size w wr := (below_kp2 HBW.out HK.out (fun q e => by have := HBZ.out; omega));have HER : Hid (EnK n B K (.slice ea N ec) wr) := HH.out.1.below HH.out.2.1 hwb;obtain ⟨g,gt,tc,t,l,a1,n1,c1,a2,n2,c2,rfl,hkv,hts,hn1,hn2,hg1,hg2,p0,p1,d0,d1,d2,d3,d4⟩ := HER.out.at hk (HH.out.2.2 k (List.mem_of_getElem? hk)).1;obtain ⟨f,hff⟩ := Option.isSome_iff_exists.1 (HH.out.2.2 k (List.mem_of_getElem? hk)).2;rw [hkv] at p1;obtain ⟨kt,hkt⟩ : ∃ z,k.1 = z := ⟨_,rfl⟩;rw [hkt] at p0 hff;obtain ⟨kn,hkn⟩ : ∃ z,k.2.2.1.length = z := ⟨_,rfl⟩;rw [hkn] at p1
   have hkn0 : 0 < kn := by rw [← hkn,hts]; simp
   have HKE : Hid (k.1 = kt ∧ k.2.2.1 = t :: l ∧ k.2.1 = .slice (some ⟨gt,0,none⟩) kn tc) := ⟨hkt,hts,by rw [hkv,hkn]⟩
   have HKP : Hid (keepK fs k = !(decide (f.label = 1) && zroB t)) := hid (by
    unfold keepK keepR
    simp only [hkt,hff,hts,List.headD_cons])
   obtain ⟨y1,y2,y3,y4,y5⟩ := f;simp only at HKP
   have HFC : Hid (∀ W,Below wr.heap.size wr W → Calls Tryz.prog 49 #[.agg #[.string mnm,.slice fa fl fc,.slice ra rl rc],.int .i64 kt] W fun e w' => e = .returned (.tuple #[.agg #[.string y1,.int .i64 y2,.int .i64 y3,.int .i64 y4,.string y5],.bool true]) ∧ Below W.heap.size W w') := fun W hW => by
    have h1 := r7field_any (w := W) (snm := mnm) (nm := kt) (am := ra) (M := rl) (cm := rc) (HRF.out.below (hwb.trans (hW.mono hwb.size)));have h2 : (fs.find? fun m => decide (m.tag = kt)) = some ⟨y1,y2,y3,y4,y5⟩ := hff;rw [h2] at h1;exact h1
   have HZC : Hid (∀ W,Calls Tryz.prog 52 #[.agg #[.int .i64 t.kind,.int .i64 t.n,.string t.s,.slice a1 n1 c1,.slice a2 n2 c2]] W fun e w' => e = .returned (.bool (zroB t)) ∧ Below W.heap.size W w') := fun W => rzero_any t a1 a2 n1 c1 n2 c2 W hn1 hn2
   obtain ⟨zb,hzb⟩ : ∃ z,zroB t = z := ⟨_,rfl⟩;rw [hzb] at HZC HKP;obtain ⟨tk,htk⟩ : ∃ z,t.kind = z := ⟨_,rfl⟩;obtain ⟨tn,htn⟩ : ∃ z,t.n = z := ⟨_,rfl⟩;obtain ⟨tS,htS⟩ : ∃ z,t.s = z := ⟨_,rfl⟩;rw [htk,htn,htS] at HZC;rw [htk] at d0;rw [htn] at d1;rw [htS] at d2
   have HDC : Hid (∀ W,Below wr.heap.size wr W → W.cell? ⟨g,i * 2,none⟩ = some (.int .i64 kt) ∧ W.cell? ⟨g,i * 2 + 1,none⟩ = some (.slice (some ⟨gt,0,none⟩) kn tc) ∧ W.cell? ⟨gt,0,none⟩ = some (.int .i64 tk) ∧ W.cell? ⟨gt,1,none⟩ = some (.int .i64 tn) ∧ W.cell? ⟨gt,2,none⟩ = some (.string tS) ∧ W.cell? ⟨gt,3,none⟩ = some (.slice a1 n1 c1) ∧ W.cell? ⟨gt,4,none⟩ = some (.slice a2 n2 c2)) := fun W hW => by
    have cc : ∀ p u,wr.cell? p = some u → W.cell? p = some u := fun p u h => (hW.cell (World.block_lt_of_cell? _ _ h)).trans h
    exact ⟨cc _ _ p0,cc _ _ p1,cc _ _ d0,cc _ _ d1,cc _ _ d2,cc _ _ d3,cc _ _ d4⟩
   have HWB : Hid (Below w.heap.size w wr) := hwb
   have HGL : Hid (B ≤ g ∧ g < w.heap.size) := ⟨hg1,(by
    have := (HH.out.2.1.2 g (by simp [blkOf,Value.ownBlock])).2
    exact this)⟩
   clear hk hkv hts hff hkt hkn hn1 hn2 hzb htk htn htS hg1 hg2 hwb p0 p1 d0 d1 d2 d3 d4
   go_upto_region 5 with fail
   go_cut [7,8] from 20 to 29 (fun pv bv wx => ∃ b : Nat,pv = .pointer (some ⟨b,0,none⟩) ∧ bv = .bool true ∧ Hid (Blk wx b #[.string y1,.int .i64 y2,.int .i64 y3,.int .i64 y4,.string y5] 56 ∧ Below wr.heap.size wr wx))
   case first =>
    refine M_region (T := fun W => Below wr.heap.size wr W) (m := 13) (by kernel_rfl) ?_;have hS : Below wr.heap.size wr wr.drew := (Below.refl _ _).drew;refine M_tk 0 20 (.agg #[.string mnm,.slice fa fl fc,.slice ra rl rc]) (fun w' hw' => ?_) hS (bts 14 1) ?_
    ·obtain ⟨f0,f1,f2⟩ := cl3 (HBM.out.1.below hw'); go_simp
    refine M_tk 1 21 (.pointer (some ⟨b0 + 1,3,none⟩)) (fun w' hw' => ?_) hS (bts 14 3) ?_
    ·go_simp
    refine M_tk 2 22 (.slice (some ⟨g,0,none⟩) N ec) (fun w' hw' => ?_) hS (bts 14 7) ?_
    ·have f3 := ((HBM.out.2.1.below hw').cell 3).trans rfl; go_simp
    refine M_tk 3 23 (.int .i64 (i : Int)) (fun w' hw' => ?_) hS (bts 14 15) ?_
    ·go_simp
    refine M_tk 4 24 (.pointer (some ⟨g,i * 2,none⟩)) (fun w' hw' => ?_) hS (bts 14 31) ?_
    ·go_simp
    refine M_tk 5 25 (.pointer (some ⟨g,i * 2,none⟩)) (fun w' hw' => ?_) hS (bts 14 63) ?_
    ·go_simp
    refine M_tk 6 26 (.int .i64 kt) (fun w' hw' => ?_) hS (bts 14 127) ?_
    ·have f0 := (HDC.out _ hw').1; go_simp
    generalize wr.drew = U0 at *;refine M_fork 7 11 27 7 49 #[.agg #[.string mnm,.slice fa fl fc,.slice ra rl rc],.int .i64 kt] (.pointer (some ⟨U0.heap.size,0,none⟩)) (U0.alloc (Obj.cells #[.string ⟨#[]⟩,.int .i64 0,.int .i64 0,.int .i64 0,.string ⟨#[]⟩] 56)) rfl rfl rfl rfl (by kernel_rfl) (by rfl) (by rfl) (by go_simp) (by go_simp) ?_ (hS.trans ((bra _).mono hS.size)) ?_
    ·skip
     refine (HFC.out _ hS).mono ?_;rintro ee V1 ⟨rfl,hbU⟩;have hS0 := hS;have hS : Below wr.heap.size wr V1 := hS0.trans (hbU.mono hS0.size);clear hS0 hbU;refine ⟨_,rfl,hS,?_⟩;simp only [zsA,zsZ,zsS];refine M_tk 8 19 (.tuple #[.agg #[.string y1,.int .i64 y2,.int .i64 y3,.int .i64 y4,.string y5],.bool true]) (fun w' hw' => ?_) hS (bts 14 511) ?_
     ·go_simp
     refine M_tk 9 28 (.agg #[.string y1,.int .i64 y2,.int .i64 y3,.int .i64 y4,.string y5]) (fun w' hw' => ?_) hS (bts 14 1023) ?_
     ·go_simp
     refine M_tk 10 29 (.bool true) (fun w' hw' => ?_) hS (bts 14 2047) ?_
     ·go_simp
     refine M_rn 11 7 (.pointer (some ⟨V1.heap.size,0,none⟩)) (V1.alloc (Obj.cells #[.string ⟨#[]⟩,.int .i64 0,.int .i64 0,.int .i64 0,.string ⟨#[]⟩] 56)) (bts 14 4095) rfl (by go_simp) (hS.trans ((bra _).mono hS.size)) ?_;have hbU : Below V1.heap.size V1 (V1.alloc (Obj.cells #[.string ⟨#[]⟩,.int .i64 0,.int .i64 0,.int .i64 0,.string ⟨#[]⟩] 56)) := bra _;obtain ⟨bz,hbz⟩ : ∃ z,V1.heap.size = z := ⟨_,rfl⟩
     have BZ : Blk (V1.alloc (Obj.cells #[.string ⟨#[]⟩,.int .i64 0,.int .i64 0,.int .i64 0,.string ⟨#[]⟩] 56)) bz #[.string ⟨#[]⟩,.int .i64 0,.int .i64 0,.int .i64 0,.string ⟨#[]⟩] 56 := by rw [← hbz]; exact Blk.new V1 _ _
     have GZ : wr.heap.size ≤ bz := by rw [← hbz]; exact hS.size
     have hS0 := hS;have hS : Below wr.heap.size wr (V1.alloc (Obj.cells #[.string ⟨#[]⟩,.int .i64 0,.int .i64 0,.int .i64 0,.string ⟨#[]⟩] 56)) := hS0.trans (hbU.mono hS0.size);clear hS0 hbU;simp only [zsA,zsZ,zsS]
     try simp only [hbz]
     clear hbz;generalize (V1.alloc (Obj.cells #[.string ⟨#[]⟩,.int .i64 0,.int .i64 0,.int .i64 0,.string ⟨#[]⟩] 56)) = V2 at *;obtain ⟨k0,k1,k2,k3,k4⟩ := cl5 BZ;obtain ⟨z0,z1,z2,z3,z4⟩ := fz5 BZ;have hS9 : Below wr.heap.size wr (set5 V2 bz 0 (.string y1) (.int .i64 y2) (.int .i64 y3) (.int .i64 y4) (.string y5)) := hS.trans ((set5_kp V2 bz 0 (.string y1) (.int .i64 y2) (.int .i64 y3) (.int .i64 y4) (.string y5)).toBelow hS.size fun q e => by rw [e]; exact GZ);refine M_sT 12 (set5 V2 bz 0 (.string y1) (.int .i64 y2) (.int .i64 y3) (.int .i64 y4) (.string y5)) (bts 14 8191) rfl (by unfold set5; go_simp) hS9 ?_;clear k0 z0 k1 z1 k2 z2 k3 z3 k4 z4;have HFI : Hid (Blk (set5 V2 bz 0 (.string y1) (.int .i64 y2) (.int .i64 y3) (.int .i64 y4) (.string y5)) bz #[.string y1,.int .i64 y2,.int .i64 y3,.int .i64 y4,.string y5] 56 ∧ Below wr.heap.size wr (set5 V2 bz 0 (.string y1) (.int .i64 y2) (.int .i64 y3) (.int .i64 y4) (.string y5))) := ⟨BZ.set5,hS9⟩;clear hS BZ GZ;generalize (set5 V2 bz 0 (.string y1) (.int .i64 y2) (.int .i64 y3) (.int .i64 y4) (.string y5)) = W9 at *;refine M_rA 13 8 (.bool true) W9 (bts 14 16383) rfl (by go_simp) ?_;simp only [zsA,zsZ,zsS];refine M_done (by kernel_rfl) ?_ _;go_wp2_with fail
     go_meet
     exact ⟨bz,rfl,rfl,HFI⟩
    ·skip
     have hbU : Below U0.heap.size U0 (U0.alloc (Obj.cells #[.string ⟨#[]⟩,.int .i64 0,.int .i64 0,.int .i64 0,.string ⟨#[]⟩] 56)) := bra _;obtain ⟨bz,hbz⟩ : ∃ z,U0.heap.size = z := ⟨_,rfl⟩
     have BZ : Blk (U0.alloc (Obj.cells #[.string ⟨#[]⟩,.int .i64 0,.int .i64 0,.int .i64 0,.string ⟨#[]⟩] 56)) bz #[.string ⟨#[]⟩,.int .i64 0,.int .i64 0,.int .i64 0,.string ⟨#[]⟩] 56 := by rw [← hbz]; exact Blk.new U0 _ _
     have GZ : wr.heap.size ≤ bz := by rw [← hbz]; exact hS.size
     have hS0 := hS;have hS : Below wr.heap.size wr (U0.alloc (Obj.cells #[.string ⟨#[]⟩,.int .i64 0,.int .i64 0,.int .i64 0,.string ⟨#[]⟩] 56)) := hS0.trans (hbU.mono hS0.size);clear hS0 hbU;simp only [zsA,zsZ,zsS]
     try simp only [hbz]
     clear hbz;generalize (U0.alloc (Obj.cells #[.string ⟨#[]⟩,.int .i64 0,.int .i64 0,.int .i64 0,.string ⟨#[]⟩] 56)) = V3 at *;refine M_cl 7 27 49 #[.agg #[.string mnm,.slice fa fl fc,.slice ra rl rc],.int .i64 kt] (bts 14 2303) rfl (fun W => by go_simp) ?_;refine (HFC.out _ hS).mono ?_;rintro ee V4 ⟨rfl,hbU⟩
     replace BZ := BZ.below hbU
     have hS0 := hS;have hS : Below wr.heap.size wr V4 := hS0.trans (hbU.mono hS0.size);clear hS0 hbU;refine ⟨_,rfl,hS,?_⟩;simp only [zsA,zsZ,zsS];refine M_tk 8 19 (.tuple #[.agg #[.string y1,.int .i64 y2,.int .i64 y3,.int .i64 y4,.string y5],.bool true]) (fun w' hw' => ?_) hS (bts 14 2559) ?_
     ·go_simp
     refine M_tk 9 28 (.agg #[.string y1,.int .i64 y2,.int .i64 y3,.int .i64 y4,.string y5]) (fun w' hw' => ?_) hS (bts 14 3071) ?_
     ·go_simp
     refine M_tk 10 29 (.bool true) (fun w' hw' => ?_) hS (bts 14 4095) ?_
     ·go_simp
     obtain ⟨k0,k1,k2,k3,k4⟩ := cl5 BZ;obtain ⟨z0,z1,z2,z3,z4⟩ := fz5 BZ;have hS9 : Below wr.heap.size wr (set5 V4 bz 0 (.string y1) (.int .i64 y2) (.int .i64 y3) (.int .i64 y4) (.string y5)) := hS.trans ((set5_kp V4 bz 0 (.string y1) (.int .i64 y2) (.int .i64 y3) (.int .i64 y4) (.string y5)).toBelow hS.size fun q e => by rw [e]; exact GZ);refine M_sT 12 (set5 V4 bz 0 (.string y1) (.int .i64 y2) (.int .i64 y3) (.int .i64 y4) (.string y5)) (bts 14 8191) rfl (by unfold set5; go_simp) hS9 ?_;clear k0 z0 k1 z1 k2 z2 k3 z3 k4 z4;have HFI : Hid (Blk (set5 V4 bz 0 (.string y1) (.int .i64 y2) (.int .i64 y3) (.int .i64 y4) (.string y5)) bz #[.string y1,.int .i64 y2,.int .i64 y3,.int .i64 y4,.string y5] 56 ∧ Below wr.heap.size wr (set5 V4 bz 0 (.string y1) (.int .i64 y2) (.int .i64 y3) (.int .i64 y4) (.string y5))) := ⟨BZ.set5,hS9⟩;clear hS BZ GZ;generalize (set5 V4 bz 0 (.string y1) (.int .i64 y2) (.int .i64 y3) (.int .i64 y4) (.string y5)) = W9 at *;refine M_rA 13 8 (.bool true) W9 (bts 14 16383) rfl (by go_simp) ?_;simp only [zsA,zsZ,zsS];refine M_done (by kernel_rfl) ?_ _;go_wp2_with fail
     go_meet
     exact ⟨bz,rfl,rfl,HFI⟩
   case rest =>
    obtain ⟨b,rfl,rfl,HFB⟩ := hcut;have hbc : Below wr.heap.size wr wc := HFB.out.2;have HBC : Hid (Below wr.heap.size wr wc) := hbc;have BF := HFB.out.1;have f2 := (BF.cell 2).trans rfl;have BT2 := HBM.out.2.1.below hbc;have t3 := (BT2.cell 3).trans rfl;clear t3;have t3 := (BT2.cell 3).trans rfl;obtain ⟨p0,p1,d0,d1,d2,d3,d4⟩ := HDC.out wc hbc;clear BF BT2 hbc;have HNX : Hid (∀ W,Below wc.heap.size wc W → Below wr.heap.size wr W) := fun W hW => HBC.out.trans (hW.mono HBC.out.size)
    by_cases hy3 : y3 = 1
    rotate_left
    ·have dy : (y3 != 1) = true := by simpa using hy3
     have HKT : Hid (keepK fs k = true) := hid (by rw [HKP.out]; simp [hy3]);clear hy3;go_wp2_with fail;have HK2 : Hid (keepK fs k = true) := HKT;have HBE : Hid (Below wr.heap.size wr wc) := HBC.out;clear f2 t3 p0 p1 d0 d1 d2 d3 d4
     go_upto_region 7 with fail
     have HOE : Hid (wc.ownsRow WA.heap.size 69 2 (.slice va V vc) V (entCells ((K.take i).filter (keepK fs)))) := own_below HO.out HBE.out
     have HAPX : Hid (∃ a c W',(Builtin.append_ #[27,27] 27 #[.slice va V vc,.slice (some ⟨wc.heap.size,0,none⟩) 1 1]).run Tryz.prog (wc.drew.alloc (Obj.cells #[.int .i64 kt,.slice (some ⟨gt,0,none⟩) kn tc] 69)) = .ok (.slice a (V + 1) c) W' ∧ W'.ownsRow WA.heap.size 69 2 (.slice a (V + 1) c) (V + 1) (entCells ((K.take i).filter (keepK fs)) ++ [.int .i64 kt,.slice (some ⟨gt,0,none⟩) kn tc]) ∧ Kp (fun q => q ∈ blkOf (.slice va V vc)) wc W') := (by
      have al : Below wc.heap.size wc (wc.drew.alloc (Obj.cells #[.int .i64 kt,.slice (some ⟨gt,0,none⟩) kn tc] 69)) := ((Below.refl _ _).drew).alloc (Nat.le_refl _) _;have hz : WA.heap.size ≤ wc.heap.size := Nat.le_trans HK.out.size HBE.out.size;have BZ : Blk (wc.drew.alloc (Obj.cells #[.int .i64 kt,.slice (some ⟨gt,0,none⟩) kn tc] 69)) wc.heap.size #[.int .i64 kt,.slice (some ⟨gt,0,none⟩) kn tc] 69 := Blk.new wc.drew _ _
      obtain ⟨v',W',r1,r2,r3,_,r5⟩ := run_append_own_at (wc.drew.alloc (Obj.cells #[.int .i64 kt,.slice (some ⟨gt,0,none⟩) kn tc] 69)) WA.heap.size 27 27 69 i0 _ 2 _ Tryz.underlying27 hi0 hz0 hz1 hz2 rfl (by decide) (.slice va V vc) V _ (own_below HOE.out al) ⟨wc.heap.size,0,none⟩ 1 1 [.int .i64 kt,.slice (some ⟨gt,0,none⟩) kn tc] rfl (fun j u hu => by
       have := BZ.cell j;rw [Addr.add_lit,Nat.zero_add,this]
       simpa using hu) (fun u hu => by
        simp only [List.mem_cons,List.not_mem_nil,or_false] at hu
        rcases hu with rfl | rfl <;> rfl) (by unfold maxLen; omega) (by omega) (Nat.le_trans hz al.size)
      obtain ⟨a,c,rfl⟩ := own_form r2
      exact ⟨a,c,W',r1,r2,(Kp.ofBelow al).trans2 ((Kp.refl _ _).grown r3 (fun k hk _ => mem_blkOf.2 hk)) (fun _ _ hi => hi)⟩ : ∃ a c W',_)
     obtain ⟨a9,c9,W',e1,e2,e3⟩ := HAPX.out;have HAP : Hid ((Builtin.append_ #[27,27] 27 #[.slice va V vc,.slice (some ⟨wc.heap.size,0,none⟩) 1 1]).run Tryz.prog (wc.drew.alloc (Obj.cells #[.int .i64 kt,.slice (some ⟨gt,0,none⟩) kn tc] 69)) = .ok (.slice a9 (V + 1) c9) W') := e1;have HKW : Hid (Kp (fun q => q ∈ blkOf (.slice va V vc)) wc W') := e3;have HVB : Hid (∀ q ∈ blkOf (.slice va V vc),WA.heap.size ≤ q) := fun q hq => (own_lt HOE.out (mem_blkOf.1 hq)).1
     have HCE : Hid (∀ W,Kp (fun q => q ∈ blkOf (.slice va V vc)) wc W → Blk W (b0 + 3) #[.int .i64 3,.int .i64 0,.string ⟨#[]⟩,.slice va V vc,.slice xa xn xc] 30 ∧ Blk W (b0 + 1) #[.int .i64 3,.int .i64 0,.string ⟨#[]⟩,.slice (some ⟨g,0,none⟩) N ec,.slice xa xn xc] 30 ∧ W.cell? ⟨g,i * 2,none⟩ = some (.int .i64 kt) ∧ W.cell? ⟨g,i * 2 + 1,none⟩ = some (.slice (some ⟨gt,0,none⟩) kn tc)) := fun W hW => by
      have n3 : b0 + 3 ∉ blkOf (.slice va V vc) := fun e => by have := HVB.out _ e; have := HWZ.out; omega
      have n1 : b0 + 1 ∉ blkOf (.slice va V vc) := fun e => by have := HVB.out _ e; have := HWZ.out; omega
      have ng : g ∉ blkOf (.slice va V vc) := fun e => by have := HVB.out _ e; have := HGL.out.2; have := HBW.out.size; omega
      obtain ⟨c0,c1, -⟩ := HDC.out _ HBE.out;exact ⟨(HX.out.below HBE.out).kp hW n3,(HBM.out.2.1.below HBE.out).kp hW n1,hW.cell c0 ng,hW.cell c1 ng⟩
     have HFI : Hid (Blk (W'.setCell ⟨b0 + 3,3,none⟩ (.slice a9 (V + 1) c9)) (b0 + 3) #[.int .i64 3,.int .i64 0,.string ⟨#[]⟩,.slice a9 (V + 1) c9,.slice xa xn xc] 30 ∧ (W'.setCell ⟨b0 + 3,3,none⟩ (.slice a9 (V + 1) c9)).ownsRow WA.heap.size 69 2 (.slice a9 (V + 1) c9) ((K.take (i + 1)).filter (keepK fs)).length (entCells ((K.take (i + 1)).filter (keepK fs))) ∧ Kp (fun q => q = b0 + 3) WA (W'.setCell ⟨b0 + 3,3,none⟩ (.slice a9 (V + 1) c9))) := (by
      refine ⟨(HCE.out _ HKW.out).1.set 3 _ rfl,?_,?_⟩
      ·have h1 := ownsRow_setCell_below (a := ⟨b0 + 3,3,none⟩) e2 HWZ.out (.slice a9 (V + 1) c9);rw [keep_snoc HKM.out,if_pos HK2.out,List.length_append,HVL.out,entCells_app]
       have h2 : entCells [k] = [.int .i64 kt,.slice (some ⟨gt,0,none⟩) kn tc] := by
        simp only [entCells,entC,List.map_cons,List.map_nil,List.flatten_cons,List.flatten_nil,List.append_nil,HKE.out.1,HKE.out.2.2]
       rw [h2];exact h1
      ·have k1 : Kp (fun q => q = b0 + 3) WA wc := HK.out.trans2 (Kp.ofBelow (S := fun _ => False) HBE.out) (fun _ _ e => e.elim);have k2 : Kp (fun q => q = b0 + 3) WA W' := k1.trans2 HKW.out (fun q hq e => absurd (HVB.out q e) (by omega))
       exact k2.setCell (fun _ => rfl) _ : _ ∧ _)
     clear e1 e2 e3 HAPX HOE HO HX HFC HZC;refine M_region (T := fun W => Kp (fun q => q ∈ blkOf (.slice va V vc)) wc W) (m := 10) (by kernel_rfl) ?_;have hS : Kp (fun q => q ∈ blkOf (.slice va V vc)) wc wc.drew := Kp.ofBelow (Below.refl _ _).drew;refine M_tk 0 45 (.pointer (some ⟨b0 + 3,3,none⟩)) (fun w' hw' => ?_) hS (bts 11 1) ?_
     ·go_simp
     refine M_tk 1 46 (.slice va V vc) (fun w' hw' => ?_) hS (bts 11 3) ?_
     ·have f3 := ((HCE.out _ hw').1.cell 3).trans rfl; go_simp
     refine M_tk 2 47 (.pointer (some ⟨b0 + 1,3,none⟩)) (fun w' hw' => ?_) hS (bts 11 7) ?_
     ·go_simp
     refine M_tk 3 48 (.slice (some ⟨g,0,none⟩) N ec) (fun w' hw' => ?_) hS (bts 11 15) ?_
     ·have f3 := ((HCE.out _ hw').2.1.cell 3).trans rfl; go_simp
     refine M_tk 4 49 (.int .i64 (i : Int)) (fun w' hw' => ?_) hS (bts 11 31) ?_
     ·go_simp
     refine M_tk 5 50 (.pointer (some ⟨g,i * 2,none⟩)) (fun w' hw' => ?_) hS (bts 11 63) ?_
     ·go_simp
     refine M_tk 6 51 (.agg #[.int .i64 kt,.slice (some ⟨gt,0,none⟩) kn tc]) (fun w' hw' => ?_) hS (bts 11 127) ?_
     ·obtain ⟨-, -,c0,c1⟩ := HCE.out _ hw'; go_simp
     refine M_rn 7 52 (.slice (some ⟨wc.heap.size,0,none⟩) 1 1) (wc.drew.alloc (Obj.cells #[.int .i64 kt,.slice (some ⟨gt,0,none⟩) kn tc] 69)) (bts 11 255) rfl (by go_simp) (hS.alloc _) ?_;simp only [zsA,zsZ,zsS];refine M_rn 8 53 (.slice a9 (V + 1) c9) (W') (bts 11 511) rfl (append_run rfl rfl rfl HAP.out) HKW.out ?_;simp only [zsA,zsZ,zsS];refine M_rn 9 54 (.pointer (some ⟨b0 + 3,3,none⟩)) (W') (bts 11 1023) rfl (by go_simp) HKW.out ?_;simp only [zsA,zsZ,zsS];have hz := (HCE.out _ HKW.out).1.froz 3;have hz3 := ((HCE.out _ HKW.out).1.cell 3).trans rfl;refine M_st 10 (W'.setCell ⟨b0 + 3,3,none⟩ (.slice a9 (V + 1) c9)) (bts 11 2047) rfl (by go_simp) ?_;refine M_done (by kernel_rfl) ?_ _;clear hS HCE hz hz3 HAP HKW;generalize W'.setCell ⟨b0 + 3,3,none⟩ (.slice a9 (V + 1) c9) = W9 at *;go_wp2_with fail
     go_roundw
     case rel => exact ⟨i + 1,_,by go_num,by omega,HFI.out.1,HFI.out.2.1,HFI.out.2.2⟩
     case measure => simp [intOf]; omega
    subst hy3;go_wp2_with fail;refine (HZC.out _).mono ?_;rintro e we ⟨rfl,hbe⟩;have hbw2 : Below wr.heap.size wr we := HBC.out.trans (hbe.mono HBC.out.size)
    cases zb with
    | true =>
     have HKT : Hid (keepK fs k = false) := hid (by rw [HKP.out]; rfl)
     have HFI : Hid (Blk we (b0 + 3) #[.int .i64 3,.int .i64 0,.string ⟨#[]⟩,.slice va V vc,.slice xa xn xc] 30 ∧ we.ownsRow WA.heap.size 69 2 (.slice va V vc) ((K.take (i + 1)).filter (keepK fs)).length (entCells ((K.take (i + 1)).filter (keepK fs))) ∧ Kp (fun q => q = b0 + 3) WA we) := (by
      refine ⟨HX.out.below hbw2,?_,HK.out.trans2 (Kp.ofBelow (S := fun _ => False) hbw2) (fun _ _ e => e.elim)⟩;rw [keep_snoc HKM.out,if_neg (by rw [HKT.out]; simp),List.append_nil,HVL.out]
      exact own_below HO.out hbw2 : _ ∧ _)
     clear f2 t3 p0 p1 d0 d1 d2 d3 d4;go_wp2_with fail
     go_roundw
     case rel => exact ⟨i + 1,_,by go_num,by omega,HFI.out.1,HFI.out.2.1,HFI.out.2.2⟩
     case measure => simp [intOf]; omega
    | false =>
     have HKT : Hid (keepK fs k = true) := hid (by rw [HKP.out]; rfl);clear f2 t3 p0 p1 d0 d1 d2 d3 d4;go_wp2_with fail;have HK2 : Hid (keepK fs k = true) := HKT;have HBE : Hid (Below wr.heap.size wr we) := hbw2
     skip
     go_upto_region 7 with fail
     have HOE : Hid (we.ownsRow WA.heap.size 69 2 (.slice va V vc) V (entCells ((K.take i).filter (keepK fs)))) := own_below HO.out HBE.out
     have HAPX : Hid (∃ a c W',(Builtin.append_ #[27,27] 27 #[.slice va V vc,.slice (some ⟨we.heap.size,0,none⟩) 1 1]).run Tryz.prog (we.drew.alloc (Obj.cells #[.int .i64 kt,.slice (some ⟨gt,0,none⟩) kn tc] 69)) = .ok (.slice a (V + 1) c) W' ∧ W'.ownsRow WA.heap.size 69 2 (.slice a (V + 1) c) (V + 1) (entCells ((K.take i).filter (keepK fs)) ++ [.int .i64 kt,.slice (some ⟨gt,0,none⟩) kn tc]) ∧ Kp (fun q => q ∈ blkOf (.slice va V vc)) we W') := (by
      have al : Below we.heap.size we (we.drew.alloc (Obj.cells #[.int .i64 kt,.slice (some ⟨gt,0,none⟩) kn tc] 69)) := ((Below.refl _ _).drew).alloc (Nat.le_refl _) _;have hz : WA.heap.size ≤ we.heap.size := Nat.le_trans HK.out.size HBE.out.size;have BZ : Blk (we.drew.alloc (Obj.cells #[.int .i64 kt,.slice (some ⟨gt,0,none⟩) kn tc] 69)) we.heap.size #[.int .i64 kt,.slice (some ⟨gt,0,none⟩) kn tc] 69 := Blk.new we.drew _ _
      obtain ⟨v',W',r1,r2,r3,_,r5⟩ := run_append_own_at (we.drew.alloc (Obj.cells #[.int .i64 kt,.slice (some ⟨gt,0,none⟩) kn tc] 69)) WA.heap.size 27 27 69 i0 _ 2 _ Tryz.underlying27 hi0 hz0 hz1 hz2 rfl (by decide) (.slice va V vc) V _ (own_below HOE.out al) ⟨we.heap.size,0,none⟩ 1 1 [.int .i64 kt,.slice (some ⟨gt,0,none⟩) kn tc] rfl (fun j u hu => by
       have := BZ.cell j;rw [Addr.add_lit,Nat.zero_add,this]
       simpa using hu) (fun u hu => by
        simp only [List.mem_cons,List.not_mem_nil,or_false] at hu
        rcases hu with rfl | rfl <;> rfl) (by unfold maxLen; omega) (by omega) (Nat.le_trans hz al.size)
      obtain ⟨a,c,rfl⟩ := own_form r2
      exact ⟨a,c,W',r1,r2,(Kp.ofBelow al).trans2 ((Kp.refl _ _).grown r3 (fun k hk _ => mem_blkOf.2 hk)) (fun _ _ hi => hi)⟩ : ∃ a c W',_)
     obtain ⟨a9,c9,W',e1,e2,e3⟩ := HAPX.out;have HAP : Hid ((Builtin.append_ #[27,27] 27 #[.slice va V vc,.slice (some ⟨we.heap.size,0,none⟩) 1 1]).run Tryz.prog (we.drew.alloc (Obj.cells #[.int .i64 kt,.slice (some ⟨gt,0,none⟩) kn tc] 69)) = .ok (.slice a9 (V + 1) c9) W') := e1;have HKW : Hid (Kp (fun q => q ∈ blkOf (.slice va V vc)) we W') := e3;have HVB : Hid (∀ q ∈ blkOf (.slice va V vc),WA.heap.size ≤ q) := fun q hq => (own_lt HOE.out (mem_blkOf.1 hq)).1
     have HCE : Hid (∀ W,Kp (fun q => q ∈ blkOf (.slice va V vc)) we W → Blk W (b0 + 3) #[.int .i64 3,.int .i64 0,.string ⟨#[]⟩,.slice va V vc,.slice xa xn xc] 30 ∧ Blk W (b0 + 1) #[.int .i64 3,.int .i64 0,.string ⟨#[]⟩,.slice (some ⟨g,0,none⟩) N ec,.slice xa xn xc] 30 ∧ W.cell? ⟨g,i * 2,none⟩ = some (.int .i64 kt) ∧ W.cell? ⟨g,i * 2 + 1,none⟩ = some (.slice (some ⟨gt,0,none⟩) kn tc)) := fun W hW => by
      have n3 : b0 + 3 ∉ blkOf (.slice va V vc) := fun e => by have := HVB.out _ e; have := HWZ.out; omega
      have n1 : b0 + 1 ∉ blkOf (.slice va V vc) := fun e => by have := HVB.out _ e; have := HWZ.out; omega
      have ng : g ∉ blkOf (.slice va V vc) := fun e => by have := HVB.out _ e; have := HGL.out.2; have := HBW.out.size; omega
      obtain ⟨c0,c1, -⟩ := HDC.out _ HBE.out;exact ⟨(HX.out.below HBE.out).kp hW n3,(HBM.out.2.1.below HBE.out).kp hW n1,hW.cell c0 ng,hW.cell c1 ng⟩
     have HFI : Hid (Blk (W'.setCell ⟨b0 + 3,3,none⟩ (.slice a9 (V + 1) c9)) (b0 + 3) #[.int .i64 3,.int .i64 0,.string ⟨#[]⟩,.slice a9 (V + 1) c9,.slice xa xn xc] 30 ∧ (W'.setCell ⟨b0 + 3,3,none⟩ (.slice a9 (V + 1) c9)).ownsRow WA.heap.size 69 2 (.slice a9 (V + 1) c9) ((K.take (i + 1)).filter (keepK fs)).length (entCells ((K.take (i + 1)).filter (keepK fs))) ∧ Kp (fun q => q = b0 + 3) WA (W'.setCell ⟨b0 + 3,3,none⟩ (.slice a9 (V + 1) c9))) := (by
      refine ⟨(HCE.out _ HKW.out).1.set 3 _ rfl,?_,?_⟩
      ·have h1 := ownsRow_setCell_below (a := ⟨b0 + 3,3,none⟩) e2 HWZ.out (.slice a9 (V + 1) c9);rw [keep_snoc HKM.out,if_pos HK2.out,List.length_append,HVL.out,entCells_app]
       have h2 : entCells [k] = [.int .i64 kt,.slice (some ⟨gt,0,none⟩) kn tc] := by
        simp only [entCells,entC,List.map_cons,List.map_nil,List.flatten_cons,List.flatten_nil,List.append_nil,HKE.out.1,HKE.out.2.2]
       rw [h2];exact h1
      ·have k1 : Kp (fun q => q = b0 + 3) WA we := HK.out.trans2 (Kp.ofBelow (S := fun _ => False) HBE.out) (fun _ _ e => e.elim);have k2 : Kp (fun q => q = b0 + 3) WA W' := k1.trans2 HKW.out (fun q hq e => absurd (HVB.out q e) (by omega))
       exact k2.setCell (fun _ => rfl) _ : _ ∧ _)
     clear e1 e2 e3 HAPX HOE HO HX HFC HZC;refine M_region (T := fun W => Kp (fun q => q ∈ blkOf (.slice va V vc)) we W) (m := 10) (by kernel_rfl) ?_;have hS : Kp (fun q => q ∈ blkOf (.slice va V vc)) we we.drew := Kp.ofBelow (Below.refl _ _).drew;refine M_tk 0 45 (.pointer (some ⟨b0 + 3,3,none⟩)) (fun w' hw' => ?_) hS (bts 11 1) ?_
     ·go_simp
     refine M_tk 1 46 (.slice va V vc) (fun w' hw' => ?_) hS (bts 11 3) ?_
     ·have f3 := ((HCE.out _ hw').1.cell 3).trans rfl; go_simp
     refine M_tk 2 47 (.pointer (some ⟨b0 + 1,3,none⟩)) (fun w' hw' => ?_) hS (bts 11 7) ?_
     ·go_simp
     refine M_tk 3 48 (.slice (some ⟨g,0,none⟩) N ec) (fun w' hw' => ?_) hS (bts 11 15) ?_
     ·have f3 := ((HCE.out _ hw').2.1.cell 3).trans rfl; go_simp
     refine M_tk 4 49 (.int .i64 (i : Int)) (fun w' hw' => ?_) hS (bts 11 31) ?_
     ·go_simp
     refine M_tk 5 50 (.pointer (some ⟨g,i * 2,none⟩)) (fun w' hw' => ?_) hS (bts 11 63) ?_
     ·go_simp
     refine M_tk 6 51 (.agg #[.int .i64 kt,.slice (some ⟨gt,0,none⟩) kn tc]) (fun w' hw' => ?_) hS (bts 11 127) ?_
     ·obtain ⟨-, -,c0,c1⟩ := HCE.out _ hw'; go_simp
     refine M_rn 7 52 (.slice (some ⟨we.heap.size,0,none⟩) 1 1) (we.drew.alloc (Obj.cells #[.int .i64 kt,.slice (some ⟨gt,0,none⟩) kn tc] 69)) (bts 11 255) rfl (by go_simp) (hS.alloc _) ?_;simp only [zsA,zsZ,zsS];refine M_rn 8 53 (.slice a9 (V + 1) c9) (W') (bts 11 511) rfl (append_run rfl rfl rfl HAP.out) HKW.out ?_;simp only [zsA,zsZ,zsS];refine M_rn 9 54 (.pointer (some ⟨b0 + 3,3,none⟩)) (W') (bts 11 1023) rfl (by go_simp) HKW.out ?_;simp only [zsA,zsZ,zsS];have hz := (HCE.out _ HKW.out).1.froz 3;have hz3 := ((HCE.out _ HKW.out).1.cell 3).trans rfl;refine M_st 10 (W'.setCell ⟨b0 + 3,3,none⟩ (.slice a9 (V + 1) c9)) (bts 11 2047) rfl (by go_simp) ?_;refine M_done (by kernel_rfl) ?_ _;clear hS HCE hz hz3 HAP HKW;generalize W'.setCell ⟨b0 + 3,3,none⟩ (.slice a9 (V + 1) c9) = W9 at *;go_wp2_with fail
     go_roundw
     case rel => exact ⟨i + 1,_,by go_num,by omega,HFI.out.1,HFI.out.2.1,HFI.out.2.2⟩
     case measure => simp [intOf]; omega
  ·obtain rfl : i = N := by omega
   have e1 : K.take i = K := List.take_of_length_le (by rw [HNK.out]; exact Nat.le_refl _)
   have HFI : Hid (wr.ownsRow w.heap.size 69 2 (.slice va V vc) (K.filter (keepK fs)).length (entCells (K.filter (keepK fs))) ∧ Below w.heap.size w wr) := (by
    have h1 := HO.out;rw [← HVL.out,e1] at h1;have := HVL.out;rw [e1] at this;refine ⟨?_,?_⟩
    ·rw [this] at h1 ⊢;exact own_base h1 HBW.out.size
    ·exact below_kp2 HBW.out HK.out (fun q e => by have := HBZ.out; omega) : _ ∧ _)
   obtain ⟨x0,x1,x2,x3,x4⟩ := cl5 HX.out;obtain ⟨r0,r1,r2,r3,r4⟩ := cl5 BR;obtain ⟨z0,z1,z2,z3,z4⟩ := fz5 BR;have ltR := BR.lt;have HO2 := HO;clear BM BT BR HBM e1 HO HX;go_wp2_with fail;refine bodyPost_ret (results_cell rfl _ _ _ ⟨b0 + 2,0,none⟩ (.agg #[.int .i64 3,.int .i64 0,.string ⟨#[]⟩,.slice va V vc,.slice xa xn xc]) (by go_simp) (by go_simp)) rfl ?_;exact ⟨_,rfl,own_kpV HFI.out.1 (set5_kp wr (b0 + 2) 0 _ _ _ _ _) (fun q hq e => by have h1 := (own_lt HO2.out hq).1; have := HWZ.out; omega),HFI.out.2.trans ((set5_kp wr (b0 + 2) 0 _ _ _ _ _).toBelow HFI.out.2.size fun q e => by have := HBZ.out; omega)⟩
end
section
def flE (B : Tr → List Nat × Nat) (tag : Int) (x : Tr) : Fd × Nat :=
 if x.kind = 1 then (⟨tag,0,x.n,⟨#[]⟩⟩,0)
 else if x.kind = 2 then (if 4096 < x.s.size then (fd0,4) else (⟨tag,1,0,x.s⟩,0))
 else if (B x).2 ≠ 0 then (fd0,(B x).2) else (⟨tag,1,0,strN (B x).1⟩,0)
def errE : List (Fd × Nat) → Nat
 | [] => 0
 | p :: l => if p.2 = 0 then errE l else p.2
def enE (B : Tr → List Nat × Nat) (e : Int × List Tr) : List (Fd × Nat) := e.2.map (flE B e.1)
def fsE (B : Tr → List Nat × Nat) (es : List (Int × List Tr)) : List (Fd × Nat) := es.flatMap (enE B)
def rwE (B : Tr → List Nat × Nat) (t : Tr) : List Fd × Nat :=
 if errE (fsE B t.es) ≠ 0 then ([],errE (fsE B t.es)) else (sortF ((fsE B t.es).map (·.1) ++ t.rest),0)
def ofR (r : List Fd × Nat) : List Nat × Nat := if r.2 ≠ 0 then ([],r.2) else putL r.1
def bytE : Nat → Tr → List Nat × Nat
 | 0,_ => ([],0)
 | n + 1,t => ofR (rwE (bytE n) t)
def rawsA (n : Nat) (t : Tr) : List Fd × Nat := if t.kind = 3 ∧ chkN n t = true then rwE (bytE (n - 1)) t else ([],1)
def encA (n : Nat) (t : Tr) : List Nat × Nat := ofR (rawsA n t)
theorem errE_app (a b : List (Fd × Nat)) : errE (a ++ b) = if errE a = 0 then errE b else errE a := by
 induction a with
 | nil => rfl
 | cons p a ih =>
  have h1 : ∀ l,errE (p :: l) = if p.2 = 0 then errE l else p.2 := fun _ => rfl
  rw [List.cons_append,h1,h1]
  by_cases h : p.2 = 0
  ·simp [h,ih]
  ·simp [h]
theorem errE_one (p : Fd × Nat) : errE [p] = p.2 := by
 simp only [errE]; split <;> simp_all
theorem errE_all {l : List (Fd × Nat)} (h : errE l = 0) : ∀ p ∈ l,p.2 = 0 := by
 induction l with
 | nil => intro p hp; cases hp
 | cons q l ih =>
  intro p hp;simp only [errE] at h
  split at h
  ·rcases List.mem_cons.1 hp with rfl | hp
   ·assumption
   ·exact ih h p hp
  ·exact absurd h (by assumption)
theorem fsE_app (B : Tr → List Nat × Nat) (a b : List (Int × List Tr)) : fsE B (a ++ b) = fsE B a ++ fsE B b := by simp [fsE]
theorem fsE_one (B : Tr → List Nat × Nat) (e : Int × List Tr) : fsE B [e] = enE B e := by simp [fsE]
theorem fsE_len (B : Tr → List Nat × Nat) (es : List (Int × List Tr)) : (fsE B es).length = (subs es).length := by
 induction es with
 | nil => rfl
 | cons e l ih =>
  unfold fsE subs at *;rw [List.flatMap_cons,List.flatMap_cons,List.length_append,List.length_append,ih]
  simp [enE]
def uptE (B : Tr → List Nat × Nat) (es : List (Int × List Tr)) (i k : Nat) : List (Fd × Nat) := fsE B (es.take i) ++ ((es[i]?.map fun e => (e.2.take k).map (flE B e.1)).getD [])
theorem uptE_zero (B : Tr → List Nat × Nat) (es : List (Int × List Tr)) (i : Nat) : uptE B es i 0 = fsE B (es.take i) := by
 unfold uptE; cases es[i]? <;> simp
theorem uptE_step {B : Tr → List Nat × Nat} {es : List (Int × List Tr)} {i k : Nat} {e : Int × List Tr} {x : Tr} (hi : es[i]? = some e) (hk : e.2[k]? = some x) : uptE B es i (k + 1) = uptE B es i k ++ [flE B e.1 x] := by
 obtain ⟨hl,rfl⟩ := List.getElem?_eq_some_iff.1 hk;unfold uptE;rw [hi];simp only [Option.map_some,Option.getD_some,List.append_assoc];rw [List.take_succ_eq_append_getElem hl,List.map_append]
 rfl
theorem uptE_end {B : Tr → List Nat × Nat} {es : List (Int × List Tr)} {i : Nat} {e : Int × List Tr} (hi : es[i]? = some e) : uptE B es i e.2.length = fsE B (es.take (i + 1)) := by
 obtain ⟨hl,rfl⟩ := List.getElem?_eq_some_iff.1 hi;unfold uptE;rw [hi,List.take_succ_eq_append_getElem hl,fsE_app,fsE_one];simp only [Option.map_some,Option.getD_some,List.take_length,enE]
theorem errE_hit {B : Tr → List Nat × Nat} {es : List (Int × List Tr)} {i k : Nat} {e : Int × List Tr} {x : Tr} (hi : es[i]? = some e) (hk : e.2[k]? = some x) (h0 : errE (uptE B es i k) = 0) (hx : (flE B e.1 x).2 ≠ 0) : errE (fsE B es) = (flE B e.1 x).2 := by
 have h1 : fsE B es = fsE B (es.take i) ++ enE B e ++ fsE B (es.drop (i + 1)) := by
  obtain ⟨hl,rfl⟩ := List.getElem?_eq_some_iff.1 hi;rw [← fsE_one,← fsE_app,← fsE_app]
  congr 1
  rw [List.append_assoc,List.singleton_append,← List.drop_eq_getElem_cons hl,List.take_append_drop]
 have h2 : enE B e = (e.2.take k).map (flE B e.1) ++ flE B e.1 x :: (e.2.drop (k + 1)).map (flE B e.1) := by
  obtain ⟨hl,rfl⟩ := List.getElem?_eq_some_iff.1 hk
  have h3 : e.2 = e.2.take k ++ (e.2[k] :: e.2.drop (k + 1)) := by rw [← List.drop_eq_getElem_cons hl,List.take_append_drop]
  unfold enE
  conv => lhs; rw [h3]
  rw [List.map_append,List.map_cons]
 have h3 : fsE B es = uptE B es i k ++ (flE B e.1 x :: ((e.2.drop (k + 1)).map (flE B e.1) ++ fsE B (es.drop (i + 1)))) := by
  rw [h1,h2];unfold uptE;rw [hi]
  simp
 rw [h3,errE_app,if_pos h0,errE,if_neg hx]
theorem rwE_ok {B : Tr → List Nat × Nat} {t : Tr} (h : errE (fsE B t.es) = 0) : rwE B t = (sortF ((fsE B t.es).map (·.1) ++ t.rest),0) := by
 unfold rwE; rw [if_neg (by omega)]
theorem rwE_no {B : Tr → List Nat × Nat} {t : Tr} (h : errE (fsE B t.es) ≠ 0) : rwE B t = ([],errE (fsE B t.es)) := by
 unfold rwE; rw [if_pos h]
theorem putL_le (rs : List Fd) : (putL rs).1.length ≤ 4096 := by
 unfold putL
 split
 ·split
  ·assumption
  ·simp
 ·simp
theorem bytE_le (n : Nat) (t : Tr) : (bytE n t).1.length ≤ 4096 := by
 cases n with
 | zero => simp [bytE]
 | succ n =>
  simp only [bytE,ofR]
  split
  ·simp
  ·exact putL_le _
theorem flE_64 {B : Tr → List Nat × Nat} {tag : Int} {x : Tr} (h : Is64 x.n) : Is64 (flE B tag x).1.n := by
 unfold flE
 split
 ·exact h
 ·split
  ·split <;> (unfold Is64; simp [fd0])
  ·split <;> (unfold Is64; simp [fd0])
end
section
open Go.ChangeShapes Go.WideShapes Go.ChangeAt Go.RowKit
theorem rises_uniq : ∀ (l m : List Fd),Rises l → Rises m → (∀ t : Int,l.filter (fun x => x.tag == t) = m.filter (fun x => x.tag == t)) → l = m
 | [],m,_,_,h => by
  cases m with
  | nil => rfl
  | cons y m => have := h y.tag; simp at this
 | x :: l,m,h1,h2,h => by
  cases m with
  | nil => have := h x.tag; simp at this
  | cons y m =>
   have p1 := List.pairwise_cons.1 h1;have p2 := List.pairwise_cons.1 h2
   have hx : x ∈ y :: m := by
    have : x ∈ (y :: m).filter (fun z => z.tag == x.tag) := by rw [← h x.tag]; simp
    exact (List.mem_filter.1 this).1
   have hy : y ∈ x :: l := by
    have : y ∈ (x :: l).filter (fun z => z.tag == y.tag) := by rw [h y.tag]; simp
    exact (List.mem_filter.1 this).1
   have e1 : y.tag ≤ x.tag := by
    rcases List.mem_cons.1 hx with rfl | hx
    ·exact Int.le_refl _
    ·exact p2.1 x hx
   have e2 : x.tag ≤ y.tag := by
    rcases List.mem_cons.1 hy with rfl | hy
    ·exact Int.le_refl _
    ·exact p1.1 y hy
   have e : x.tag = y.tag := by omega
   have hf := h x.tag;rw [List.filter_cons,List.filter_cons,if_pos (by simp),if_pos (by simp [e])] at hf;obtain rfl : x = y := (List.cons.inj hf).1
   congr 1
   refine rises_uniq l m p1.2 p2.2 fun t => ?_
   have := h t;rw [List.filter_cons,List.filter_cons] at this
   by_cases ht : (x.tag == t) = true
   ·rw [if_pos ht,if_pos ht] at this; exact (List.cons.inj this).2
   ·rw [if_neg ht,if_neg ht] at this; exact this
end
section
def DOne (P : ByteArray → Tr → Prop) (f : FlS) (x : Tr) : Prop :=
 (wirK f.kind = 0 ∧ x = ⟨1,x.n,⟨#[]⟩,[],[]⟩ ∧ (f.kind = 3 ∨ f.kind = 6 → nmrB f.kind x.n = true)) ∨
 ((f.kind = 4 ∨ f.kind = 5) ∧ x = ⟨2,0,x.s,[],[]⟩ ∧ (f.kind = 4 → validB x.s.data.toList = true)) ∨
 (f.kind = 7 ∧ P f.tname x)
def DFit : Nat → ScS → ByteArray → Tr → Prop
 | 0,_,_,_ => False
 | k + 1,s,nm,t => ∃ m,msgOf s nm = some m ∧ (t.kind = 3 ∧ t.n = 0 ∧ t.s = ⟨#[]⟩) ∧ RisE t.es ∧
   (∀ e ∈ t.es,∃ f,fldOf m.fields e.1 = some f ∧ e.2 ≠ [] ∧ e.2.length ≤ (if f.label = 3 then 64 else 1) ∧ ∀ x ∈ e.2,DOne (DFit k s) f x ∧ ¬ (f.label = 1 ∧ zroB x = true)) ∧
   Rises t.rest ∧ ∀ r ∈ t.rest,fldOf m.fields r.tag = none ∧ okF r = true
def N64 : Nat → Tr → Prop
 | 0,_ => True
 | n + 1,t => Is64 t.n ∧ (∀ r ∈ t.rest,Is64 r.n) ∧ ∀ e ∈ t.es,∀ x ∈ e.2,N64 n x
theorem flE_tagD {B : Tr → List Nat × Nat} {tag : Int} {x : Tr} (h : (flE B tag x).2 = 0) : (flE B tag x).1.tag = tag := by
 unfold flE at h ⊢
 split
 ·rfl
 ·split
  ·split
   ·rename_i h1 h2 h3; rw [if_neg h1,if_pos h2,if_pos h3] at h; exact absurd h (by decide)
   ·rfl
  ·split
   ·rename_i h1 h2 h3; rw [if_neg h1,if_neg h2,if_pos h3] at h; exact absurd h h3
   ·rfl
theorem bytE_lt (n : Nat) (t : Tr) : ∀ k ∈ (bytE n t).1,k < 256 := by
 cases n with
 | zero => simp [bytE]
 | succ n =>
  simp only [bytE,ofR]
  split
  ·simp
  ·unfold putL
   split
   ·split
    ·exact flatN_lt _
    ·simp
   ·simp
theorem fsE_ofT {B : Tr → List Nat × Nat} (tag : Int) : ∀ {es : List (Int × List Tr)},RisE es → (∀ p ∈ fsE B es,p.2 = 0) → ofT ((fsE B es).map (·.1)) tag = (undE es tag).map fun x => (flE B tag x).1
 | [],_,_ => by simp [fsE,ofT,undE]
 | e :: l,hr,he => by
  have hr' := hr;rw [RisE,List.pairwise_cons] at hr
  have e1 : fsE B (e :: l) = enE B e ++ fsE B l := by simp [fsE]
  rw [e1] at he ⊢;have ih := fsE_ofT (B := B) tag hr.2 fun p hp => he p (List.mem_append.2 (.inr hp))
  rw [List.map_append,ofT_app,ih]
  have ht : ∀ r ∈ (enE B e).map (·.1),r.tag = e.1 := fun r hr => by
   obtain ⟨p,hp,rfl⟩ := List.mem_map.1 hr;obtain ⟨x,hx,rfl⟩ := List.mem_map.1 hp;exact flE_tagD (he _ (List.mem_append.2 (.inl (List.mem_map.2 ⟨x,hx,rfl⟩))))
  by_cases h1 : e.1 = tag
  ·have h2 : undE l tag = [] := und_none fun p hp => by have := hr.1 p hp; omega
   have h3 : undE (e :: l) tag = e.2 := by rw [← h1]; exact und_mem hr' (List.mem_cons_self ..)
   have h4 : ofT ((enE B e).map (·.1)) tag = (enE B e).map (·.1) := List.filter_eq_self.2 fun r hr => by simp [ht r hr,h1]
   rw [h2,h3,h4,enE,h1]
   simp
  ·have h3 : undE (e :: l) tag = undE l tag := by simp [undE,List.find?_cons,h1]
   have h4 : ofT ((enE B e).map (·.1)) tag = [] := List.filter_eq_nil_iff.2 fun r hr => by simp [ht r hr,h1]
   rw [h3,h4,List.nil_append]
theorem mem_fsE {B : Tr → List Nat × Nat} {es : List (Int × List Tr)} {p : Fd × Nat} (h : p ∈ fsE B es) : ∃ e ∈ es,∃ x ∈ e.2,p = flE B e.1 x := by
 obtain ⟨e,he,hp⟩ := List.mem_flatMap.1 h;obtain ⟨x,hx,rfl⟩ := List.mem_map.1 hp;exact ⟨e,he,x,hx,rfl⟩
theorem tree_back {P : ByteArray → Tr → Prop} {M : ByteArray → List Nat → Tr × Int} {B : Tr → List Nat × Nat} {f : FlS} {x : Tr} {tag : Int} (h : DOne P f x) (he : (flE B tag x).2 = 0) (h3 : ∀ nm,P nm x → x.kind = 3) (hb : ∀ k ∈ (B x).1,k < 256) (hP : P f.tname x → (B x).2 = 0 → M f.tname (B x).1 = (x,0)) : treeD M f (flE B tag x).1 = (x,0) := by
 rcases h with ⟨h1,h2,hn⟩ | ⟨h1,h2,hv⟩ | ⟨h1,h2⟩
 ·have e1 : flE B tag x = (⟨tag,0,x.n,⟨#[]⟩⟩,0) := by rw [flE,if_pos (by rw [h2])]
  have hw : ¬ (f.kind = 4 ∨ f.kind = 5 ∨ f.kind = 7) := fun e => by simp [wirK,e] at h1
  rw [e1,treeD];simp only;rw [if_neg (by rw [h1]; simp),if_neg (fun e => by rw [hn e.1] at e; exact absurd e.2 (by simp)),if_neg (fun e => hw (.inl e.1)),if_neg (fun e => hw (.inr (.inr e)))];rw [leafD,if_neg (by simp)];rw [← h2]
 ·have hk : x.kind = 2 := by rw [h2]
  have hs : ¬ 4096 < x.s.size := fun e => by
   rw [flE,if_neg (by rw [hk]; decide),if_pos hk,if_pos e] at he;exact absurd he (by decide)
  have e1 : flE B tag x = (⟨tag,1,0,x.s⟩,0) := by rw [flE,if_neg (by rw [hk]; decide),if_pos hk,if_neg hs]
  have hw : wirK f.kind = 1 := by rcases h1 with e | e <;> simp [wirK,e]
  rw [e1,treeD];simp only;rw [if_neg (by rw [hw]; simp),if_neg (fun e => by rcases h1 with h | h <;> rcases e.1 with e | e <;> omega),if_neg (fun e => by rw [hv e.1] at e; exact absurd e.2 (by simp)),if_neg (fun e => by rcases h1 with h | h <;> omega)];rw [leafD,if_pos rfl,← h2]
 ·have hk := h3 _ h2
  have hs : (B x).2 = 0 := by
   by_cases e : (B x).2 = 0
   ·exact e
   ·rw [flE,if_neg (by rw [hk]; decide),if_neg (by rw [hk]; decide),if_pos e] at he;exact absurd he e
  have e1 : flE B tag x = (⟨tag,1,0,strN (B x).1⟩,0) := by rw [flE,if_neg (by rw [hk]; decide),if_neg (by rw [hk]; decide),if_neg (by simpa using hs)]
  have hw : wirK f.kind = 1 := by simp [wirK,h1]
  rw [e1,treeD];simp only;rw [if_neg (by rw [hw]; simp),if_neg (fun e => by rcases e.1 with e | e <;> omega),if_neg (fun e => by omega),if_pos h1,bytesN_strN _ hb];exact hP h2 hs
theorem DFit.kind {k : Nat} {s : ScS} {nm : ByteArray} {t : Tr} (h : DFit k s nm t) : t.kind = 3 := by
 cases k with
 | zero => exact h.elim
 | succ k => obtain ⟨m,_,h1,_⟩ := h; exact h1.1
theorem tr_eta (t : Tr) : (⟨t.kind,t.n,t.s,t.es,t.rest⟩ : Tr) = t := by cases t; rfl
theorem ofT_sort (l : List Fd) (t : Int) : ofT (sortF l) t = ofT l t := by
 have h := (sortF_all l.length l (Nat.le_refl _)).2.2.2 t
 have e : ∀ m : List Fd,ofT m t = m.filter (fun x => x.tag == t) := fun m => List.filter_congr fun x _ => by rw [Bool.eq_iff_iff]; simp
 rw [e,e,h]
theorem sort_rest {F rest l : List Fd} {fs : List FlS} (hF : ∀ r ∈ F,(fldOf fs r.tag).isSome) (hr : ∀ r ∈ rest,fldOf fs r.tag = none) (h1 : Rises rest) (hl : ∀ t,ofT l t = ofT (F ++ rest) t) : sortF (l.filter fun r => (fldOf fs r.tag).isNone) = rest := by
 refine rises_uniq _ _ (sortF_all _ _ (Nat.le_refl _)).1 h1 fun t => ?_
 have e : ∀ m : List Fd,m.filter (fun x => x.tag == t) = ofT m t := fun m => List.filter_congr fun x _ => by rw [Bool.eq_iff_iff]; simp
 rw [e,e,ofT_sort]
 have e2 : ofT (l.filter fun r => (fldOf fs r.tag).isNone) t = (ofT l t).filter fun r => (fldOf fs r.tag).isNone := by
  simp only [ofT,List.filter_filter,Bool.and_comm]
 rw [e2,hl t,ofT_app,List.filter_append]
 have e3 : (ofT F t).filter (fun r => (fldOf fs r.tag).isNone) = [] := List.filter_eq_nil_iff.2 fun r hr => by
  have := hF r (List.mem_filter.1 hr).1
  cases hq : fldOf fs r.tag with
  | none => rw [hq] at this; cases this
  | some f => simp
 have e4 : (ofT rest t).filter (fun r => (fldOf fs r.tag).isNone) = ofT rest t := List.filter_eq_self.2 fun r h => by
  rw [hr r (List.mem_filter.1 h).1]; rfl
 rw [e3,e4,List.nil_append]
theorem run_back {k n : Nat} {s : ScS} {t : Tr} {m : MsS} (hr : RisE t.es) (hes : ∀ e ∈ t.es,∃ f,fldOf m.fields e.1 = some f ∧ e.2 ≠ [] ∧ e.2.length ≤ (if f.label = 3 then 64 else 1) ∧ ∀ x ∈ e.2,DOne (DFit k s) f x ∧ ¬ (f.label = 1 ∧ zroB x = true))
  (h1 : Rises t.rest) (h2 : ∀ r ∈ t.rest,fldOf m.fields r.tag = none) (he : errE (fsE (bytE n) t.es) = 0) (IH : ∀ e ∈ t.es,∀ x ∈ e.2,∀ nm,DFit k s nm x → (bytE n x).2 = 0 → decM k s nm (bytE n x).1 = (x,0))
  {l : List Fd} (hl : ∀ tag,ofT l tag = ofT ((fsE (bytE n) t.es).map (·.1) ++ t.rest) tag) : ∃ st,runD (decM k s) m.fields ⟨[],[]⟩ l = (st,0) ∧ st.es = t.es ∧ sortF st.rest = t.rest := by
 have hall := errE_all he
 have hof : ∀ tag f,fldOf m.fields tag = some f → ofT l tag = (undE t.es tag).map fun x => (flE (bytE n) tag x).1 := fun tag f hf => by
  rw [hl tag,ofT_app,fsE_ofT tag hr hall]
  have : ofT t.rest tag = [] := List.filter_eq_nil_iff.2 fun r hr => by
   have := h2 r hr;simp only [decide_eq_true_eq];intro e;rw [e,hf] at this; cases this
  rw [this,List.append_nil]
 have htr : ∀ tag f,fldOf m.fields tag = some f → ∀ x ∈ undE t.es tag,treeD (decM k s) f (flE (bytE n) tag x).1 = (x,0) := fun tag f hf x hx => by
  have hin := und_in (es := t.es) (t := tag) (fun e => by rw [e] at hx; cases hx);obtain ⟨g,hg,_,_,hx2⟩ := hes _ hin;rw [hf] at hg; cases hg;have hp : flE (bytE n) tag x ∈ fsE (bytE n) t.es := List.mem_flatMap.2 ⟨_,hin,List.mem_map.2 ⟨x,hx,rfl⟩⟩;exact tree_back (hx2 x hx).1 (hall _ hp) (fun nm h => h.kind) (bytE_lt n x) (fun h3 h4 => IH _ hin x hx _ h3 h4)
 have hmap : ∀ tag f,fldOf m.fields tag = some f → (ofT l tag).map (fun r => (treeD (decM k s) f r).1) = undE t.es tag := fun tag f hf => by
  rw [hof tag f hf,List.map_map]
  conv => rhs; rw [← List.map_id (undE t.es tag)]
  exact List.map_congr_left fun x hx => by simp [htr tag f hf x hx]
 have hlab : ∀ tag f,fldOf m.fields tag = some f → (undE t.es tag).length ≤ (if f.label = 3 then 64 else 1) ∧ ∀ x ∈ undE t.es tag,¬ (f.label = 1 ∧ zroB x = true) := fun tag f hf => by
  by_cases e : undE t.es tag = []
  ·rw [e]; simp
  ·obtain ⟨g,hg,_,h3,hx2⟩ := hes _ (und_in e);rw [hf] at hg; cases hg;exact ⟨h3,fun x hx => (hx2 x hx).2⟩
 have hfit : FitR (decM k s) m.fields l := by
  refine ⟨fun r hr' f hf => ?_,fun tag f hf hf3 => ?_⟩
  ·have hm : r ∈ ofT l r.tag := List.mem_filter.2 ⟨hr',by simp⟩;rw [hof r.tag f hf] at hm;obtain ⟨x,hx,e⟩ := List.mem_map.1 hm;have := htr r.tag f hf x hx;rw [e] at this;rw [this]
  ·rw [hof tag f hf,List.length_map];have := (hlab tag f hf).1;rw [if_pos hf3] at this; exact this
 have h0 := (run_fit l).2 hfit;have hran := run_ran h0;obtain ⟨st,hst⟩ : ∃ st,(runD (decM k s) m.fields ⟨[],[]⟩ l).1 = st := ⟨_,rfl⟩;rw [hst] at hran;refine ⟨st,Prod.ext hst h0,?_,?_⟩
 ·refine es_uniq hran.ris hr hran.ne (fun e he => ?_) fun tag => ?_
  ·obtain ⟨f,_,h3,_⟩ := hes e he; exact h3
  ·cases hf : fldOf m.fields tag with
   | some f =>
    rw [hran.und tag f hf,hmap tag f hf];obtain ⟨g1,g2⟩ := hlab tag f hf;unfold fldT
    by_cases h3 : f.label = 3
    ·rw [if_pos h3]
    ·rw [if_neg h3];rw [if_neg h3] at g1
     match hu : undE t.es tag,g1,g2 with
     | [],_,_ => rfl
     | [x],_,g2 =>
      simp only [List.getLast?_singleton];rw [if_neg (g2 x (by simp))]
     | _ :: _ :: _,g1,_ => simp at g1
   | none =>
    rw [und_none,und_none]
    ·intro e he e1;obtain ⟨f,h3,_⟩ := hes e he;rw [e1,hf] at h3; cases h3
    ·intro e he e1;obtain ⟨f,h3⟩ := hran.kn e he;rw [e1,hf] at h3; cases h3
 ·rw [hran.rest];refine sort_rest (F := (fsE (bytE n) t.es).map (·.1)) (fun r hr' => ?_) h2 h1 hl;obtain ⟨p,hp,rfl⟩ := List.mem_map.1 hr';obtain ⟨e,he',x,hx,rfl⟩ := mem_fsE hp;rw [flE_tagD (hall _ hp)];obtain ⟨f,h3,_⟩ := hes e he';rw [h3]; rfl
theorem dec_back : ∀ (k n : Nat) (s : ScS) (nm : ByteArray) (t : Tr),DFit k s nm t → N64 n t → DpN n t → (bytE n t).2 = 0 → decM k s nm (bytE n t).1 = (t,0)
 | 0,_,_,_,_,h,_,_,_ => h.elim
 | _,0,_,_,_,_,_,h,_ => h.elim
 | k + 1,n + 1,s,nm,t,h,h64,hd,hb => by
  obtain ⟨m,hm,⟨g1,g2,g3⟩,hr,hes,h1,h2⟩ := h
  have he : errE (fsE (bytE n) t.es) = 0 := by
   simp only [bytE,ofR] at hb
   by_cases e : errE (fsE (bytE n) t.es) = 0
   ·exact e
   ·unfold rwE at hb;rw [if_pos e] at hb;rw [if_pos (by exact e)] at hb;exact absurd hb e
  have eb : bytE (n + 1) t = putL (sortF ((fsE (bytE n) t.es).map (·.1) ++ t.rest)) := by
   simp only [bytE,ofR,rwE_ok he];rw [if_neg (by simp)]
  rw [eb] at hb ⊢;obtain ⟨l,hl⟩ : ∃ l,sortF ((fsE (bytE n) t.es).map (·.1) ++ t.rest) = l := ⟨_,rfl⟩
  have hmem : ∀ r ∈ l,Is64 r.n := fun r hr' => by
   rw [← hl] at hr'
   rcases List.mem_append.1 ((sortF_all _ _ (Nat.le_refl _)).2.2.1 r hr') with hr' | hr'
   ·obtain ⟨p,hp,rfl⟩ := List.mem_map.1 hr';obtain ⟨e,he',x,hx,rfl⟩ := mem_fsE hp;refine flE_64 ?_;have := h64.2.2 e he' x hx
    cases n with
    | zero => exact (hd e he' x hx).elim
    | succ n => exact this.1
   ·exact h64.2.1 r hr'
  have hof : ∀ tag,ofT l tag = ofT ((fsE (bytE n) t.es).map (·.1) ++ t.rest) tag := fun tag => by rw [← hl,ofT_sort]
  rw [hl] at hb ⊢
  have ho : l.all okF = true := by
   unfold putL at hb
   split at hb
   ·assumption
   ·exact absurd hb (by decide)
  have hlen : (flatN l).length ≤ 4096 := by
   unfold putL at hb;rw [if_pos ho] at hb
   split at hb
   ·assumption
   ·exact absurd hb (by decide)
  have ep : putL l = (flatN l,0) := by unfold putL; rw [if_pos ho,if_pos hlen]
  rw [ep];obtain ⟨st,hst,e1,e2⟩ := run_back (k := k) (s := s) hr hes h1 (fun r hr => (h2 r hr).1) he (fun e he' x hx nm' hx1 hx2 => dec_back k n s nm' x hx1 (h64.2.2 e he' x hx) (hd e he' x hx) hx2) hof;have hg := getL_put ho hmem hlen;simp only [decM,hm,hg,hst];simp only [ne_eq,not_true_eq_false,if_false];rw [e1,e2,← g1,← g2,← g3]
  simp [tr_eta]
end
end Go.Proofs.YtmgbhicogmclgaaGreat
