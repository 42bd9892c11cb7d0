/- Part 5 of what the proof stands on. -/
import Derived.Test.YtdkolhfpfimeoabPkHAD
import Derived.Deep.CutRange
import Derived.WalkMore
namespace Go.Proofs.Ytdkolhfpfimeoab
set_option maxHeartbeats 8000000
set_option linter.unusedVariables false
set_option linter.unusedSimpArgs false
set_option maxRecDepth 20000
section
open Go.ChangeShapes Go.WideShapes Go.ChangeAt Go.RowKit Go.Maps
theorem wpList_intE {w : World} {ops : Array Oper} {rest : List Oper} {o : Oper} {a : Act} {Q : Exit → Act → World → Prop} {B : Nat} {v : Value} {al al2 : List Int} {x : Int} {z : Nat} (hal2 : al ++ [x] = al2) (hz : w.heap.size = z) (hgd : o.guard = none) (s y : Operand)
  (ho : o.op = .call { callee := .builtin .append,args := #[s,y],argTypes := #[22,22] }) (hs : a.eval s = v) (hy : a.eval y = .slice (some ⟨z,0,none⟩) 1 1) (hown : w.ownsRow B 3 1 v al.length (al.map (Value.int .i64))) (hB : B ≤ w.heap.size) (hn : al.length ≤ 100000)
  (h : ∀ v' w',w'.ownsRow B 3 1 v' al2.length (al2.map (Value.int .i64)) → Below B w w' → wpList Try.prog ops Q rest (a.put o.dst v') w') : wpList Try.prog ops Q (o :: rest) a (w.alloc (.cells #[.int .i64 x] 3)) := by
 subst hz hal2;have hba : Below w.heap.size w (w.alloc (.cells #[.int .i64 x] 3)) := (Below.refl _ _).alloc (Nat.le_refl _) _;refine wpList_joinG hgd s y 22 3 1 8 _ ho Try.underlying22 infoIn rfl (by decide) B v al.length (al.map (Value.int .i64)) hs (own_below hown hba) (.slice (some ⟨w.heap.size,0,none⟩) 1 1) [[.int .i64 x]] hy (RowG.blk (Blk.new w _ _) rfl (by simp) rfl (by omega)) (by simp) (by simp [Value.oneCell']) (by simp; omega) (by decide) (Nat.le_trans hB hba.size) ?_;intro v' w' ho' hg;refine h v' w' (by simpa using ho' : World.ownsRow _ _ _ _ _ _ _) ?_;exact ((Below.refl B w).alloc hB _).grown hg (by have := hba.size; omega) (fun k hk => ((own_below hown hba).lt k hk).1)
theorem tags_any {w : World} {nm : ByteArray} {vf vr : Value} {m : MsS} (hf : RowG w vf 5 (flRows m.fields)) (hr : RowG w vr 1 (inRows m.reserved)) (hl : m.fields.length ≤ 100 ∧ m.reserved.length ≤ 100) :
  Calls Try.prog 28 #[.agg #[.string nm,vf,vr]] w fun e w' => ∃ r,e = .returned r ∧ w'.ownsRow w.heap.size 3 1 r (tagsM m).length ((tagsM m).map (Value.int .i64)) ∧ Below w.heap.size w w' := by
 obtain ⟨a,c,rfl,q1,q2⟩ := hf.form2
 have hN : (flRows m.fields).length = m.fields.length := by simp [flRows]
 rw [hN] at hf q1 ⊢;clear hN;obtain ⟨N,hN⟩ : ∃ N,m.fields.length = N := ⟨_,rfl⟩;rw [hN] at hf q1 hl ⊢;have HN : Hid (m.fields.length = N) := hN;have HF : Hid (RowG w (.slice a N c) 5 (flRows m.fields)) := hf;obtain ⟨a2,c2,rfl, -, -⟩ := hr.form2;have HC : Hid (∀ W,Below w.heap.size w W → Calls Try.prog 47 #[.slice a2 (inRows m.reserved).length c2] W fun e w' => ∃ r,e = .returned r ∧ w'.ownsRow W.heap.size 3 1 r m.reserved.length (m.reserved.map (Value.int .i64)) ∧ Below W.heap.size W w') := fun W hW => iclone_any (hr.below hW) (by omega)
 have HL : Hid (m.reserved.length ≤ 100) := hl.2;have HL1 : Hid (N ≤ 100) := hl.1
 have HT : Hid ((m.reserved ++ (m.fields.take N).map FlS.tag).mergeSort (fun x y => decide (x ≤ y)) = tagsM m) := (by
  show _ = _
  rw [List.take_of_length_le (by omega)]; rfl)
 generalize (inRows m.reserved).length = R at *;generalize tagsM m = T at *;generalize m.fields = fs at *;generalize m.reserved = rs at *;clear hN hf hr hl;have hba : Below w.heap.size w (w.alloc (.cells #[.string nm,.slice a N c,.slice a2 R c2] 41)) := (Below.refl _ _).alloc (Nat.le_refl _) _;have BX := Blk.new w #[.string nm,.slice a N c,.slice a2 R c2] 41
 go_enter Try.func28,Try.ntmps28
 go_wp2_with fail;refine (HC.out _ hba).mono ?_;rintro e w1 ⟨r1,rfl,ho1,hb1⟩;have hbw1 : Below w.heap.size w w1 := hba.trans (hb1.mono hba.size);have HO1 : Hid (w1.ownsRow w.heap.size 3 1 r1 (rs ++ (fs.take 0).map FlS.tag).length ((rs ++ (fs.take 0).map FlS.tag).map (Value.int .i64))) := (by simpa using own_base ho1 hba.size : World.ownsRow _ _ _ _ _ _ _);have BX1 := BX.below hb1;have x1 := (BX1.cell 1).trans rfl;clear hb1 ho1 hba BX HC;go_wp2_with fail;obtain ⟨sa0,sc0,rfl⟩ := own_form HO1.out;generalize hK0 : (rs ++ (fs.take 0).map FlS.tag).length = K0 at *
 go_loopw [3,12] (fun rv iv wr => ∃ (k K : Nat) (sa : Option Addr) (sc : Nat),rv = .slice sa K sc ∧ iv = .int .i64 (k : Int) ∧ k ≤ N ∧ Hid ((rs ++ (fs.take k).map FlS.tag).length = K) ∧ Hid (wr.ownsRow w.heap.size 3 1 (.slice sa K sc) K ((rs ++ (fs.take k).map FlS.tag).map (Value.int .i64))) ∧ Below w.heap.size w wr) (fun _ iv _ => N - (intOf iv).toNat)
 case atStart => exact ⟨0,K0,sa0,sc0,rfl,rfl,by omega,hK0,HO1,hbw1⟩
 case round =>
  clear HO1 hbw1 BX1 x1;obtain ⟨k,K,sa,sc,rfl,rfl,hk,HK,HO,hbel⟩ := hrel
  by_cases hlt : k < N
  ·obtain ⟨f,hfk⟩ : ∃ n,fs[k]? = some n := ⟨_,List.getElem?_eq_getElem (by rw [HN.out]; exact hlt)⟩
   have hrr : (flRows fs)[k]? = some f.cells := by simp [flRows,hfk]
   obtain ⟨g,off,rfl,c1⟩ := (HF.out.below hbel).get hrr
   have HS : Hid ((rs ++ (fs.take k).map FlS.tag) ++ [f.tag] = rs ++ (fs.take (k + 1)).map FlS.tag) := (by
    show _ = _
    rw [List.take_add_one,hfk,List.map_append,List.append_assoc]; rfl)
   obtain ⟨f0,f1,f2,f3,f4⟩ := f;have p0 := c1 0 _ rfl;have p1 := c1 1 _ rfl;have p2 := c1 2 _ rfl;have p3 := c1 3 _ rfl;have p4 := c1 4 _ rfl;simp only [Nat.add_zero] at p0 p1 p2 p3 p4;clear c1 hrr hfk;have hal : Below wr.heap.size wr (wr.alloc (.cells #[.string f0,.int .i64 f1,.int .i64 f2,.int .i64 f3,.string f4] 38)) := (Below.refl _ _).alloc (Nat.le_refl _) _;have HO2 : Hid ((wr.alloc (.cells #[.string f0,.int .i64 f1,.int .i64 f2,.int .i64 f3,.string f4] 38)).ownsRow w.heap.size 3 1 (.slice sa K sc) (rs ++ (fs.take k).map FlS.tag).length ((rs ++ (fs.take k).map FlS.tag).map (Value.int .i64))) := (by rw [HK.out]; exact own_below HO.out hal : World.ownsRow _ _ _ _ _ _ _)
   have HKL : Hid (K ≤ 100000) := (by
    have h1 := HK.out;rw [List.length_append,List.length_map,List.length_take] at h1;have := HL.out;have := HL1.out
    show K ≤ 100000
    omega)
   have hB2 : w.heap.size ≤ (wr.alloc (.cells #[.string f0,.int .i64 f1,.int .i64 f2,.int .i64 f3,.string f4] 38)).heap.size := Nat.le_trans hbel.size hal.size;have hbel2 : Below w.heap.size w (wr.alloc (.cells #[.string f0,.int .i64 f1,.int .i64 f2,.int .i64 f3,.string f4] 38)) := hbel.trans (hal.mono hbel.size)
   have hz2 : (wr.alloc (.cells #[.string f0,.int .i64 f1,.int .i64 f2,.int .i64 f3,.string f4] 38)).heap.size = wr.heap.size + 1 := by simp
   clear hal HO hbel;obtain ⟨AL,hAL⟩ : ∃ z,rs ++ (fs.take k).map FlS.tag = z := ⟨_,rfl⟩;obtain ⟨AL2,hAL2⟩ : ∃ z,rs ++ (fs.take (k + 1)).map FlS.tag = z := ⟨_,rfl⟩;rw [hAL,hAL2] at HS;rw [hAL] at HO2 HK;have HKL2 : Hid (AL.length ≤ 100000) := (by rw [HK.out]; exact HKL.out : AL.length ≤ 100000);have HA2 : Hid (rs ++ (fs.take (k + 1)).map FlS.tag = AL2) := hAL2;clear hAL hAL2
   go_wp2_with (first
    | (at_builtin; refine wpList_intE (al := AL) (al2 := AL2) (x := f1) HS.out hz2 rfl _ _ rfl rfl rfl HO2.out hB2 ?c1 ?_)
    | fail)
   case c1 => exact HKL2.out
   intro rv wn hrv hbn;have hbel3 : Below w.heap.size w wn := hbel2.trans (hbn.mono (Nat.le_refl _));obtain ⟨san,scn,rfl⟩ := own_form hrv;have HO3 : Hid _ := hrv;clear hrv hbn hbel2 HO2 hB2 hz2 HS p0 p1 p2 p3 p4;generalize hKn : AL2.length = Kn at *;have HKn : Hid ((rs ++ (fs.take (k + 1)).map FlS.tag).length = Kn) := (by rw [HA2.out]; exact hKn : _ = _);rw [← HA2.out] at HO3;clear hKn;go_wp2_with fail
   go_roundw
   case rel => exact ⟨k + 1,Kn,san,scn,rfl,by go_num,by omega,HKn,HO3,hbel3⟩
   case measure => simp [intOf]; omega
  ·obtain rfl : k = N := by omega
   have HSO : Hid (Calls Try.prog 48 #[.slice sa K sc] wr fun e w' => e = .returned (.tuple #[]) ∧ w'.ownsRow w.heap.size 3 1 (.slice sa K sc) T.length (T.map (Value.int .i64)) ∧ Kp (fun q => (Value.slice sa K sc).ownBlock = some q) wr w') := by
    have h1 := HO.out;rw [← HK.out] at h1
    have h2 := isort_any h1 (by
     rw [List.length_append,List.length_map,List.length_take];have := HL.out;have := HL1.out
     omega)
    rw [HK.out] at h2;rw [HT.out] at h2;refine h2.mono ?_;rintro e w' ⟨h3,h4,h5⟩;refine ⟨h3,?_,h5⟩;rw [← HT.out,List.length_mergeSort,HK.out,HT.out];exact h4
   have HLT : Hid (∀ q,(Value.slice sa K sc).ownBlock = some q → w.heap.size ≤ q) := fun q hq => (HO.out.lt q hq).1
   clear HO HK HT;go_wp2_with fail;refine HSO.out.mono ?_;rintro e w2 ⟨rfl,ho2,hk2⟩;have hb2 : Below w.heap.size w w2 := hbel.trans (hk2.toBelow hbel.size HLT.out);go_wp2_with fail;go_ret;exact ⟨_,rfl,ho2,hb2⟩
end
section
section
variable {P : Program} {md : Region.Mode} {ops : Array Oper} {Q : Exit → Act → World → Prop} {T : World → Prop} {m : Nat}
theorem M_fork {o1 o2 : Oper} {fuel : Nat} {listed : Array Bool} {a : Act} {w : World} (i j d1 d2 f : Nat) (vals : Array Value) (v2 : Value) (w2 : World) (h1 : ops[i]? = some o1) (h2 : ops[j]? = some o2) (hd1 : o1.dst = some d1) (hd2 : o2.dst = some d2)
  (hr : Region.ready md ops listed = [i,j]) (hw1 : Region.wanted o1 (yielded ops a.tmps) = true) (hw2 : Region.wanted o2 (yielded ops a.tmps) = true)
  (hx1 : (execOp a.eval o1).run P w = .ok (.enter f vals) w) (hx2 : (execOp a.eval o2).run P w = .ok (.value v2) w2)
  (hA : Calls P f vals w fun e w' => ∃ v,e = .returned v ∧ T w' ∧ wpAnyM P md ops Q T m fuel (listed.setIfInBounds i true) { a with tmps := a.tmps.setIfInBounds d1 v } w')
  (hT : T w2) (hB : wpAnyM P md ops Q T m fuel (listed.setIfInBounds j true) { a with tmps := a.tmps.setIfInBounds d2 v2 } w2) : wpAnyM P md ops Q T m (fuel + 1) listed a w := by
 refine ⟨fun h0 => (by rw [hr] at h0; cases h0),fun k hk => ?_⟩;rw [hr] at hk;simp only [List.mem_cons,List.not_mem_nil,or_false] at hk
 rcases hk with rfl | rfl
 ·unfold wpOp;simp only [h1];rw [if_pos hw1];refine .inl ?_;unfold Oper.wp;rw [hx1];refine Calls.mono hA ?_;rintro e w' ⟨v,rfl,hT',h'⟩;rw [hd1];exact ⟨fun _ => hT',h'⟩
 ·unfold wpOp;simp only [h2];rw [if_pos hw2];refine .inl ?_;unfold Oper.wp;rw [hx2,Oper.upon_value,hd2];exact ⟨fun _ => hT,hB⟩
end
end
section
open Go.ChangeShapes Go.WideShapes Go.ChangeAt Go.RowKit Go.Maps
theorem msg_at {w : World} {v : Value} {s : ScS} {sn : ByteArray} {sa ea ta : Option Addr} {sl sc el ec tl tc : Nat} (hs : SIn w (.agg #[.string sn,.slice sa sl sc,.slice ea el ec,.slice ta tl tc]) s) (nm : ByteArray) : Calls Try.prog 27 #[.agg #[.string sn,.slice sa sl sc,.slice ea el ec,.slice ta tl tc],.string nm] w fun e w' => ∃ vf vr,e = .returned (.tuple #[.agg #[.string (msG s nm).name,vf,vr],.bool (msgOf s nm).isSome]) ∧ w'.ownsRow w.heap.size 38 5 vf (msG s nm).fields.length (flRows (msG s nm).fields).flatten ∧ w'.ownsRow w.heap.size 3 1 vr (msG s nm).reserved.length (inRows (msG s nm).reserved).flatten ∧ Below w.heap.size w w' := by
 obtain ⟨vm,ve,vt,e,h1,h2,h3⟩ := hs.row;simp only [Value.agg.injEq,Array.mk.injEq,List.cons.injEq,and_true] at e;obtain ⟨e1,rfl,rfl,rfl⟩ := e;exact cmessage_any h1 hs.few.flds
theorem results_threeE {fn : Func} {t u v : Tmp} (h : fn.results = #[.tmp t,.tmp u,.tmp v]) (tmps : Array Value) (P : Program) (w : World) : (results fn tmps).run P w = .ok (.tuple #[tmps.getD t undef,tmps.getD u undef,tmps.getD v undef]) w := by
 simp only [results,h]
 simp [Sem.run_bind,Result.andThen]
def MLookP (R : ByteArray × Int × Bool) (W0 : World) (e : Ending) (w' : World) : Prop := e = .returned (evolV R) ∧ Below W0.heap.size W0 w'
theorem mlook_any {s t : ScS} {sn tn : ByteArray} {sa ea ta sa2 ea2 ta2 : Option Addr} {sl sc el ec tl tc sl2 sc2 el2 ec2 tl2 tc2 : Nat} {W0 w : World} {b mb : Nat} {vp : Value} {l : List Pr} (hs : SIn W0 (.agg #[.string sn,.slice sa sl sc,.slice ea el ec,.slice ta tl tc]) s) (ht : SIn W0 (.agg #[.string tn,.slice sa2 sl2 sc2,.slice ea2 el2 ec2,.slice ta2 tl2 tc2]) t) (ks : OkS s) (kt : OkS t) (hp : PrIn s t l)
  (h : Meet [.string sn,.slice sa sl sc,.slice ea el ec,.slice ta tl tc] [.string tn,.slice sa2 sl2 sc2,.slice ea2 el2 ec2,.slice ta2 tl2 tc2] W0 w b mb vp l) : Calls Try.prog 16 #[.pointer (some ⟨b,0,none⟩)] w (MLookP (loopE s t 300 0 l) W0) := by
 have HSS : Hid (SIn W0 (.agg #[.string sn,.slice sa sl sc,.slice ea el ec,.slice ta tl tc]) s ∧ OkS s) := ⟨hs,ks⟩;have HST : Hid (SIn W0 (.agg #[.string tn,.slice sa2 sl2 sc2,.slice ea2 el2 ec2,.slice ta2 tl2 tc2]) t ∧ OkS t) := ⟨ht,kt⟩;obtain ⟨ANS,hA⟩ : ∃ z,loopE s t 300 0 l = z := ⟨_,rfl⟩;rw [hA];have HA0 : Hid (loopE s t (300 - 0) 0 l = ANS) := hA;have HP0 : Hid (PrIn s t l) := hp;have HM0 : Hid (Meet [.string sn,.slice sa sl sc,.slice ea el ec,.slice ta tl tc] [.string tn,.slice sa2 sl2 sc2,.slice ea2 el2 ec2,.slice ta2 tl2 tc2] W0 w b mb vp l) := h;clear hs ht ks kt hA hp h
 go_enter Try.func16,Try.ntmps16
 go_wp2_with fail
 go_step3
 go_wp2_with fail
 go_step3
 go_wp2_with fail
 go_loopw [5,6,7] (fun nv tv iv wr => ∃ (i : Nat) (l : List Pr) (vp : Value),nv = .string ⟨#[]⟩ ∧ tv = .int .i64 0 ∧ iv = .int .i64 (i : Int) ∧ i ≤ l.length ∧ Hid (loopE s t (300 - i) i l = ANS) ∧ Hid (PrIn s t l) ∧ Hid (Meet [.string sn,.slice sa sl sc,.slice ea el ec,.slice ta tl tc] [.string tn,.slice sa2 sl2 sc2,.slice ea2 el2 ec2,.slice ta2 tl2 tc2] W0 wr b mb vp l)) (fun _ _ iv _ => 226 - (intOf iv).toNat)
 case atStart => exact ⟨0,l,vp,rfl,rfl,rfl,by omega,HA0,HP0,HM0⟩
 case round =>
  clear HA0 HP0 HM0;obtain ⟨i,l,vp,rfl,rfl,rfl,hi,HA,HP,HM⟩ := hrel;obtain ⟨pa,pc,rfl⟩ := HM.out.form;obtain ⟨K,hK⟩ : ∃ z,l.length = z := ⟨_,rfl⟩;have HK : Hid (l.length = K) := hK;have HK2 : Hid (K ≤ 225) := (by rw [← hK]; exact HP.out.len (okS_len HSS.out.2) (okS_len HST.out.2) : K ≤ 225);rw [hK] at HM hi;clear hK;have hkb := HK2.out;have BB : Blk wr b #[.string sn,.slice sa sl sc,.slice ea el ec,.slice ta tl tc,.string tn,.slice sa2 sl2 sc2,.slice ea2 el2 ec2,.slice ta2 tl2 tc2,.slice pa K pc,.map (some mb)] 57 := HM.out.blk;have c8 := (BB.cell 8).trans rfl
  by_cases hlt : i < K
  rotate_left
  ·obtain rfl : i = K := by omega
   have hlr : decide ((i : Int) < (i : Int)) = false := by simp
   have HE : Hid (ANS = (⟨#[]⟩,0,true)) := (by rw [← HA.out]; exact loop_end (List.getElem?_eq_none (by rw [HK.out]; omega)) : _ = _);have HBW : Hid (Below W0.heap.size W0 wr) := HM.out.below;clear HA HP HM BB;go_wp2_with fail;refine bodyPost_ret (results_threeE rfl _ _ _) rfl ?_;rw [HE.out];exact ⟨rfl,HBW.out⟩
  ·obtain ⟨p,hpi⟩ : ∃ z,l[i]? = some z := ⟨_,List.getElem?_eq_getElem (by rw [HK.out]; exact hlt)⟩;have HPI : Hid (l[i]? = some p) := hpi;have HN1 := HP.out.2 p (List.mem_of_getElem? hpi);have HRW := HM.out.row
   obtain ⟨g,rfl⟩ : ∃ g,pa = some ⟨g,0,none⟩ := by
    rcases HRW.2 with ⟨e,h0⟩ | ⟨g,cap,cur,e,_⟩
    ·rw [HK.out] at h0; omega
    ·simp only [Value.slice.injEq] at e;exact ⟨g,e.1⟩
   have q0 := HRW.cells (g := g) rfl (i * 2 + 0) _ (flat_get (prRows l) (prr_len l) i (prC p) (by simp [prRows,hpi]) 0 _ rfl);have q1 := HRW.cells (g := g) rfl (i * 2 + 1) _ (flat_get (prRows l) (prr_len l) i (prC p) (by simp [prRows,hpi]) 1 _ rfl);simp only [Addr.add_lit,Nat.zero_add,Nat.add_zero] at q0 q1;have HQ : Hid (∀ W,Below wr.heap.size wr W → W.cell? ⟨g,i * 2,none⟩ = some (.string p.1) ∧ W.cell? ⟨g,i * 2 + 1,none⟩ = some (.string p.2)) := fun W hW => ⟨(Kp.ofBelow (S := fun _ => False) hW).cell q0 (fun e => e),(Kp.ofBelow (S := fun _ => False) hW).cell q1 (fun e => e)⟩
   have HBB : Hid (∀ W,Below wr.heap.size wr W → Blk W b #[.string sn,.slice sa sl sc,.slice ea el ec,.slice ta tl tc,.string tn,.slice sa2 sl2 sc2,.slice ea2 el2 ec2,.slice ta2 tl2 tc2,.slice (some ⟨g,0,none⟩) K pc,.map (some mb)] 57) := fun W hW => BB.below hW
   have HC1 : Hid (∀ W,Below wr.heap.size wr W → Calls Try.prog 27 #[.agg #[.string sn,.slice sa sl sc,.slice ea el ec,.slice ta tl tc],.string p.1] W fun e w' => ∃ vf vr,e = .returned (.tuple #[.agg #[.string (msG s p.1).name,vf,vr],.bool (msgOf s p.1).isSome]) ∧ w'.ownsRow W.heap.size 38 5 vf (msG s p.1).fields.length (flRows (msG s p.1).fields).flatten ∧ w'.ownsRow W.heap.size 3 1 vr (msG s p.1).reserved.length (inRows (msG s p.1).reserved).flatten ∧ Below W.heap.size W w') := fun W hW => msg_at (v := .agg #[]) (HSS.out.1.below (HM.out.below.trans (hW.mono HM.out.below.size))) p.1
   have HC2 : Hid (∀ W,Below wr.heap.size wr W → Calls Try.prog 27 #[.agg #[.string tn,.slice sa2 sl2 sc2,.slice ea2 el2 ec2,.slice ta2 tl2 tc2],.string p.2] W fun e w' => ∃ vf vr,e = .returned (.tuple #[.agg #[.string (msG t p.2).name,vf,vr],.bool (msgOf t p.2).isSome]) ∧ w'.ownsRow W.heap.size 38 5 vf (msG t p.2).fields.length (flRows (msG t p.2).fields).flatten ∧ w'.ownsRow W.heap.size 3 1 vr (msG t p.2).reserved.length (inRows (msG t p.2).reserved).flatten ∧ Below W.heap.size W w') := fun W hW => msg_at (v := .agg #[]) (HST.out.1.below (HM.out.below.trans (hW.mono HM.out.below.size))) p.2
   have HTA : Hid (TagOk (msG s p.1)) := tagOk_msG HSS.out.2 p.1;have HNM : Hid ((msG s p.1).name = p.1) := msG_name HN1.1;have HFW : Hid (((msG s p.1).fields.length ≤ 100 ∧ (msG s p.1).reserved.length ≤ 100) ∧ (∀ f ∈ (msG s p.1).fields,f.tname.size ≤ 140737488351232) ∧ ∀ f ∈ (msG t p.2).fields,f.tname.size ≤ 140737488351232) := ⟨msG_few HSS.out.1.few p.1,msG_w HSS.out.1.wf p.1,msG_w HST.out.1.wf p.2⟩;obtain ⟨A,B⟩ := p;simp only at HQ HC1 HC2 HTA HNM HFW;have HMA : Hid (msG s A = msG s A) := rfl;obtain ⟨m,hm⟩ : ∃ z,msG s A = z := ⟨_,rfl⟩;obtain ⟨n,hn⟩ : ∃ z,msG t B = z := ⟨_,rfl⟩;have HMN : Hid (msG s A = m ∧ msG t B = n) := ⟨hm,hn⟩;rw [hm] at HC1 HTA HNM HFW;rw [hn] at HC2 HFW;generalize (msgOf s A).isSome = ok1 at *;generalize (msgOf t B).isSome = ok2 at *;clear hm hn HMA HRW q0 q1 hpi BB c8 HN1;have c8 := ((HBB.out wr (Below.refl _ _)).cell 8).trans rfl
   have hlr : decide ((i : Int) < (K : Int)) = true := by simp; omega
   go_upto_region 5 with fail
   go_cut [8,9] from 23 to 38 (fun pv ov wx => ∃ b : Nat,pv = .pointer (some ⟨b,0,none⟩) ∧ ov = .bool ok1 ∧ Hid (MsB wx b wr.heap.size m ∧ Below wr.heap.size wr wx))
   case first =>
    refine M_region (T := fun W => Below wr.heap.size wr W) (m := 18) (by kernel_rfl) ?_;have hS : Below wr.heap.size wr wr.drew := (Below.refl _ _).drew;refine M_take 0 24 (.pointer (some ⟨b,0,none⟩)) _ rfl rfl (by kernel_rfl) (by kernel_rfl) (by kernel_rfl) (by kernel_rfl) (by kernel_rfl) (fun _ _ _ h => h) (by rfl) (fun w' hw' => ?_) hS (listed' := bts 19 1) (by kernel_rfl) rfl ?_
    ·go_simp
    simp only [zsA,zsZ,zsS];refine M_take 1 25 (.pointer (some ⟨b,0,none⟩)) _ rfl rfl (by kernel_rfl) (by kernel_rfl) (by kernel_rfl) (by kernel_rfl) (by kernel_rfl) (fun _ _ _ h => h) (by rfl) (fun w' hw' => ?_) hS (listed' := bts 19 3) (by kernel_rfl) rfl ?_
    ·go_simp
    simp only [zsA,zsZ,zsS];refine M_take 2 26 (.pointer (some ⟨b,0,none⟩)) _ rfl rfl (by kernel_rfl) (by kernel_rfl) (by kernel_rfl) (by kernel_rfl) (by kernel_rfl) (fun _ _ _ h => h) (by rfl) (fun w' hw' => ?_) hS (listed' := bts 19 7) (by kernel_rfl) rfl ?_
    ·go_simp
    simp only [zsA,zsZ,zsS];refine M_take 3 27 (.agg #[.string sn,.slice sa sl sc,.slice ea el ec,.slice ta tl tc]) _ rfl rfl (by kernel_rfl) (by kernel_rfl) (by kernel_rfl) (by kernel_rfl) (by kernel_rfl) (fun _ _ _ h => h) (by rfl) (fun w' hw' => ?_) hS (listed' := bts 19 15) (by kernel_rfl) rfl ?_
    ·have f0 := ((HBB.out _ hw').cell 0).trans rfl; have f1 := ((HBB.out _ hw').cell 1).trans rfl; have f2 := ((HBB.out _ hw').cell 2).trans rfl; have f3 := ((HBB.out _ hw').cell 3).trans rfl; go_simp
    simp only [zsA,zsZ,zsS];refine M_take 4 28 (.pointer (some ⟨b,0,none⟩)) _ rfl rfl (by kernel_rfl) (by kernel_rfl) (by kernel_rfl) (by kernel_rfl) (by kernel_rfl) (fun _ _ _ h => h) (by rfl) (fun w' hw' => ?_) hS (listed' := bts 19 31) (by kernel_rfl) rfl ?_
    ·go_simp
    simp only [zsA,zsZ,zsS];refine M_take 5 29 (.pointer (some ⟨b,0,none⟩)) _ rfl rfl (by kernel_rfl) (by kernel_rfl) (by kernel_rfl) (by kernel_rfl) (by kernel_rfl) (fun _ _ _ h => h) (by rfl) (fun w' hw' => ?_) hS (listed' := bts 19 63) (by kernel_rfl) rfl ?_
    ·go_simp
    simp only [zsA,zsZ,zsS];refine M_take 6 30 (.pointer (some ⟨b,8,none⟩)) _ rfl rfl (by kernel_rfl) (by kernel_rfl) (by kernel_rfl) (by kernel_rfl) (by kernel_rfl) (fun _ _ _ h => h) (by rfl) (fun w' hw' => ?_) hS (listed' := bts 19 127) (by kernel_rfl) rfl ?_
    ·go_simp
    simp only [zsA,zsZ,zsS];refine M_take 7 31 (.slice (some ⟨g,0,none⟩) K pc) _ rfl rfl (by kernel_rfl) (by kernel_rfl) (by kernel_rfl) (by kernel_rfl) (by kernel_rfl) (fun _ _ _ h => h) (by rfl) (fun w' hw' => ?_) hS (listed' := bts 19 255) (by kernel_rfl) rfl ?_
    ·have f8 := ((HBB.out _ hw').cell 8).trans rfl; go_simp
    simp only [zsA,zsZ,zsS];refine M_take 8 32 (.int .i64 (i : Int)) _ rfl rfl (by kernel_rfl) (by kernel_rfl) (by kernel_rfl) (by kernel_rfl) (by kernel_rfl) (fun _ _ _ h => h) (by rfl) (fun w' hw' => ?_) hS (listed' := bts 19 511) (by kernel_rfl) rfl ?_
    ·go_simp
    simp only [zsA,zsZ,zsS];refine M_take 9 33 (.pointer (some ⟨g,i * 2,none⟩)) _ rfl rfl (by kernel_rfl) (by kernel_rfl) (by kernel_rfl) (by kernel_rfl) (by kernel_rfl) (fun _ _ _ h => h) (by rfl) (fun w' hw' => ?_) hS (listed' := bts 19 1023) (by kernel_rfl) rfl ?_
    ·go_simp
    simp only [zsA,zsZ,zsS];refine M_take 10 34 (.pointer (some ⟨g,i * 2,none⟩)) _ rfl rfl (by kernel_rfl) (by kernel_rfl) (by kernel_rfl) (by kernel_rfl) (by kernel_rfl) (fun _ _ _ h => h) (by rfl) (fun w' hw' => ?_) hS (listed' := bts 19 2047) (by kernel_rfl) rfl ?_
    ·go_simp
    simp only [zsA,zsZ,zsS];refine M_take 11 35 (.string A) _ rfl rfl (by kernel_rfl) (by kernel_rfl) (by kernel_rfl) (by kernel_rfl) (by kernel_rfl) (fun _ _ _ h => h) (by rfl) (fun w' hw' => ?_) hS (listed' := bts 19 4095) (by kernel_rfl) rfl ?_
    ·obtain ⟨f0,f1⟩ := HQ.out _ hw'; go_simp
    simp only [zsA,zsZ,zsS];generalize wr.drew = U0 at *;refine M_fork 12 16 36 8 27 #[.agg #[.string sn,.slice sa sl sc,.slice ea el ec,.slice ta tl tc],.string A] (.pointer (some ⟨U0.heap.size,0,none⟩)) (U0.alloc (Obj.cells #[.string ⟨#[]⟩,.slice none 0 0,.slice none 0 0] 41)) rfl rfl rfl rfl (by kernel_rfl) (by rfl) (by rfl) (by go_simp) (by go_simp) ?_ (hS.trans (((Below.refl _ _).alloc (Nat.le_refl _) _).mono hS.size)) ?_
    ·skip
     refine (HC1.out _ hS).mono ?_;rintro ee V1 ⟨vf,vr,rfl,hof,hor,hbU⟩;obtain ⟨fa,fc,rfl⟩ := own_form hof;obtain ⟨ra,rc,rfl⟩ := own_form hor
     replace hof := own_base hof hS.size
     replace hor := own_base hor hS.size
     have hS0 := hS;have hS : Below wr.heap.size wr V1 := hS0.trans (hbU.mono hS0.size);clear hS0 hbU;refine ⟨_,rfl,hS,?_⟩;simp only [zsA,zsZ,zsS];refine M_take 13 23 (.tuple #[.agg #[.string m.name,.slice fa m.fields.length fc,.slice ra m.reserved.length rc],.bool ok1]) _ rfl rfl (by kernel_rfl) (by kernel_rfl) (by kernel_rfl) (by kernel_rfl) (by kernel_rfl) (fun _ _ _ h => h) (by rfl) (fun w' hw' => ?_) hS (listed' := bts 19 16383) (by kernel_rfl) rfl ?_
     ·go_simp
     simp only [zsA,zsZ,zsS];refine M_take 14 37 (.agg #[.string m.name,.slice fa m.fields.length fc,.slice ra m.reserved.length rc]) _ rfl rfl (by kernel_rfl) (by kernel_rfl) (by kernel_rfl) (by kernel_rfl) (by kernel_rfl) (fun _ _ _ h => h) (by rfl) (fun w' hw' => ?_) hS (listed' := bts 19 32767) (by kernel_rfl) rfl ?_
     ·go_simp
     simp only [zsA,zsZ,zsS];refine M_take 15 38 (.bool ok1) _ rfl rfl (by kernel_rfl) (by kernel_rfl) (by kernel_rfl) (by kernel_rfl) (by kernel_rfl) (fun _ _ _ h => h) (by rfl) (fun w' hw' => ?_) hS (listed' := bts 19 65535) (by kernel_rfl) rfl ?_
     ·go_simp
     simp only [zsA,zsZ,zsS];refine M_run 16 8 (.pointer (some ⟨V1.heap.size,0,none⟩)) (V1.alloc (Obj.cells #[.string ⟨#[]⟩,.slice none 0 0,.slice none 0 0] 41)) rfl rfl (by kernel_rfl) (by rfl) (listed' := bts 19 131071) (by kernel_rfl) (by go_simp) (hS.trans (((Below.refl _ _).alloc (Nat.le_refl _) _).mono hS.size)) ?_;have hbU : Below V1.heap.size V1 (V1.alloc (Obj.cells #[.string ⟨#[]⟩,.slice none 0 0,.slice none 0 0] 41)) := (Below.refl _ _).alloc (Nat.le_refl _) _;obtain ⟨bz,hbz⟩ : ∃ z,V1.heap.size = z := ⟨_,rfl⟩
     have BZ : Blk (V1.alloc (Obj.cells #[.string ⟨#[]⟩,.slice none 0 0,.slice none 0 0] 41)) bz #[.string ⟨#[]⟩,.slice none 0 0,.slice none 0 0] 41 := by rw [← hbz]; exact Blk.new V1 _ _
     have GZ : wr.heap.size ≤ bz := by rw [← hbz]; exact hS.size
     have hS0 := hS;have hS : Below wr.heap.size wr (V1.alloc (Obj.cells #[.string ⟨#[]⟩,.slice none 0 0,.slice none 0 0] 41)) := hS0.trans (hbU.mono hS0.size)
     replace hof := own_below hof hbU
     replace hor := own_below hor hbU
     clear hS0 hbU;simp only [zsA,zsZ,zsS]
     try simp only [hbz]
     clear hbz;generalize (V1.alloc (Obj.cells #[.string ⟨#[]⟩,.slice none 0 0,.slice none 0 0] 41)) = V2 at *;have k0 := (BZ.cell 0).trans rfl;have z0 := BZ.froz 0;have k1 := (BZ.cell 1).trans rfl;have z1 := BZ.froz 1;have k2 := (BZ.cell 2).trans rfl;have z2 := BZ.froz 2;have hS9 : Below wr.heap.size wr (set3E V2 bz 0 (.string m.name) (.slice fa m.fields.length fc) (.slice ra m.reserved.length rc)) := hS.trans ((set3_kp V2 bz 0 (.string m.name) (.slice fa m.fields.length fc) (.slice ra m.reserved.length rc)).toBelow hS.size fun q e => by rw [e]; exact GZ);refine M_storeT 17 (set3E V2 bz 0 (.string m.name) (.slice fa m.fields.length fc) (.slice ra m.reserved.length rc)) rfl rfl (by kernel_rfl) (by rfl) (listed' := bts 19 262143) (by kernel_rfl) (by unfold set3E; go_simp) hS9 ?_;clear k0 z0 k1 z1 k2 z2;have HFI : Hid (MsB (set3E V2 bz 0 (.string m.name) (.slice fa m.fields.length fc) (.slice ra m.reserved.length rc)) bz wr.heap.size m ∧ Below wr.heap.size wr (set3E V2 bz 0 (.string m.name) (.slice fa m.fields.length fc) (.slice ra m.reserved.length rc))) := ⟨⟨fa,fc,ra,rc,blk_set3 BZ,own_set3 BZ hof (by decide),own_set3 BZ hor (by decide)⟩,hS9⟩;clear hS BZ GZ;generalize (set3E V2 bz 0 (.string m.name) (.slice fa m.fields.length fc) (.slice ra m.reserved.length rc)) = W9 at *;refine M_runA 18 9 (.bool ok1) W9 rfl rfl (by kernel_rfl) (by rfl) (listed' := bts 19 524287) (by kernel_rfl) (by go_simp) (by kernel_rfl) ?_;simp only [zsA,zsZ,zsS];refine M_done (by kernel_rfl) ?_ _;go_wp2_with fail
     go_meet
     exact ⟨bz,rfl,rfl,HFI⟩
    ·skip
     have hbU : Below U0.heap.size U0 (U0.alloc (Obj.cells #[.string ⟨#[]⟩,.slice none 0 0,.slice none 0 0] 41)) := (Below.refl _ _).alloc (Nat.le_refl _) _;obtain ⟨bz,hbz⟩ : ∃ z,U0.heap.size = z := ⟨_,rfl⟩
     have BZ : Blk (U0.alloc (Obj.cells #[.string ⟨#[]⟩,.slice none 0 0,.slice none 0 0] 41)) bz #[.string ⟨#[]⟩,.slice none 0 0,.slice none 0 0] 41 := by rw [← hbz]; exact Blk.new U0 _ _
     have GZ : wr.heap.size ≤ bz := by rw [← hbz]; exact hS.size
     have hS0 := hS;have hS : Below wr.heap.size wr (U0.alloc (Obj.cells #[.string ⟨#[]⟩,.slice none 0 0,.slice none 0 0] 41)) := hS0.trans (hbU.mono hS0.size);clear hS0 hbU;simp only [zsA,zsZ,zsS]
     try simp only [hbz]
     clear hbz;generalize (U0.alloc (Obj.cells #[.string ⟨#[]⟩,.slice none 0 0,.slice none 0 0] 41)) = V3 at *;refine M_call 12 36 27 #[.agg #[.string sn,.slice sa sl sc,.slice ea el ec,.slice ta tl tc],.string A] rfl rfl (by kernel_rfl) (by rfl) (listed' := bts 19 73727) (by kernel_rfl) (fun W => by go_simp) ?_;refine (HC1.out _ hS).mono ?_;rintro ee V4 ⟨vf,vr,rfl,hof,hor,hbU⟩
     replace BZ := BZ.below hbU
     obtain ⟨fa,fc,rfl⟩ := own_form hof;obtain ⟨ra,rc,rfl⟩ := own_form hor
     replace hof := own_base hof hS.size
     replace hor := own_base hor hS.size
     have hS0 := hS;have hS : Below wr.heap.size wr V4 := hS0.trans (hbU.mono hS0.size);clear hS0 hbU;refine ⟨_,rfl,hS,?_⟩;simp only [zsA,zsZ,zsS];refine M_take 13 23 (.tuple #[.agg #[.string m.name,.slice fa m.fields.length fc,.slice ra m.reserved.length rc],.bool ok1]) _ rfl rfl (by kernel_rfl) (by kernel_rfl) (by kernel_rfl) (by kernel_rfl) (by kernel_rfl) (fun _ _ _ h => h) (by rfl) (fun w' hw' => ?_) hS (listed' := bts 19 81919) (by kernel_rfl) rfl ?_
     ·go_simp
     simp only [zsA,zsZ,zsS];refine M_take 14 37 (.agg #[.string m.name,.slice fa m.fields.length fc,.slice ra m.reserved.length rc]) _ rfl rfl (by kernel_rfl) (by kernel_rfl) (by kernel_rfl) (by kernel_rfl) (by kernel_rfl) (fun _ _ _ h => h) (by rfl) (fun w' hw' => ?_) hS (listed' := bts 19 98303) (by kernel_rfl) rfl ?_
     ·go_simp
     simp only [zsA,zsZ,zsS];refine M_take 15 38 (.bool ok1) _ rfl rfl (by kernel_rfl) (by kernel_rfl) (by kernel_rfl) (by kernel_rfl) (by kernel_rfl) (fun _ _ _ h => h) (by rfl) (fun w' hw' => ?_) hS (listed' := bts 19 131071) (by kernel_rfl) rfl ?_
     ·go_simp
     simp only [zsA,zsZ,zsS];have k0 := (BZ.cell 0).trans rfl;have z0 := BZ.froz 0;have k1 := (BZ.cell 1).trans rfl;have z1 := BZ.froz 1;have k2 := (BZ.cell 2).trans rfl;have z2 := BZ.froz 2;have hS9 : Below wr.heap.size wr (set3E V4 bz 0 (.string m.name) (.slice fa m.fields.length fc) (.slice ra m.reserved.length rc)) := hS.trans ((set3_kp V4 bz 0 (.string m.name) (.slice fa m.fields.length fc) (.slice ra m.reserved.length rc)).toBelow hS.size fun q e => by rw [e]; exact GZ);refine M_storeT 17 (set3E V4 bz 0 (.string m.name) (.slice fa m.fields.length fc) (.slice ra m.reserved.length rc)) rfl rfl (by kernel_rfl) (by rfl) (listed' := bts 19 262143) (by kernel_rfl) (by unfold set3E; go_simp) hS9 ?_;clear k0 z0 k1 z1 k2 z2;have HFI : Hid (MsB (set3E V4 bz 0 (.string m.name) (.slice fa m.fields.length fc) (.slice ra m.reserved.length rc)) bz wr.heap.size m ∧ Below wr.heap.size wr (set3E V4 bz 0 (.string m.name) (.slice fa m.fields.length fc) (.slice ra m.reserved.length rc))) := ⟨⟨fa,fc,ra,rc,blk_set3 BZ,own_set3 BZ hof (by decide),own_set3 BZ hor (by decide)⟩,hS9⟩;clear hS BZ GZ;generalize (set3E V4 bz 0 (.string m.name) (.slice fa m.fields.length fc) (.slice ra m.reserved.length rc)) = W9 at *;refine M_runA 18 9 (.bool ok1) W9 rfl rfl (by kernel_rfl) (by rfl) (listed' := bts 19 524287) (by kernel_rfl) (by go_simp) (by kernel_rfl) ?_;simp only [zsA,zsZ,zsS];refine M_done (by kernel_rfl) ?_ _;go_wp2_with fail
     go_meet
     exact ⟨bz,rfl,rfl,HFI⟩
   case rest =>
    obtain ⟨ba,rfl,rfl,HBA⟩ := hcut;generalize wc = w5 at *;have HB5 : Hid (Below wr.heap.size wr w5) := HBA.out.2;have HMS : Hid (MsB w5 ba wr.heap.size m) := HBA.out.1;clear HBA
    go_upto_region 6 with fail
    go_cut [10,11] from 39 to 54 (fun pv ov wx => ∃ b : Nat,pv = .pointer (some ⟨b,0,none⟩) ∧ ov = .bool ok2 ∧ Hid (MsB wx b w5.heap.size n ∧ Below w5.heap.size w5 wx))
    case first =>
     refine M_region (T := fun W => Below w5.heap.size w5 W) (m := 18) (by kernel_rfl) ?_;have hS : Below w5.heap.size w5 w5.drew := (Below.refl _ _).drew;refine M_take 0 40 (.pointer (some ⟨b,0,none⟩)) _ rfl rfl (by kernel_rfl) (by kernel_rfl) (by kernel_rfl) (by kernel_rfl) (by kernel_rfl) (fun _ _ _ h => h) (by rfl) (fun w' hw' => ?_) hS (listed' := bts 19 1) (by kernel_rfl) rfl ?_
     ·go_simp
     simp only [zsA,zsZ,zsS];refine M_take 1 41 (.pointer (some ⟨b,0,none⟩)) _ rfl rfl (by kernel_rfl) (by kernel_rfl) (by kernel_rfl) (by kernel_rfl) (by kernel_rfl) (fun _ _ _ h => h) (by rfl) (fun w' hw' => ?_) hS (listed' := bts 19 3) (by kernel_rfl) rfl ?_
     ·go_simp
     simp only [zsA,zsZ,zsS];refine M_take 2 42 (.pointer (some ⟨b,4,none⟩)) _ rfl rfl (by kernel_rfl) (by kernel_rfl) (by kernel_rfl) (by kernel_rfl) (by kernel_rfl) (fun _ _ _ h => h) (by rfl) (fun w' hw' => ?_) hS (listed' := bts 19 7) (by kernel_rfl) rfl ?_
     ·go_simp
     simp only [zsA,zsZ,zsS];refine M_take 3 43 (.agg #[.string tn,.slice sa2 sl2 sc2,.slice ea2 el2 ec2,.slice ta2 tl2 tc2]) _ rfl rfl (by kernel_rfl) (by kernel_rfl) (by kernel_rfl) (by kernel_rfl) (by kernel_rfl) (fun _ _ _ h => h) (by rfl) (fun w' hw' => ?_) hS (listed' := bts 19 15) (by kernel_rfl) rfl ?_
     ·have f4 := ((HBB.out _ (HB5.out.trans (hw'.mono HB5.out.size))).cell 4).trans rfl; have f5 := ((HBB.out _ (HB5.out.trans (hw'.mono HB5.out.size))).cell 5).trans rfl; have f6 := ((HBB.out _ (HB5.out.trans (hw'.mono HB5.out.size))).cell 6).trans rfl; have f7 := ((HBB.out _ (HB5.out.trans (hw'.mono HB5.out.size))).cell 7).trans rfl; go_simp
     simp only [zsA,zsZ,zsS];refine M_take 4 44 (.pointer (some ⟨b,0,none⟩)) _ rfl rfl (by kernel_rfl) (by kernel_rfl) (by kernel_rfl) (by kernel_rfl) (by kernel_rfl) (fun _ _ _ h => h) (by rfl) (fun w' hw' => ?_) hS (listed' := bts 19 31) (by kernel_rfl) rfl ?_
     ·go_simp
     simp only [zsA,zsZ,zsS];refine M_take 5 45 (.pointer (some ⟨b,0,none⟩)) _ rfl rfl (by kernel_rfl) (by kernel_rfl) (by kernel_rfl) (by kernel_rfl) (by kernel_rfl) (fun _ _ _ h => h) (by rfl) (fun w' hw' => ?_) hS (listed' := bts 19 63) (by kernel_rfl) rfl ?_
     ·go_simp
     simp only [zsA,zsZ,zsS];refine M_take 6 46 (.pointer (some ⟨b,8,none⟩)) _ rfl rfl (by kernel_rfl) (by kernel_rfl) (by kernel_rfl) (by kernel_rfl) (by kernel_rfl) (fun _ _ _ h => h) (by rfl) (fun w' hw' => ?_) hS (listed' := bts 19 127) (by kernel_rfl) rfl ?_
     ·go_simp
     simp only [zsA,zsZ,zsS];refine M_take 7 47 (.slice (some ⟨g,0,none⟩) K pc) _ rfl rfl (by kernel_rfl) (by kernel_rfl) (by kernel_rfl) (by kernel_rfl) (by kernel_rfl) (fun _ _ _ h => h) (by rfl) (fun w' hw' => ?_) hS (listed' := bts 19 255) (by kernel_rfl) rfl ?_
     ·have f8 := ((HBB.out _ (HB5.out.trans (hw'.mono HB5.out.size))).cell 8).trans rfl; go_simp
     simp only [zsA,zsZ,zsS];refine M_take 8 48 (.int .i64 (i : Int)) _ rfl rfl (by kernel_rfl) (by kernel_rfl) (by kernel_rfl) (by kernel_rfl) (by kernel_rfl) (fun _ _ _ h => h) (by rfl) (fun w' hw' => ?_) hS (listed' := bts 19 511) (by kernel_rfl) rfl ?_
     ·go_simp
     simp only [zsA,zsZ,zsS];refine M_take 9 49 (.pointer (some ⟨g,i * 2,none⟩)) _ rfl rfl (by kernel_rfl) (by kernel_rfl) (by kernel_rfl) (by kernel_rfl) (by kernel_rfl) (fun _ _ _ h => h) (by rfl) (fun w' hw' => ?_) hS (listed' := bts 19 1023) (by kernel_rfl) rfl ?_
     ·go_simp
     simp only [zsA,zsZ,zsS];refine M_take 10 50 (.pointer (some ⟨g,i * 2 + 1,none⟩)) _ rfl rfl (by kernel_rfl) (by kernel_rfl) (by kernel_rfl) (by kernel_rfl) (by kernel_rfl) (fun _ _ _ h => h) (by rfl) (fun w' hw' => ?_) hS (listed' := bts 19 2047) (by kernel_rfl) rfl ?_
     ·go_simp
     simp only [zsA,zsZ,zsS];refine M_take 11 51 (.string B) _ rfl rfl (by kernel_rfl) (by kernel_rfl) (by kernel_rfl) (by kernel_rfl) (by kernel_rfl) (fun _ _ _ h => h) (by rfl) (fun w' hw' => ?_) hS (listed' := bts 19 4095) (by kernel_rfl) rfl ?_
     ·obtain ⟨f0,f1⟩ := HQ.out _ (HB5.out.trans (hw'.mono HB5.out.size)); go_simp
     simp only [zsA,zsZ,zsS];generalize w5.drew = U0 at *;refine M_fork 12 16 52 10 27 #[.agg #[.string tn,.slice sa2 sl2 sc2,.slice ea2 el2 ec2,.slice ta2 tl2 tc2],.string B] (.pointer (some ⟨U0.heap.size,0,none⟩)) (U0.alloc (Obj.cells #[.string ⟨#[]⟩,.slice none 0 0,.slice none 0 0] 41)) rfl rfl rfl rfl (by kernel_rfl) (by rfl) (by rfl) (by go_simp) (by go_simp) ?_ (hS.trans (((Below.refl _ _).alloc (Nat.le_refl _) _).mono hS.size)) ?_
     ·skip
      refine (HC2.out _ (HB5.out.trans (hS.mono HB5.out.size))).mono ?_;rintro ee V1 ⟨vf,vr,rfl,hof,hor,hbU⟩;obtain ⟨fa,fc,rfl⟩ := own_form hof;obtain ⟨ra,rc,rfl⟩ := own_form hor
      replace hof := own_base hof hS.size
      replace hor := own_base hor hS.size
      have hS0 := hS;have hS : Below w5.heap.size w5 V1 := hS0.trans (hbU.mono hS0.size);clear hS0 hbU;refine ⟨_,rfl,hS,?_⟩;simp only [zsA,zsZ,zsS];refine M_take 13 39 (.tuple #[.agg #[.string n.name,.slice fa n.fields.length fc,.slice ra n.reserved.length rc],.bool ok2]) _ rfl rfl (by kernel_rfl) (by kernel_rfl) (by kernel_rfl) (by kernel_rfl) (by kernel_rfl) (fun _ _ _ h => h) (by rfl) (fun w' hw' => ?_) hS (listed' := bts 19 16383) (by kernel_rfl) rfl ?_
      ·go_simp
      simp only [zsA,zsZ,zsS];refine M_take 14 53 (.agg #[.string n.name,.slice fa n.fields.length fc,.slice ra n.reserved.length rc]) _ rfl rfl (by kernel_rfl) (by kernel_rfl) (by kernel_rfl) (by kernel_rfl) (by kernel_rfl) (fun _ _ _ h => h) (by rfl) (fun w' hw' => ?_) hS (listed' := bts 19 32767) (by kernel_rfl) rfl ?_
      ·go_simp
      simp only [zsA,zsZ,zsS];refine M_take 15 54 (.bool ok2) _ rfl rfl (by kernel_rfl) (by kernel_rfl) (by kernel_rfl) (by kernel_rfl) (by kernel_rfl) (fun _ _ _ h => h) (by rfl) (fun w' hw' => ?_) hS (listed' := bts 19 65535) (by kernel_rfl) rfl ?_
      ·go_simp
      simp only [zsA,zsZ,zsS];refine M_run 16 10 (.pointer (some ⟨V1.heap.size,0,none⟩)) (V1.alloc (Obj.cells #[.string ⟨#[]⟩,.slice none 0 0,.slice none 0 0] 41)) rfl rfl (by kernel_rfl) (by rfl) (listed' := bts 19 131071) (by kernel_rfl) (by go_simp) (hS.trans (((Below.refl _ _).alloc (Nat.le_refl _) _).mono hS.size)) ?_;have hbU : Below V1.heap.size V1 (V1.alloc (Obj.cells #[.string ⟨#[]⟩,.slice none 0 0,.slice none 0 0] 41)) := (Below.refl _ _).alloc (Nat.le_refl _) _;obtain ⟨bz,hbz⟩ : ∃ z,V1.heap.size = z := ⟨_,rfl⟩
      have BZ : Blk (V1.alloc (Obj.cells #[.string ⟨#[]⟩,.slice none 0 0,.slice none 0 0] 41)) bz #[.string ⟨#[]⟩,.slice none 0 0,.slice none 0 0] 41 := by rw [← hbz]; exact Blk.new V1 _ _
      have GZ : w5.heap.size ≤ bz := by rw [← hbz]; exact hS.size
      have hS0 := hS;have hS : Below w5.heap.size w5 (V1.alloc (Obj.cells #[.string ⟨#[]⟩,.slice none 0 0,.slice none 0 0] 41)) := hS0.trans (hbU.mono hS0.size)
      replace hof := own_below hof hbU
      replace hor := own_below hor hbU
      clear hS0 hbU;simp only [zsA,zsZ,zsS]
      try simp only [hbz]
      clear hbz;generalize (V1.alloc (Obj.cells #[.string ⟨#[]⟩,.slice none 0 0,.slice none 0 0] 41)) = V2 at *;have k0 := (BZ.cell 0).trans rfl;have z0 := BZ.froz 0;have k1 := (BZ.cell 1).trans rfl;have z1 := BZ.froz 1;have k2 := (BZ.cell 2).trans rfl;have z2 := BZ.froz 2;have hS9 : Below w5.heap.size w5 (set3E V2 bz 0 (.string n.name) (.slice fa n.fields.length fc) (.slice ra n.reserved.length rc)) := hS.trans ((set3_kp V2 bz 0 (.string n.name) (.slice fa n.fields.length fc) (.slice ra n.reserved.length rc)).toBelow hS.size fun q e => by rw [e]; exact GZ);refine M_storeT 17 (set3E V2 bz 0 (.string n.name) (.slice fa n.fields.length fc) (.slice ra n.reserved.length rc)) rfl rfl (by kernel_rfl) (by rfl) (listed' := bts 19 262143) (by kernel_rfl) (by unfold set3E; go_simp) hS9 ?_;clear k0 z0 k1 z1 k2 z2;have HFI : Hid (MsB (set3E V2 bz 0 (.string n.name) (.slice fa n.fields.length fc) (.slice ra n.reserved.length rc)) bz w5.heap.size n ∧ Below w5.heap.size w5 (set3E V2 bz 0 (.string n.name) (.slice fa n.fields.length fc) (.slice ra n.reserved.length rc))) := ⟨⟨fa,fc,ra,rc,blk_set3 BZ,own_set3 BZ hof (by decide),own_set3 BZ hor (by decide)⟩,hS9⟩;clear hS BZ GZ;generalize (set3E V2 bz 0 (.string n.name) (.slice fa n.fields.length fc) (.slice ra n.reserved.length rc)) = W9 at *;refine M_runA 18 11 (.bool ok2) W9 rfl rfl (by kernel_rfl) (by rfl) (listed' := bts 19 524287) (by kernel_rfl) (by go_simp) (by kernel_rfl) ?_;simp only [zsA,zsZ,zsS];refine M_done (by kernel_rfl) ?_ _;go_wp2_with fail
      go_meet
      exact ⟨bz,rfl,rfl,HFI⟩
     ·skip
      have hbU : Below U0.heap.size U0 (U0.alloc (Obj.cells #[.string ⟨#[]⟩,.slice none 0 0,.slice none 0 0] 41)) := (Below.refl _ _).alloc (Nat.le_refl _) _;obtain ⟨bz,hbz⟩ : ∃ z,U0.heap.size = z := ⟨_,rfl⟩
      have BZ : Blk (U0.alloc (Obj.cells #[.string ⟨#[]⟩,.slice none 0 0,.slice none 0 0] 41)) bz #[.string ⟨#[]⟩,.slice none 0 0,.slice none 0 0] 41 := by rw [← hbz]; exact Blk.new U0 _ _
      have GZ : w5.heap.size ≤ bz := by rw [← hbz]; exact hS.size
      have hS0 := hS;have hS : Below w5.heap.size w5 (U0.alloc (Obj.cells #[.string ⟨#[]⟩,.slice none 0 0,.slice none 0 0] 41)) := hS0.trans (hbU.mono hS0.size);clear hS0 hbU;simp only [zsA,zsZ,zsS]
      try simp only [hbz]
      clear hbz;generalize (U0.alloc (Obj.cells #[.string ⟨#[]⟩,.slice none 0 0,.slice none 0 0] 41)) = V3 at *;refine M_call 12 52 27 #[.agg #[.string tn,.slice sa2 sl2 sc2,.slice ea2 el2 ec2,.slice ta2 tl2 tc2],.string B] rfl rfl (by kernel_rfl) (by rfl) (listed' := bts 19 73727) (by kernel_rfl) (fun W => by go_simp) ?_;refine (HC2.out _ (HB5.out.trans (hS.mono HB5.out.size))).mono ?_;rintro ee V4 ⟨vf,vr,rfl,hof,hor,hbU⟩
      replace BZ := BZ.below hbU
      obtain ⟨fa,fc,rfl⟩ := own_form hof;obtain ⟨ra,rc,rfl⟩ := own_form hor
      replace hof := own_base hof hS.size
      replace hor := own_base hor hS.size
      have hS0 := hS;have hS : Below w5.heap.size w5 V4 := hS0.trans (hbU.mono hS0.size);clear hS0 hbU;refine ⟨_,rfl,hS,?_⟩;simp only [zsA,zsZ,zsS];refine M_take 13 39 (.tuple #[.agg #[.string n.name,.slice fa n.fields.length fc,.slice ra n.reserved.length rc],.bool ok2]) _ rfl rfl (by kernel_rfl) (by kernel_rfl) (by kernel_rfl) (by kernel_rfl) (by kernel_rfl) (fun _ _ _ h => h) (by rfl) (fun w' hw' => ?_) hS (listed' := bts 19 81919) (by kernel_rfl) rfl ?_
      ·go_simp
      simp only [zsA,zsZ,zsS];refine M_take 14 53 (.agg #[.string n.name,.slice fa n.fields.length fc,.slice ra n.reserved.length rc]) _ rfl rfl (by kernel_rfl) (by kernel_rfl) (by kernel_rfl) (by kernel_rfl) (by kernel_rfl) (fun _ _ _ h => h) (by rfl) (fun w' hw' => ?_) hS (listed' := bts 19 98303) (by kernel_rfl) rfl ?_
      ·go_simp
      simp only [zsA,zsZ,zsS];refine M_take 15 54 (.bool ok2) _ rfl rfl (by kernel_rfl) (by kernel_rfl) (by kernel_rfl) (by kernel_rfl) (by kernel_rfl) (fun _ _ _ h => h) (by rfl) (fun w' hw' => ?_) hS (listed' := bts 19 131071) (by kernel_rfl) rfl ?_
      ·go_simp
      simp only [zsA,zsZ,zsS];have k0 := (BZ.cell 0).trans rfl;have z0 := BZ.froz 0;have k1 := (BZ.cell 1).trans rfl;have z1 := BZ.froz 1;have k2 := (BZ.cell 2).trans rfl;have z2 := BZ.froz 2;have hS9 : Below w5.heap.size w5 (set3E V4 bz 0 (.string n.name) (.slice fa n.fields.length fc) (.slice ra n.reserved.length rc)) := hS.trans ((set3_kp V4 bz 0 (.string n.name) (.slice fa n.fields.length fc) (.slice ra n.reserved.length rc)).toBelow hS.size fun q e => by rw [e]; exact GZ);refine M_storeT 17 (set3E V4 bz 0 (.string n.name) (.slice fa n.fields.length fc) (.slice ra n.reserved.length rc)) rfl rfl (by kernel_rfl) (by rfl) (listed' := bts 19 262143) (by kernel_rfl) (by unfold set3E; go_simp) hS9 ?_;clear k0 z0 k1 z1 k2 z2;have HFI : Hid (MsB (set3E V4 bz 0 (.string n.name) (.slice fa n.fields.length fc) (.slice ra n.reserved.length rc)) bz w5.heap.size n ∧ Below w5.heap.size w5 (set3E V4 bz 0 (.string n.name) (.slice fa n.fields.length fc) (.slice ra n.reserved.length rc))) := ⟨⟨fa,fc,ra,rc,blk_set3 BZ,own_set3 BZ hof (by decide),own_set3 BZ hor (by decide)⟩,hS9⟩;clear hS BZ GZ;generalize (set3E V4 bz 0 (.string n.name) (.slice fa n.fields.length fc) (.slice ra n.reserved.length rc)) = W9 at *;refine M_runA 18 11 (.bool ok2) W9 rfl rfl (by kernel_rfl) (by rfl) (listed' := bts 19 524287) (by kernel_rfl) (by go_simp) (by kernel_rfl) ?_;simp only [zsA,zsZ,zsS];refine M_done (by kernel_rfl) ?_ _;go_wp2_with fail
      go_meet
      exact ⟨bz,rfl,rfl,HFI⟩
    case rest =>
     obtain ⟨bb,rfl,rfl,HBA⟩ := hcut;generalize wc = w6 at *;have HB6 : Hid (Below w5.heap.size w5 w6) := HBA.out.2;have HMT : Hid (MsB w6 bb w5.heap.size n) := HBA.out.1
     replace HMS : Hid (MsB w6 ba wr.heap.size m) := HMS.out.below HB6.out
     have HB : Hid (Below wr.heap.size wr w6) := HB5.out.trans (HB6.out.mono HB5.out.size);clear HBA HB5 HB6 HC1 HC2 HQ;obtain ⟨B1,hB1⟩ : ∃ z,wr.heap.size = z := ⟨_,rfl⟩;obtain ⟨B2,hB2⟩ : ∃ z,w5.heap.size = z := ⟨_,rfl⟩;rw [hB1] at HMS;rw [hB2] at HMT;have HM6 : Hid (Meet [.string sn,.slice sa sl sc,.slice ea el ec,.slice ta tl tc] [.string tn,.slice sa2 sl2 sc2,.slice ea2 el2 ec2,.slice ta2 tl2 tc2] W0 w6 b mb (.slice (some ⟨g,0,none⟩) K pc) l) := HM.out.bel HB.out;clear hB1 hB2 HM HBB c8 HB;obtain ⟨fa,fc,ra,rc,BA,hof,hor⟩ := HMS.out;have HTG : Hid _ := tags_any (nm := m.name) (own_rowF hof) (own_rowI hor) HFW.out.1;have a0 := (BA.cell 0).trans rfl;have a1 := (BA.cell 1).trans rfl;have a2 := (BA.cell 2).trans rfl;clear BA hof hor;obtain ⟨f1,hf1⟩ : ∃ z,m.fields.length = z := ⟨_,rfl⟩;obtain ⟨r1,hr1⟩ : ∃ z,m.reserved.length = z := ⟨_,rfl⟩;obtain ⟨mnm,hmn⟩ : ∃ z,m.name = z := ⟨_,rfl⟩;rw [hf1,hr1,hmn] at HTG;simp only [hf1,hr1,hmn] at a0 a1 a2;clear hf1 hr1 hmn;go_wp2_with fail;refine Calls.mono HTG.out ?_;rintro ee w7 ⟨vt,rfl,hot,hb7⟩;obtain ⟨at7,ct7,rfl⟩ := own_form hot;obtain ⟨TL,hTL⟩ : ∃ z,(tagsM m).length = z := ⟨_,rfl⟩;have HTL : Hid ((tagsM m).length = TL) := hTL;rw [hTL] at hot;obtain ⟨B3,hB3⟩ : ∃ z,w6.heap.size = z := ⟨_,rfl⟩;have HTR : Hid (MsB w7 ba B1 m ∧ MsB w7 bb B2 n ∧ w7.ownsRow B3 3 1 (.slice at7 TL ct7) TL ((tagsM m).map (Value.int .i64))) := ⟨HMS.out.below hb7,HMT.out.below hb7,by rw [← hB3]; exact hot⟩;have HM7 : Hid (Meet [.string sn,.slice sa sl sc,.slice ea el ec,.slice ta tl tc] [.string tn,.slice sa2 sl2 sc2,.slice ea2 el2 ec2,.slice ta2 tl2 tc2] W0 w7 b mb (.slice (some ⟨g,0,none⟩) K pc) l) := HM6.out.bel hb7;obtain ⟨RES,hRES⟩ : ∃ z,rowT s t m n (tagsM m) l = z := ⟨_,rfl⟩;have HRES : Hid (rowT s t m n (tagsM m) l = RES) := hRES;have HR0 : Hid (rowT s t m n ((tagsM m).drop 0) l = RES) := hRES;have HP0 : Hid (PrIn s t l ∧ ∃ r,l = l ++ r) := ⟨HP.out,[],by simp⟩;have hll : (tagsM m).length = TL := hTL
     have htb : TL ≤ 200 := by
      rw [← hTL,tagsM_len];have := HFW.out.1
      omega
     try simp only [hll]
     clear hB3 hot hb7 HM6 HMS HMT HTG a0 a1 a2 hTL hRES hll;go_wp2_with fail
     go_loopw [5,6,58] (fun nv tv kv wr => ∃ (k : Nat) (l' : List Pr) (vp' : Value),nv = .string ⟨#[]⟩ ∧ tv = .int .i64 0 ∧ kv = .int .i64 (k : Int) ∧ k ≤ TL ∧ Hid (rowT s t m n ((tagsM m).drop k) l' = RES) ∧ Hid (PrIn s t l' ∧ ∃ r,l' = l ++ r) ∧ Hid (Meet [.string sn,.slice sa sl sc,.slice ea el ec,.slice ta tl tc] [.string tn,.slice sa2 sl2 sc2,.slice ea2 el2 ec2,.slice ta2 tl2 tc2] W0 wr b mb vp' l') ∧ Hid (MsB wr ba B1 m ∧ MsB wr bb B2 n ∧ wr.ownsRow B3 3 1 (.slice at7 TL ct7) TL ((tagsM m).map (Value.int .i64)))) (fun _ _ kv _ => TL - (intOf kv).toNat)
     case atStart => exact ⟨0,l,_,rfl,rfl,rfl,by omega,HR0,HP0,HM7,HTR⟩
     case round =>
      clear HR0 HP0 HM7 HTR;obtain ⟨k,l',vp',rfl,rfl,rfl,hk,HR,HP',HM',HTR⟩ := hrel;obtain ⟨HBA,HBB,hot⟩ := HTR.out;obtain ⟨fa,fc,ra,rc,BA,hof,hor⟩ := HBA;obtain ⟨fb,gc,rb,qc,BE,hog,hoq⟩ := HBB
      by_cases hkt : k < TL
      ·obtain ⟨tag,htg⟩ : ∃ z,(tagsM m)[k]? = some z := ⟨_,List.getElem?_eq_getElem (by rw [HTL.out]; exact hkt)⟩;have HTM : Hid (tag ∈ tagsM m) := List.mem_of_getElem? htg
       obtain ⟨gt,rfl⟩ : ∃ g,at7 = some ⟨g,0,none⟩ := by
        rcases hot.2 with ⟨e,h0⟩ | ⟨g,cap,cur,e,_⟩
        ·omega
        ·simp only [Value.slice.injEq] at e;exact ⟨g,e.1⟩
       have t0 := hot.cells (g := gt) rfl k (.int .i64 tag) (by rw [List.getElem?_map,htg]; rfl);simp only [Addr.add_lit,Nat.zero_add] at t0
       have hlk : decide ((k : Int) < (TL : Int)) = true := by simp; omega
       have HDR : Hid ((tagsM m).drop k = tag :: (tagsM m).drop (k + 1)) := (by
        obtain ⟨h1,h2⟩ := List.getElem?_eq_some_iff.1 htg
        rw [← h2,List.drop_eq_getElem_cons h1] : _ = _)
       have HKE : Hid _ := mkeeps_any HSS.out.1 HST.out.1 HM'.out (Nat.le_trans (HP'.out.1.len (okS_len HSS.out.2) (okS_len HST.out.2)) (by decide)) (m := m) (n := n) (an := m.name) (bn := n.name) (ra := ra) (rl := m.reserved.length) (rc := rc) tag (own_rowF hof) (own_rowF hog) (own_rowI hoq) HFW.out.2.1 HFW.out.2.2;have HKA : Hid (keepA s t m n tag = atE s t m n tag) := keep_at HTA.out HTM.out;have HTP : Hid (1 ≤ tag) := ((HTA.out.rng tag ((tagsM_perm m).mem_iff.1 HTM.out)).1 : 1 ≤ tag);rw [HKA.out] at HKE;rw [HDR.out] at HR
       have HNX : Hid (atE s t m n tag = none → RES = (l',some tag)) := fun e => by
        rw [← HR.out]; unfold rowT; rw [e]
       have HNY : Hid (∀ o,atE s t m n tag = some o → rowT s t m n ((tagsM m).drop (k + 1)) (addO l' o) = RES) := fun o e => by
        rw [← HR.out]; conv => rhs; unfold rowT
        rw [e]
       have HPA : Hid (∀ o,atE s t m n tag = some o → PrIn s t (addO l' o) ∧ ∃ r,addO l' o = l ++ r) := fun o e => by
        refine ⟨addO_in HSS.out.2 HST.out.2 (A := A) (B := B) (tag := tag) HP'.out.1 (by rw [HMN.out.1,HMN.out.2]; exact e),?_⟩;obtain ⟨r,hr⟩ := HP'.out.2;obtain ⟨r',hr'⟩ := addO_pre (l := l') (o := o);exact ⟨r ++ r',by rw [hr',hr,List.append_assoc]⟩
       have a0 := (BA.cell 0).trans rfl;have a1 := (BA.cell 1).trans rfl;have a2 := (BA.cell 2).trans rfl;have b0 := (BE.cell 0).trans rfl;have b1 := (BE.cell 1).trans rfl;have b2 := (BE.cell 2).trans rfl;have HK7 : Hid (∀ W,Kp (MeB b mb vp') wr W → MsB W ba B1 m ∧ MsB W bb B2 n ∧ W.ownsRow B3 3 1 (.slice (some ⟨gt,0,none⟩) TL ct7) TL ((tagsM m).map (Value.int .i64))) := fun W hW => ⟨HTR.out.1.meet HM'.out hW,HTR.out.2.1.meet HM'.out hW,HM'.out.own hW HTR.out.2.2 (by decide) (by decide)⟩
       obtain ⟨OO,hOO⟩ : ∃ z,atE s t m n tag = z := ⟨_,rfl⟩;rw [hOO] at HKE HNX HNY HPA;clear HKA hOO HR HP' BA BE hof hor hog hoq hot htg HDR HM' HTR;obtain ⟨f1,hf1⟩ : ∃ z,m.fields.length = z := ⟨_,rfl⟩;obtain ⟨r1,hr1⟩ : ∃ z,m.reserved.length = z := ⟨_,rfl⟩;obtain ⟨mnm,hmn⟩ : ∃ z,m.name = z := ⟨_,rfl⟩;obtain ⟨f2,hf2⟩ : ∃ z,n.fields.length = z := ⟨_,rfl⟩;obtain ⟨r2,hr2⟩ : ∃ z,n.reserved.length = z := ⟨_,rfl⟩;obtain ⟨nnm,hnn⟩ : ∃ z,n.name = z := ⟨_,rfl⟩;rw [hf1,hr1,hmn,hf2,hr2,hnn] at HKE;simp only [hf1,hr1,hmn,hf2,hr2,hnn] at a0 a1 a2 b0 b1 b2;have HMNM : Hid (mnm = A) := (by rw [← hmn]; exact HNM.out : _ = _);clear hf1 hr1 hmn hf2 hr2 hnn;go_wp2_with fail;refine Calls.mono HKE.out ?_;rintro ee w8 ⟨rfl,vp8,hM8,hk8⟩;have HT8 : Hid _ := HK7.out w8 hk8;have HM8 : Hid _ := hM8;clear hM8 hk8 HK7 HKE a0 a1 a2 b0 b1 b2 t0
       cases OO with
       | none =>
        have HE : Hid (ANS = (A,tag,false)) := (by
         rw [← HA.out]
         have h1 : 300 - i = (299 - i) + 1 := by omega
         rw [h1];refine loop_brk (l' := l') HPI.out ?_ (by rw [HMN.out.1]; exact HTA.out);simp only;rw [HMN.out.1,HMN.out.2,HRES.out]
         exact HNX.out rfl : _ = _)
        obtain ⟨fa,fc,ra,rc,BA8, -, -⟩ := HT8.out.1;have a0 := (BA8.cell 0).trans rfl;rw [HNM.out] at a0;have HBW : Hid (Below W0.heap.size W0 w8) := HM8.out.below
        have htz : (tag == 0) = false := by have := HTP.out; simp; omega
        clear BA8 HT8 HM8 HNX HNY HPA HA HRES HMN HNM;simp only [Option.isSome_none];go_wp2_with fail;refine bodyPost_ret (results_threeE rfl _ _ _) rfl ?_;rw [HE.out];exact ⟨rfl,HBW.out⟩
       | some o =>
        simp only [Option.isSome_some];go_wp2_with fail
        go_roundw
        case rel => exact ⟨k + 1,addO l' o,vp8,rfl,rfl,by go_num,by omega,HNY.out o rfl,HPA.out o rfl,HM8.out,HT8.out⟩
        case measure => simp [intOf]; omega
      ·obtain rfl : k = TL := by omega
       have HRE : Hid (RES = (l',none)) := (by
        rw [← HR.out,List.drop_eq_nil_of_le (by rw [HTL.out]; omega)]; rfl : _ = _)
       have HA2 : Hid (loopE s t (300 - (i + 1)) (i + 1) l' = ANS) := (by
        rw [← HA.out]
        have h1 : 300 - i = (300 - (i + 1)) + 1 := by omega
        rw [h1]
        symm
        refine loop_step HPI.out ?_ (by rw [HMN.out.1]; exact HTA.out);simp only;rw [HMN.out.1,HMN.out.2,HRES.out]
        exact HRE.out : _ = _)
       have HLI : Hid (i + 1 ≤ l'.length) := (by
        obtain ⟨r,hr⟩ := HP'.out.2
        show i + 1 ≤ l'.length
        rw [hr,List.length_append,HK.out]; omega)
       have HP2 : Hid (PrIn s t l') := HP'.out.1;clear HR HRE HA HP' hot BA BE hof hor hog hoq HTR HRES;go_wp2_with fail
       go_roundw
       case rel => exact ⟨i + 1,l',vp',rfl,rfl,by go_num,HLI.out,HA2.out,HP2.out,HM'.out⟩
       case measure => simp [intOf]; omega
theorem meth_at {w : World} {s : ScS} {sn : ByteArray} {sa ea ta : Option Addr} {sl sc el ec tl tc : Nat} (hs : SIn w (.agg #[.string sn,.slice sa sl sc,.slice ea el ec,.slice ta tl tc]) s) (nm : ByteArray) : Calls Try.prog 14 #[.agg #[.string sn,.slice sa sl sc,.slice ea el ec,.slice ta tl tc],.string nm] w fun e w' => e = .returned (.tuple #[mtV ((mtOf s nm).getD zeroT),.bool (mtOf s nm).isSome]) ∧ Below w.heap.size w w' := by
 obtain ⟨vm,ve,vt,e,h1,h2,h3⟩ := hs.row;simp only [Value.agg.injEq,Array.mk.injEq,List.cons.injEq,and_true] at e;obtain ⟨e1,rfl,rfl,rfl⟩ := e;exact cmethod_any h3
theorem start_none {t : ScS} {m : MtS} {ms : List MtS} {l : List Pr} (h : mtOf t m.name = none) : startE t (m :: ms) l = (l,some m.name) := by
 unfold startE; rw [h]
theorem start_some {t : ScS} {m k : MtS} {ms : List MtS} {l : List Pr} (h : mtOf t m.name = some k) : startE t (m :: ms) l = startE t ms (addP (addP l (m.inn,k.inn)) (m.out,k.out)) := by
 conv => lhs; unfold startE
 rw [h]
theorem addP_in {s t : ScS} {l : List Pr} {p : Pr} (h : PrIn s t l) (h1 : p.1 ∈ s.mn) (h2 : p.2 ∈ t.mn) : PrIn s t (addP l p) := ⟨addP_nodup h.1,addP_of h.2 ⟨h1,h2⟩⟩
theorem evol_no {s t : ScS} (h : ¬ (checkA s = 0 ∧ checkA t = 0)) : evolA s t = (⟨#[]⟩,0,false) := by unfold evolA; rw [if_neg h]
theorem evol_yesN {s t : ScS} {l : List Pr} {nm : ByteArray} (h : checkA s = 0 ∧ checkA t = 0) (hR : startE t s.methods [] = (l,some nm)) : evolA s t = (nm,0,false) := by
 unfold evolA; rw [if_pos h,hR]
theorem evol_yesL {s t : ScS} {l : List Pr} (h : checkA s = 0 ∧ checkA t = 0) (hR : startE t s.methods [] = (l,none)) : evolA s t = loopE s t 300 0 l := by
 unfold evolA; rw [if_pos h,hR]
theorem evolves_any : EvolC := by
 intro s t sv tv w hs ht;obtain ⟨sa,sl,sc,ea,el,ec,ta,tl,tc,rfl, -, -,hMT⟩ := hs.open;obtain ⟨sa2,sl2,sc2,ea2,el2,ec2,ta2,tl2,tc2,rfl, -, -, -⟩ := ht.open
 have hN : (mtRows s.methods).length = s.methods.length := by simp [mtRows]
 have hf3 := hMT.form2;obtain ⟨ta',tc',e, -, -⟩ := hf3;simp only [Value.slice.injEq] at e;obtain ⟨rfl,e2,rfl⟩ := e;rw [hN] at e2;have HN : Hid (s.methods.length = tl) := e2.symm
 have htl : tl ≤ 10 := by rw [e2]; exact hs.few.meths
 have HMT : Hid (RowG w (.slice ta tl tc) 3 (mtRows s.methods)) := hMT;have HS : Hid (SIn w (.agg #[.string s.name,.slice sa sl sc,.slice ea el ec,.slice ta tl tc]) s) := hs;have HT : Hid (SIn w (.agg #[.string t.name,.slice sa2 sl2 sc2,.slice ea2 el2 ec2,.slice ta2 tl2 tc2]) t) := ht;obtain ⟨sn,hsn⟩ : ∃ z,s.name = z := ⟨_,rfl⟩;obtain ⟨tn,htn⟩ : ∃ z,t.name = z := ⟨_,rfl⟩;rw [hsn] at HS ⊢;rw [htn] at HT ⊢;clear hs ht hMT hN e2 hsn htn;obtain ⟨ANS,hA⟩ : ∃ z,evolA s t = z := ⟨_,rfl⟩;rw [hA];have HA : Hid (evolA s t = ANS) := hA;clear hA;obtain ⟨c1,hc1⟩ : ∃ z,checkA s = z := ⟨_,rfl⟩;obtain ⟨c2,hc2⟩ : ∃ z,checkA t = z := ⟨_,rfl⟩;have HC : Hid (checkA s = c1 ∧ checkA t = c2) := ⟨hc1,hc2⟩
 have HK1 : Hid (∀ W,Below w.heap.size w W → Calls Try.prog 13 #[.agg #[.string sn,.slice sa sl sc,.slice ea el ec,.slice ta tl tc]] W fun e w' => e = .returned (.int .i64 c1) ∧ Below W.heap.size W w') := fun W hW => by
  rw [← hc1];exact check_any (HS.out.below hW).row HS.out.wf HS.out.few
 have HK2 : Hid (∀ W,Below w.heap.size w W → Calls Try.prog 13 #[.agg #[.string tn,.slice sa2 sl2 sc2,.slice ea2 el2 ec2,.slice ta2 tl2 tc2]] W fun e w' => e = .returned (.int .i64 c2) ∧ Below W.heap.size W w') := fun W hW => by
  rw [← hc2];exact check_any (HT.out.below hW).row HT.out.wf HT.out.few
 clear hc1 hc2;have hba : Below w.heap.size w ((w.alloc (Obj.cells #[.string sn,.slice sa sl sc,.slice ea el ec,.slice ta tl tc] 34)).alloc (Obj.cells #[.string tn,.slice sa2 sl2 sc2,.slice ea2 el2 ec2,.slice ta2 tl2 tc2] 34)) := ((Below.refl _ _).alloc (Nat.le_refl _) _).alloc (by simp) _;have BS : Blk ((w.alloc (Obj.cells #[.string sn,.slice sa sl sc,.slice ea el ec,.slice ta tl tc] 34)).alloc (Obj.cells #[.string tn,.slice sa2 sl2 sc2,.slice ea2 el2 ec2,.slice ta2 tl2 tc2] 34)) w.heap.size #[.string sn,.slice sa sl sc,.slice ea el ec,.slice ta tl tc] 34 := (Blk.new w _ _).below ((Below.refl _ _).alloc (Nat.le_refl _) _)
 have BT : Blk ((w.alloc (Obj.cells #[.string sn,.slice sa sl sc,.slice ea el ec,.slice ta tl tc] 34)).alloc (Obj.cells #[.string tn,.slice sa2 sl2 sc2,.slice ea2 el2 ec2,.slice ta2 tl2 tc2] 34)) (w.heap.size + 1) #[.string tn,.slice sa2 sl2 sc2,.slice ea2 el2 ec2,.slice ta2 tl2 tc2] 34 := by
  have := Blk.new (w.alloc (Obj.cells #[.string sn,.slice sa sl sc,.slice ea el ec,.slice ta tl tc] 34)) #[.string tn,.slice sa2 sl2 sc2,.slice ea2 el2 ec2,.slice ta2 tl2 tc2] 34
  rwa [show (w.alloc (Obj.cells #[.string sn,.slice sa sl sc,.slice ea el ec,.slice ta tl tc] 34)).heap.size = w.heap.size + 1 by simp] at this
 by_cases hz1 : c1 = 0
 rotate_left
 ·have HE : Hid (ANS = (⟨#[]⟩,0,false)) := (by rw [← HA.out]; exact evol_no fun e => hz1 (HC.out.1.symm.trans e.1) : _ = _)
  have hq : (c1 != 0) = true := by simpa using hz1
  go_enter Try.func8,Try.ntmps8
  go_wp2_with fail;refine (HK1.out _ hba).mono ?_;rintro e w1 ⟨rfl,hb1⟩;have hbw1 := hba.trans (hb1.mono hba.size);clear hba BS BT hb1;go_wp2_with fail;refine bodyPost_ret (results_threeE rfl _ _ _) rfl ?_;rw [HE.out];exact ⟨rfl,hbw1⟩
 subst hz1
 go_enter Try.func8,Try.ntmps8
 go_wp2_with fail;refine (HK1.out _ hba).mono ?_;rintro e w1 ⟨rfl,hb1⟩;have hbw1 := hba.trans (hb1.mono hba.size);have BS1 := BS.below hb1;have BT1 := BT.below hb1;clear hba BS BT hb1 HK1;have hl1 : w.heap.size + 1 < w1.heap.size := BT1.lt;have t0 := (BT1.cell 0).trans rfl;have t1 := (BT1.cell 1).trans rfl;have t2 := (BT1.cell 2).trans rfl;have t3 := (BT1.cell 3).trans rfl
 by_cases hz2 : c2 = 0
 rotate_left
 ·have HE : Hid (ANS = (⟨#[]⟩,0,false)) := (by rw [← HA.out]; exact evol_no fun e => hz2 (HC.out.2.symm.trans e.2) : _ = _)
  have hq : (c2 != 0) = true := by simpa using hz2
  go_wp2_with fail;refine (HK2.out _ hbw1).mono ?_;rintro e w2 ⟨rfl,hb2⟩;have hbw2 := hbw1.trans (hb2.mono hbw1.size);clear hbw1 BS1 BT1 hb2 t0 t1 t2 t3 hl1;go_wp2_with fail;refine bodyPost_ret (results_threeE rfl _ _ _) rfl ?_;rw [HE.out];exact ⟨rfl,hbw2⟩
 subst hz2;have HOK : Hid (OkS s ∧ OkS t) := ⟨(checkA_ok s).1 HC.out.1,(checkA_ok t).1 HC.out.2⟩;go_wp2_with fail;refine (HK2.out _ hbw1).mono ?_;rintro e w2 ⟨rfl,hb2⟩;have hbw2 := hbw1.trans (hb2.mono hbw1.size);have BS2 := BS1.below hb2;have BT2 := BT1.below hb2;clear hbw1 BS1 BT1 hb2 t0 t1 t2 t3 HK2 hl1;obtain ⟨z,hz⟩ : ∃ z,w.heap.size = z := ⟨_,rfl⟩;have HZ : Hid (w.heap.size = z) := hz;rw [hz] at BS2 BT2;simp only [hz];clear hz;have hl2 : z + 1 < w2.heap.size := BT2.lt;have hl3 : z < w2.heap.size := BS2.lt;have s0 := (BS2.cell 0).trans rfl;have s1 := (BS2.cell 1).trans rfl;have s2 := (BS2.cell 2).trans rfl;have s3 := (BS2.cell 3).trans rfl;have t0 := (BT2.cell 0).trans rfl;have t1 := (BT2.cell 1).trans rfl;have t2 := (BT2.cell 2).trans rfl;have t3 := (BT2.cell 3).trans rfl;have hmm := @run_makeMap Try.prog;have alm : Below w2.heap.size w2 (w2.alloc (.map #[] 0)) := (Below.refl _ _).alloc (Nat.le_refl _) _;have alc : Below (w2.alloc (.map #[] 0)).heap.size (w2.alloc (.map #[] 0)) ((w2.alloc (.map #[] 0)).alloc (Obj.cells #[.string sn,.slice sa sl sc,.slice ea el ec,.slice ta tl tc,.string tn,.slice sa2 sl2 sc2,.slice ea2 el2 ec2,.slice ta2 tl2 tc2,.slice none 0 0,.map (some w2.heap.size)] 57)) := (Below.refl _ _).alloc (Nat.le_refl _) _;have hbw4 : Below w.heap.size w ((w2.alloc (.map #[] 0)).alloc (Obj.cells #[.string sn,.slice sa sl sc,.slice ea el ec,.slice ta tl tc,.string tn,.slice sa2 sl2 sc2,.slice ea2 el2 ec2,.slice ta2 tl2 tc2,.slice none 0 0,.map (some w2.heap.size)] 57)) := (hbw2.trans (alm.mono hbw2.size)).trans (alc.mono (hbw2.trans (alm.mono hbw2.size)).size)
 have BM4 : Blk ((w2.alloc (.map #[] 0)).alloc (Obj.cells #[.string sn,.slice sa sl sc,.slice ea el ec,.slice ta tl tc,.string tn,.slice sa2 sl2 sc2,.slice ea2 el2 ec2,.slice ta2 tl2 tc2,.slice none 0 0,.map (some w2.heap.size)] 57)) (w2.heap.size + 1) #[.string sn,.slice sa sl sc,.slice ea el ec,.slice ta tl tc,.string tn,.slice sa2 sl2 sc2,.slice ea2 el2 ec2,.slice ta2 tl2 tc2,.slice none 0 0,.map (some w2.heap.size)] 57 := by
  have := Blk.new (w2.alloc (.map #[] 0)) #[.string sn,.slice sa sl sc,.slice ea el ec,.slice ta tl tc,.string tn,.slice sa2 sl2 sc2,.slice ea2 el2 ec2,.slice ta2 tl2 tc2,.slice none 0 0,.map (some w2.heap.size)] 57
  rwa [show (w2.alloc (.map #[] 0)).heap.size = w2.heap.size + 1 by simp] at this
 have HT4 : Hid (Blk ((w2.alloc (.map #[] 0)).alloc (Obj.cells #[.string sn,.slice sa sl sc,.slice ea el ec,.slice ta tl tc,.string tn,.slice sa2 sl2 sc2,.slice ea2 el2 ec2,.slice ta2 tl2 tc2,.slice none 0 0,.map (some w2.heap.size)] 57)) (z + 1) #[.string tn,.slice sa2 sl2 sc2,.slice ea2 el2 ec2,.slice ta2 tl2 tc2] 34) := (BT2.below alm).below alc;have HM4 : Hid (Meet [.string sn,.slice sa sl sc,.slice ea el ec,.slice ta tl tc] [.string tn,.slice sa2 sl2 sc2,.slice ea2 el2 ec2,.slice ta2 tl2 tc2] w ((w2.alloc (.map #[] 0)).alloc (Obj.cells #[.string sn,.slice sa sl sc,.slice ea el ec,.slice ta tl tc,.string tn,.slice sa2 sl2 sc2,.slice ea2 el2 ec2,.slice ta2 tl2 tc2,.slice none 0 0,.map (some w2.heap.size)] 57)) (w2.heap.size + 1) w2.heap.size (.slice none 0 0) []) := ⟨hbw4,by have := hbw2.size; omega,hbw2.size,BM4,World.ownsRow_nil _ _ _ _,SetK.below (SetK.made 62 w2) alc⟩;go_wp2_with fail;generalize ((w2.alloc (.map #[] 0)).alloc (Obj.cells #[.string sn,.slice sa sl sc,.slice ea el ec,.slice ta tl tc,.string tn,.slice sa2 sl2 sc2,.slice ea2 el2 ec2,.slice ta2 tl2 tc2,.slice none 0 0,.map (some w2.heap.size)] 57)) = W4 at *;obtain ⟨mb,hmb⟩ : ∃ z,w2.heap.size = z := ⟨_,rfl⟩;rw [hmb] at HM4;simp only [hmb];clear hmm alm alc BM4 hmb BS2 BT2 s0 s1 s2 s3 t0 t1 t2 t3 hl2 hl3 hbw2;obtain ⟨RES,hRES⟩ : ∃ z,startE t s.methods [] = z := ⟨_,rfl⟩;have HRES : Hid (startE t s.methods [] = RES) := hRES;have HR0 : Hid (startE t (s.methods.drop 0) [] = RES) := hRES;have HP0 : Hid (PrIn s t []) := ⟨by simp,by simp⟩;clear hRES
 go_loopw [27] (fun iv wr => ∃ (k : Nat) (l : List Pr) (vp : Value),iv = .int .i64 (k : Int) ∧ k ≤ tl ∧ Hid (startE t (s.methods.drop k) l = RES) ∧ Hid (PrIn s t l) ∧ Hid (Meet [.string sn,.slice sa sl sc,.slice ea el ec,.slice ta tl tc] [.string tn,.slice sa2 sl2 sc2,.slice ea2 el2 ec2,.slice ta2 tl2 tc2] w wr (mb + 1) mb vp l) ∧ Hid (Blk wr (z + 1) #[.string tn,.slice sa2 sl2 sc2,.slice ea2 el2 ec2,.slice ta2 tl2 tc2] 34)) (fun iv _ => tl - (intOf iv).toNat)
 case atStart => exact ⟨0,[],_,rfl,by omega,HR0,HP0,HM4,HT4⟩
 case round =>
  clear HR0 HP0 HM4 HT4 hbw4;obtain ⟨k,l,vp,rfl,hk,HR,HP,HM,HTB⟩ := hrel
  by_cases hlt : k < tl
  ·obtain ⟨m,hmk⟩ : ∃ n,s.methods[k]? = some n := ⟨_,List.getElem?_eq_getElem (by rw [HN.out]; exact hlt)⟩
   have hrr : (mtRows s.methods)[k]? = some [.string m.name,.string m.inn,.string m.out] := by simp [mtRows,hmk,MtS.cells]
   have hbel := HM.out.below;obtain ⟨g,off,rfl,c1⟩ := (HMT.out.below hbel).get hrr
   have HDR : Hid (s.methods.drop k = m :: s.methods.drop (k + 1)) := (by
    obtain ⟨h1,h2⟩ := List.getElem?_eq_some_iff.1 hmk
    rw [← h2,List.drop_eq_getElem_cons h1] : _ = _)
   have HMM : Hid (m ∈ s.methods) := List.mem_of_getElem? hmk;have p0 := c1 0 _ rfl;have p1 := c1 1 _ rfl;have p2 := c1 2 _ rfl;simp only [Nat.add_zero] at p0 p1 p2;have BTr := HTB.out;have hl2 : z + 1 < wr.heap.size := BTr.lt;have t0 := (BTr.cell 0).trans rfl;have t1 := (BTr.cell 1).trans rfl;have t2 := (BTr.cell 2).trans rfl;have t3 := (BTr.cell 3).trans rfl;obtain ⟨X,hX⟩ : ∃ z,mtOf t m.name = z := ⟨_,rfl⟩;have HX : Hid (mtOf t m.name = X) := hX;have alm : Below wr.heap.size wr (wr.alloc (.cells #[.string m.name,.string m.inn,.string m.out] 43)) := (Below.refl _ _).alloc (Nat.le_refl _) _
   have HCM : Hid (∀ W,Below wr.heap.size wr W → Calls Try.prog 14 #[.agg #[.string tn,.slice sa2 sl2 sc2,.slice ea2 el2 ec2,.slice ta2 tl2 tc2],.string m.name] W fun e w' => e = .returned (.tuple #[mtV (X.getD zeroT),.bool X.isSome]) ∧ Below W.heap.size W w') := fun W hW => by
    rw [← hX];exact meth_at (HT.out.below (hbel.trans (hW.mono hbel.size))) m.name
   have BM5 := Blk.new wr #[.string m.name,.string m.inn,.string m.out] 43;clear c1 hrr hmk hX hbel;obtain ⟨m0,m1,m2⟩ := m;simp only at p0 p1 p2 HCM BM5 alm HX HDR HMM;go_wp2_with fail;refine Calls.mono (HCM.out _ alm) ?_;rintro e w5 ⟨rfl,hb5⟩;have hb5' := alm.trans (hb5.mono alm.size);have BM6 := BM5.below hb5;have HM5 : Hid _ := HM.out.bel hb5';have HTB5 : Hid (Blk w5 (z + 1) #[.string tn,.slice sa2 sl2 sc2,.slice ea2 el2 ec2,.slice ta2 tl2 tc2] 34) := HTB.out.below hb5';clear hb5 alm BM5 BTr t0 t1 t2 t3 p0 p1 p2 HCM HM HTB hl2;obtain ⟨bm,hbm⟩ : ∃ z,wr.heap.size = z := ⟨_,rfl⟩;rw [hbm] at BM6;simp only [hbm];clear hbm hb5';have q0 := (BM6.cell 0).trans rfl;have q1 := (BM6.cell 1).trans rfl;have q2 := (BM6.cell 2).trans rfl;have hlm : bm < w5.heap.size := BM6.lt;rw [HDR.out] at HR
   cases X with
   | none =>
    have HE : Hid (ANS = (m0,0,false)) := (by
     rw [← HA.out];refine evol_yesN (l := l) HC.out ?_;rw [HRES.out,← HR.out]
     exact start_none (m := ⟨m0,m1,m2⟩) HX.out : _ = _)
    have HBW : Hid (∀ W,Below w5.heap.size w5 W → Below w.heap.size w W) := fun W hW => HM5.out.below.trans (hW.mono HM5.out.below.size)
    simp only [mtV,zeroT,Option.getD_none,Option.isSome_none];clear HR HRES HM5 HTB5 BM6;go_wp2_with fail;refine bodyPost_ret (results_threeE rfl _ _ _) rfl ?_;rw [HE.out];exact ⟨rfl,HBW.out _ ((Below.refl _ _).alloc (Nat.le_refl _) _)⟩
   | some q =>
    have HRN : Hid (startE t (s.methods.drop (k + 1)) (addP (addP l (m1,q.inn)) (m2,q.out)) = RES) := (by rw [← HR.out]; exact (start_some (m := ⟨m0,m1,m2⟩) HX.out).symm : _ = _);have hok := HOK.out.1.meths _ HMM.out;have hqk := mt_inE HOK.out.2 HX.out;have hsm := HS.out.wf.meths _ HMM.out;have hsq := HT.out.wf.meths q (List.mem_of_find?_eq_some HX.out);have HP1 : Hid (PrIn s t (addP l (m1,q.inn))) := addP_in HP.out hok.2.1 hqk.1;have HP2 : Hid (PrIn s t (addP (addP l (m1,q.inn)) (m2,q.out))) := addP_in HP1.out hok.2.2 hqk.2;have HLN : Hid (∀ l,PrIn s t l → l.length ≤ 1000) := fun l h => Nat.le_trans (h.len (okS_len HOK.out.1) (okS_len HOK.out.2)) (by decide)
    have al6 : Below w5.heap.size w5 (w5.alloc (.cells #[.string q.name,.string q.inn,.string q.out] 43)) := (Below.refl _ _).alloc (Nat.le_refl _) _;have HM6 : Hid _ := HM5.out.bel al6;have HTB6 : Hid (Blk (w5.alloc (.cells #[.string q.name,.string q.inn,.string q.out] 43)) (z + 1) #[.string tn,.slice sa2 sl2 sc2,.slice ea2 el2 ec2,.slice ta2 tl2 tc2] 34) := Blk.below HTB5.out al6;have HAD : Hid _ := madd_any HM6.out (m1,q.inn) hsm.2.1 hsq.2.1 (HLN.out _ HP.out);have HSZ : Hid (m2.size ≤ 140737488351232 ∧ q.out.size ≤ 140737488351232) := ⟨hsm.2.2,hsq.2.2⟩;have BM7 := BM6.below al6;have BN7 := Blk.new w5 #[.string q.name,.string q.inn,.string q.out] 43;simp only [mtV,Option.getD_some,Option.isSome_some];clear HR HM5 HTB5 hok hqk hsm hsq HX BM6 HDR HMM;obtain ⟨n0,n1,n2⟩ := q;simp only at HRN HP1 HP2 HAD HSZ BN7 BM7 HM6 HTB6 al6;go_wp2_with fail;refine Calls.mono HAD.out ?_;rintro e w7 ⟨rfl,vp7,hM7,hk7⟩;have BM8 := BM7.kp hk7 (HM6.out.no BM7 (by decide) (by decide));have BN8 := BN7.kp hk7 (HM6.out.no BN7 (by decide) (by decide));have HTB8 : Hid (Blk w7 (z + 1) #[.string tn,.slice sa2 sl2 sc2,.slice ea2 el2 ec2,.slice ta2 tl2 tc2] 34) := HTB6.out.kp hk7 (HM6.out.no HTB6.out (by decide) (by decide));have HM8 : Hid _ := hM7;have HAD2 : Hid _ := madd_any hM7 (m2,n2) HSZ.out.1 HSZ.out.2 (HLN.out _ HP1.out);simp only at HAD2;obtain ⟨bn,hbn⟩ : ∃ z,w5.heap.size = z := ⟨_,rfl⟩;rw [hbn] at BN8 hlm;simp only [hbn];clear hbn HAD hM7 hk7 HM6 HTB6 BM7 BN7 al6 q0 q1 q2 hlm;have q2 := (BM8.cell 2).trans rfl;have r2 := (BN8.cell 2).trans rfl;go_wp2_with fail;refine Calls.mono HAD2.out ?_;rintro e w9 ⟨rfl,vp9,hM9,hk9⟩;have HTB9 : Hid (Blk w9 (z + 1) #[.string tn,.slice sa2 sl2 sc2,.slice ea2 el2 ec2,.slice ta2 tl2 tc2] 34) := HTB8.out.kp hk9 (HM8.out.no HTB8.out (by decide) (by decide));have HM9 : Hid _ := hM9;clear HAD2 hM9 hk9 HM8 HTB8 BM8 BN8 q2 r2;go_wp2_with fail
    go_roundw
    case rel => exact ⟨k + 1,_,vp9,by go_num,by omega,HRN.out,HP2.out,HM9.out,HTB9.out⟩
    case measure => simp [intOf]; omega
  ·obtain rfl : k = tl := by omega
   have HRE : Hid (RES = (l,none)) := (by
    rw [← HR.out,List.drop_eq_nil_of_le (by rw [HN.out]; omega)]; rfl : _ = _)
   have HE : Hid (loopE s t 300 0 l = ANS) := (by
    rw [← HA.out]
    symm
    refine evol_yesL HC.out ?_
    rw [HRES.out,HRE.out] : _ = _)
   have HLK : Hid _ := mlook_any HS.out HT.out HOK.out.1 HOK.out.2 HP.out HM.out;rw [HE.out] at HLK;clear HR HRES HRE HA HP HM HTB;go_wp2_with fail;refine Calls.mono HLK.out ?_;rintro e w9 ⟨rfl,hb9⟩;go_wp2_with fail;refine bodyPost_ret (results_threeE rfl _ _ _) rfl ?_;exact ⟨rfl,hb9⟩
end
end Go.Proofs.Ytdkolhfpfimeoab
