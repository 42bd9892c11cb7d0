/- Part 12 of what the proof stands on. -/
import Derived.Test.YtiajaocckkghgaaGreatPkEAK
import Derived.Laws.MakeOwn
namespace Go.Proofs.YtiajaocckkghgaaGreat
set_option maxHeartbeats 8000000
set_option linter.unusedVariables false
set_option linter.unusedSimpArgs false
set_option maxRecDepth 20000
section
open Go.ChangeShapes Go.WideShapes Go.ChangeAt Go.RowKit
theorem wpList_app {ops : Array Oper} {rest : List Oper} {o : Oper} {a : Act} {Q : Exit → Act → World → Prop} {w w' : World} {t : TypeId} {v y v' : Value} (hgd : o.guard = none) (s x : Operand) (hop : o.op = .call { callee := .builtin .append,args := #[s,x],argTypes := #[t,t] })
  (hs : a.eval s = v) (hx : a.eval x = y) (hr : (Builtin.append_ #[t,t] o.type #[v,y]).run Tryz.prog w = .ok v' w') (h : wpList Tryz.prog ops Q rest (a.put o.dst v') w') : wpList Tryz.prog ops Q (o :: rest) a w :=
 wpList_plain hgd fun K hK => by
  unfold Oper.wp;rw [append_run hop hs hx hr];exact hK _ _ h
section
variable {n B bR bm c : Nat} {K : List KE} {vr : Value} {rest : List Fd} {w : World}
theorem DcS.pushR (h : DcS n B bR bm c K vr rest w) (hB : B ≤ w.heap.size) (r : Fd) (hr : Is64 r.tag ∧ Is64 r.wire ∧ Is64 r.n ∧ r.b.size ≤ 140737488351232) (hl : rest.length ≤ 5000) {bz : Nat} (BZ : Blk w bz r.cells.toArray 61) :
  ∃ a c' W',(Builtin.append_ #[31,31] 31 #[vr,.slice (some ⟨bz,0,none⟩) 1 1]).run Tryz.prog w = .ok (.slice a (rest.length + 1) c') W' ∧ Kp (fun q => q ∈ blkOf vr) w W' ∧ Blk W' bR #[vr] 31 ∧
   DcS n B bR bm c K (.slice a (rest.length + 1) c') (rest ++ [r]) (W'.setCell ⟨bR,0,none⟩ (.slice a (rest.length + 1) c')) := by
 obtain ⟨i0,hi0,hz0,hz1,hz2⟩ := info_parts infoRaw
 obtain ⟨v',W',r1,r2,r3,_,r5⟩ := run_append_own_at w B 31 31 61 i0 _ 4 40 Tryz.underlying31 hi0 hz0 hz1 hz2 rfl (by decide) vr rest.length _ h.rr ⟨bz,0,none⟩ 1 1 r.cells rfl (fun j u hu => by
  have := BZ.cell j;rw [Addr.add_lit,Nat.zero_add,this]
  simpa using hu) (fun u hu => by
   simp only [Fd.cells,List.mem_cons,List.not_mem_nil,or_false] at hu
   rcases hu with rfl | rfl | rfl | rfl <;> rfl) (by unfold maxLen; omega) (by omega) hB
 obtain ⟨a,c',rfl⟩ := own_form r2;have r6 : Kp (fun q => q ∈ blkOf vr) w W' := (Kp.refl _ _).grown r3 (fun k hk _ => mem_blkOf.2 hk);have hgeb : ∀ k ∈ blkOf vr,B ≤ k := fun k hk => (own_lt h.rr (mem_blkOf.1 hk)).1
 have hnm : bm ∉ blkOf vr := fun e => by have := hgeb _ e; have := h.ltm; omega
 have hnR : bR ∉ blkOf vr := fun e => by have := hgeb _ e; have := h.ltR; omega
 have BR : Blk W' bR #[vr] 31 := h.rb.kp r6 hnR
 have KS : Kp (fun q => q = bR) W' (W'.setCell ⟨bR,0,none⟩ (.slice a (rest.length + 1) c')) := by
  refine Kp.setCell ?_ (fun _ => by simp) _;exact Kp.refl _ _
 have hap : Apt B W' (fpK K ++ allB (.slice a (rest.length + 1) c') ([] ++ [[]])) := Apt.push (bss := []) (b := []) (by simpa [allB] using h.ap) r5 r2 r3.size hB
 have hap' : Apt B W' (fpK K ++ blkOf (.slice a (rest.length + 1) c')) := by simpa [allB] using hap
 have hne : ∀ k ∈ fpK K ++ blkOf (.slice a (rest.length + 1) c'),k ≠ bR := fun k hk e => by have := (hap'.2 k hk).1; have := h.ltR; omega
 have hS1 : Sm w W' (fpK K) := r6.sm fun k hk => ⟨(h.ap.2 k (List.mem_append.2 (.inl hk))).2,fun e => h.ap.apart k hk e⟩
 have hS2 : Sm W' (W'.setCell ⟨bR,0,none⟩ (.slice a (rest.length + 1) c')) (fpK K ++ blkOf (.slice a (rest.length + 1) c')) := KS.sm fun k hk => ⟨(hap'.2 k hk).2,hne k hk⟩
 have hS : Sm w (W'.setCell ⟨bR,0,none⟩ (.slice a (rest.length + 1) c')) (fpK K) := fun k hk => (hS2 k (List.mem_append.2 (.inl hk))).trans (hS1 k hk)
 refine ⟨a,c',W',r1,r6,BR,⟨(h.map.kp r6 hnm).kp KS (fun e => h.map.ne h.rb e.symm),h.ris,fun k hk => ?_,h.i64,BR.set 0 _ rfl,?_,?_,hap'.mono KS.size,h.ltR,h.ltm⟩⟩
 ·obtain ⟨rows,bss,g1,g2⟩ := h.row k hk;exact ⟨rows,bss,g1.sm (hS.mono fun q hq => fpK_mem hk q (by rw [g2]; exact hq)) fun _ _ _ hp hb => hp.sm hb,g2⟩
 ·obtain ⟨e1,e2⟩ := rawCells_snoc rest r;rw [e1,e2];exact own_sm r2 (hS2.mono fun q hq => List.mem_append.2 (.inr hq))
 ·intro f hf
  rcases List.mem_append.1 hf with hf | hf
  ·exact h.r64 f hf
  ·obtain rfl : f = r := by simpa using hf
   exact hr
end
theorem fld_tag0 {fs : List FlS} {t : Int} {f : FlS} (h : fldOf fs t = some f) : f.tag = t := by simpa using List.find?_some h
theorem dput_any {n B bR bm c : Nat} {K : List KE} {vr : Value} {rest : List Fd} {w : World} {r : List Value} {x : Tr} {bs : List Nat} (h : DcS n B bR bm c K vr rest w) (hc : c ≤ 1000000) (fn : ByteArray) (ft fl fk : Int) (ftn : ByteArray) (h64 : Is64 ft) (hx : TrO n B w r x bs) (hap : Apt B w ((fpK K ++ blkOf vr) ++ bs)) (hB : B ≤ w.heap.size) (hl : (undE (esK K) ft).length ≤ 64) :
  Calls Tryz.prog 60 #[.map (some bm),.agg #[.string fn,.int .i64 ft,.int .i64 fl,.int .i64 fk,.string ftn],.agg r.toArray] w (PutP n B bR bm c vr rest (putD ⟨fn,ft,fl,fk,ftn⟩ x (esK K)) w) := by
 by_cases h3 : fl = 3
 ·subst h3; exact dput_rep h hc fn ft fk ftn h64 hx hap hB hl
 ·exact dput_one h hc fn ft fl fk ftn h64 hx hap hB h3
structure DcE (bM bS bD bK bm d : Nat) (MC SC : Array Value) (w : World) : Prop where
 m : Blk w bM MC 50
 s : Blk w bS SC 26
 d : Blk w bD #[.int .i64 (d : Int)] 3
 k : Blk w bK #[.map (some bm)] 106
theorem DcE.below {bM bS bD bK bm d : Nat} {MC SC : Array Value} {w w' : World} (h : DcE bM bS bD bK bm d MC SC w) (hb : Below w.heap.size w w') : DcE bM bS bD bK bm d MC SC w' := ⟨h.m.below hb,h.s.below hb,h.d.below hb,h.k.below hb⟩
def HanP (n B bR bm c : Nat) (R : Ds × Int) (w : World) (e : Ending) (w' : World) : Prop :=
 ∃ K' c' vr' rest',e = .returned (.int .i64 R.2) ∧ c' ≤ c + 1 ∧ (R.2 = 0 → (⟨esK K',rest'⟩ : Ds) = R.1) ∧ DcS n B bR bm c' K' vr' rest' w' ∧ Kp (fun q => q = bR ∨ q = bm ∨ B ≤ q) w w'
theorem dhand_any (s : ScS) (sn : ByteArray) (ma ea ta : Option Addr) (mn mc en ec tn tc : Nat) (d n : Nat) (hd : d + n = 10)
  (IH : d < 10 → ∀ nm v ns w,ByS w v ns → ScIn w (.agg #[.string sn,.slice ma mn mc,.slice ea en ec,.slice ta tn tc]) s → Calls Tryz.prog 31 #[.agg #[.string sn,.slice ma mn mc,.slice ea en ec,.slice ta tn tc],.string nm,v,.int .i64 ((d : Int) + 1)] w (DtrP (n + 1) (decM n s nm ns) w))
  (mnm : ByteArray) (fa ra : Option Addr) (fl fc rl rc : Nat) (fs : List FlS) (bM bR bS bD bK bm B c : Nat) (K : List KE) (vr : Value) (rest : List Fd) (w : World)
  (hs : ScIn w (.agg #[.string sn,.slice ma mn mc,.slice ea en ec,.slice ta tn tc]) s) (hf : RowG w (.slice fa fl fc) 5 (flRows fs)) (h : DcS (n + 1) B bR bm c K vr rest w) (E : DcE bM bS bD bK bm d #[.string mnm,.slice fa fl fc,.slice ra rl rc] #[.string sn,.slice ma mn mc,.slice ea en ec,.slice ta tn tc] w) (hB : B ≤ w.heap.size) (hc : c ≤ 100000) (hl : rest.length ≤ 5000) (hu : ∀ tag,(undE (esK K) tag).length ≤ 64)
  (r : Fd) (hr : Is64 r.tag ∧ Is64 r.wire ∧ Is64 r.n ∧ r.b.size ≤ 140737488351232) :
  Calls Tryz.prog 57 #[.agg #[.int .i64 r.tag,.int .i64 r.wire,.int .i64 r.n,.string r.b],.pointer (some ⟨bM,0,none⟩),.pointer (some ⟨bR,0,none⟩),.pointer (some ⟨bS,0,none⟩),.pointer (some ⟨bD,0,none⟩),.pointer (some ⟨bK,0,none⟩)] w (HanP (n + 1) B bR bm c (oneD (decM n s) fs ⟨esK K,rest⟩ r) w) := by
 obtain ⟨R,hR⟩ : ∃ R,oneD (decM n s) fs ⟨esK K,rest⟩ r = R := ⟨_,rfl⟩;have HR : Hid (oneD (decM n s) fs ⟨esK K,rest⟩ r = R) := hR;rw [hR];obtain ⟨rt,hrt⟩ : ∃ z,r.tag = z := ⟨_,rfl⟩;obtain ⟨rw',hrw⟩ : ∃ z,r.wire = z := ⟨_,rfl⟩;obtain ⟨rn,hrn⟩ : ∃ z,r.n = z := ⟨_,rfl⟩;obtain ⟨rb,hrb⟩ : ∃ z,r.b = z := ⟨_,rfl⟩;have HX : Hid (r.cells = [.int .i64 rt,.int .i64 rw',.int .i64 rn,.string rb]) := hid (by rw [Fd.cells,hrt,hrw,hrn,hrb]);rw [hrt,hrw,hrn,hrb];generalize rw' = rw at *;have HRR : Hid (Is64 r.tag ∧ Is64 r.wire ∧ Is64 r.n ∧ r.b.size ≤ 140737488351232) := hr;have HFD : Hid (r.tag = rt ∧ r.wire = rw ∧ r.n = rn ∧ r.b = rb) := ⟨hrt,hrw,hrn,hrb⟩;obtain ⟨X,hX⟩ : ∃ X,(fs.find? fun m => decide (m.tag = rt)) = X := ⟨_,rfl⟩;have HX0 : Hid (fldOf fs r.tag = X) := hid (by unfold fldOf; rw [hrt]; exact hX);have al1 : Below w.heap.size w (w.alloc (Obj.cells #[.int .i64 rt,.int .i64 rw,.int .i64 rn,.string rb] 61)) := bra _
 have HCF : Hid (Calls Tryz.prog 58 #[.agg #[.string mnm,.slice fa fl fc,.slice ra rl rc],.int .i64 rt] (w.alloc (Obj.cells #[.int .i64 rt,.int .i64 rw,.int .i64 rn,.string rb] 61)) fun e w' => e = .returned (.tuple #[flV (X.getD zeroF),.bool X.isSome]) ∧ Below (w.heap.size + 1) (w.alloc (Obj.cells #[.int .i64 rt,.int .i64 rw,.int .i64 rn,.string rb] 61)) w') := (by
  have h1 := cfield_any (snm := mnm) (nm := rt) (am := ra) (M := rl) (cm := rc) (hf.below al1);rw [hX] at h1
  rwa [World.size_alloc] at h1 : Calls Tryz.prog _ _ _ _)
 have HH : Hid (DcS (n + 1) B bR bm c K vr rest w) := h;have HE : Hid (DcE bM bS bD bK bm d #[.string mnm,.slice fa fl fc,.slice ra rl rc] #[.string sn,.slice ma mn mc,.slice ea en ec,.slice ta tn tc] w) := E;have HS : Hid (ScIn w (.agg #[.string sn,.slice ma mn mc,.slice ea en ec,.slice ta tn tc]) s) := hs;have HI : Hid (d < 10 → ∀ nm v ns w,ByS w v ns → ScIn w (.agg #[.string sn,.slice ma mn mc,.slice ea en ec,.slice ta tn tc]) s → Calls Tryz.prog 31 #[.agg #[.string sn,.slice ma mn mc,.slice ea en ec,.slice ta tn tc],.string nm,v,.int .i64 ((d : Int) + 1)] w (DtrP (n + 1) (decM n s nm ns) w)) := IH;have HD : Hid (d + n = 10) := hd;have HB : Hid (B ≤ w.heap.size) := hB;have HC : Hid (c ≤ 100000 ∧ rest.length ≤ 5000 ∧ ∀ tag,(undE (esK K) tag).length ≤ 64) := ⟨hc,hl,hu⟩;have BX : Blk (w.alloc (Obj.cells #[.int .i64 rt,.int .i64 rw,.int .i64 rn,.string rb] 61)) w.heap.size #[.int .i64 rt,.int .i64 rw,.int .i64 rn,.string rb] 61 := Blk.new w _ _;have m0 : w.cell? ⟨bM,0,none⟩ = some (.string mnm) := (E.m.cell 0).trans rfl;have m1 : w.cell? ⟨bM,1,none⟩ = some (.slice fa fl fc) := (E.m.cell 1).trans rfl;have m2 : w.cell? ⟨bM,2,none⟩ = some (.slice ra rl rc) := (E.m.cell 2).trans rfl;have ltM : bM < w.heap.size := E.m.lt;clear hR hrt hrw hrn hrb hr h E hs IH hd hB hc hl hu hX hf
 go_enter Tryz.func57,Tryz.ntmps57
 go_wp2_with fail;refine HCF.out.mono ?_;rintro e w2 ⟨rfl,hb2⟩;have hw2 : Below w.heap.size w w2 := al1.trans (hb2.mono (Nat.le_succ _));have BX2 : Blk w2 w.heap.size #[.int .i64 rt,.int .i64 rw,.int .i64 rn,.string rb] 61 := (hb2.block _ (by omega)).trans BX;clear HCF BX al1 hb2 m0 m1 m2 ltM;obtain ⟨b0,hb0⟩ : ∃ z,w.heap.size = z := ⟨_,rfl⟩;have HB0 : Hid (w.heap.size = b0) := hb0;rw [hb0] at BX2;simp only [hb0];clear hb0
 cases hX : X with
 | none =>
  subst hX;have al3 : Below w2.heap.size w2 ((w2.alloc (Obj.cells #[.string ⟨#[]⟩,.int .i64 0,.int .i64 0,.int .i64 0,.string ⟨#[]⟩] 58)).alloc (Obj.cells #[.int .i64 rt,.int .i64 rw,.int .i64 rn,.string rb] 61)) := (bra _).alloc (by simp) _;have hw3 : Below w.heap.size w ((w2.alloc (Obj.cells #[.string ⟨#[]⟩,.int .i64 0,.int .i64 0,.int .i64 0,.string ⟨#[]⟩] 58)).alloc (Obj.cells #[.int .i64 rt,.int .i64 rw,.int .i64 rn,.string rb] 61)) := hw2.trans (al3.mono hw2.size)
  have BZ : Blk ((w2.alloc (Obj.cells #[.string ⟨#[]⟩,.int .i64 0,.int .i64 0,.int .i64 0,.string ⟨#[]⟩] 58)).alloc (Obj.cells #[.int .i64 rt,.int .i64 rw,.int .i64 rn,.string rb] 61)) (w2.heap.size + 1) r.cells.toArray 61 := (by
   rw [HX.out];have := Blk.new (w2.alloc (Obj.cells #[.string ⟨#[]⟩,.int .i64 0,.int .i64 0,.int .i64 0,.string ⟨#[]⟩] 58)) #[.int .i64 rt,.int .i64 rw,.int .i64 rn,.string rb] 61
   rwa [World.size_alloc] at this)
  obtain ⟨va,vc,W',r1,r2,r3,r4⟩ := (HH.out.below hw3).pushR (Nat.le_trans HB.out hw3.size) r HRR.out HC.out.2.1 BZ;obtain ⟨vl,vcp,hvr⟩ := own_form HH.out.rr;obtain ⟨vn,hvn⟩ : ∃ z,rest.length = z := ⟨_,rfl⟩
  have HFIN : Hid (HanP (n + 1) B bR bm c R w (.returned (.int .i64 0)) (W'.setCell ⟨bR,0,none⟩ (.slice va (vn + 1) vc))) := (by
   rw [hvn] at r4;have e1 : R = (⟨esK K,rest ++ [r]⟩,0) := (by rw [← HR.out]; simp only [oneD,HX0.out]);refine ⟨K,c,_,rest ++ [r],by rw [e1],by omega,fun _ => by rw [e1],r4,?_⟩;have hgeb : ∀ k ∈ blkOf vr,B ≤ k := fun k hk => (own_lt HH.out.rr (mem_blkOf.1 hk)).1
   have k1 : Kp (fun q => q = bR ∨ q = bm ∨ B ≤ q) w W' := (Kp.ofBelow hw3).trans2 (r2.weak fun i _ e => .inr (.inr (hgeb i e))) fun i _ e => e
   refine Kp.setCell ?_ (fun _ => by simp) _
   exact k1)
  rw [hvn] at r1 hvr;subst hvr;have HAP : Hid ((Builtin.append_ #[31,31] 31 #[.slice vl vn vcp,.slice (some ⟨w2.heap.size + 1,0,none⟩) 1 1]).run Tryz.prog ((w2.alloc (Obj.cells #[.string ⟨#[]⟩,.int .i64 0,.int .i64 0,.int .i64 0,.string ⟨#[]⟩] 58)).alloc (Obj.cells #[.int .i64 rt,.int .i64 rw,.int .i64 rn,.string rb] 61)) = .ok (.slice va (vn + 1) vc) W') := r1;have q0 : w2.cell? ⟨bR,0,none⟩ = some (.slice vl vn vcp) := ((HH.out.rb.below hw2).cell 0).trans rfl;have ltR : bR < w2.heap.size := (HH.out.rb.below hw2).lt;have u0 : W'.cell? ⟨bR,0,none⟩ = some (.slice vl vn vcp) := (r3.cell 0).trans rfl;have z0 : W'.frozen? ⟨bR,0,none⟩ = false := r3.froz 0;have x0 : w2.cell? ⟨b0,0,none⟩ = some (.int .i64 rt) := (BX2.cell 0).trans rfl;have x1 : w2.cell? ⟨b0,1,none⟩ = some (.int .i64 rw) := (BX2.cell 1).trans rfl;have x2 : w2.cell? ⟨b0,2,none⟩ = some (.int .i64 rn) := (BX2.cell 2).trans rfl;have x3 : w2.cell? ⟨b0,3,none⟩ = some (.string rb) := (BX2.cell 3).trans rfl;have ltX : b0 < w2.heap.size := BX2.lt;clear r1 r2 r3 r4 BZ al3 hw3 BX2 hvn HX;simp only [Option.getD_none,Option.isSome_none,flV,zeroF]
  go_wp2_with (first | (at_builtin; refine wpList_app rfl _ _ rfl rfl rfl HAP.out ?_) | fail)
  go_ret;exact HFIN.out
 | some f =>
  subst hX;obtain ⟨f0,f1,f2,f3,f4⟩ := f;have al3 : Below w2.heap.size w2 (w2.alloc (Obj.cells #[.string f0,.int .i64 f1,.int .i64 f2,.int .i64 f3,.string f4] 58)) := bra _;have hw3 : Below w.heap.size w (w2.alloc (Obj.cells #[.string f0,.int .i64 f1,.int .i64 f2,.int .i64 f3,.string f4] 58)) := hw2.trans (al3.mono hw2.size);have E2 := HE.out.below hw2;have BF3 : Blk (w2.alloc (Obj.cells #[.string f0,.int .i64 f1,.int .i64 f2,.int .i64 f3,.string f4] 58)) w2.heap.size #[.string f0,.int .i64 f1,.int .i64 f2,.int .i64 f3,.string f4] 58 := Blk.new w2 _ _
  have HTR : Hid (Calls Tryz.prog 59 #[.agg #[.string sn,.slice ma mn mc,.slice ea en ec,.slice ta tn tc],.agg #[.int .i64 f3,.string f4],.agg #[.int .i64 rt,.int .i64 rw,.int .i64 rn,.string rb],.int .i64 (d : Int)] (w2.alloc (Obj.cells #[.string f0,.int .i64 f1,.int .i64 f2,.int .i64 f3,.string f4] 58)) (DtrP (n + 1) (treeD (decM n s) ⟨f0,f1,f2,f3,f4⟩ r) (w2.alloc (Obj.cells #[.string f0,.int .i64 f1,.int .i64 f2,.int .i64 f3,.string f4] 58)))) := (by
   have h1 := dtree_step s sn ma ea ta mn mc en ec tn tc d n HD.out HI.out ⟨f0,f1,f2,f3,f4⟩ r (w2.alloc (Obj.cells #[.string f0,.int .i64 f1,.int .i64 f2,.int .i64 f3,.string f4] 58)) (HS.out.below hw3) HRR.out.2.2.1 HRR.out.2.2.2
   rwa [HFD.out.1,HFD.out.2.1,HFD.out.2.2.1,HFD.out.2.2.2] at h1 : Calls Tryz.prog _ _ _ _)
  obtain ⟨Y,hY⟩ : ∃ Y,treeD (decM n s) ⟨f0,f1,f2,f3,f4⟩ r = Y := ⟨_,rfl⟩;rw [hY] at HTR;have HY : Hid (R = if Y.2 ≠ 0 then (⟨esK K,rest⟩,Y.2) else (⟨(putD ⟨f0,f1,f2,f3,f4⟩ Y.1 (esK K)).1,rest⟩,(putD ⟨f0,f1,f2,f3,f4⟩ Y.1 (esK K)).2)) := hid (by rw [← HR.out]; simp only [oneD,HX0.out,hY])
  have HT : Hid (Is64 f1) := hid (by
   have h1 := fld_tag0 HX0.out;simp only at h1
   rw [h1]; exact HRR.out.1)
  have x0 : w2.cell? ⟨b0,0,none⟩ = some (.int .i64 rt) := (BX2.cell 0).trans rfl;have x1 : w2.cell? ⟨b0,1,none⟩ = some (.int .i64 rw) := (BX2.cell 1).trans rfl;have x2 : w2.cell? ⟨b0,2,none⟩ = some (.int .i64 rn) := (BX2.cell 2).trans rfl;have x3 : w2.cell? ⟨b0,3,none⟩ = some (.string rb) := (BX2.cell 3).trans rfl;have ltX : b0 < w2.heap.size := BX2.lt;have s0 : w2.cell? ⟨bS,0,none⟩ = some (.string sn) := (E2.s.cell 0).trans rfl;have s1 : w2.cell? ⟨bS,1,none⟩ = some (.slice ma mn mc) := (E2.s.cell 1).trans rfl;have s2 : w2.cell? ⟨bS,2,none⟩ = some (.slice ea en ec) := (E2.s.cell 2).trans rfl;have s3 : w2.cell? ⟨bS,3,none⟩ = some (.slice ta tn tc) := (E2.s.cell 3).trans rfl;have ltS : bS < w2.heap.size := E2.s.lt;have d0 : w2.cell? ⟨bD,0,none⟩ = some (.int .i64 (d : Int)) := (E2.d.cell 0).trans rfl;have ltD : bD < w2.heap.size := E2.d.lt;clear hY HI HR HX BX2 E2;simp only [Option.getD_some,Option.isSome_some,flV];go_wp2_with fail;refine HTR.out.mono ?_;rintro e w4 ⟨rr,bs,rfl,ht,hap,hb4⟩;have hw4 : Below w.heap.size w w4 := hw3.trans (hb4.mono hw3.size);have BF4 : Blk w4 w2.heap.size #[.string f0,.int .i64 f1,.int .i64 f2,.int .i64 f3,.string f4] 58 := BF3.below hb4;have E4 := HE.out.below hw4;obtain ⟨bf,hbf⟩ : ∃ z,w2.heap.size = z := ⟨_,rfl⟩;rw [hbf] at BF4;simp only [hbf];have hle : B ≤ (w2.alloc (Obj.cells #[.string f0,.int .i64 f1,.int .i64 f2,.int .i64 f3,.string f4] 58)).heap.size := Nat.le_trans HB.out hw3.size;have HTB : Hid (TrO (n + 1) B w4 rr Y.1 bs) := ht.base hle;have HAB : Hid (Apt B w4 ((fpK K ++ blkOf vr) ++ bs)) := Apt.append HH.out.ap hap hle hw3.size (Nat.le_trans hw3.size hb4.size);clear x0 x1 x2 x3 ltX s0 s1 s2 s3 ltS d0 ltD al3 hbf hb4 BF3 HTR hap hle;obtain ⟨a1,n1,c1,a2,n2,c2,hrr⟩ := ht.open;clear ht;obtain ⟨⟨K0,N0,S0,es0,rs0⟩,YE⟩ := Y;simp only at hrr HTB
  by_cases hne : YE = 0
  rotate_left
  ·have d1 : (YE != 0) = true := by simpa using hne
   have HFIN : Hid (HanP (n + 1) B bR bm c R w (.returned (.int .i64 YE)) (w4.alloc (Obj.cells #[.int .i64 K0,.int .i64 N0,.string S0,.slice a1 n1 c1,.slice a2 n2 c2] 33))) := (by
    have e1 : R = (⟨esK K,rest⟩,YE) := (by rw [HY.out,if_pos hne]);have hw5 : Below w.heap.size w (w4.alloc (Obj.cells #[.int .i64 K0,.int .i64 N0,.string S0,.slice a1 n1 c1,.slice a2 n2 c2] 33)) := hw4.alloc hw4.size _
    exact ⟨K,c,vr,rest,by rw [e1],by omega,fun _ => by rw [e1],HH.out.below hw5,Kp.ofBelow hw5⟩)
   subst hrr;clear hne HY HTB HAB;go_wp2_with fail;go_ret;exact HFIN.out
  ·subst hne;have hw5 : Below w.heap.size w (w4.alloc (Obj.cells #[.int .i64 K0,.int .i64 N0,.string S0,.slice a1 n1 c1,.slice a2 n2 c2] 33)) := hw4.alloc hw4.size _;have al5 : Below w4.heap.size w4 (w4.alloc (Obj.cells #[.int .i64 K0,.int .i64 N0,.string S0,.slice a1 n1 c1,.slice a2 n2 c2] 33)) := bra _;have hsm : Sm w4 (w4.alloc (Obj.cells #[.int .i64 K0,.int .i64 N0,.string S0,.slice a1 n1 c1,.slice a2 n2 c2] 33)) bs := Sm.below al5 fun k hk => (HAB.out.2 k (List.mem_append.2 (.inr hk))).2
   have HPU : Hid (Calls Tryz.prog 60 #[.map (some bm),.agg #[.string f0,.int .i64 f1,.int .i64 f2,.int .i64 f3,.string f4],.agg #[.int .i64 K0,.int .i64 N0,.string S0,.slice a1 n1 c1,.slice a2 n2 c2]] (w4.alloc (Obj.cells #[.int .i64 K0,.int .i64 N0,.string S0,.slice a1 n1 c1,.slice a2 n2 c2] 33)) (PutP (n + 1) B bR bm c vr rest (putD ⟨f0,f1,f2,f3,f4⟩ ⟨K0,N0,S0,es0,rs0⟩ (esK K)) (w4.alloc (Obj.cells #[.int .i64 K0,.int .i64 N0,.string S0,.slice a1 n1 c1,.slice a2 n2 c2] 33)))) := (by
    have h1 := dput_any (HH.out.below hw5) (by have := HC.out.1; omega) f0 f1 f2 f3 f4 HT.out (HTB.out.sm hsm) (HAB.out.mono al5.size) (Nat.le_trans HB.out hw5.size) (HC.out.2.2 f1);rw [hrr] at h1
    exact h1 : Calls Tryz.prog _ _ _ _)
   obtain ⟨PU,hPU⟩ : ∃ P,putD ⟨f0,f1,f2,f3,f4⟩ ⟨K0,N0,S0,es0,rs0⟩ (esK K) = P := ⟨_,rfl⟩;rw [hPU] at HPU;have HY2 : Hid (R = (⟨PU.1,rest⟩,PU.2)) := hid (by rw [HY.out,if_neg (by simp),hPU]);have g0 : w4.cell? ⟨bf,0,none⟩ = some (.string f0) := (BF4.cell 0).trans rfl;have g1 : w4.cell? ⟨bf,1,none⟩ = some (.int .i64 f1) := (BF4.cell 1).trans rfl;have g2 : w4.cell? ⟨bf,2,none⟩ = some (.int .i64 f2) := (BF4.cell 2).trans rfl;have g3 : w4.cell? ⟨bf,3,none⟩ = some (.int .i64 f3) := (BF4.cell 3).trans rfl;have g4 : w4.cell? ⟨bf,4,none⟩ = some (.string f4) := (BF4.cell 4).trans rfl;have ltF : bf < w4.heap.size := BF4.lt;have k0 : w4.cell? ⟨bK,0,none⟩ = some (.map (some bm)) := (E4.k.cell 0).trans rfl;have ltK : bK < w4.heap.size := E4.k.lt;subst hrr;clear hPU HY HTB HAB hsm al5 BF4 E4;go_wp2_with fail;refine HPU.out.mono ?_;rintro e w6 ⟨K',c',rfl,hc',hK',hD6,hk6⟩
   have HFIN : Hid (HanP (n + 1) B bR bm c R w (.returned (.int .i64 PU.2)) w6) := (by
    refine ⟨K',c',vr,rest,by rw [HY2.out],hc',fun h0 => ?_,hD6,?_⟩
    ·rw [HY2.out] at h0 ⊢;rw [hK' h0]
    ·exact (Kp.ofBelow hw5).trans2 (hk6.weak fun i _ e => e.elim (fun e => .inr (.inr e)) (fun e => .inr (.inl e))) fun i _ e => e)
   clear g0 g1 g2 g3 g4 ltF k0 ltK HPU hK' hD6 hk6 hc';go_wp2_with fail;go_ret;exact HFIN.out
end
section
open Go.ChangeShapes Go.WideShapes Go.ChangeAt Go.RowKit Go.Maps Go.Sort Go.Shelf
theorem sortsI (m : Nat) : AnyZI.SortsIn Tryz.prog laysSorted_ren Fence.wide m :=
  ⟨fun blk off cap ss W hH hblk hsz => callsIn_wide.2 (AnyM.slices_Sort_int laysSort blk off cap ss W hH hblk hsz),
   fun p cap W => callsIn_wide.2 (AnyM.slices_Sort_int_none laysSort p cap W)⟩
theorem dkeys_any (mb : Option Nat) (W : World) : Calls Tryz.prog 113 #[.map mb] W fun e w' => e = .returned (.func (.func 149) #[] #[.pointer (some ⟨W.heap.size,0,none⟩)]) ∧ w' = W.alloc (.cells #[.map mb] 106) := by
 have cK : CallsIn Fence.wide 5 Tryz.prog 113 #[.map mb] W fun e w' => e = .returned (.func (.func 149) #[] #[.pointer (some ⟨W.heap.size,0,none⟩)]) ∧ w' = W.alloc (.cells #[.map mb] 106) := AnyZI.keys_in laysKeys Fence.wide 5 trivial rfl mb W
 exact (callsIn_wide (n := 5)).1 cK
theorem dsorted_any {w : World} {b n : Nat} {L : List (Int × Value)} (h : KMap w b n L) (hr : RisE L) (hn : n ≤ 1000000) :
  Calls Tryz.prog 112 #[.func (.func 149) #[] #[.pointer (some ⟨w.heap.size,0,none⟩)]] (w.alloc (.cells #[.map (some b)] 106)) fun e w' => ∃ v,e = .returned v ∧ w'.ownsRow w.heap.size 3 1 v L.length ((L.map Prod.fst).map fun z => Value.int .i64 z) ∧ Below w.heap.size w w' := by
 obtain ⟨D,hown,h2,h3⟩ := h;have hbl := hown.lt;have hsz := hown.size_le
 have hseq : SeqGives Fence.wide 2 Tryz.prog 149 #[.pointer (some ⟨w.heap.size,0,none⟩)] encZ (fun ss => ss.Perm (intKeys D)) (Maps.size D) (w.alloc (.cells #[.map (some b)] 106)) :=
  AnyZI.keys_gives (ρ := laysKeys_ren) { laysKeys with } Fence.wide _ trivial rfl (by omega) w.heap.size b n D _ (by simp) (by simp) (by
   obtain ⟨es,clock,hb,Ft,hs,hD⟩ := hown
   exact ⟨es,clock,(Below.heap_alloc _ _ b hbl).trans hb,Ft,hs,hD⟩)
 have cS := AnyZI.sorted_in laysSorted Fence.wide 5 trivial trivial trivial trivial rfl (by omega) (sortsI _) (enters_of Tryz.func148 (by kernel_rfl) rfl) 149 #[.pointer (some ⟨w.heap.size,0,none⟩)] trivial (enters_of Tryz.func149 (by kernel_rfl) rfl) _ _ (by unfold maxLen; omega) (by omega) _ hseq
 change CallsIn _ _ Tryz.prog 112 _ _ _ at cS
 refine ((callsIn_wide (n := 5)).1 cS).mono ?_;rintro e w' ⟨v,ss,rfl,hS,hrow,hnil,hb⟩;obtain ⟨e1,e2⟩ := KMap.sorted hown h3 hr hS;refine ⟨v,rfl,?_,((Below.refl _ w).alloc (Nat.le_refl _) _).trans (hb.mono (by simp))⟩;have hrow' := ownsRow_base_a hrow (base' := w.heap.size) (by simp);rw [e2] at hrow';have e3 : ss.mergeSort (fun x y => decide (x ≤ y)) = L.map Prod.fst := e1;rw [e3] at hrow';exact hrow'
end
section
open Go.ChangeShapes Go.WideShapes Go.ChangeAt Go.RowKit
structure DcT (n B S0 : Nat) (K : List KE) (vr : Value) (i : Nat) (ve : Value) (rows : List (List Value)) (bss : List (List Nat)) (w : World) : Prop where
 row : RowO (EtO (TrO n B) B) B 80 2 w ve (esK (K.take i)) rows bss
 ap : Apt B w ((blkOf vr ++ fpK (K.drop i)) ++ allB ve bss)
 own : ∀ q ∈ blkOf ve,S0 ≤ q
theorem esK_take (K : List KE) {i : Nat} {k : KE} (h : K[i]? = some k) : esK (K.take (i + 1)) = esK (K.take i) ++ [(k.1,k.2.2.1)] := by
 obtain ⟨hi,rfl⟩ := List.getElem?_eq_some_iff.1 h;rw [List.take_succ_eq_append_getElem hi,esK,List.map_append]
 rfl
theorem fpK_drop (K : List KE) {i : Nat} {k : KE} (h : K[i]? = some k) : fpK (K.drop i) = k.2.2.2 ++ fpK (K.drop (i + 1)) := by
 obtain ⟨hi,rfl⟩ := List.getElem?_eq_some_iff.1 h;rw [List.drop_eq_getElem_cons hi,fpK_cons]
section
variable {n B bR bm c : Nat} {K : List KE} {vr : Value} {rest : List Fd} {w w0 : World} {i : Nat} {ve : Value} {rows : List (List Value)} {bss : List (List Nat)}
theorem DcT.nil (h : DcS n B bR bm c K vr rest w) (S0 : Nat) : DcT n B S0 K vr 0 (.slice none 0 0) [] [] w :=
 ⟨RowO.nil _ _ _ _ _,h.ap.of_count fun q => by simp [allB,blkOf,Value.ownBlock,List.count_append]; omega,fun q hq => by simp [blkOf,Value.ownBlock] at hq⟩
theorem DcT.push (h : DcT n B w0.heap.size K vr i ve rows bss w) (h0 : DcS n B bR bm c K vr rest w0) (hB : B ≤ w0.heap.size) (hb : Below w0.heap.size w0 w) {k : KE} (hk : K[i]? = some k) {bz : Nat} (BZ : Blk w bz #[.int .i64 k.1,k.2.1] 80) (hl : K.length ≤ 500) :
  ∃ a c' W',(Builtin.append_ #[30,30] 30 #[ve,.slice (some ⟨bz,0,none⟩) 1 1]).run Tryz.prog w = .ok (.slice a (i + 1) c') W' ∧ (∃ rows bss,DcT n B w0.heap.size K vr (i + 1) (.slice a (i + 1) c') rows bss W') ∧ Below w0.heap.size w0 W' := by
 have hkm := List.mem_of_getElem? hk;have hi : i < K.length := (List.getElem?_eq_some_iff.1 hk).1;obtain ⟨rows',bss',g1,g2⟩ := h0.row k hkm;have hsm : Sm w0 w (fpK K) := Sm.below hb fun q hq => (h0.ap.2 q (List.mem_append.2 (.inl hq))).2
 have g3 : RowO (TrO n B) B 33 5 w k.2.1 k.2.2.1 rows' bss' := g1.sm (hsm.mono fun q hq => fpK_mem hkm q (by rw [g2]; exact hq)) fun _ _ _ hp hb => hp.sm hb
 obtain ⟨va,vc,hv⟩ := own_form g1.own;have hB' : B ≤ w.heap.size := Nat.le_trans hB hb.size
 have hlen : (esK (K.take i)).length = i := by rw [esK,List.length_map,List.length_take]; omega
 have hap : Apt B w ((blkOf vr ++ fpK (K.drop (i + 1))) ++ (allB ve bss ++ k.2.2.2)) := h.ap.of_count fun q => by
  have := fpK_drop K hk;rw [this];simp only [List.count_append]
  omega
 have h1 : ∀ u ∈ [Value.int .i64 k.1,k.2.1],u.oneCell' = true := fun u hu => by
  simp only [List.mem_cons,List.not_mem_nil,or_false] at hu
  rcases hu with rfl | rfl
  ·rfl
  ·rw [hv]; rfl
 obtain ⟨v',W',r1,r2,r3,⟨a,c',hv'⟩,r5⟩ := push_row (P := EtO (TrO n B) B) (t := 30) (x := (k.1,k.2.2.1)) (r := [.int .i64 k.1,k.2.1]) (more := blkOf vr ++ fpK (K.drop (i + 1))) Tryz.underlying30 infoEt rfl (by decide) h.row hap ⟨k.2.1,rows',bss',rfl,h0.i64 k hkm,g3,g2⟩ rfl h1 (fun _ _ _ _ hp hs => hp.sm hs) BZ (by omega) (by decide) hB';obtain ⟨i0,hi0,hz0,hz1,hz2⟩ := info_parts infoEt
 obtain ⟨v2,W2,s1,s2,s3,_,s5⟩ := run_append_own_at w B 30 30 80 i0 _ 2 _ Tryz.underlying30 hi0 hz0 hz1 hz2 rfl (by decide) ve (esK (K.take i)).length _ h.row.own ⟨bz,0,none⟩ 1 1 [.int .i64 k.1,k.2.1] rfl (fun j u hu => by
  have := BZ.cell j;rw [Addr.add_lit,Nat.zero_add,this]
  simpa using hu) h1 (by unfold maxLen; omega) (by omega) hB'
 have he := r1.symm.trans s1
 obtain ⟨rfl,rfl⟩ : v' = v2 ∧ W' = W2 := by injection he with h1 h2; exact ⟨h1,h2⟩
 rw [hlen] at hv';subst hv'
 have hown : ∀ q ∈ blkOf (.slice a (i + 1) c'),w0.heap.size ≤ q := fun q hq => by
  rcases s5 with e | e
  ·exact h.own q (mem_blkOf.2 (by rw [← e]; exact mem_blkOf.1 hq))
  ·have := mem_blkOf.1 hq;rw [e] at this;have := Option.some.inj this;have := hb.size
   omega
 refine ⟨a,c',W',r1,⟨_,_,⟨by rw [esK_take K hk]; exact r2,?_,hown⟩⟩,hb.trans (r5.toBelow hb.size fun q hq => h.own q hq)⟩;rw [g2] at r3 ⊢;exact r3
end
theorem inr_flatten (ns : List Int) : (inRows ns).flatten = ns.map fun z => Value.int .i64 z := by
 induction ns with
 | nil => rfl
 | cons a l ih => simp only [inRows,List.map_cons,List.flatten_cons] at ih ⊢; rw [ih]; rfl
theorem look_at {L : List (Int × Value)} (hr : RisE L) {p : Int × Value} (hp : p ∈ L) : lookE L p.1 = p.2 := by
 unfold lookE;rw [find_mem hr hp]
 rfl
theorem dentries_any {n B bR bm c : Nat} {K : List KE} {vr : Value} {rest : List Fd} {w : World} (h : DcS n B bR bm c K vr rest w) (hc : c ≤ 1000000) (hB : B ≤ w.heap.size) (hl : K.length ≤ 500) :
  Calls Tryz.prog 61 #[.map (some bm)] w fun e w' => ∃ ve rows bss,e = .returned ve ∧ RowO (EtO (TrO n B) B) B 80 2 w' ve (esK K) rows bss ∧ Apt B w' (blkOf vr ++ allB ve bss) ∧ Below w.heap.size w w' := by
 have hrv : RisE (vsK K) := List.pairwise_map.2 h.ris;have HSO : Hid (Calls Tryz.prog 112 #[.func (.func 149) #[] #[.pointer (some ⟨w.heap.size,0,none⟩)]] (w.alloc (.cells #[.map (some bm)] 106)) fun e w' => ∃ v,e = .returned v ∧ w'.ownsRow w.heap.size 3 1 v (vsK K).length (((vsK K).map Prod.fst).map fun z => Value.int .i64 z) ∧ Below w.heap.size w w') := dsorted_any h.map hrv hc;have HKY : Hid (Calls Tryz.prog 113 #[.map (some bm)] w fun e w' => e = .returned (.func (.func 149) #[] #[.pointer (some ⟨w.heap.size,0,none⟩)]) ∧ w' = w.alloc (.cells #[.map (some bm)] 106)) := dkeys_any (some bm) w;have HH : Hid (DcS n B bR bm c K vr rest w) := h;have HB : Hid (B ≤ w.heap.size) := hB;have HL : Hid (K.length ≤ 500) := hl;have HRV : Hid (RisE (vsK K)) := hrv;clear h hc hB hl hrv
 go_enter Tryz.func61,Tryz.ntmps61
 go_wp2_with fail;refine HKY.out.mono ?_;rintro e w1 ⟨rfl,rfl⟩;go_wp2_with fail;refine HSO.out.mono ?_;rintro e w2 ⟨v,rfl,hown,hb2⟩
 have hlv : (vsK K).length = K.length := by simp [vsK]
 rw [hlv,← inr_flatten] at hown;obtain ⟨hrg, -⟩ := RowG.own (fun r hr => by simp only [inRows,List.mem_map] at hr; obtain ⟨_,_,rfl⟩ := hr; rfl) (by decide) hown;obtain ⟨ka,kc,rfl⟩ := own_form hown;obtain ⟨N,hN⟩ : ∃ N,K.length = N := ⟨_,rfl⟩;rw [hN] at hrg ⊢;have HN : Hid (K.length = N) := hN
 have hN5 : N ≤ 500 := by have := HL.out; omega
 have HR : Hid (RowG w2 (.slice ka N kc) 1 (inRows ((vsK K).map Prod.fst))) := hrg;have H2 : Hid (DcS n B bR bm c K vr rest w2) := HH.out.below hb2;have HB2 : Hid (B ≤ w2.heap.size) := hid (Nat.le_trans HB.out hb2.size);clear hN hown hrg hlv HSO HKY;go_wp2_with fail
 go_loopw [3,10] (fun ov iv wr => ∃ (i : Nat) (ve : Value) (rows : List (List Value)) (bss : List (List Nat)),iv = .int .i64 (i : Int) ∧ ov = ve ∧ i ≤ N ∧ Hid (DcT n B w2.heap.size K vr i ve rows bss wr) ∧ Below w2.heap.size w2 wr) (fun _ iv _ => N - (intOf iv).toNat)
 case atStart => exact ⟨0,_,[],[],rfl,rfl,by omega,DcT.nil H2.out _,Below.refl _ _⟩
 case round =>
  obtain ⟨i,ve,rows,bss,rfl,rfl,hi,HT,hbel⟩ := hrel;obtain ⟨ya,yc,hve⟩ := own_form HT.out.row.own
  have hyl : (esK (K.take i)).length = i := by rw [esK,List.length_map,List.length_take,HN.out]; omega
  rw [hyl] at hve;subst hve;clear hyl
  by_cases hlt : i < N
  ·obtain ⟨k,hk⟩ : ∃ k,K[i]? = some k := ⟨_,List.getElem?_eq_getElem (by rw [HN.out]; exact hlt)⟩
   have hrr : (inRows ((vsK K).map Prod.fst))[i]? = some [.int .i64 k.1] := by simp [inRows,vsK,hk]
   obtain ⟨g,off,rfl,c1⟩ := (HR.out.below hbel).get hrr;have p0 := c1 0 _ rfl;simp only [Nat.add_zero,Nat.mul_one] at p0;have hkm := List.mem_of_getElem? hk
   have hlk : (Instr.lookup 106 (.map (some bm)) (.int .i64 k.1) false).run Tryz.prog wr = .ok k.2.1 wr := by
    have h1 := ((H2.out.below hbel).map).look (i64_of (H2.out.i64 k hkm));have h2 : lookE (vsK K) k.1 = k.2.1 := look_at HRV.out (p := (k.1,k.2.1)) (List.mem_map.2 ⟨k,hkm,rfl⟩);rw [h2] at h1;exact h1
   obtain ⟨rows',bss',g1, -⟩ := H2.out.row k hkm;obtain ⟨xa,xc,hx⟩ := own_form g1.own;have HX : Hid (k.2.1 = .slice xa k.2.2.1.length xc) := hx;obtain ⟨xn,hxn⟩ : ∃ z,k.2.2.1.length = z := ⟨_,rfl⟩;obtain ⟨k1,hk1⟩ : ∃ z,k.1 = z := ⟨_,rfl⟩
   have hE : Blk (wr.alloc (Obj.cells #[.int .i64 k1,.slice xa xn xc] 80)) wr.heap.size #[.int .i64 k.1,k.2.1] 80 := by rw [hk1,hx,hxn]; exact Blk.new wr _ _
   have al : Below wr.heap.size wr (wr.alloc (Obj.cells #[.int .i64 k1,.slice xa xn xc] 80)) := bra _
   have hT1 : DcT n B w2.heap.size K vr i (.slice ya i yc) rows bss (wr.alloc (Obj.cells #[.int .i64 k1,.slice xa xn xc] 80)) := by
    have hs : Sm wr (wr.alloc (Obj.cells #[.int .i64 k1,.slice xa xn xc] 80)) (allB (.slice ya i yc) bss) := Sm.below al fun q hq => (HT.out.ap.2 q (List.mem_append.2 (.inr hq))).2
    exact ⟨HT.out.row.sm hs fun _ _ _ hp hb => hp.sm hb,HT.out.ap.mono al.size,HT.out.own⟩
   have hbA : Below w2.heap.size w2 (wr.alloc (Obj.cells #[.int .i64 k1,.slice xa xn xc] 80)) := hbel.trans (al.mono hbel.size);obtain ⟨a,c',W',r1,⟨rows2,bss2,r2⟩,r3⟩ := hT1.push H2.out HB2.out hbA hk hE HL.out;have HAP : Hid ((Builtin.append_ #[30,30] 30 #[.slice ya i yc,.slice (some ⟨wr.heap.size,0,none⟩) 1 1]).run Tryz.prog (wr.alloc (Obj.cells #[.int .i64 k1,.slice xa xn xc] 80)) = .ok (.slice a (i + 1) c') W') := r1;have HT2 : Hid (DcT n B w2.heap.size K vr (i + 1) (.slice a (i + 1) c') rows2 bss2 W') := r2;rw [hx,hxn,hk1] at hlk;rw [hk1] at p0;clear r1 r2 hT1 hbA al hE hx hxn hk1 g1 hkm hk hrr c1 HX
   go_wp2_with (first | (at_builtin; refine wpList_app rfl _ _ rfl rfl rfl HAP.out ?_) | fail)
   go_roundw
   case rel => exact ⟨i + 1,_,rows2,bss2,by go_num,rfl,by omega,HT2,r3⟩
   case measure => simp [intOf]; omega
  ·obtain rfl : i = N := by omega
   have hT := HT.out;have e1 : K.take i = K := List.take_of_length_le (by rw [HN.out]; exact Nat.le_refl _);have e2 : K.drop i = [] := List.drop_eq_nil_of_le (by rw [HN.out]; exact Nat.le_refl _);have h1 := hT.row;have h2 := hT.ap;rw [e1] at h1;rw [e2] at h2;have HF : Hid (RowO (EtO (TrO n B) B) B 80 2 wr (.slice ya i yc) (esK K) rows bss ∧ Apt B wr (blkOf vr ++ allB (.slice ya i yc) bss)) := ⟨h1,by simpa [fpK] using h2⟩;clear h1 h2 hT HT e1 e2;go_wp2_with fail;go_ret;exact ⟨_,rows,bss,rfl,HF.out.1,HF.out.2,hb2.trans (hbel.mono hb2.size)⟩
theorem infoFl : (Tryz.prog.info? 58).map (fun i => (i.zero,i.size,i.bytes)) = some (some (.agg #[.string ⟨#[]⟩,.int .i64 0,.int .i64 0,.int .i64 0,.string ⟨#[]⟩]),5,56) := by kernel_rfl
theorem infoIn : (Tryz.prog.info? 3).map (fun i => (i.zero,i.size,i.bytes)) = some (some (.int .i64 0),1,8) := by kernel_rfl
theorem infoNm : (Tryz.prog.info? 70).map (fun i => (i.zero,i.size,i.bytes)) = some (some (.agg #[.string ⟨#[]⟩,.int .i64 0]),2,24) := by kernel_rfl
theorem infoMs : (Tryz.prog.info? 50).map (fun i => (i.zero,i.size,i.bytes)) = some (some (.agg #[.string ⟨#[]⟩,.slice none 0 0,.slice none 0 0]),3,64) := by kernel_rfl
theorem infoEn : (Tryz.prog.info? 68).map (fun i => (i.zero,i.size,i.bytes)) = some (some (.agg #[.string ⟨#[]⟩,.slice none 0 0]),2,40) := by kernel_rfl
theorem infoMt : (Tryz.prog.info? 72).map (fun i => (i.zero,i.size,i.bytes)) = some (some (.agg #[.string ⟨#[]⟩,.string ⟨#[]⟩,.string ⟨#[]⟩]),3,48) := by kernel_rfl
theorem flr_len (fs : List FlS) : ∀ r ∈ flRows fs,r.length = 5 := fun r hr => by simp only [flRows,List.mem_map] at hr; obtain ⟨_,_,rfl⟩ := hr; rfl
theorem inr_len (fs : List Int) : ∀ r ∈ inRows fs,r.length = 1 := fun r hr => by simp only [inRows,List.mem_map] at hr; obtain ⟨_,_,rfl⟩ := hr; rfl
theorem nmr_len (fs : List NmS) : ∀ r ∈ nmRows fs,r.length = 2 := fun r hr => by simp only [nmRows,List.mem_map] at hr; obtain ⟨_,_,rfl⟩ := hr; rfl
theorem mtr_len (fs : List MtS) : ∀ r ∈ mtRows fs,r.length = 3 := fun r hr => by simp only [mtRows,List.mem_map] at hr; obtain ⟨_,_,rfl⟩ := hr; rfl
theorem flr_one (fs : List FlS) : ∀ u ∈ (flRows fs).flatten,u.oneCell' = true := by
 intro u hu;simp only [List.mem_flatten,flRows,List.mem_map] at hu;obtain ⟨l,⟨f,_,rfl⟩,hu⟩ := hu;simp only [FlS.cells,List.mem_cons,List.not_mem_nil,or_false] at hu
 rcases hu with rfl | rfl | rfl | rfl | rfl <;> rfl
theorem inr_one (fs : List Int) : ∀ u ∈ (inRows fs).flatten,u.oneCell' = true := by
 intro u hu;simp only [List.mem_flatten,inRows,List.mem_map] at hu;obtain ⟨l,⟨f,_,rfl⟩,hu⟩ := hu;simp only [List.mem_cons,List.not_mem_nil,or_false] at hu;subst hu; rfl
theorem nmr_one (fs : List NmS) : ∀ u ∈ (nmRows fs).flatten,u.oneCell' = true := by
 intro u hu;simp only [List.mem_flatten,nmRows,List.mem_map] at hu;obtain ⟨l,⟨f,_,rfl⟩,hu⟩ := hu;simp only [NmS.cells,List.mem_cons,List.not_mem_nil,or_false] at hu
 rcases hu with rfl | rfl <;> rfl
theorem mtr_one (fs : List MtS) : ∀ u ∈ (mtRows fs).flatten,u.oneCell' = true := by
 intro u hu;simp only [List.mem_flatten,mtRows,List.mem_map] at hu;obtain ⟨l,⟨f,_,rfl⟩,hu⟩ := hu;simp only [MtS.cells,List.mem_cons,List.not_mem_nil,or_false] at hu
 rcases hu with rfl | rfl | rfl <;> rfl
theorem freshF_any {w : World} {v : Value} {fs : List FlS} (hr : RowG w v 5 (flRows fs)) (hl : fs.length ≤ 100) :
  Calls Tryz.prog 78 #[v] w fun e w' => ∃ r,e = .returned r ∧ w'.ownsRow w.heap.size 58 5 r fs.length (flRows fs).flatten ∧ Below w.heap.size w w' := by
 have hN : (flRows fs).length = fs.length := by simp [flRows]
 have HN : Hid ((flRows fs).length = fs.length) := hN;have HR : Hid (RowG w v 5 (flRows fs)) := hr;have HL : Hid (fs.length ≤ 100) := hl;clear hr hN hl
 go_enter Tryz.func78,Tryz.ntmps78
 go_wp2_with (first
  | (at_builtin; refine wpList_joinG rfl _ _ 48 58 5 56 _ rfl Tryz.underlying48 infoFl rfl (by decide) w.heap.size (.slice none 0 0) 0 [] rfl (World.ownsRow_nil _ _ _ _) v (flRows fs) rfl HR.out (flr_len fs) (flr_one fs) ?c1 (by decide) (Nat.le_refl _) ?_)
  | fail)
 case c1 => have h1 := HN.out; have h2 := HL.out; omega
 intro r w1 ho hg;have hb : Below w.heap.size w w1 := (Below.refl _ _).grown hg (Nat.le_refl _) (fun k hk => by cases hk)
 have HO : Hid (w1.ownsRow w.heap.size 58 5 r fs.length (flRows fs).flatten) := by
  show World.ownsRow _ _ _ _ _ _ _
  rw [HN.out] at ho;exact ho
 clear hg ho;go_wp2_with fail;go_ret;exact ⟨_,rfl,HO.out,hb⟩
theorem freshI_any {w : World} {v : Value} {fs : List Int} (hr : RowG w v 1 (inRows fs)) (hl : fs.length ≤ 100) :
  Calls Tryz.prog 79 #[v] w fun e w' => ∃ r,e = .returned r ∧ w'.ownsRow w.heap.size 3 1 r fs.length (inRows fs).flatten ∧ Below w.heap.size w w' := by
 have hN : (inRows fs).length = fs.length := by simp [inRows]
 have HN : Hid ((inRows fs).length = fs.length) := hN;have HR : Hid (RowG w v 1 (inRows fs)) := hr;have HL : Hid (fs.length ≤ 100) := hl;clear hr hN hl
 go_enter Tryz.func79,Tryz.ntmps79
 go_wp2_with (first
  | (at_builtin; refine wpList_joinG rfl _ _ 46 3 1 8 _ rfl Tryz.underlying46 infoIn rfl (by decide) w.heap.size (.slice none 0 0) 0 [] rfl (World.ownsRow_nil _ _ _ _) v (inRows fs) rfl HR.out (inr_len fs) (inr_one fs) ?c1 (by decide) (Nat.le_refl _) ?_)
  | fail)
 case c1 => have h1 := HN.out; have h2 := HL.out; omega
 intro r w1 ho hg;have hb : Below w.heap.size w w1 := (Below.refl _ _).grown hg (Nat.le_refl _) (fun k hk => by cases hk)
 have HO : Hid (w1.ownsRow w.heap.size 3 1 r fs.length (inRows fs).flatten) := by
  show World.ownsRow _ _ _ _ _ _ _
  rw [HN.out] at ho;exact ho
 clear hg ho;go_wp2_with fail;go_ret;exact ⟨_,rfl,HO.out,hb⟩
end
section
open Go.ChangeShapes Go.WideShapes Go.ChangeAt Go.RowKit Go.Maps
theorem cmessage_any {w : World} {snm nm : ByteArray} {ae at' : Option Addr} {E ce T ct : Nat} {vm : Value} {ms : List MsS} (hr : MsIn w vm ms) (hl : ∀ m ∈ ms,m.fields.length ≤ 20 ∧ m.reserved.length ≤ 40) :
  Calls Tryz.prog 42 #[.agg #[.string snm,vm,.slice ae E ce,.slice at' T ct],.string nm] w fun e w' => ∃ vf vr,e = .returned (.tuple #[.agg #[.string ((ms.find? (fun m => decide (m.name = nm))).getD zeroM).name,vf,vr],.bool (ms.find? (fun m => decide (m.name = nm))).isSome]) ∧ w'.ownsRow w.heap.size 58 5 vf ((ms.find? (fun m => decide (m.name = nm))).getD zeroM).fields.length (flRows ((ms.find? (fun m => decide (m.name = nm))).getD zeroM).fields).flatten ∧ w'.ownsRow w.heap.size 3 1 vr ((ms.find? (fun m => decide (m.name = nm))).getD zeroM).reserved.length (inRows ((ms.find? (fun m => decide (m.name = nm))).getD zeroM).reserved).flatten ∧ Below w.heap.size w w' := by
 obtain ⟨a,c,rfl,q1,q2⟩ := hr.form2;have HR : Hid (MsIn w (.slice a ms.length c) ms) := hr;obtain ⟨N,hN⟩ : ∃ N,ms.length = N := ⟨_,rfl⟩;rw [hN] at HR q1 ⊢;have HN : Hid (ms.length = N) := hN;clear hN hr;have HL : Hid (∀ m ∈ ms,m.fields.length ≤ 20 ∧ m.reserved.length ≤ 40) := hl;clear hl;obtain ⟨A,hA⟩ : ∃ A,(ms.find? (fun m => decide (m.name = nm))) = A := ⟨_,rfl⟩;rw [hA];have HA : Hid (A = ((ms.drop 0).find? (fun m => decide (m.name = nm)))) := hA.symm;clear hA;have BX0 : Blk ((w.alloc (.cells #[.string snm,.slice a N c,.slice ae E ce,.slice at' T ct] 26)).alloc (.cells #[.string ⟨#[]⟩,.slice none 0 0,.slice none 0 0] 50)) w.heap.size #[.string snm,.slice a N c,.slice ae E ce,.slice at' T ct] 26 := (Blk.new w _ _).below (bra _)
 have BR0 : Blk ((w.alloc (.cells #[.string snm,.slice a N c,.slice ae E ce,.slice at' T ct] 26)).alloc (.cells #[.string ⟨#[]⟩,.slice none 0 0,.slice none 0 0] 50)) (w.heap.size + 1) #[.string ⟨#[]⟩,.slice none 0 0,.slice none 0 0] 50 := by
  have := Blk.new (w.alloc (.cells #[.string snm,.slice a N c,.slice ae E ce,.slice at' T ct] 26)) #[.string ⟨#[]⟩,.slice none 0 0,.slice none 0 0] 50
  rwa [show (w.alloc (.cells #[.string snm,.slice a N c,.slice ae E ce,.slice at' T ct] 26)).heap.size = w.heap.size + 1 by simp] at this
 have hb0 : Below w.heap.size w ((w.alloc (.cells #[.string snm,.slice a N c,.slice ae E ce,.slice at' T ct] 26)).alloc (.cells #[.string ⟨#[]⟩,.slice none 0 0,.slice none 0 0] 50)) := (bra _).alloc (by simp) _
 go_enter Tryz.func42,Tryz.ntmps42
 go_wp2_with fail
 go_loopw [11] (fun iv wr => ∃ k : Nat,iv = .int .i64 (k : Int) ∧ k ≤ N ∧ Hid (A = ((ms.drop k).find? (fun m => decide (m.name = nm)))) ∧ Below w.heap.size w wr ∧ Blk wr (w.heap.size + 1) #[.string ⟨#[]⟩,.slice none 0 0,.slice none 0 0] 50) (fun iv _ => N - (intOf iv).toNat)
 case atStart => exact ⟨0,rfl,by omega,HA,hb0,BR0⟩
 case round =>
  obtain ⟨k,rfl,hk,HAk,hbel,BR⟩ := hrel;clear BX0 BR0 hb0;have hlt2 : w.heap.size + 1 < wr.heap.size := BR.lt;have r0 := (BR.cell 0).trans rfl;have z0 := BR.froz 0;have r1 := (BR.cell 1).trans rfl;have z1 := BR.froz 1;have r2 := (BR.cell 2).trans rfl;have z2 := BR.froz 2
  by_cases hlt : k < N
  ·obtain ⟨f,hf⟩ : ∃ n,ms[k]? = some n := ⟨_,List.getElem?_eq_getElem (by rw [HN.out]; exact hlt)⟩;obtain ⟨g,off,vf,vr,rfl,c0',c1',c2',hrf,hrr⟩ := HR.out.get hf;have c0 := (hbel.cell (World.block_lt_of_cell? _ _ c0')).trans c0';have c1 := (hbel.cell (World.block_lt_of_cell? _ _ c1')).trans c1';have c2 := (hbel.cell (World.block_lt_of_cell? _ _ c2')).trans c2';clear c0' c1' c2';have HF : Hid (RowG w vf 5 (flRows f.fields)) := hrf;have HV : Hid (RowG w vr 1 (inRows f.reserved)) := hrr;obtain ⟨a3,c3,rfl,_,_⟩ := hrf.form2;obtain ⟨a4,c4,rfl,_,_⟩ := hrr.form2;have HF : Hid (RowG w (.slice a3 (flRows f.fields).length c3) 5 (flRows f.fields)) := HF;have HV : Hid (RowG w (.slice a4 (inRows f.reserved).length c4) 1 (inRows f.reserved)) := HV;have HLf : Hid _ := HL.out f (List.mem_of_getElem? hf)
   have HA2 : Hid (A = if decide (f.name = nm) = true then some f else ((ms.drop (k + 1)).find? (fun m => decide (m.name = nm)))) := by
    show _ = _
    rw [HAk.out,drop_at hf,List.find?_cons]
    cases decide (f.name = nm) <;> rfl
   obtain ⟨f0,ff,fr⟩ := f;simp only at c0 c1 c2 HA2 HF HV HLf;generalize hnF : (flRows ff).length = nF at *;generalize hnR : (inRows fr).length = nR at *;clear hrf hrr hf HAk hnF hnR
   by_cases he : f0 = nm
   ·subst he
    have HA3 : Hid (A = some ⟨f0,ff,fr⟩) := by show _ = _; rw [HA2.out,if_pos (by simp)]
    clear HA2;go_wp2_with fail;refine wp_region_held_drew (S := fun _ => True) (by kernel_rfl) trivial (fun hS => ?_);have hba : Below w.heap.size w (wr.alloc (.cells #[.string f0,.slice a3 nF c3,.slice a4 nR c4] 50)).drew := below_drewN 1 (hbel.alloc (by omega) _);have BT : Blk (wr.alloc (.cells #[.string f0,.slice a3 nF c3,.slice a4 nR c4] 50)).drew wr.heap.size #[.string f0,.slice a3 nF c3,.slice a4 nR c4] 50 := Blk.new wr #[.string f0,.slice a3 nF c3,.slice a4 nR c4] 50;have BR2 : Blk (wr.alloc (.cells #[.string f0,.slice a3 nF c3,.slice a4 nR c4] 50)).drew (w.heap.size + 1) #[.string ⟨#[]⟩,.slice none 0 0,.slice none 0 0] 50 := BR.below (below_drewN 1 (bra _))
    have HSZ : Hid ((wr.alloc (.cells #[.string f0,.slice a3 nF c3,.slice a4 nR c4] 50)).drew.heap.size = wr.heap.size + 1) := by show _ = _; simp [World.drew]
    generalize (wr.alloc (.cells #[.string f0,.slice a3 nF c3,.slice a4 nR c4] 50)).drew = W0 at *;obtain ⟨bt,hbt⟩ : ∃ n,wr.heap.size = n := ⟨_,rfl⟩;rw [hbt] at BT HSZ hlt2 ⊢;clear hbt c0 c1 c2 r0 r1 r2 z0 z1 z2 hS;have t1 : W0.cell? ⟨bt,1,none⟩ = some (.slice a3 nF c3) := BT.cell 1;have t2 : W0.cell? ⟨bt,2,none⟩ = some (.slice a4 nR c4) := BT.cell 2;refine rg_tk 0 19 (.pointer (some ⟨bt,1,none⟩)) (fun w' hw' => ?_) trivial (bts 10 1) ?_
    ·go_simp
    refine rg_tk 3 22 (.pointer (some ⟨bt,2,none⟩)) (fun w' hw' => ?_) trivial (bts 10 9) ?_
    ·go_simp
    refine rg_llc 1 4 2 20 23 21 (.slice a3 nF c3) (.slice a4 nR c4) 78 #[.slice a3 nF c3] (fun W => W.cell? ⟨bt,2,none⟩ = some (.slice a4 nR c4)) rfl rfl rfl rfl rfl rfl (by kernel_rfl) (by kernel_rfl) (by kernel_rfl) (by kernel_rfl) (by kernel_rfl) (fun _ => rfl) (fun _ => rfl) (fun _ => rfl) (by decide) (by decide) (by decide) (by decide) (by go_simp) (by go_simp) (by go_simp) (by go_simp) (fun v W hLD => by go_simp) (fun W => by go_simp) (fun W => by go_simp) ?_;refine (freshF_any (HF.out.below hba) (by have := HLf.out; omega)).mono ?_;rintro e w2 ⟨rv,rfl,ho,hb2⟩;have BT2 := BT.below hb2;have BR3 := BR2.below hb2;have hbw2 : Below w.heap.size w w2 := hba.trans (hb2.mono hba.size);refine ⟨_,rfl,BT2.cell 2,?_⟩;simp only [zsA,zsZ,zsS];clear t1 t2;refine rg_tk 6 25 (.pointer (some ⟨bt,1,none⟩)) (fun w' hw' => ?_) trivial (bts 10 95) ?_
    ·go_simp
    refine rg_cl 5 24 79 #[.slice a4 nR c4] (bts 10 127) rfl (fun W => by go_simp) ?_;refine (freshI_any (HV.out.below hbw2) (by have := HLf.out; omega)).mono ?_;rintro e w3 ⟨rw,rfl,ho2,hb3⟩;refine ⟨_,rfl,trivial,?_⟩;simp only [zsA,zsZ,zsS];have BT3 := BT2.below hb3;have BR4 := BR3.below hb3;have hbw : Below w.heap.size w w3 := hbw2.trans (hb3.mono hbw2.size)
    have HO1 : Hid (w3.ownsRow (bt + 1) 58 5 rv ff.length (flRows ff).flatten) := by show World.ownsRow _ _ _ _ _ _ _; rw [HSZ.out] at ho; exact own_below ho hb3
    have HO2 : Hid (w3.ownsRow (bt + 1) 3 1 rw fr.length (inRows fr).flatten) := own_base ho2 (by have := hb2.size; have := HSZ.out; omega);obtain ⟨ra,rc,hrv⟩ := own_form ho;obtain ⟨qa,qc,hqv⟩ := own_form ho2;subst hrv hqv;have HO1 : Hid (w3.ownsRow (bt + 1) 58 5 (.slice ra ff.length rc) ff.length (flRows ff).flatten) := HO1;have HO2 : Hid (w3.ownsRow (bt + 1) 3 1 (.slice qa fr.length qc) fr.length (inRows fr).flatten) := HO2;obtain ⟨nFF,hNL⟩ : ∃ x,ff.length = x := ⟨_,rfl⟩;obtain ⟨nRR,hRL⟩ : ∃ x,fr.length = x := ⟨_,rfl⟩;rw [hNL] at HO1 ⊢;rw [hRL] at HO2 ⊢;have HNL : Hid (ff.length = nFF) := hNL;have HRL : Hid (fr.length = nRR) := hRL;clear hNL hRL;have hlt3 : bt < w3.heap.size := BT3.lt;clear ho ho2 hb2 hb3 BT BT2 BR2 BR3 hba hbw2 hbel HSZ BR;have t0 : w3.cell? ⟨bt,0,none⟩ = some (.string f0) := BT3.cell 0;have t1 : w3.cell? ⟨bt,1,none⟩ = some (.slice a3 nF c3) := BT3.cell 1;have t2 : w3.cell? ⟨bt,2,none⟩ = some (.slice a4 nR c4) := BT3.cell 2;have y1 := BT3.froz 1;have y2 := BT3.froz 2;obtain ⟨r0,r1,r2⟩ := cl3 BR4;have z0 := BR4.froz 0;have z1 := BR4.froz 1;have z2 := BR4.froz 2
    have hdd : w.heap.size + 1 ≠ bt := by omega
    refine rg_store 7 (w3.setCell ⟨bt,1,none⟩ (.slice ra nFF rc)) rfl rfl (by kernel_rfl) (by rfl) (listed' := bts 10 255) (by kernel_rfl) (by go_simp) trivial ?_;refine rg_tk 8 26 (.pointer (some ⟨bt,2,none⟩)) (fun w' hw' => ?_) trivial (bts 10 511) ?_
    ·go_simp
    refine rg_store 9 ((w3.setCell ⟨bt,1,none⟩ (.slice ra nFF rc)).setCell ⟨bt,2,none⟩ (.slice qa nRR qc)) rfl rfl (by kernel_rfl) (by rfl) (listed' := bts 10 1023) (by kernel_rfl) (by go_simp) trivial ?_;refine wpAnyH_done (by kernel_rfl) ?_ _;go_wp2_with fail;refine bodyPost_ret (results_two rfl _ _ _ ⟨w.heap.size + 1,0,none⟩ (.agg #[.string f0,.slice ra nFF rc,.slice qa nRR qc]) (by go_simp) (by go_simp)) rfl ?_;refine ⟨.slice ra nFF rc,.slice qa nRR qc,ret_two (by rw [HA3.out]; rfl) (by rw [HA3.out]; rfl),?_,?_,?_⟩
    ·rw [HA3.out];rw [show ((some (⟨f0,ff,fr⟩ : MsS)).getD zeroM).fields.length = nFF from HNL.out];refine own_base (own_kp HO1.out (S := fun k => k = bt ∨ k = w.heap.size + 1) ?_ (fun k hk => by omega)) (by omega)
     repeat' first | exact Kp.refl _ _ | refine Kp.setCell ?_ (fun _ => by simp) _
    ·rw [HA3.out];rw [show ((some (⟨f0,ff,fr⟩ : MsS)).getD zeroM).reserved.length = nRR from HRL.out];refine own_base (own_kp HO2.out (S := fun k => k = bt ∨ k = w.heap.size + 1) ?_ (fun k hk => by omega)) (by omega)
     repeat' first | exact Kp.refl _ _ | refine Kp.setCell ?_ (fun _ => by simp) _
    ·repeat' first | exact hbw | refine Below.setCell ?_ (by first | (simp; done) | (simp; omega)) _
   ·have hq := bytes_ne he
    have HA3 : Hid (A = ((ms.drop (k + 1)).find? (fun m => decide (m.name = nm)))) := by show _ = _; rw [HA2.out,if_neg (by simpa using he)]
    have hb2 : Below w.heap.size w (wr.alloc (.cells #[.string f0,.slice a3 nF c3,.slice a4 nR c4] 50)) := hbel.alloc (by omega) _;have BR2 : Blk (wr.alloc (.cells #[.string f0,.slice a3 nF c3,.slice a4 nR c4] 50)) (w.heap.size + 1) #[.string ⟨#[]⟩,.slice none 0 0,.slice none 0 0] 50 := BR.below (bra _);go_wp2_with fail
    go_roundw
    case rel => exact ⟨k + 1,by go_num,by omega,HA3,hb2,BR2⟩
    case measure => simp [intOf]; omega
  ·have HA2 : Hid (A = none) := by show _ = _; rw [HAk.out,drop_end (by rw [HN.out]; omega)]; rfl
   go_wp2_with fail;refine bodyPost_ret (results_two rfl _ _ _ ⟨w.heap.size + 1,0,none⟩ (.agg #[.string ⟨#[]⟩,.slice none 0 0,.slice none 0 0]) (by go_simp) (by go_simp)) rfl ?_;exact ⟨.slice none 0 0,.slice none 0 0,ret_two (by rw [HA2.out]; rfl) (by rw [HA2.out]; rfl),by rw [HA2.out]; exact World.ownsRow_nil _ _ _ _,by rw [HA2.out]; exact World.ownsRow_nil _ _ _ _,(Below.setCell (Below.setCell (Below.setCell hbel (by simp) _) (by simp) _) (by simp) _)⟩
end
section
open Go.ChangeShapes Go.WideShapes Go.ChangeAt Go.RowKit
def InSo (v : Value) (w : World) (g : Nat) (l : List Fd) : Prop := ∃ b off c,v = .slice (some ⟨b,off,none⟩) l.length c ∧ l.length ≤ c ∧ c ≤ 1000000 ∧ HoldsR w (some ⟨b,off,none⟩) l ∧ b ≠ g
theorem adr_ne {g b off : Nat} (hb : b ≠ g) : ∀ x,some (⟨b,off,none⟩ : Addr) = some x → x.block ≠ g := by
 intro x hx
 cases hx
 exact hb
theorem HoldsR.drop {w : World} {b off : Nat} {l : List Fd} (h : HoldsR w (some ⟨b,off,none⟩) l) (k : Nat) : HoldsR w (some ⟨b,off + k * 4,none⟩) (l.drop k) := by
 intro x hx j u hu
 obtain rfl : ⟨b,off + k * 4,none⟩ = x := by simpa using hx
 by_cases hk : k ≤ l.length
 ·have e : rawCells l = rawCells (l.take k) ++ rawCells (l.drop k) := by rw [← rawCells_app,List.take_append_drop]
  have hl : (rawCells (l.take k)).length = k * 4 := by rw [rawCells_len,List.length_take]; omega
  have := h _ rfl (k * 4 + j) u (by rw [e,List.getElem?_append_right (by omega),hl]; simpa using hu);rw [Addr.add_lit] at this ⊢;rw [← Nat.add_assoc] at this;exact this
 ·rw [List.drop_of_length_le (by omega)] at hu
  simp [rawCells] at hu
theorem InSo.rest {w : World} {g b off c : Nat} {l : List Fd} (k : Nat) (hl : k ≤ l.length) (hc : l.length ≤ c) (hm : c ≤ 1000000) (hh : HoldsR w (some ⟨b,off,none⟩) l) (hb : b ≠ g) (n : Nat) (hn : n = (l.drop k).length) :
  InSo (.slice (some ⟨b,off + k * 4,none⟩) n (c - k)) w g (l.drop k) := by
 subst hn;exact ⟨_,_,_,rfl,by rw [List.length_drop]; omega,by omega,hh.drop k,hb⟩
theorem InSo.void {w : World} {g b off : Nat} {l : List Fd} (n c : Nat) (hl : l = []) (hn : n = 0) (hc : c ≤ 1000000) (hb : b ≠ g) : InSo (.slice (some ⟨b,off,none⟩) n c) w g l := by
 subst hl hn;exact ⟨_,_,_,rfl,Nat.zero_le _,hc,HoldsR.nil,hb⟩
theorem HoldsR.drewN {w : World} {a : Option Addr} {l : List Fd} {n : Nat} (h : HoldsR w a l) : HoldsR (w.drewN n) a l := h
theorem OutAt.drewN {w : World} {g m n : Nat} {l : List Fd} (h : OutAt w g l m) : OutAt (w.drewN n) g l m := h
theorem sl_eq {a a' : Option Addr} {l l' c c' : Nat} (h1 : a = a') (h2 : l = l') (h3 : c = c') : Value.slice a l c = .slice a' l' c' := by rw [h1,h2,h3]
theorem merge_any (g : Nat) (low high : Value) (lo hi : List Fd) (w : World) (n : Nat) (hn : n = lo.length + hi.length) (hn2 : n ≤ 1000000) (hout : OutAt w g [] n) (h1 : InSo low w g lo) (h2 : InSo high w g hi) :
  Calls Tryz.prog 50 #[.slice (some ⟨g,0,none⟩) n n,low,high] w fun e w' => e = .returned (.tuple #[]) ∧ OutAt w' g (mergeF lo hi) 0 ∧ w.grownBy w' (some g) := by
 obtain ⟨R,hR⟩ : ∃ R,mergeF lo hi = R := ⟨_,rfl⟩;rw [hR]
 have S : Hid (∃ (done lows highs : List Fd) (oo c : Nat),Value.slice (some ⟨g,0,none⟩) n n = .slice (some ⟨g,oo,none⟩) (lows.length + highs.length) c ∧ lows.length + highs.length ≤ c ∧ c ≤ 1000000 ∧ (0 < lows.length + highs.length → oo = done.length * 4) ∧ InSo low w g lows ∧ InSo high w g highs ∧ OutAt w g done (lows.length + highs.length) ∧ done ++ mergeF lows highs = R ∧ w.grownBy w (some g)) :=
  ⟨[],lo,hi,0,n,by rw [hn],by omega,hn2,fun _ => rfl,h1,h2,by rw [← hn]; exact hout,by simpa using hR,gb_refl _ _⟩
 clear hR h1 h2 hout hn
 go_enter Tryz.func50,Tryz.ntmps50
 go_wp2_with fail
 go_loopw [0,1,2] (fun out lv hv wr => Hid (∃ (done lows highs : List Fd) (oo c : Nat),out = .slice (some ⟨g,oo,none⟩) (lows.length + highs.length) c ∧ lows.length + highs.length ≤ c ∧ c ≤ 1000000 ∧ (0 < lows.length + highs.length → oo = done.length * 4) ∧ InSo lv wr g lows ∧ InSo hv wr g highs ∧ OutAt wr g done (lows.length + highs.length) ∧ done ++ mergeF lows highs = R ∧ w.grownBy wr (some g)))
  (fun _ _ hv _ => match hv with | .slice _ n _ => n | _ => 0)
 case atStart => exact S
 case round =>
  obtain ⟨done,lows,highs,oo,c,rfl,hlc,hc1,hoo,hlow,hhigh,hO,hM,hgb⟩ := hrel.out;obtain ⟨bl,ol,cl,rfl,l1,l2,l3,l4⟩ := hlow;obtain ⟨bh,oh,ch,rfl,k1,k2,k3,k4⟩ := hhigh;have HO : Hid (OutAt wr g done (lows.length + highs.length)) := hO;have HM : Hid (done ++ mergeF lows highs = R) := hM;have HL3 : Hid (HoldsR wr (some ⟨bl,ol,none⟩) lows) := l3;have HL4 : Hid (bl ≠ g) := l4;have HK3 : Hid (HoldsR wr (some ⟨bh,oh,none⟩) highs) := k3;have HK4 : Hid (bh ≠ g) := k4;have HGB : Hid (w.grownBy wr (some g)) := hgb;have HOO : Hid (0 < lows.length + highs.length → oo = done.length * 4) := hoo;clear hrel hO hM l3 l4 k3 k4 hgb hoo S
  cases highs with
  | nil =>
   have HR : Hid (done ++ lows = R) := by show _ = _; have := HM.out; simpa [mergeF] using this
   clear HM HK3 HK4;obtain ⟨NL,hNL⟩ : ∃ N,lows.length = N := ⟨_,rfl⟩;have HNL : Hid (lows.length = NL) := hNL;simp only [List.length_nil,Nat.add_zero,hNL] at HO HOO hlc l1 k1 ⊢;clear hNL
   go_wp2_with (first
    | (refine wpList_copyR rfl _ _ rfl _ _ _ _ _ _ rfl rfl g done NL HO.out lows ?c1 ?c2 ?c3 ?_)
    | fail)
   case c1 => rw [HNL.out]; simp
   case c2 => rw [HNL.out]; exact Nat.le_refl _
   case c3 =>
    intro hne
    have hpos : 0 < NL := by rw [← HNL.out]; exact List.length_pos_iff.2 hne
    exact ⟨by rw [HOO.out hpos],_,rfl,HL3.out⟩
   intro w2 HO2 hg2
   have HF : Hid (OutAt w2 g R 0) := by
    have := HO2.out;rw [HNL.out,Nat.sub_self,HR.out] at this;exact this
   have hgf := gb_trans HGB.out hg2;clear HO2 hg2 HO;go_wp2_with fail
   go_end0
   exact ⟨rfl,HF.out,hgf⟩
  | cons h hs =>
   have hgb : bh ≠ g := HK4.out;obtain ⟨p0,p1,p2,p3⟩ := HK3.out.at (i := 0) (r := h) rfl;simp only [Nat.zero_mul,Nat.add_zero] at p0 p1 p2 p3;obtain ⟨nn,hnn⟩ : ∃ m,upN lows h.tag = m := ⟨_,rfl⟩
   have hnl : nn ≤ lows.length := by rw [← hnn]; exact upN_le _ _
   have HU : Hid (Calls Tryz.prog 96 #[.slice (some ⟨bl,ol,none⟩) lows.length cl,.int .i64 h.tag] wr fun e w' => e = .returned (.int .i64 (nn : Int)) ∧ w' = wr) := by
    rw [← hnn];exact upto_any (some ⟨bl,ol,none⟩) lows h.tag lows.length cl wr rfl (.inr ⟨_,_,rfl⟩) l1 (by unfold maxLen; omega) HL3.out
   have HM2 : Hid ((done ++ lows.take nn ++ [h]) ++ mergeF (lows.drop nn) hs = R) := by
    show _ = _
    rw [← HM.out,mergeF,hnn]
    simp
   have HTL : Hid ((lows.take nn).length = nn) := by show _ = _; rw [List.length_take]; omega
   have HDL : Hid ((lows.drop nn).length = lows.length - nn) := by show _ = _; rw [List.length_drop]
   obtain ⟨TK,hTK⟩ : ∃ T,lows.take nn = T := ⟨_,rfl⟩;obtain ⟨DR,hDR⟩ : ∃ T,lows.drop nn = T := ⟨_,rfl⟩;have HTK : Hid (lows.take nn = TK) := hTK;have HDR : Hid (lows.drop nn = DR) := hDR;rw [hTK] at HM2 HTL;rw [hDR] at HM2 HDL;clear hTK hDR;obtain ⟨t,k,n',b⟩ := h;simp only at p0 p1 p2 p3 HU;obtain ⟨NL,hNL⟩ : ∃ N,lows.length = N := ⟨_,rfl⟩;obtain ⟨NH,hNH⟩ : ∃ N,hs.length = N := ⟨_,rfl⟩;have HNL : Hid (lows.length = NL) := hNL;have HNH : Hid (hs.length = NH) := hNH;simp only [List.length_cons,hNL,hNH] at HO HOO hlc l1 k1 hnl HU HDL ⊢;have HOE : Hid (oo = done.length * 4) := HOO.out (by omega);clear hnn HM HOO hNL hNH
   have fin : Hid (∀ (al' : Value) (wz : World),InSo al' wz g (DR) → ∀ hv' : Value,InSo hv' wz g hs → OutAt wz g (done ++ TK ++ [⟨t,k,n',b⟩]) (NL + NH - nn) → w.grownBy wz (some g) → ∀ ov' : Value,(∃ oo' c',ov' = .slice (some ⟨g,oo',none⟩) (NL + NH - nn) c' ∧ NL + NH - nn ≤ c' ∧ c' ≤ 1000000 ∧ (0 < NL + NH - nn → oo' = (done.length + nn + 1) * 4)) →
     Hid (∃ (done lows highs : List Fd) (oo c : Nat),ov' = .slice (some ⟨g,oo,none⟩) (lows.length + highs.length) c ∧ lows.length + highs.length ≤ c ∧ c ≤ 1000000 ∧ (0 < lows.length + highs.length → oo = done.length * 4) ∧ InSo al' wz g lows ∧ InSo hv' wz g highs ∧ OutAt wz g done (lows.length + highs.length) ∧ done ++ mergeF lows highs = R ∧ w.grownBy wz (some g))) := by
    intro al' wz i1 hv' i2 i3 i4 ov' ⟨oo',c',e1,e2,e3,e4⟩
    have el : (DR).length + hs.length = NL + NH - nn := by rw [HDL.out,HNH.out]; omega
    refine ⟨done ++ TK ++ [⟨t,k,n',b⟩],DR,hs,oo',c',by rw [el]; exact e1,by rw [el]; exact e2,e3,?_,i1,i2,by rw [el]; exact i3,HM2.out,i4⟩;rw [el];intro h0;rw [e4 h0]
    simp [HTL.out]
    omega
   have sp1 : cl = 0 ∨ (¬ nn = 0 ∧ nn = cl) ∨ (¬ cl = 0 ∧ ¬ nn = cl) := by omega
   have sp2 : ch = 1 ∨ ¬ 1 = ch := by omega
   have sp3 : c = nn + 1 ∨ ¬ nn + 1 = c := by omega
   rcases sp1 with rfl | ⟨q1,rfl⟩ | ⟨q1,q1'⟩ <;> rcases sp2 with rfl | q2 <;> rcases sp3 with rfl | q3
   all_goals
    go_wp2_with fail;refine HU.out.mono ?_;rintro e wu ⟨rfl,rfl⟩
    go_wp2_with (first
     | (refine wpList_copyR rfl _ _ rfl _ _ _ _ _ _ rfl rfl g done _ HO.out (TK) ?c1 ?c2 ?c3 ?_)
     | fail)
    case c1 => rw [HTL.out]; exact (Nat.min_eq_left (by omega)).symm
    case c2 => rw [HTL.out]; omega
    case c3 =>
     intro hne;refine ⟨by rw [HOE.out],_,rfl,?_⟩
     have : HoldsR wu (some ⟨bl,ol,none⟩) (lows.take nn ++ lows.drop nn) := by rw [List.take_append_drop]; exact HL3.out
     rw [← HTK.out];exact this.take
    intro w2 HO2 hg2;rw [HTL.out] at HO2 ⊢;have hgb2 := gb_trans HGB.out hg2;have P := fun o u (hc : wu.cell? ⟨bh,o,none⟩ = some u) => hg2.cell hc (by intro e; exact hgb (by simpa using e))
    replace p0 := P _ _ p0
    replace p1 := P _ _ p1
    replace p2 := P _ _ p2
    replace p3 := P _ _ p3
    have HO2' : Hid (OutAt w2 g (done ++ TK) (NL + NH - nn + 1)) := by
     have := HO2.out;rw [show NL + (NH + 1) - nn = NL + NH - nn + 1 by omega] at this;exact this
    have heo : oo + nn * 4 = (done ++ TK).length * 4 := by rw [List.length_append,HTL.out,HOE.out]; omega
    have rm := fun j (hj : j < 4) => HO2'.out.room j (by omega)
    rw [← heo] at rm;obtain ⟨⟨u0,s0⟩,f0⟩ := rm 0 (by omega);obtain ⟨⟨u1,s1⟩,f1⟩ := rm 1 (by omega);obtain ⟨⟨u2,s2⟩,f2⟩ := rm 2 (by omega);obtain ⟨⟨u3,s3⟩,f3⟩ := rm 3 (by omega);obtain ⟨hput,hg3⟩ := HO2'.out.put t k n' b (oo + nn * 4) heo;have HP : Hid (OutAt _ g _ _) := hput;have HG3 := gb_trans hgb2 hg3;have HLO := HL3.out.grown (gb_trans hg2 hg3) (adr_ne HL4.out);have HHI := HK3.out.grown (gb_trans hg2 hg3) (adr_ne HK4.out);have HH : Hid (OutAt _ g _ _ ∧ World.grownBy w _ (some g) ∧ HoldsR _ _ lows ∧ HoldsR _ _ _) := ⟨hput,HG3,HLO,HHI⟩;clear hput hg3 HG3 HLO HHI HP P rm heo HO2 HO2' hg2 hgb2 HU;simp only [Nat.add_zero] at s0 f0;go_wp2_with fail;generalize ((((w2.setCell ⟨g,oo + nn * 4,none⟩ (.int .i64 t)).setCell ⟨g,oo + nn * 4 + 1,none⟩ (.int .i64 k)).setCell ⟨g,oo + nn * 4 + 2,none⟩ (.int .i64 n')).setCell ⟨g,oo + nn * 4 + 3,none⟩ (.string b)) = w3 at *;clear s0 s1 s2 s3 f0 f1 f2 f3 p0 p1 p2 p3
    go_quiet (fail)
    go_wp2_with fail
    go_roundw
    case rel =>
     refine fin.out _ _ ?_ _ ?_ HH.out.1.drewN (gb_drewN _ HH.out.2.1) _ ⟨_,_,sl_eq rfl (by omega) rfl,by omega,by omega,by intro _; have := HOE.out; omega⟩
     ·first
       | exact by rw [← HDR.out]; exact InSo.rest nn (by rw [HNL.out]; omega) (by rw [HNL.out]; omega) (by omega) HH.out.2.2.1.drewN HL4.out _ (by rw [HDR.out,HDL.out])
       | exact InSo.void _ _ (List.eq_nil_of_length_eq_zero (by rw [HDL.out]; omega)) (by omega) (by omega) HL4.out
     ·first
       | exact InSo.rest 1 (by simp) (by simp [HNH.out]; omega) (by omega) HH.out.2.2.2.drewN HK4.out _ (by simp [HNH.out])
       | exact InSo.void _ _ (List.eq_nil_of_length_eq_zero (by rw [HNH.out]; omega)) (by omega) (by omega) HK4.out
    case measure => simp
theorem OutAt.holds {w : World} {g m : Nat} {l : List Fd} (h : OutAt w g l m) : HoldsR w (some ⟨g,0,none⟩) l := by
 obtain ⟨junk,h1,h2⟩ := h;intro b hb j u hu
 obtain rfl : ⟨g,0,none⟩ = b := by simpa using hb
 rw [Addr.add_lit,Nat.zero_add];simp only [World.cell?,h1];have hj := (List.getElem?_eq_some_iff.1 hu).1
 simp [List.getElem?_append_left hj,hu]
theorem below_drew (w : World) : Below w.heap.size w w.drew := (Below.refl _ _).drew
theorem HoldsR.cut' {w : World} {a : Option Addr} {rs : List Fd} (h : HoldsR w a rs) (k : Nat) : HoldsR w a (rs.take k) := by
 have : HoldsR w a (rs.take k ++ rs.drop k) := by rw [List.take_append_drop]; exact h
 exact this.take
theorem sorted_step (rs : List Fd) (a : Option Addr) (N cap : Nat) (w : World) (hN : rs.length = N) (hl : N ≤ 1000000) (hadr : rs = [] ∨ ∃ g off,a = some ⟨g,off,none⟩) (hc : N ≤ cap) (hm : cap ≤ maxLen) (hh : HoldsR w a rs)
  (IH0 : ∀ (rs' : List Fd) (a : Option Addr) (M cap : Nat) (w : World),rs'.length < N → rs'.length = M → (rs' = [] ∨ ∃ g off,a = some ⟨g,off,none⟩) → M ≤ cap → cap ≤ maxLen → HoldsR w a rs' →
   Calls Tryz.prog 28 #[.slice a M cap] w fun e w' => ∃ g,e = .returned (.slice (some ⟨g,0,none⟩) M M) ∧ w.heap.size ≤ g ∧ g < w'.heap.size ∧ HoldsR w' (some ⟨g,0,none⟩) (sortF rs') ∧ Below w.heap.size w w') :
  Calls Tryz.prog 28 #[.slice a N cap] w fun e w' => ∃ g,e = .returned (.slice (some ⟨g,0,none⟩) N N) ∧ w.heap.size ≤ g ∧ g < w'.heap.size ∧ OutAt w' g (sortF rs) 0 ∧ Below w.heap.size w w' := by
 obtain ⟨i0,hi,hz0,hz1,hz2⟩ := info_parts infoRaw;have hmk := fun W => run_make (P := Tryz.prog) W 31 61 i0 _ Tryz.underlying31 hi hz0 .i64 .i64 (N : Int) (N : Int) (by omega) (Int.le_refl _) (by rw [hz2]; omega) (by omega)
 simp only [Int.toNat_natCast,hz1] at hmk;obtain ⟨Z,hZ⟩ : ∃ Z,madeCells (Value.agg #[.int .i64 0,.int .i64 0,.int .i64 0,.string ⟨#[]⟩]).cells (N * 4) = Z := ⟨_,rfl⟩
 have hZs : Z.size = N * 4 := by rw [← hZ,size_madeCells]
 rw [hZ] at hmk;have HOUT : Hid (OutAt (w.alloc (.cells Z 61)) w.heap.size [] N) := ⟨Z.toList,by rw [rawCells_nil,List.nil_append]; exact heap_alloc_new w _,by simpa using hZs⟩;have HRS : Hid (Calls Tryz.prog 49 #[.slice a N cap] (w.alloc (.cells Z 61)) fun e w' => e = .returned (.bool (risesB rs)) ∧ Below (w.alloc (.cells Z 61)).heap.size (w.alloc (.cells Z 61)) w') := rising_any a rs N cap _ hN hadr hc hm (hh.below (below_one w _));have HN : Hid (rs.length = N) := hN;have HH : Hid (HoldsR w a rs) := hh;have HADR : Hid (rs = [] ∨ ∃ g off,a = some ⟨g,off,none⟩) := hadr;have HM : Hid (cap ≤ maxLen) := hm
 have IH : Hid (∀ (rs' : List Fd) (a : Option Addr) (M cap : Nat) (w : World),rs'.length < N → rs'.length = M → (rs' = [] ∨ ∃ g off,a = some ⟨g,off,none⟩) → M ≤ cap → cap ≤ maxLen → HoldsR w a rs' →
   Calls Tryz.prog 28 #[.slice a M cap] w fun e w' => ∃ g,e = .returned (.slice (some ⟨g,0,none⟩) M M) ∧ w.heap.size ≤ g ∧ g < w'.heap.size ∧ HoldsR w' (some ⟨g,0,none⟩) (sortF rs') ∧ Below w.heap.size w w') := IH0
 obtain ⟨R,hR⟩ : ∃ R,risesB rs = R := ⟨_,rfl⟩;rw [hR] at HRS;have HR : Hid (risesB rs = R) := hR;unfold maxLen at hm;clear hN hadr hh IH0 hZ hZs hR hi hz0 hz1 hz2
 go_enter Tryz.func28,Tryz.ntmps28
 go_wp2_with fail;refine HRS.out.mono ?_;rintro e w2 ⟨rfl,hb2⟩;have HO2 : Hid (OutAt w2 w.heap.size [] N) := HOUT.out.below hb2;have hG2 : w.heap.size < w2.heap.size := HO2.out.lt;have hbw2 : Below w.heap.size w w2 := (below_one w _).trans (hb2.mono (by simp));clear HRS HOUT hb2 hmk
 cases R with
 | true =>
  go_wp2_with (first
   | (refine wpList_copyR rfl _ _ rfl _ _ _ _ _ _ rfl rfl w.heap.size [] N HO2.out rs ?c1 ?c2 ?c3 ?_)
   | fail)
  case c1 => rw [HN.out]; simp
  case c2 => rw [HN.out]; exact Nat.le_refl _
  case c3 =>
   intro hne
   rcases HADR.out with h | ⟨g,off,h⟩
   ·exact absurd h hne
   ·exact ⟨rfl,_,h,by rw [← h]; exact HH.out.below hbw2⟩
  intro w3 HO3 hg3;have hb3 : Below w.heap.size w w3 := hbw2.grown hg3 hbw2.size (fun k hk => by cases hk; exact Nat.le_refl _)
  have HF : Hid (OutAt w3 w.heap.size (sortF rs) 0) := by
   rw [sortF_id HR.out];have := HO3.out
   try rw [List.nil_append] at this
   have hs := HN.out;refine (?_ : OutAt w3 w.heap.size rs 0)
   first | exact this | (rw [hs] at this; simpa using this)
  have hlt3 := HO3.out.lt;clear HO3 hg3 HO2;go_wp2_with fail;go_ret;exact ⟨_,rfl,Nat.le_refl _,hlt3,HF.out,hb3⟩
 | false =>
  have hN2 : 2 ≤ N := by rw [← HN.out]; exact rises_short HR.out
  rcases HADR.out with h | ⟨b,off,rfl⟩
  ·exact absurd hN2 (by rw [← HN.out,h]; simp)
  obtain ⟨half,hhalf⟩ : ∃ h,N / 2 = h := ⟨_,rfl⟩
  have hq : (N : Int) / 2 = (half : Int) := by omega
  have hq' : (N : Int).tdiv 2 = (half : Int) := by rw [Int.tdiv_eq_ediv_of_nonneg (by omega)]; exact hq
  have hh1 : half < N := by omega
  have hh2 : 0 < half := by omega
  obtain ⟨LO,hLO⟩ : ∃ l,rs.take half = l := ⟨_,rfl⟩;obtain ⟨HI,hHI⟩ : ∃ l,rs.drop half = l := ⟨_,rfl⟩
  have HLL : Hid (LO.length = half) := by show _ = _; rw [← hLO,List.length_take,HN.out]; omega
  have HHL : Hid (HI.length = N - half) := by show _ = _; rw [← hHI,List.length_drop,HN.out]
  have HSR : Hid (sortF rs = mergeF (sortF LO) (sortF HI)) := by show _ = _; rw [sortF_on HR.out,HN.out,hhalf,hLO,hHI]
  have CL : Hid (∀ W,Below w.heap.size w W → Calls Tryz.prog 28 #[.slice (some ⟨b,off,none⟩) half cap] W fun e w' => ∃ g,e = .returned (.slice (some ⟨g,0,none⟩) half half) ∧ W.heap.size ≤ g ∧ g < w'.heap.size ∧ HoldsR w' (some ⟨g,0,none⟩) (sortF LO) ∧ Below W.heap.size W w') := fun W hW => IH.out LO _ half cap W (by rw [HLL.out]; exact hh1) HLL.out (.inr ⟨_,_,rfl⟩) (by omega) HM.out (by rw [← hLO]; exact (HH.out.below hW).cut' half)
  have CH : Hid (∀ W,Below w.heap.size w W → Calls Tryz.prog 28 #[.slice (some ⟨b,off + half * 4,none⟩) (N - half) (cap - half)] W fun e w' => ∃ g,e = .returned (.slice (some ⟨g,0,none⟩) (N - half) (N - half)) ∧ W.heap.size ≤ g ∧ g < w'.heap.size ∧ HoldsR w' (some ⟨g,0,none⟩) (sortF HI) ∧ Below W.heap.size W w') := fun W hW => IH.out HI _ (N - half) (cap - half) W (by rw [HHL.out]; omega) HHL.out (.inr ⟨_,_,rfl⟩) (by omega) (by unfold maxLen; omega) (by rw [← hHI]; exact (HH.out.below hW).drop half)
  have e1 : ¬ half = cap := by omega
  have e1' : ¬ cap = half := by omega
  have e2 : (half : Int) ≤ (cap : Int) := by omega
  have e3 : (half : Int) ≤ (N : Int) := by omega
  have e4 : half ≤ N := by omega
  have e5 : half ≤ cap := by omega
  clear hhalf hLO hHI HH IH HADR HR;go_wp2_with fail;have hS : Below w.heap.size w w2.drew := hbw2.drew;refine wp_region_held_drew (S := fun w' => Below w.heap.size w w') (by kernel_rfl) hS (fun hS => ?_);refine rg_tk 0 17 (.slice (some ⟨w.heap.size,0,none⟩) N N) (fun w' hw' => ?_) hS (bts 10 1) ?_
  ·go_simp
  refine rg_tk 1 18 (.slice (some ⟨b,off,none⟩) N cap) (fun w' hw' => ?_) hS (bts 10 3) ?_
  ·go_simp
  refine rg_tk 2 19 (.int .i64 (half : Int)) (fun w' hw' => ?_) hS (bts 10 7) ?_
  ·go_simp
  refine rg_tk 3 20 (.slice (some ⟨b,off,none⟩) half cap) (fun w' hw' => ?_) hS (bts 10 15) ?_
  ·go_simp
  refine rg_tk 5 22 (.slice (some ⟨b,off,none⟩) N cap) (fun w' hw' => ?_) hS (bts 10 47) ?_
  ·go_simp
  refine rg_tk 6 23 (.int .i64 (half : Int)) (fun w' hw' => ?_) hS (bts 10 111) ?_
  ·go_simp
  refine rg_tk 7 24 (.slice (some ⟨b,off + half * 4,none⟩) (N - half) (cap - half)) (fun w' hw' => ?_) hS (bts 10 239) ?_
  ·go_simp
  refine rg_cl 4 21 28 #[.slice (some ⟨b,off,none⟩) half cap] (bts 10 255) rfl (fun w' => by go_simp) ?_;refine (CL.out _ hS).mono ?_;rintro e w3 ⟨g1,rfl,n1,m1,hh1,hb1⟩;have hO3 := HO2.out.below ((below_drew w2).trans (hb1.mono (by simp)));have hS3 : Below w.heap.size w w3 := hS.trans (hb1.mono hS.size);refine ⟨_,rfl,hS3,?_⟩;have hS := hS3;simp only [zsA,zsZ,zsS];refine rg_cl 8 25 28 #[.slice (some ⟨b,off + half * 4,none⟩) (N - half) (cap - half)] (bts 10 511) rfl (fun w' => by go_simp) ?_;refine (CH.out _ hS).mono ?_;rintro e w4 ⟨g2,rfl,n2,m2,hh2,hb2⟩;have hO4 := hO3.below hb2;have hh1' := hh1.below hb2;have hS4 : Below w.heap.size w w4 := hS3.trans (hb2.mono hS3.size);refine ⟨_,rfl,hS4,?_⟩
  have hG1 : g1 ≠ w.heap.size := by have := hG2; have : w2.heap.size ≤ g1 := n1; omega
  have hG2' : g2 ≠ w.heap.size := by have := hG2; have := hb1.size; have : w2.heap.size ≤ w3.heap.size := this; omega
  have hM := merge_any w.heap.size (.slice (some ⟨g1,0,none⟩) half half) (.slice (some ⟨g2,0,none⟩) (N - half) (N - half)) (sortF LO) (sortF HI) w4 N (by rw [(sortF_all _ LO (Nat.le_refl _)).2.1,(sortF_all _ HI (Nat.le_refl _)).2.1,HLL.out,HHL.out]; omega) hl hO4
   ⟨g1,0,half,by rw [(sortF_all _ LO (Nat.le_refl _)).2.1,HLL.out],by rw [(sortF_all _ LO (Nat.le_refl _)).2.1,HLL.out]; exact Nat.le_refl _,by omega,hh1',hG1⟩
   ⟨g2,0,N - half,by rw [(sortF_all _ HI (Nat.le_refl _)).2.1,HHL.out],by rw [(sortF_all _ HI (Nat.le_refl _)).2.1,HHL.out]; exact Nat.le_refl _,by omega,hh2,hG2'⟩
  simp only [zsA,zsZ,zsS];refine rg_cl 9 26 50 #[.slice (some ⟨w.heap.size,0,none⟩) N N,.slice (some ⟨g1,0,none⟩) half half,.slice (some ⟨g2,0,none⟩) (N - half) (N - half)] (bts 10 1023) rfl (fun w' => by go_simp) ?_;refine hM.mono ?_;rintro e w5 ⟨rfl,hO5,hg5⟩;have hS5 : Below w.heap.size w w5 := hS4.grown hg5 hS4.size (fun k hk => by cases hk; exact Nat.le_refl _);refine ⟨_,rfl,hS5,?_⟩;simp only [zsA,zsZ,zsS];refine wpAnyH_done (by kernel_rfl) ?_ _
  have HF : Hid (OutAt w5 w.heap.size (sortF rs) 0) := by
   rw [HSR.out];exact hO5
  have hlt5 := hO5.lt;clear hM hO5 hg5 hO4 hO3 hh1 hh1' hh2;go_wp2_with fail;go_ret;exact ⟨_,rfl,Nat.le_refl _,hlt5,HF.out,hS5⟩
theorem SortP.weak {N : Nat} {rs : List Fd} {w : World} (e : Ending) (w' : World) (h : ∃ g,e = .returned (.slice (some ⟨g,0,none⟩) N N) ∧ w.heap.size ≤ g ∧ g < w'.heap.size ∧ OutAt w' g (sortF rs) 0 ∧ Below w.heap.size w w') :
  ∃ g,e = .returned (.slice (some ⟨g,0,none⟩) N N) ∧ w.heap.size ≤ g ∧ g < w'.heap.size ∧ HoldsR w' (some ⟨g,0,none⟩) (sortF rs) ∧ Below w.heap.size w w' := by
 obtain ⟨g,h1,h2,h3,h4,h5⟩ := h;exact ⟨g,h1,h2,h3,h4.holds,h5⟩
theorem sorted_any : ∀ (K : Nat) (rs : List Fd) (a : Option Addr) (N cap : Nat) (w : World),rs.length ≤ K → rs.length = N → N ≤ 1000000 → (rs = [] ∨ ∃ g off,a = some ⟨g,off,none⟩) → N ≤ cap → cap ≤ maxLen → HoldsR w a rs →
  Calls Tryz.prog 28 #[.slice a N cap] w fun e w' => ∃ g,e = .returned (.slice (some ⟨g,0,none⟩) N N) ∧ w.heap.size ≤ g ∧ g < w'.heap.size ∧ HoldsR w' (some ⟨g,0,none⟩) (sortF rs) ∧ Below w.heap.size w w'
 | 0,rs,a,N,cap,w,hK,hN,hl,hadr,hc,hm,hh => sorted_step rs a N cap w hN hl hadr hc hm hh (fun rs' _ _ _ _ h => absurd h (by omega)) |>.mono SortP.weak
 | K + 1,rs,a,N,cap,w,hK,hN,hl,hadr,hc,hm,hh => sorted_step rs a N cap w hN hl hadr hc hm hh (fun rs' a' M cap' w' h1 h2 h3 h4 h5 h6 => sorted_any K rs' a' M cap' w' (by omega) h2 (by omega) h3 h4 h5 h6) |>.mono SortP.weak
theorem sorted_out (rs : List Fd) (a : Option Addr) (N cap : Nat) (w : World) (hN : rs.length = N) (hl : N ≤ 1000000) (hadr : rs = [] ∨ ∃ g off,a = some ⟨g,off,none⟩) (hc : N ≤ cap) (hm : cap ≤ maxLen) (hh : HoldsR w a rs) :
  Calls Tryz.prog 28 #[.slice a N cap] w fun e w' => ∃ g,e = .returned (.slice (some ⟨g,0,none⟩) N N) ∧ w.heap.size ≤ g ∧ g < w'.heap.size ∧ OutAt w' g (sortF rs) 0 ∧ Below w.heap.size w w' :=
 sorted_step rs a N cap w hN hl hadr hc hm hh (fun rs' a' M cap' w' h1 h2 h3 h4 h5 h6 => sorted_any rs'.length rs' a' M cap' w' (Nat.le_refl _) h2 (by omega) h3 h4 h5 h6)
end
end Go.Proofs.YtiajaocckkghgaaGreat
