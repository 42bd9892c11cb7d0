/- Part 8 of what the proof stands on. -/
import Derived.Test.YtiajaocckkghgabGreatPkSAG
import Derived.Lib.ConvBytes
import Derived.Laws.ResultCell
namespace Go.Proofs.YtiajaocckkghgabGreat
set_option maxHeartbeats 8000000
set_option linter.unusedVariables false
set_option linter.unusedSimpArgs false
set_option maxRecDepth 20000
section
open Go.ChangeShapes Go.WideShapes Go.ChangeAt Go.RowKit
def DtrP (n : Nat) (R : Tr × Int) (w : World) (e : Ending) (w' : World) : Prop :=
 ∃ r bs,e = .returned (.tuple #[.agg r.toArray,.int .i64 R.2]) ∧ TrO n w.heap.size w' r R.1 bs ∧ Apt w.heap.size w' bs ∧ Below w.heap.size w w'
theorem kept_cellD {w : World} {a : Addr} {u : Value} (h : w.cell? a = some u) (x : Kept w.heap.size w) : x.w.cell? a = some u := by
 rw [x.below.cell (World.block_lt_of_cell? _ _ h)]; exact h
def ByS (w : World) (v : Value) (ns : List Nat) : Prop := ∃ a cap,v = .slice a ns.length cap ∧ Holds w a ns ∧ (∀ n ∈ ns,n < 256) ∧ ns.length ≤ cap ∧ cap ≤ maxLen ∧ (ns = [] ∨ ∃ g off,a = some ⟨g,off,none⟩)
theorem ByS.below {w w' : World} {v : Value} {ns : List Nat} (h : ByS w v ns) (hb : Below w.heap.size w w') : ByS w' v ns := by
 obtain ⟨a,cap,h1,h2,h3⟩ := h;exact ⟨a,cap,h1,h2.below hb,h3⟩
theorem is64_0 : Is64 0 := by unfold Is64; omega
theorem is64_1 : Is64 1 := by unfold Is64; omega
theorem is64_2 : Is64 2 := by unfold Is64; omega
theorem TrO.leafO (n B : Nat) (W : World) (t : Tr) (he : t.es = []) (hr : t.rest = []) (h1 : Is64 t.kind) (h2 : Is64 t.n) (h3 : t.s.size ≤ 140737488351232) : TrO (n + 1) B W [.int .i64 t.kind,.int .i64 t.n,.string t.s,.slice none 0 0,.slice none 0 0] t [] := by
 refine ⟨.slice none 0 0,.slice none 0 0,[],[],rfl,h1,h2,h3,(by rw [hr]; intro f hf; cases hf),(by rw [hr]; exact World.ownsRow_nil _ _ _ _),(by rw [he]; exact RowO.nil _ _ _ _ _),rfl⟩
theorem TrO.zeroO (n B : Nat) (W : World) : TrO (n + 1) B W [.int .i64 0,.int .i64 0,.string ⟨#[]⟩,.slice none 0 0,.slice none 0 0] tr0 [] := TrO.leafO n B W tr0 rfl rfl is64_0 is64_0 (by decide)
theorem DtrP.done {n b : Nat} {w W : World} {R : Tr × Int} {x0 x1 x2 x3 x4 : Value} {bs : List Nat} {y : Int} (hB : Below w.heap.size w W) (hb : w.heap.size ≤ b) (ht : TrO n w.heap.size W [x0,x1,x2,x3,x4] R.1 bs) (hap : Apt w.heap.size W bs) (hn : b ∉ bs) (hy : R.2 = y) :
  DtrP n R w (.returned (.tuple #[.agg #[x0,x1,x2,x3,x4],.int .i64 y])) (set5 W b 0 x0 x1 x2 x3 x4) := by
 have hk := set5_kp W b 0 x0 x1 x2 x3 x4;subst hy;refine ⟨_,bs,rfl,ht.sm (hk.sm fun k hk' => ⟨(hap.2 k hk').2,fun e => hn (e ▸ hk')⟩),hap.mono hk.size,?_⟩;exact hB.trans (hk.toBelow hB.size fun k e => e ▸ hb)
theorem conv_bytes (W : World) (S : ByteArray) (hS : S.size ≤ 140737488351232) : ∃ cap WB,(convert 9 45 (.string S)).run Tryz.prog W = .ok (.slice (some ⟨W.heap.size,0,none⟩) S.size cap) WB ∧ ByS WB (.slice (some ⟨W.heap.size,0,none⟩) S.size cap) (bytesN S) ∧ Below W.heap.size W WB := by
 have hm : S.size ≤ maxLen := by unfold maxLen; omega
 refine ⟨_,_,Lib.run_convert_string_bytes W 9 45 5 S Tryz.underlying9 Tryz.underlying45 Tryz.underlying5,⟨some ⟨W.heap.size,0,none⟩,_,by rw [bytesN_len],?_,bytesN_lt S,by rw [bytesN_len]; exact grownCap_ge _ _ _ _,grownCap_le_maxLen _ _ _ _ hm,.inr ⟨_,_,rfl⟩⟩,?_⟩
 ·refine Holds.of fun j hj => ?_
  rw [bytesN_len] at hj;rw [Nat.zero_add];refine (Lib.bytesWorld_cell W _ S j hj).trans ?_
  have hj' : j < S.data.toList.length := by simpa using hj
  have hj2 : j < (bytesN S).length := by rw [bytesN_len]; exact hj
  simp [bytesN,List.getD,List.getElem?_eq_getElem hj',List.getElem?_eq_getElem hj2]
 ·exact ⟨rfl,rfl,rfl,by rw [Lib.bytesWorld_size]; omega,fun k hk => Lib.bytesWorld_at_old W _ S k hk⟩
theorem dblk4 (w : World) (c1 c2 c3 c4 : Array Value) (t1 t2 t3 t4 : TypeId) : Blk ((((w.alloc (Obj.cells c1 t1)).alloc (Obj.cells c2 t2)).alloc (Obj.cells c3 t3)).alloc (Obj.cells c4 t4)) w.heap.size c1 t1 ∧ Blk ((((w.alloc (Obj.cells c1 t1)).alloc (Obj.cells c2 t2)).alloc (Obj.cells c3 t3)).alloc (Obj.cells c4 t4)) (w.heap.size + 1) c2 t2 ∧ Blk ((((w.alloc (Obj.cells c1 t1)).alloc (Obj.cells c2 t2)).alloc (Obj.cells c3 t3)).alloc (Obj.cells c4 t4)) (w.heap.size + 2) c3 t3 ∧ Blk ((((w.alloc (Obj.cells c1 t1)).alloc (Obj.cells c2 t2)).alloc (Obj.cells c3 t3)).alloc (Obj.cells c4 t4)) (w.heap.size + 3) c4 t4 ∧ Below w.heap.size w ((((w.alloc (Obj.cells c1 t1)).alloc (Obj.cells c2 t2)).alloc (Obj.cells c3 t3)).alloc (Obj.cells c4 t4)) := by
 have s1 : (w.alloc (Obj.cells c1 t1)).heap.size = w.heap.size + 1 := by simp
 have s2 : ((w.alloc (Obj.cells c1 t1)).alloc (Obj.cells c2 t2)).heap.size = w.heap.size + 2 := by simp
 have s3 : (((w.alloc (Obj.cells c1 t1)).alloc (Obj.cells c2 t2)).alloc (Obj.cells c3 t3)).heap.size = w.heap.size + 3 := by simp
 have al : ∀ (W : World) (x : Obj),Below W.heap.size W (W.alloc x) := fun W x => (Below.refl _ _).alloc (Nat.le_refl _) _
 have b1 := Blk.new w c1 t1;have b2 := Blk.new (w.alloc (Obj.cells c1 t1)) c2 t2;have b3 := Blk.new ((w.alloc (Obj.cells c1 t1)).alloc (Obj.cells c2 t2)) c3 t3;have b4 := Blk.new (((w.alloc (Obj.cells c1 t1)).alloc (Obj.cells c2 t2)).alloc (Obj.cells c3 t3)) c4 t4;rw [s1] at b2;rw [s2] at b3;rw [s3] at b4;refine ⟨((b1.below (al _ _)).below (al _ _)).below (al _ _),(b2.below (al _ _)).below (al _ _),b3.below (al _ _),b4,?_⟩;exact ((((Below.refl _ w).alloc (Nat.le_refl _) _).alloc (by omega) _).alloc (by omega) _).alloc (by omega) _
theorem dtree_step (s : ScS) (sn : ByteArray) (ma ea ta : Option Addr) (mn mc en ec tn tc : Nat) (d n : Nat) (hd : d + n = 10)
  (IH : d < 10 → ∀ nm v ns w,ByS w v ns → ScIn w (.agg #[.string sn,.slice ma mn mc,.slice ea en ec,.slice ta tn tc]) s → Calls Tryz.prog 29 #[.agg #[.string sn,.slice ma mn mc,.slice ea en ec,.slice ta tn tc],.string nm,v,.int .i64 ((d : Int) + 1)] w (DtrP (n + 1) (decM n s nm ns) w))
  (f : FlS) (r : Fd) (w : World) (hs : ScIn w (.agg #[.string sn,.slice ma mn mc,.slice ea en ec,.slice ta tn tc]) s) (h64 : Is64 r.n) (hsz : r.b.size ≤ 140737488351232) :
  Calls Tryz.prog 58 #[.agg #[.string sn,.slice ma mn mc,.slice ea en ec,.slice ta tn tc],.agg #[.int .i64 f.kind,.string f.tname],.agg #[.int .i64 r.tag,.int .i64 r.wire,.int .i64 r.n,.string r.b],.int .i64 (d : Int)] w (DtrP (n + 1) (treeD (decM n s) f r) w) := by
 obtain ⟨k,hk⟩ : ∃ z,f.kind = z := ⟨_,rfl⟩;obtain ⟨tnm,htnm⟩ : ∃ z,f.tname = z := ⟨_,rfl⟩;obtain ⟨rt,hrt⟩ : ∃ z,r.tag = z := ⟨_,rfl⟩;obtain ⟨rw',hrw⟩ : ∃ z,r.wire = z := ⟨_,rfl⟩;obtain ⟨rn,hrn⟩ : ∃ z,r.n = z := ⟨_,rfl⟩;obtain ⟨rb,hrb⟩ : ∃ z,r.b = z := ⟨_,rfl⟩;obtain ⟨R,hR⟩ : ∃ R,treeD (decM n s) f r = R := ⟨_,rfl⟩
 have HV : Hid ((if rw' ≠ wirK k then (tr0,8) else if (k = 3 ∨ k = 6) ∧ nmrB k rn = false then (tr0,11) else if k = 4 ∧ validB rb.data.toList = false then (tr0,9) else if k = 7 then decM n s tnm (bytesN rb) else (leafD r,0)) = R) := (by
  have := hR; simp only [treeD,hk,htnm,hrw,hrn,hrb] at this; exact this : (if rw' ≠ wirK k then (tr0,8) else if (k = 3 ∨ k = 6) ∧ nmrB k rn = false then (tr0,11) else if k = 4 ∧ validB rb.data.toList = false then (tr0,9) else if k = 7 then decM n s tnm (bytesN rb) else (leafD r,0)) = R)
 rw [hR,hk,htnm,hrt,hrw,hrn,hrb];obtain ⟨T,hT⟩ : ∃ T,leafD r = T := ⟨_,rfl⟩
 have HLF : Hid (∀ W,Calls Tryz.prog 84 #[.agg #[.int .i64 rt,.int .i64 rw',.int .i64 rn,.string rb]] W fun e w' => e = .returned (.agg #[.int .i64 T.kind,.int .i64 T.n,.string T.s,.slice none 0 0,.slice none 0 0]) ∧ Below W.heap.size W w') := fun W => by
  have h1 := leaf_any r.tag r.wire r.n r.b W;have h2 : leafD ⟨r.tag,r.wire,r.n,r.b⟩ = T := hT;rw [h2,hrt,hrw,hrn,hrb] at h1;exact h1
 have HTO : Hid (∀ W B,TrO (n + 1) B W [.int .i64 T.kind,.int .i64 T.n,.string T.s,.slice none 0 0,.slice none 0 0] T []) := (fun W B => by
  rw [← hT]
  by_cases h1 : r.wire = 1
  ·have e : leafD r = ⟨2,0,r.b,[],[]⟩ := by simp [leafD,h1]
   rw [e];exact TrO.leafO n B W ⟨2,0,r.b,[],[]⟩ rfl rfl is64_2 is64_0 hsz
  ·have e : leafD r = ⟨1,r.n,⟨#[]⟩,[],[]⟩ := by simp [leafD,h1]
   rw [e]
   exact TrO.leafO n B W ⟨1,r.n,⟨#[]⟩,[],[]⟩ rfl rfl is64_1 h64 (show (0 : Nat) ≤ 140737488351232 by omega) : ∀ W B,TrO (n + 1) B W [.int .i64 T.kind,.int .i64 T.n,.string T.s,.slice none 0 0,.slice none 0 0] T [])
 rw [hT] at HV;rw [hrb] at hsz;have HS : Hid (ScIn w (.agg #[.string sn,.slice ma mn mc,.slice ea en ec,.slice ta tn tc]) s) := hs;have HI : Hid (d < 10 → ∀ nm v ns w,ByS w v ns → ScIn w (.agg #[.string sn,.slice ma mn mc,.slice ea en ec,.slice ta tn tc]) s → Calls Tryz.prog 29 #[.agg #[.string sn,.slice ma mn mc,.slice ea en ec,.slice ta tn tc],.string nm,v,.int .i64 ((d : Int) + 1)] w (DtrP (n + 1) (decM n s nm ns) w)) := IH
 have hd10 : d ≤ 10 := by omega
 have HD : Hid (d + n = 10) := hd;have HSZ : Hid (rb.size ≤ 140737488351232) := hsz;generalize rw' = rw at *;clear hk htnm hrt hrw hrn hrb hR hT hs IH h64 hsz hd;obtain ⟨BS,BY,BR,BT,hbw⟩ := dblk4 w #[.string sn,.slice ma mn mc,.slice ea en ec,.slice ta tn tc] #[.int .i64 k,.string tnm] #[.int .i64 rt,.int .i64 rw,.int .i64 rn,.string rb] #[.int .i64 0,.int .i64 0,.string ⟨#[]⟩,.slice none 0 0,.slice none 0 0] 26 54 44 39;obtain ⟨wk,hwk⟩ : ∃ z,wirK k = z := ⟨_,rfl⟩
 have HKC : Hid (∀ W,Calls Tryz.prog 81 #[.agg #[.int .i64 k,.string tnm]] W fun e w' => e = .returned (.int .i64 wk) ∧ Below W.heap.size W w') := fun W => by
  have h1 := wireOf_any k tnm W;rw [hwk] at h1;exact h1
 rw [hwk] at HV;clear hwk
 go_enter Tryz.func58,Tryz.ntmps58
 go_wp2_with fail;obtain ⟨b0,hb0⟩ : ∃ z,w.heap.size = z := ⟨_,rfl⟩;have HBZ : Hid (w.heap.size = b0) := hb0;generalize ((((w.alloc (Obj.cells #[.string sn,.slice ma mn mc,.slice ea en ec,.slice ta tn tc] 26)).alloc (Obj.cells #[.int .i64 k,.string tnm] 54)).alloc (Obj.cells #[.int .i64 rt,.int .i64 rw,.int .i64 rn,.string rb] 44)).alloc (Obj.cells #[.int .i64 0,.int .i64 0,.string ⟨#[]⟩,.slice none 0 0,.slice none 0 0] 39)) = WA at *;rw [hb0] at BS BY BR BT;simp only [hb0];clear hb0;have y0 := (BY.cell 0).trans rfl;have y1 := (BY.cell 1).trans rfl;have q1 := (BR.cell 1).trans rfl;have k0 := kept_cellD y0;have k1 := kept_cellD y1;have k2 := kept_cellD q1;clear y0 y1 q1
 have HKD : Hid (∀ W1,Below WA.heap.size WA W1 → Calls Tryz.prog 81 #[.agg #[.int .i64 k,.string tnm]] W1 fun e w' => e = .returned (.int .i64 wk) ∧ Below WA.heap.size WA w') := fun W1 hW1 => by
  refine (HKC.out W1).mono ?_;rintro e W' ⟨rfl,hb⟩;exact ⟨rfl,hW1.trans (hb.mono hW1.size)⟩
 have HBT : Hid (Blk WA (b0 + 3) #[.int .i64 0,.int .i64 0,.string ⟨#[]⟩,.slice none 0 0,.slice none 0 0] 39) := BT
 have FIN : Hid (∀ (W : World) (x0 x1 x2 x3 x4 : Value) (bs : List Nat) (y : Int),Below WA.heap.size WA W → TrO (n + 1) w.heap.size W [x0,x1,x2,x3,x4] R.1 bs → Apt w.heap.size W bs → b0 + 3 ∉ bs → R.2 = y → DtrP (n + 1) R w (.returned (.tuple #[.agg #[x0,x1,x2,x3,x4],.int .i64 y])) (set5 W (b0 + 3) 0 x0 x1 x2 x3 x4)) := fun W x0 x1 x2 x3 x4 bs y hW h1 h2 h3 h4 =>
  DtrP.done (hbw.trans (hW.mono hbw.size)) (by have := HBZ.out; omega) h1 h2 h3 h4
 have ZFIN : Hid (∀ (W : World) (y : Int),Below WA.heap.size WA W → R = (tr0,y) → DtrP (n + 1) R w (.returned (.tuple #[.agg #[.int .i64 0,.int .i64 0,.string ⟨#[]⟩,.slice none 0 0,.slice none 0 0],.int .i64 y])) (set5 W (b0 + 3) 0 (.int .i64 0) (.int .i64 0) (.string ⟨#[]⟩) (.slice none 0 0) (.slice none 0 0))) := fun W y hW hR =>
  FIN.out W _ _ _ _ _ [] y hW (by rw [hR]; exact TrO.zeroO n _ W) (Apt.nil _ _) (by simp) (by rw [hR])
 haveI := nonempty_qb (Below.refl WA.heap.size WA)
 refine wp_region_qb (Below.refl WA.heap.size WA) (by kernel_rfl) (by kernel_rfl) ?_
 repeat (go_big_quiet_step (first | (go_at_call 81; exact qb_call HKD.out)))
 refine wpQuiet_nil ?_;rintro W1 ⟨⟨_,hW1⟩,rfl⟩;clear k0 k1 k2 HKD HKC;have BS1 := BS.below hW1;have s0 := (BS1.cell 0).trans rfl;have s1 := (BS1.cell 1).trans rfl;have s2 := (BS1.cell 2).trans rfl;have s3 := (BS1.cell 3).trans rfl;clear BS1;have BY1 := BY.below hW1;have y0 := (BY1.cell 0).trans rfl;have y1 := (BY1.cell 1).trans rfl;clear BY1;have BR1 := BR.below hW1;have q0 := (BR1.cell 0).trans rfl;have q1 := (BR1.cell 1).trans rfl;have q2 := (BR1.cell 2).trans rfl;have q3 := (BR1.cell 3).trans rfl;clear BR1;have BT1 := BT.below hW1;have t0 := (BT1.cell 0).trans rfl;have t1 := (BT1.cell 1).trans rfl;have t2 := (BT1.cell 2).trans rfl;have t3 := (BT1.cell 3).trans rfl;have t4 := (BT1.cell 4).trans rfl;have z0 := BT1.froz 0;have z1 := BT1.froz 1;have z2 := BT1.froz 2;have z3 := BT1.froz 3;have z4 := BT1.froz 4;clear BT1
 by_cases hne : rw = wk
 rotate_left
 ·have hq : (rw != wk) = true := by simpa using hne
  have HX : Hid (R = (tr0,8)) := (by rw [← HV.out,if_pos hne] : R = (tr0,8));clear hne;go_wp2_with fail;refine bodyPost_ret (results_two rfl _ _ _ ⟨b0 + 3,0,none⟩ (.agg #[.int .i64 0,.int .i64 0,.string ⟨#[]⟩,.slice none 0 0,.slice none 0 0]) (by go_simp) (by go_simp)) rfl ?_;exact ZFIN.out W1 _ hW1 HX.out
 have hq : (rw != wk) = false := by simpa using hne
 have HV2 : Hid ((if (k = 3 ∨ k = 6) ∧ nmrB k rn = false then (tr0,11) else if k = 4 ∧ validB rb.data.toList = false then (tr0,9) else if k = 7 then decM n s tnm (bytesN rb) else (T,0)) = R) := (by have := HV.out; rwa [if_neg (by simpa using hne)] at this : (if (k = 3 ∨ k = 6) ∧ nmrB k rn = false then (tr0,11) else if k = 4 ∧ validB rb.data.toList = false then (tr0,9) else if k = 7 then decM n s tnm (bytesN rb) else (T,0)) = R);clear hne HV
 by_cases hk3 : k = 3
 ·subst hk3
  cases hR : nmrB 3 rn with
  | false =>
   have HX : Hid (R = (tr0,11)) := (by rw [← HV2.out,if_pos ⟨by decide,hR⟩] : R = (tr0,11));have HN : Hid (Calls Tryz.prog 82 #[.agg #[.int .i64 3,.string tnm],.int .i64 rn] W1 fun e w' => e = .returned (.bool false) ∧ Below W1.heap.size W1 w') := (by have h1 := number_any 3 rn tnm W1; rw [hR] at h1; exact h1 : Calls Tryz.prog _ _ W1 _);clear hR;go_wp2_with fail;refine HN.out.mono ?_;rintro e W2 ⟨rfl,hb2⟩;have hW2 : Below WA.heap.size WA W2 := hW1.trans (hb2.mono hW1.size);clear HN hb2;clear s0 s1 s2 s3 y0 y1 q0 q1 q2 q3 t0 t1 t2 t3 t4 z0 z1 z2 z3 z4;have BR2 := BR.below hW2;have q0 := (BR2.cell 0).trans rfl;have q1 := (BR2.cell 1).trans rfl;have q2 := (BR2.cell 2).trans rfl;have q3 := (BR2.cell 3).trans rfl;clear BR2;have BY2 := BY.below hW2;have y0 := (BY2.cell 0).trans rfl;have y1 := (BY2.cell 1).trans rfl;clear BY2;have BT2 := BT.below hW2;have t0 := (BT2.cell 0).trans rfl;have t1 := (BT2.cell 1).trans rfl;have t2 := (BT2.cell 2).trans rfl;have t3 := (BT2.cell 3).trans rfl;have t4 := (BT2.cell 4).trans rfl;have z0 := BT2.froz 0;have z1 := BT2.froz 1;have z2 := BT2.froz 2;have z3 := BT2.froz 3;have z4 := BT2.froz 4;clear BT2;go_wp2_with fail;refine bodyPost_ret (results_two rfl _ _ _ ⟨b0 + 3,0,none⟩ (.agg #[.int .i64 0,.int .i64 0,.string ⟨#[]⟩,.slice none 0 0,.slice none 0 0]) (by go_simp) (by go_simp)) rfl ?_;exact ZFIN.out W2 _ hW2 HX.out
  | true =>
   have HX : Hid (R = (T,0)) := (by rw [← HV2.out,if_neg (by rw [hR]; simp),if_neg (by simp),if_neg (by decide)] : R = (T,0));have HN : Hid (Calls Tryz.prog 82 #[.agg #[.int .i64 3,.string tnm],.int .i64 rn] W1 fun e w' => e = .returned (.bool true) ∧ Below W1.heap.size W1 w') := (by have h1 := number_any 3 rn tnm W1; rw [hR] at h1; exact h1 : Calls Tryz.prog _ _ W1 _);clear hR;go_wp2_with fail;refine HN.out.mono ?_;rintro e W2 ⟨rfl,hb2⟩;have hW2 : Below WA.heap.size WA W2 := hW1.trans (hb2.mono hW1.size);clear HN hb2;clear s0 s1 s2 s3 y0 y1 q0 q1 q2 q3 t0 t1 t2 t3 t4 z0 z1 z2 z3 z4;have BR2 := BR.below hW2;have q0 := (BR2.cell 0).trans rfl;have q1 := (BR2.cell 1).trans rfl;have q2 := (BR2.cell 2).trans rfl;have q3 := (BR2.cell 3).trans rfl;clear BR2;have BY2 := BY.below hW2;have y0 := (BY2.cell 0).trans rfl;have y1 := (BY2.cell 1).trans rfl;clear BY2;have BT2 := BT.below hW2;have t0 := (BT2.cell 0).trans rfl;have t1 := (BT2.cell 1).trans rfl;have t2 := (BT2.cell 2).trans rfl;have t3 := (BT2.cell 3).trans rfl;have t4 := (BT2.cell 4).trans rfl;have z0 := BT2.froz 0;have z1 := BT2.froz 1;have z2 := BT2.froz 2;have z3 := BT2.froz 3;have z4 := BT2.froz 4;clear BT2;have HLW : Hid (Calls Tryz.prog 84 #[.agg #[.int .i64 rt,.int .i64 rw,.int .i64 rn,.string rb]] W2 fun e w' => e = .returned (.agg #[.int .i64 T.kind,.int .i64 T.n,.string T.s,.slice none 0 0,.slice none 0 0]) ∧ Below W2.heap.size W2 w') := HLF.out W2;go_wp2_with fail;refine HLW.out.mono ?_;rintro e W5 ⟨rfl,hb5⟩;have hW5 : Below WA.heap.size WA W5 := hW2.trans (hb5.mono hW2.size);clear hb5 HLW;clear q0 q1 q2 q3 y0 y1 t0 t1 t2 t3 t4 z0 z1 z2 z3 z4;have BT5 := BT.below hW5;have t0 := (BT5.cell 0).trans rfl;have t1 := (BT5.cell 1).trans rfl;have t2 := (BT5.cell 2).trans rfl;have t3 := (BT5.cell 3).trans rfl;have t4 := (BT5.cell 4).trans rfl;have z0 := BT5.froz 0;have z1 := BT5.froz 1;have z2 := BT5.froz 2;have z3 := BT5.froz 3;have z4 := BT5.froz 4;clear BT5;go_wp2_with fail;refine bodyPost_ret (results_two rfl _ _ _ ⟨b0 + 3,0,none⟩ (.agg #[.int .i64 T.kind,.int .i64 T.n,.string T.s,.slice none 0 0,.slice none 0 0]) (by go_simp) (by go_simp)) rfl ?_;exact FIN.out W5 _ _ _ _ _ [] _ hW5 (by rw [HX.out]; exact HTO.out _ _) (Apt.nil _ _) (by simp) (by rw [HX.out])
 by_cases hk6 : k = 6
 ·subst hk6
  cases hR : nmrB 6 rn with
  | false =>
   have HX : Hid (R = (tr0,11)) := (by rw [← HV2.out,if_pos ⟨by decide,hR⟩] : R = (tr0,11));have HN : Hid (Calls Tryz.prog 82 #[.agg #[.int .i64 6,.string tnm],.int .i64 rn] W1 fun e w' => e = .returned (.bool false) ∧ Below W1.heap.size W1 w') := (by have h1 := number_any 6 rn tnm W1; rw [hR] at h1; exact h1 : Calls Tryz.prog _ _ W1 _);clear hR;go_wp2_with fail;refine HN.out.mono ?_;rintro e W2 ⟨rfl,hb2⟩;have hW2 : Below WA.heap.size WA W2 := hW1.trans (hb2.mono hW1.size);clear HN hb2;clear s0 s1 s2 s3 y0 y1 q0 q1 q2 q3 t0 t1 t2 t3 t4 z0 z1 z2 z3 z4;have BR2 := BR.below hW2;have q0 := (BR2.cell 0).trans rfl;have q1 := (BR2.cell 1).trans rfl;have q2 := (BR2.cell 2).trans rfl;have q3 := (BR2.cell 3).trans rfl;clear BR2;have BY2 := BY.below hW2;have y0 := (BY2.cell 0).trans rfl;have y1 := (BY2.cell 1).trans rfl;clear BY2;have BT2 := BT.below hW2;have t0 := (BT2.cell 0).trans rfl;have t1 := (BT2.cell 1).trans rfl;have t2 := (BT2.cell 2).trans rfl;have t3 := (BT2.cell 3).trans rfl;have t4 := (BT2.cell 4).trans rfl;have z0 := BT2.froz 0;have z1 := BT2.froz 1;have z2 := BT2.froz 2;have z3 := BT2.froz 3;have z4 := BT2.froz 4;clear BT2;go_wp2_with fail;refine bodyPost_ret (results_two rfl _ _ _ ⟨b0 + 3,0,none⟩ (.agg #[.int .i64 0,.int .i64 0,.string ⟨#[]⟩,.slice none 0 0,.slice none 0 0]) (by go_simp) (by go_simp)) rfl ?_;exact ZFIN.out W2 _ hW2 HX.out
  | true =>
   have HX : Hid (R = (T,0)) := (by rw [← HV2.out,if_neg (by rw [hR]; simp),if_neg (by simp),if_neg (by decide)] : R = (T,0));have HN : Hid (Calls Tryz.prog 82 #[.agg #[.int .i64 6,.string tnm],.int .i64 rn] W1 fun e w' => e = .returned (.bool true) ∧ Below W1.heap.size W1 w') := (by have h1 := number_any 6 rn tnm W1; rw [hR] at h1; exact h1 : Calls Tryz.prog _ _ W1 _);clear hR;go_wp2_with fail;refine HN.out.mono ?_;rintro e W2 ⟨rfl,hb2⟩;have hW2 : Below WA.heap.size WA W2 := hW1.trans (hb2.mono hW1.size);clear HN hb2;clear s0 s1 s2 s3 y0 y1 q0 q1 q2 q3 t0 t1 t2 t3 t4 z0 z1 z2 z3 z4;have BR2 := BR.below hW2;have q0 := (BR2.cell 0).trans rfl;have q1 := (BR2.cell 1).trans rfl;have q2 := (BR2.cell 2).trans rfl;have q3 := (BR2.cell 3).trans rfl;clear BR2;have BY2 := BY.below hW2;have y0 := (BY2.cell 0).trans rfl;have y1 := (BY2.cell 1).trans rfl;clear BY2;have BT2 := BT.below hW2;have t0 := (BT2.cell 0).trans rfl;have t1 := (BT2.cell 1).trans rfl;have t2 := (BT2.cell 2).trans rfl;have t3 := (BT2.cell 3).trans rfl;have t4 := (BT2.cell 4).trans rfl;have z0 := BT2.froz 0;have z1 := BT2.froz 1;have z2 := BT2.froz 2;have z3 := BT2.froz 3;have z4 := BT2.froz 4;clear BT2;have HLW : Hid (Calls Tryz.prog 84 #[.agg #[.int .i64 rt,.int .i64 rw,.int .i64 rn,.string rb]] W2 fun e w' => e = .returned (.agg #[.int .i64 T.kind,.int .i64 T.n,.string T.s,.slice none 0 0,.slice none 0 0]) ∧ Below W2.heap.size W2 w') := HLF.out W2;go_wp2_with fail;refine HLW.out.mono ?_;rintro e W5 ⟨rfl,hb5⟩;have hW5 : Below WA.heap.size WA W5 := hW2.trans (hb5.mono hW2.size);clear hb5 HLW;clear q0 q1 q2 q3 y0 y1 t0 t1 t2 t3 t4 z0 z1 z2 z3 z4;have BT5 := BT.below hW5;have t0 := (BT5.cell 0).trans rfl;have t1 := (BT5.cell 1).trans rfl;have t2 := (BT5.cell 2).trans rfl;have t3 := (BT5.cell 3).trans rfl;have t4 := (BT5.cell 4).trans rfl;have z0 := BT5.froz 0;have z1 := BT5.froz 1;have z2 := BT5.froz 2;have z3 := BT5.froz 3;have z4 := BT5.froz 4;clear BT5;go_wp2_with fail;refine bodyPost_ret (results_two rfl _ _ _ ⟨b0 + 3,0,none⟩ (.agg #[.int .i64 T.kind,.int .i64 T.n,.string T.s,.slice none 0 0,.slice none 0 0]) (by go_simp) (by go_simp)) rfl ?_;exact FIN.out W5 _ _ _ _ _ [] _ hW5 (by rw [HX.out]; exact HTO.out _ _) (Apt.nil _ _) (by simp) (by rw [HX.out])
 have d3 : (k == 3) = false := by simpa using hk3
 have d6 : (k == 6) = false := by simpa using hk6
 have HV3 : Hid ((if k = 4 ∧ validB rb.data.toList = false then (tr0,9) else if k = 7 then decM n s tnm (bytesN rb) else (T,0)) = R) := (by have := HV2.out; rwa [if_neg (fun e => e.1.elim hk3 hk6)] at this : (if k = 4 ∧ validB rb.data.toList = false then (tr0,9) else if k = 7 then decM n s tnm (bytesN rb) else (T,0)) = R);clear HV2 hk3 hk6
 by_cases hk4 : k = 4
 ·subst hk4
  cases hR : validB rb.data.toList with
  | false =>
   have HX : Hid (R = (tr0,9)) := (by rw [← HV3.out,if_pos ⟨rfl,hR⟩] : R = (tr0,9));have HN : Hid (Calls Tryz.prog 83 #[.string rb] W1 fun e w' => e = .returned (.bool false) ∧ Below W1.heap.size W1 w') := (by have h1 := valid_any rb W1 HSZ.out; rw [hR] at h1; exact h1 : Calls Tryz.prog _ _ W1 _);clear hR;go_wp2_with fail;refine HN.out.mono ?_;rintro e W2 ⟨rfl,hb2⟩;have hW2 : Below WA.heap.size WA W2 := hW1.trans (hb2.mono hW1.size);clear HN hb2;clear s0 s1 s2 s3 y0 y1 q0 q1 q2 q3 t0 t1 t2 t3 t4 z0 z1 z2 z3 z4;have BR2 := BR.below hW2;have q0 := (BR2.cell 0).trans rfl;have q1 := (BR2.cell 1).trans rfl;have q2 := (BR2.cell 2).trans rfl;have q3 := (BR2.cell 3).trans rfl;clear BR2;have BY2 := BY.below hW2;have y0 := (BY2.cell 0).trans rfl;have y1 := (BY2.cell 1).trans rfl;clear BY2;have BT2 := BT.below hW2;have t0 := (BT2.cell 0).trans rfl;have t1 := (BT2.cell 1).trans rfl;have t2 := (BT2.cell 2).trans rfl;have t3 := (BT2.cell 3).trans rfl;have t4 := (BT2.cell 4).trans rfl;have z0 := BT2.froz 0;have z1 := BT2.froz 1;have z2 := BT2.froz 2;have z3 := BT2.froz 3;have z4 := BT2.froz 4;clear BT2;go_wp2_with fail;refine bodyPost_ret (results_two rfl _ _ _ ⟨b0 + 3,0,none⟩ (.agg #[.int .i64 0,.int .i64 0,.string ⟨#[]⟩,.slice none 0 0,.slice none 0 0]) (by go_simp) (by go_simp)) rfl ?_;exact ZFIN.out W2 _ hW2 HX.out
  | true =>
   have HX : Hid (R = (T,0)) := (by rw [← HV3.out,if_neg (by rw [hR]; simp),if_neg (by decide)] : R = (T,0));have HN : Hid (Calls Tryz.prog 83 #[.string rb] W1 fun e w' => e = .returned (.bool true) ∧ Below W1.heap.size W1 w') := (by have h1 := valid_any rb W1 HSZ.out; rw [hR] at h1; exact h1 : Calls Tryz.prog _ _ W1 _);clear hR;go_wp2_with fail;refine HN.out.mono ?_;rintro e W2 ⟨rfl,hb2⟩;have hW2 : Below WA.heap.size WA W2 := hW1.trans (hb2.mono hW1.size);clear HN hb2;clear s0 s1 s2 s3 y0 y1 q0 q1 q2 q3 t0 t1 t2 t3 t4 z0 z1 z2 z3 z4;have BR2 := BR.below hW2;have q0 := (BR2.cell 0).trans rfl;have q1 := (BR2.cell 1).trans rfl;have q2 := (BR2.cell 2).trans rfl;have q3 := (BR2.cell 3).trans rfl;clear BR2;have BY2 := BY.below hW2;have y0 := (BY2.cell 0).trans rfl;have y1 := (BY2.cell 1).trans rfl;clear BY2;have BT2 := BT.below hW2;have t0 := (BT2.cell 0).trans rfl;have t1 := (BT2.cell 1).trans rfl;have t2 := (BT2.cell 2).trans rfl;have t3 := (BT2.cell 3).trans rfl;have t4 := (BT2.cell 4).trans rfl;have z0 := BT2.froz 0;have z1 := BT2.froz 1;have z2 := BT2.froz 2;have z3 := BT2.froz 3;have z4 := BT2.froz 4;clear BT2;have HLW : Hid (Calls Tryz.prog 84 #[.agg #[.int .i64 rt,.int .i64 rw,.int .i64 rn,.string rb]] W2 fun e w' => e = .returned (.agg #[.int .i64 T.kind,.int .i64 T.n,.string T.s,.slice none 0 0,.slice none 0 0]) ∧ Below W2.heap.size W2 w') := HLF.out W2;go_wp2_with fail;refine HLW.out.mono ?_;rintro e W5 ⟨rfl,hb5⟩;have hW5 : Below WA.heap.size WA W5 := hW2.trans (hb5.mono hW2.size);clear hb5 HLW;clear q0 q1 q2 q3 y0 y1 t0 t1 t2 t3 t4 z0 z1 z2 z3 z4;have BT5 := BT.below hW5;have t0 := (BT5.cell 0).trans rfl;have t1 := (BT5.cell 1).trans rfl;have t2 := (BT5.cell 2).trans rfl;have t3 := (BT5.cell 3).trans rfl;have t4 := (BT5.cell 4).trans rfl;have z0 := BT5.froz 0;have z1 := BT5.froz 1;have z2 := BT5.froz 2;have z3 := BT5.froz 3;have z4 := BT5.froz 4;clear BT5;go_wp2_with fail;refine bodyPost_ret (results_two rfl _ _ _ ⟨b0 + 3,0,none⟩ (.agg #[.int .i64 T.kind,.int .i64 T.n,.string T.s,.slice none 0 0,.slice none 0 0]) (by go_simp) (by go_simp)) rfl ?_;exact FIN.out W5 _ _ _ _ _ [] _ hW5 (by rw [HX.out]; exact HTO.out _ _) (Apt.nil _ _) (by simp) (by rw [HX.out])
 have d4 : (k == 4) = false := by simpa using hk4
 have HV4 : Hid ((if k = 7 then decM n s tnm (bytesN rb) else (T,0)) = R) := (by have := HV3.out; rwa [if_neg (fun e => hk4 e.1)] at this : (if k = 7 then decM n s tnm (bytesN rb) else (T,0)) = R);clear HV3 hk4
 by_cases hk7 : k = 7
 rotate_left
 ·have d7 : (k == 7) = false := by simpa using hk7
  have HX : Hid (R = (T,0)) := (by rw [← HV4.out,if_neg hk7] : R = (T,0));clear hk7;have HLW : Hid (Calls Tryz.prog 84 #[.agg #[.int .i64 rt,.int .i64 rw,.int .i64 rn,.string rb]] W1 fun e w' => e = .returned (.agg #[.int .i64 T.kind,.int .i64 T.n,.string T.s,.slice none 0 0,.slice none 0 0]) ∧ Below W1.heap.size W1 w') := HLF.out W1;go_wp2_with fail;refine HLW.out.mono ?_;rintro e W5 ⟨rfl,hb5⟩;have hW5 : Below WA.heap.size WA W5 := hW1.trans (hb5.mono hW1.size);clear hb5 HLW;clear s0 s1 s2 s3 y0 y1 q0 q1 q2 q3 t0 t1 t2 t3 t4 z0 z1 z2 z3 z4;have BT5 := BT.below hW5;have t0 := (BT5.cell 0).trans rfl;have t1 := (BT5.cell 1).trans rfl;have t2 := (BT5.cell 2).trans rfl;have t3 := (BT5.cell 3).trans rfl;have t4 := (BT5.cell 4).trans rfl;have z0 := BT5.froz 0;have z1 := BT5.froz 1;have z2 := BT5.froz 2;have z3 := BT5.froz 3;have z4 := BT5.froz 4;clear BT5;go_wp2_with fail;refine bodyPost_ret (results_two rfl _ _ _ ⟨b0 + 3,0,none⟩ (.agg #[.int .i64 T.kind,.int .i64 T.n,.string T.s,.slice none 0 0,.slice none 0 0]) (by go_simp) (by go_simp)) rfl ?_;exact FIN.out W5 _ _ _ _ _ [] _ hW5 (by rw [HX.out]; exact HTO.out _ _) (Apt.nil _ _) (by simp) (by rw [HX.out])
 subst hk7;have HX : Hid (R = decM n s tnm (bytesN rb)) := (by rw [← HV4.out,if_pos rfl] : R = decM n s tnm (bytesN rb));clear HV4
 by_cases hdd : d = 10
 ·subst hdd
  have HX : Hid (R = (tr0,10)) := (by
   have h1 : n = 0 := by have := HD.out; omega
   rw [HX.out,h1]; rfl : R = (tr0,10))
  go_wp2_with fail;refine bodyPost_ret (results_two rfl _ _ _ ⟨b0 + 3,0,none⟩ (.agg #[.int .i64 0,.int .i64 0,.string ⟨#[]⟩,.slice none 0 0,.slice none 0 0]) (by go_simp) (by go_simp)) rfl ?_;exact ZFIN.out W1 _ hW1 HX.out
 have hdl : d < 10 := by omega
 have dge : ((d : Int) ≥ 10) = False := by simp; omega
 have dgd : decide ((10 : Int) ≤ (d : Int)) = false := by simp; omega
 obtain ⟨cap,WB,hcv,hby,hbB⟩ := conv_bytes W1 rb HSZ.out;have hWB : Below WA.heap.size WA WB := hW1.trans (hbB.mono hW1.size);have hwB : Below w.heap.size w WB := hbw.trans (hWB.mono hbw.size);have HN : Hid (Calls Tryz.prog 29 #[.agg #[.string sn,.slice ma mn mc,.slice ea en ec,.slice ta tn tc],.string tnm,.slice (some ⟨W1.heap.size,0,none⟩) rb.size cap,.int .i64 ((d : Int) + 1)] WB (DtrP (n + 1) R WB)) := (by rw [HX.out]; exact HI.out hdl tnm _ _ WB hby (HS.out.below hwB) : Calls Tryz.prog _ _ WB _)
 have hwr : IntKind.i64.wrap ((d : Int) + 1) = (d : Int) + 1 := by rw [IntKind.wrap_i64]; omega
 clear hby hbB hdd HI HX;go_wp2_with fail;refine HN.out.mono ?_;rintro e W2 ⟨r',bs,rfl,ht,hap,hb2⟩;have hW2 : Below WA.heap.size WA W2 := hWB.trans (hb2.mono hWB.size);obtain ⟨a1,n1,c1,a2,n2,c2,rfl⟩ := ht.open;have hle : w.heap.size ≤ WB.heap.size := hwB.size;have HTT : Hid (TrO (n + 1) w.heap.size W2 [.int .i64 R.1.kind,.int .i64 R.1.n,.string R.1.s,.slice a1 n1 c1,.slice a2 n2 c2] R.1 bs) := ht.base hle;have HAP : Hid (Apt w.heap.size W2 bs) := ⟨hap.1,fun k hk => ⟨Nat.le_trans hle (hap.2 k hk).1,(hap.2 k hk).2⟩⟩
 have HNB : Hid (b0 + 3 ∉ bs) := fun e => by have h1 := (hap.2 _ e).1; have h2 := hWB.size; have h3 := HBT.out.lt; omega
 clear HN hb2 hcv ht hap hle hwB;clear s0 s1 s2 s3 y0 y1 q0 q1 q2 q3 t0 t1 t2 t3 t4 z0 z1 z2 z3 z4;have BT2 := BT.below hW2;have t0 := (BT2.cell 0).trans rfl;have t1 := (BT2.cell 1).trans rfl;have t2 := (BT2.cell 2).trans rfl;have t3 := (BT2.cell 3).trans rfl;have t4 := (BT2.cell 4).trans rfl;have z0 := BT2.froz 0;have z1 := BT2.froz 1;have z2 := BT2.froz 2;have z3 := BT2.froz 3;have z4 := BT2.froz 4;clear BT2;obtain ⟨R1,R2⟩ := R;obtain ⟨K,N,S,E,Q⟩ := R1;go_wp2_with fail;refine bodyPost_ret (results_two rfl _ _ _ ⟨b0 + 3,0,none⟩ (.agg #[.int .i64 K,.int .i64 N,.string S,.slice a1 n1 c1,.slice a2 n2 c2]) (by go_simp) (by go_simp)) rfl ?_;exact FIN.out W2 _ _ _ _ _ bs _ hW2 HTT.out HAP.out HNB.out rfl
end
section
section
variable {P : Program} {md : Region.Mode} {ops : Array Oper} {Q : Exit → Act → World → Prop} {T : World → Prop} {m : Nat}
theorem M_runA {oi : Oper} {fuel : Nat} {listed listed' : Array Bool} {a : Act} {w : World} (i d : Nat) (v : Value) (w' : World) (hi : ops[i]? = some oi) (hd : oi.dst = some d)
  (hr : Region.ready md ops listed = [i]) (hwt : Region.wanted oi (yielded ops a.tmps) = true) (hl : listed.setIfInBounds i true = listed') (hx : (execOp a.eval oi).run P w = .ok (.value v) w') (hm : listed'.getD m true = true)
  (h : wpAnyM P md ops Q T m fuel listed' { a with tmps := a.tmps.setIfInBounds d v } w') : wpAnyM P md ops Q T m (fuel + 1) listed a w := by
 subst hl;refine ⟨fun h0 => (by rw [hr] at h0; cases h0),fun j hj => ?_⟩;rw [hr,List.mem_singleton] at hj;subst hj;unfold wpOp;simp only [hi];rw [if_pos hwt];refine .inl ?_;unfold Oper.wp;rw [hx,Oper.upon_value,hd];exact ⟨fun h0 => (by rw [hm] at h0; cases h0),h⟩
end
end
section
open Go.ChangeShapes Go.WideShapes Go.ChangeAt Go.RowKit
def PutP (n B bR bm c : Nat) (vr : Value) (rest : List Fd) (R : List (Int × List Tr) × Int) (w : World) (e : Ending) (w' : World) : Prop :=
 ∃ K' c',e = .returned (.int .i64 R.2) ∧ c' ≤ c + 1 ∧ (R.2 = 0 → esK K' = R.1) ∧ DcS n B bR bm c' K' vr rest w' ∧ Kp (fun q => B ≤ q ∨ q = bm) w w'
theorem wpList_del {ops : Array Oper} {rest : List Oper} {o : Oper} {a : Act} {Q : Exit → Act → World → Prop} {w w' : World} {b : Nat} {z : Int} (hgd : o.guard = none) (m x : Operand) (hop : o.op = Op.call { callee := Callee.builtin Builtin.delete,args := #[m,x],argTypes := #[111,3] })
  (hmm : a.eval m = .map (some b)) (hx : a.eval x = .int .i64 z) (hr : (Builtin.delete_ #[111,3] o.type #[.map (some b),.int .i64 z]).run Tryz.prog w = .ok (.tuple #[]) w') (h : wpList Tryz.prog ops Q rest (a.put o.dst (.tuple #[])) w') : wpList Tryz.prog ops Q (o :: rest) a w :=
 wpList_plain hgd fun K hK => by
  unfold Oper.wp
  simp [execOp,hop,resolve,invoke,builtin,hmm,hx,hr,Result.andThen]
  exact hK _ _ h
section
variable {n B bR bm c : Nat} {K : List KE} {vr : Value} {rest : List Fd} {w : World} {r : List Value} {x : Tr} {bs : List Nat}
theorem TrO.lens (hx : TrO n B w r x bs) : ∃ a1 c1 a2 c2,r = [.int .i64 x.kind,.int .i64 x.n,.string x.s,.slice a1 x.es.length c1,.slice a2 x.rest.length c2] := by
 cases n with
 | zero => exact hx.elim
 | succ n =>
  obtain ⟨ve,vq,rows,bss,rfl,_,_,_,_,h6,h7,_⟩ := hx;obtain ⟨a1,c1,rfl⟩ := own_form h7.own;obtain ⟨a2,c2,rfl⟩ := own_form h6;exact ⟨a1,c1,a2,c2,rfl⟩
theorem dput_one (h : DcS n B bR bm c K vr rest w) (hc : c ≤ 1000000) (fn : ByteArray) (ft fl fk : Int) (ftn : ByteArray) (h64 : Is64 ft) (hx : TrO n B w r x bs) (hap : Apt B w ((fpK K ++ blkOf vr) ++ bs)) (hB : B ≤ w.heap.size) (h3 : fl ≠ 3) :
  Calls Tryz.prog 59 #[.map (some bm),.agg #[.string fn,.int .i64 ft,.int .i64 fl,.int .i64 fk,.string ftn],.agg r.toArray] w (PutP n B bR bm c vr rest (putD ⟨fn,ft,fl,fk,ftn⟩ x (esK K)) w) := by
 have hcm : c < maxLen := by unfold maxLen; omega
 obtain ⟨R,hR⟩ : ∃ R,putD ⟨fn,ft,fl,fk,ftn⟩ x (esK K) = R := ⟨_,rfl⟩;rw [hR];have hx' := hx;obtain ⟨a1,c1,a2,c2,hr⟩ := hx.lens;obtain ⟨n1,hn1⟩ : ∃ n1,x.es.length = n1 := ⟨_,rfl⟩;obtain ⟨n2,hn2⟩ : ∃ n2,x.rest.length = n2 := ⟨_,rfl⟩;rw [hn1,hn2] at hr;have HZ : Hid (∀ W,Calls Tryz.prog 85 #[.agg #[.int .i64 x.kind,.int .i64 x.n,.string x.s,.slice a1 n1 c1,.slice a2 n2 c2]] W fun e w' => e = .returned (.bool (zroB x)) ∧ Below W.heap.size W w') := fun W => zero_any x a1 a2 n1 c1 n2 c2 W hn1.symm hn2.symm
 have HX : Hid (TrO n B w r x bs) := hx';have al2 : Below w.heap.size w ((w.alloc (Obj.cells #[.string fn,.int .i64 ft,.int .i64 fl,.int .i64 fk,.string ftn] 56)).alloc (Obj.cells #[.int .i64 x.kind,.int .i64 x.n,.string x.s,.slice a1 n1 c1,.slice a2 n2 c2] 39)) := ((Below.refl _ _).alloc (Nat.le_refl _) _).alloc (by simp) _;have BF : Blk ((w.alloc (Obj.cells #[.string fn,.int .i64 ft,.int .i64 fl,.int .i64 fk,.string ftn] 56)).alloc (Obj.cells #[.int .i64 x.kind,.int .i64 x.n,.string x.s,.slice a1 n1 c1,.slice a2 n2 c2] 39)) w.heap.size #[.string fn,.int .i64 ft,.int .i64 fl,.int .i64 fk,.string ftn] 56 := (Blk.new w _ _).below ((Below.refl _ _).alloc (Nat.le_refl _) _);have BT : Blk ((w.alloc (Obj.cells #[.string fn,.int .i64 ft,.int .i64 fl,.int .i64 fk,.string ftn] 56)).alloc (Obj.cells #[.int .i64 x.kind,.int .i64 x.n,.string x.s,.slice a1 n1 c1,.slice a2 n2 c2] 39)) (w.heap.size + 1) #[.int .i64 x.kind,.int .i64 x.n,.string x.s,.slice a1 n1 c1,.slice a2 n2 c2] 39 := (by have := Blk.new (w.alloc (Obj.cells #[.string fn,.int .i64 ft,.int .i64 fl,.int .i64 fk,.string ftn] 56)) #[.int .i64 x.kind,.int .i64 x.n,.string x.s,.slice a1 n1 c1,.slice a2 n2 c2] 39; rwa [World.size_alloc] at this)
 have KEEP : ∀ W,Below w.heap.size w W → ∃ w5,(Instr.mapUpdate 111 (.map (some bm)) (.int .i64 ft) (.slice (some ⟨W.heap.size,0,none⟩) 1 1)).run Tryz.prog (W.alloc (Obj.cells #[.int .i64 x.kind,.int .i64 x.n,.string x.s,.slice a1 n1 c1,.slice a2 n2 c2] 39)) = .ok () w5 ∧ (∃ K',esK K' = setE ft [x] (esK K) ∧ DcS n B bR bm (c + 1) K' vr rest w5) ∧ Kp (fun q => B ≤ q ∨ q = bm) w w5 := fun W hW => by
  have hbs : Sm w W bs := Sm.below hW fun k hk => (hap.2 k (List.mem_append.2 (.inr hk))).2
  obtain ⟨w5,g1,g2,g3⟩ := (h.below hW).one (Nat.le_trans hB hW.size) h64 (HX.out.sm hbs) (hap.mono hW.size) hcm;rw [hr] at g1 g3;refine ⟨w5,g1,⟨_,by rw [esK_set],g2⟩,?_⟩;exact ((Kp.ofBelow hW).alloc _).trans2 (g3.weak fun i _ e => .inr e) fun i _ e => e
 rw [hr];clear hx hx' hn1 hn2
 have d3 : (fl == 3) = false := by simpa using h3
 have hR0 : R = if fl = 1 ∧ zroB x = true then (delE ft (esK K),0) else (setE ft [x] (esK K),0) := by rw [← hR]; simp only [putD,if_neg h3]
 have HR0 : Hid (R = if fl = 1 ∧ zroB x = true then (delE ft (esK K),0) else (setE ft [x] (esK K),0)) := hR0;clear hR hR0 h3 hr
 by_cases h1 : fl = 1
 ·subst h1;have HR1 : Hid (R = if zroB x = true then (delE ft (esK K),0) else (setE ft [x] (esK K),0)) := (by have := HR0.out; simpa using this : R = if zroB x = true then (delE ft (esK K),0) else (setE ft [x] (esK K),0));clear HR0;have HK0 : Hid (∀ W,Below w.heap.size w W → ∃ w5,(Instr.mapUpdate 111 (.map (some bm)) (.int .i64 ft) (.slice (some ⟨W.heap.size,0,none⟩) 1 1)).run Tryz.prog (W.alloc (Obj.cells #[.int .i64 x.kind,.int .i64 x.n,.string x.s,.slice a1 n1 c1,.slice a2 n2 c2] 39)) = .ok () w5 ∧ (∃ K',esK K' = setE ft [x] (esK K) ∧ DcS n B bR bm (c + 1) K' vr rest w5) ∧ Kp (fun q => B ≤ q ∨ q = bm) w w5) := KEEP;have HH : Hid (DcS n B bR bm c K vr rest w) := h;have HI : Hid (I64 ft) := i64_of h64;clear KEEP h hap hB hc hcm h64 HX;obtain ⟨Z,hZ⟩ : ∃ Z,zroB x = Z := ⟨_,rfl⟩;rw [hZ] at HZ HR1;clear hZ d3
  go_enter Tryz.func59,Tryz.ntmps59
  go_wp2_with fail;refine Calls.mono (HZ.out _) ?_;rintro e w3 ⟨rfl,hb3⟩;have BF3 := BF.below hb3;have BT3 := BT.below hb3;have al3 : Below w.heap.size w w3 := al2.trans (hb3.mono al2.size);have f1 := (BF3.cell 1).trans rfl;have t0 := (BT3.cell 0).trans rfl;have t1 := (BT3.cell 1).trans rfl;have t2 := (BT3.cell 2).trans rfl;have t3 := (BT3.cell 3).trans rfl;have t4 := (BT3.cell 4).trans rfl
  cases Z with
  | true =>
   obtain ⟨w5,g1,g2,g3⟩ := (HH.out.map.below al3).del HI.out 0;have HD : Hid (DcS n B bR bm c (delE ft K) vr rest w5) := (HH.out.below al3).setDel ft g3 g2;have HP : Hid (Kp (fun q => B ≤ q ∨ q = bm) w w5) := (Kp.ofBelow al3).trans2 (g3.weak fun i _ e => .inr e) fun i _ e => e
   have HG : Hid ((Builtin.delete_ #[111,3] 0 #[.map (some bm),.int .i64 ft]).run Tryz.prog w3 = .ok (.tuple #[]) w5) := g1;clear g1 g2 g3 BF BT BF3 BT3 al2 hb3 al3 HK0 HZ
   go_wp2_with (first | (at_delete; refine wpList_del rfl _ _ rfl rfl rfl HG.out ?_) | fail)
   go_ret;have := HR1.out;simp only [if_true] at this;subst this;exact ⟨_,c,rfl,by omega,fun _ => esK_del ft K,HD.out,HP.out⟩
  | false =>
   obtain ⟨w5,g1,⟨K',g2,g4⟩,g3⟩ := HK0.out w3 al3;have HD : Hid (esK K' = setE ft [x] (esK K) ∧ DcS n B bR bm (c + 1) K' vr rest w5 ∧ Kp (fun q => B ≤ q ∨ q = bm) w w5) := ⟨g2,g4,g3⟩;have HG : Hid ((Instr.mapUpdate 111 (.map (some bm)) (.int .i64 ft) (.slice (some ⟨w3.heap.size,0,none⟩) 1 1)).run Tryz.prog (w3.alloc (Obj.cells #[.int .i64 x.kind,.int .i64 x.n,.string x.s,.slice a1 n1 c1,.slice a2 n2 c2] 39)) = .ok () w5) := g1;clear g1 g2 g3 g4 BF BT BF3 BT3 al2 hb3 al3 HK0 HZ
   go_wp2_with (first | (at_mapUpdate; refine wpList_update_pl rfl _ _ _ rfl rfl rfl rfl HG.out ?_) | fail)
   go_ret;have := HR1.out;simp only [Bool.false_eq_true,if_false] at this;subst this;exact ⟨_,c + 1,rfl,by omega,fun _ => HD.out.1,HD.out.2⟩
 ·have d1 : (fl == 1) = false := by simpa using h1
  obtain ⟨w5,g1,⟨K',g2,g4⟩,g3⟩ := KEEP _ al2;have HD : Hid (esK K' = setE ft [x] (esK K) ∧ DcS n B bR bm (c + 1) K' vr rest w5 ∧ Kp (fun q => B ≤ q ∨ q = bm) w w5) := ⟨g2,g4,g3⟩;have HR1 : Hid (R = (setE ft [x] (esK K),0)) := (by have := HR0.out; rwa [if_neg (fun e => h1 e.1)] at this : R = (setE ft [x] (esK K),0));simp only [World.size_alloc] at g1;have HG : Hid ((Instr.mapUpdate 111 (.map (some bm)) (.int .i64 ft) (.slice (some ⟨w.heap.size + 1 + 1,0,none⟩) 1 1)).run Tryz.prog (((w.alloc (Obj.cells #[.string fn,.int .i64 ft,.int .i64 fl,.int .i64 fk,.string ftn] 56)).alloc (Obj.cells #[.int .i64 x.kind,.int .i64 x.n,.string x.s,.slice a1 n1 c1,.slice a2 n2 c2] 39)).alloc (Obj.cells #[.int .i64 x.kind,.int .i64 x.n,.string x.s,.slice a1 n1 c1,.slice a2 n2 c2] 39)) = .ok () w5) := g1;clear g1 g2 g3 g4 BF BT al2 KEEP HZ HR0 h hap hB hc hcm h64 h1 HX
  go_enter Tryz.func59,Tryz.ntmps59
  go_wp2_with (first | (at_mapUpdate; refine wpList_update_pl rfl _ _ _ rfl rfl rfl rfl HG.out ?_) | fail)
  go_ret;have := HR1.out;subst this;exact ⟨_,c + 1,rfl,by omega,fun _ => HD.out.1,HD.out.2⟩
theorem dput_rep (h : DcS n B bR bm c K vr rest w) (hc : c ≤ 1000000) (fn : ByteArray) (ft fk : Int) (ftn : ByteArray) (h64 : Is64 ft) (hx : TrO n B w r x bs) (hap : Apt B w ((fpK K ++ blkOf vr) ++ bs)) (hB : B ≤ w.heap.size) (hl : (undE (esK K) ft).length ≤ 64) :
  Calls Tryz.prog 59 #[.map (some bm),.agg #[.string fn,.int .i64 ft,.int .i64 3,.int .i64 fk,.string ftn],.agg r.toArray] w (PutP n B bR bm c vr rest (putD ⟨fn,ft,3,fk,ftn⟩ x (esK K)) w) := by
 have hcm : c < maxLen := by unfold maxLen; omega
 have hR : putD ⟨fn,ft,3,fk,ftn⟩ x (esK K) = if (undE (esK K) ft).length = 64 then (esK K,4) else (setE ft (undE (esK K) ft ++ [x]) (esK K),0) := by simp [putD]
 rw [hR];obtain ⟨rows,bss,g1, -⟩ := h.at ft;obtain ⟨la,lc,hv⟩ := own_form g1.own;have hgeb : ∀ k ∈ blkOf (lookE (vsK K) ft),B ≤ k := fun k hk => (own_lt g1.own (mem_blkOf.1 hk)).1
 obtain ⟨a1,c1,a2,c2,hr⟩ := hx.lens;generalize x.es.length = n1 at hr;generalize x.rest.length = n2 at hr;obtain ⟨Ln,hLn⟩ : ∃ Ln,(undE (esK K) ft).length = Ln := ⟨_,rfl⟩;rw [hLn] at hv hl ⊢;rw [hv] at hgeb;have al2 : Below w.heap.size w ((w.alloc (Obj.cells #[.string fn,.int .i64 ft,.int .i64 3,.int .i64 fk,.string ftn] 56)).alloc (Obj.cells #[.int .i64 x.kind,.int .i64 x.n,.string x.s,.slice a1 n1 c1,.slice a2 n2 c2] 39)) := ((Below.refl _ _).alloc (Nat.le_refl _) _).alloc (by simp) _
 have hlk : (Instr.lookup 111 (.map (some bm)) (.int .i64 ft) false).run Tryz.prog ((w.alloc (Obj.cells #[.string fn,.int .i64 ft,.int .i64 3,.int .i64 fk,.string ftn] 56)).alloc (Obj.cells #[.int .i64 x.kind,.int .i64 x.n,.string x.s,.slice a1 n1 c1,.slice a2 n2 c2] 39)) = .ok (.slice la Ln lc) ((w.alloc (Obj.cells #[.string fn,.int .i64 ft,.int .i64 3,.int .i64 fk,.string ftn] 56)).alloc (Obj.cells #[.int .i64 x.kind,.int .i64 x.n,.string x.s,.slice a1 n1 c1,.slice a2 n2 c2] 39)) := (by
  have := (h.map.below al2).look (i64_of h64)
  rwa [hv] at this)
 by_cases h4 : Ln = 64
 ·subst h4;rw [if_pos rfl];have HD : Hid (DcS n B bR bm c K vr rest ((w.alloc (Obj.cells #[.string fn,.int .i64 ft,.int .i64 3,.int .i64 fk,.string ftn] 56)).alloc (Obj.cells #[.int .i64 x.kind,.int .i64 x.n,.string x.s,.slice a1 n1 c1,.slice a2 n2 c2] 39)) ∧ Kp (fun q => B ≤ q ∨ q = bm) w ((w.alloc (Obj.cells #[.string fn,.int .i64 ft,.int .i64 3,.int .i64 fk,.string ftn] 56)).alloc (Obj.cells #[.int .i64 x.kind,.int .i64 x.n,.string x.s,.slice a1 n1 c1,.slice a2 n2 c2] 39))) := ⟨h.below al2,Kp.ofBelow al2⟩;rw [hr];clear h hc h64 hx hap hB hl hcm hR g1 hv hgeb hr hLn al2
  go_enter Tryz.func59,Tryz.ntmps59
  go_wp2_with fail;go_ret;exact ⟨K,c,rfl,by omega,(fun e => absurd (show (4 : Int) = 0 from e) (by decide)),HD.out⟩
 ·rw [if_neg h4]
  have d4 : ((Ln : Int) == 64) = false := by simp; omega
  have BF : Blk ((w.alloc (Obj.cells #[.string fn,.int .i64 ft,.int .i64 3,.int .i64 fk,.string ftn] 56)).alloc (Obj.cells #[.int .i64 x.kind,.int .i64 x.n,.string x.s,.slice a1 n1 c1,.slice a2 n2 c2] 39)) w.heap.size #[.string fn,.int .i64 ft,.int .i64 3,.int .i64 fk,.string ftn] 56 := (Blk.new w _ _).below ((Below.refl _ _).alloc (Nat.le_refl _) _);have BT : Blk ((w.alloc (Obj.cells #[.string fn,.int .i64 ft,.int .i64 3,.int .i64 fk,.string ftn] 56)).alloc (Obj.cells #[.int .i64 x.kind,.int .i64 x.n,.string x.s,.slice a1 n1 c1,.slice a2 n2 c2] 39)) (w.heap.size + 1) #[.int .i64 x.kind,.int .i64 x.n,.string x.s,.slice a1 n1 c1,.slice a2 n2 c2] 39 := (by have := Blk.new (w.alloc (Obj.cells #[.string fn,.int .i64 ft,.int .i64 3,.int .i64 fk,.string ftn] 56)) #[.int .i64 x.kind,.int .i64 x.n,.string x.s,.slice a1 n1 c1,.slice a2 n2 c2] 39; rwa [World.size_alloc] at this)
  have nF : ¬ w.heap.size ∈ blkOf (.slice la Ln lc) := fun e => by have := own_lt g1.own (mem_blkOf.1 (by rw [hv]; exact e)); omega
  have nT : ¬ w.heap.size + 1 ∈ blkOf (.slice la Ln lc) := fun e => by have := own_lt g1.own (mem_blkOf.1 (by rw [hv]; exact e)); omega
  have nM : ¬ bm ∈ blkOf (.slice la Ln lc) := fun e => by have := hgeb _ e; have := h.ltm; omega
  rw [hr];have HR : Hid (r = [.int .i64 x.kind,.int .i64 x.n,.string x.s,.slice a1 n1 c1,.slice a2 n2 c2]) := hr;have HH : Hid (DcS n B bR bm c K vr rest w ∧ c < maxLen ∧ Is64 ft ∧ TrO n B w r x bs ∧ Apt B w ((fpK K ++ blkOf vr) ++ bs) ∧ B ≤ w.heap.size ∧ (undE (esK K) ft).length ≤ 64 ∧ lookE (vsK K) ft = .slice la Ln lc ∧ (∀ k ∈ blkOf (.slice la Ln lc),B ≤ k)) := ⟨h,hcm,h64,hx,hap,hB,by omega,hv,hgeb⟩;clear h hc h64 hx hap hB hl hcm hR g1 hv hgeb hr hLn h4
  go_enter Tryz.func59,Tryz.ntmps59
  go_upto_region 5 with fail
  clear hlk d4;generalize ((w.alloc (Obj.cells #[.string fn,.int .i64 ft,.int .i64 3,.int .i64 fk,.string ftn] 56)).alloc (Obj.cells #[.int .i64 x.kind,.int .i64 x.n,.string x.s,.slice a1 n1 c1,.slice a2 n2 c2] 39)) = W2 at *;obtain ⟨b4,hb4⟩ : ∃ z,w.heap.size = z := ⟨_,rfl⟩;rw [hb4] at BF nF BT nT;simp only [hb4];clear hb4
  have HLK : Hid (∀ W,Kp (fun q => q ∈ blkOf (.slice la Ln lc)) W2 W → (Instr.lookup 111 (.map (some bm)) (.int .i64 ft) false).run Tryz.prog W = .ok (.slice la Ln lc) W) := (fun W hW => by
   have := ((HH.out.1.map.below al2).kp hW nM).look (i64_of HH.out.2.2.1)
   rwa [HH.out.2.2.2.2.2.2.2.1] at this : ∀ W,Kp (fun q => q ∈ blkOf (.slice la Ln lc)) W2 W → (Instr.lookup 111 (.map (some bm)) (.int .i64 ft) false).run Tryz.prog W = .ok (.slice la Ln lc) W)
  have HMO : Hid (∃ va vn vc W' w5,(Builtin.append_ #[61,61] 61 #[.slice la Ln lc,.slice (some ⟨W2.heap.size,0,none⟩) 1 1]).run Tryz.prog (W2.drew.alloc (Obj.cells #[.int .i64 x.kind,.int .i64 x.n,.string x.s,.slice a1 n1 c1,.slice a2 n2 c2] 39)) = .ok (.slice va vn vc) W' ∧ Kp (fun q => q ∈ blkOf (.slice la Ln lc)) W2 W' ∧ (Instr.mapUpdate 111 (.map (some bm)) (.int .i64 ft) (.slice va vn vc)).run Tryz.prog W' = .ok () w5 ∧ PutP n B bR bm c vr rest (setE ft (undE (esK K) ft ++ [x]) (esK K),0) w (.returned (.int .i64 0)) w5) := (by
   obtain ⟨h,hcm,h64,hx,hap,hB,hl,hv,hgeb⟩ := HH.out;have ald : Below w.heap.size w W2.drew := al2.drew;have al3 : Below w.heap.size w (W2.drew.alloc (Obj.cells #[.int .i64 x.kind,.int .i64 x.n,.string x.s,.slice a1 n1 c1,.slice a2 n2 c2] 39)) := ald.alloc ald.size _;have hbs : Sm w (W2.drew.alloc (Obj.cells #[.int .i64 x.kind,.int .i64 x.n,.string x.s,.slice a1 n1 c1,.slice a2 n2 c2] 39)) bs := Sm.below al3 fun k hk => (hap.2 k (List.mem_append.2 (.inr hk))).2
   have BZ : Blk (W2.drew.alloc (Obj.cells #[.int .i64 x.kind,.int .i64 x.n,.string x.s,.slice a1 n1 c1,.slice a2 n2 c2] 39)) W2.heap.size r.toArray 39 := (by rw [HR.out]; exact Blk.new W2.drew _ _);obtain ⟨v',W',w5,bs',e1,e2,e3,e4,e5⟩ := (h.below al3).more (Nat.le_trans hB al3.size) h64 (hx.sm hbs) (hap.mono al3.size) hcm hl BZ;rw [hv] at e1 e2;have k2 : Kp (fun q => q ∈ blkOf (.slice la Ln lc)) W2 W' := (((Kp.refl _ W2).drewN 1).alloc _).trans e2;have e1' := e1;obtain ⟨rows,bss,q1, -⟩ := e4.at ft;obtain ⟨va,vc,hvv⟩ := own_form q1.own
   have hlo : lookE (vsK (setE ft (v',undE (esK K) ft ++ [x],bs') K)) ft = v' := (by
    have e0 : vsK (setE ft (v',undE (esK K) ft ++ [x],bs') K) = setE ft v' (vsK K) := vsK_set ft _ K;have hrv : RisE (vsK K) := List.pairwise_map.2 h.ris;have e2 : List.find? (fun e => decide (e.1 = ft)) (setE ft v' (vsK K)) = some (ft,v') := find_mem (hrv.set ft v') (p := (ft,v')) (mem_setE.2 (.inl rfl));rw [e0];unfold lookE;rw [e2]
    rfl)
   rw [hlo] at hvv;obtain ⟨vn,hvn⟩ : ∃ z,(undE (esK (setE ft (v',undE (esK K) ft ++ [x],bs') K)) ft).length = z := ⟨_,rfl⟩;rw [hvn] at hvv;clear hvn hlo q1 e1';subst hvv;refine ⟨va,vn,vc,W',w5,e1,k2,e3,_,c + 1,rfl,by omega,fun _ => esK_set ft _ K,e4,?_⟩
   exact ((Kp.ofBelow al2).trans2 (k2.weak fun i _ e => .inl (hgeb i e)) fun i _ e => e).trans (e5.weak fun i _ e => .inr e))
  obtain ⟨va,vn,vc,W',w5,e1,k2,e3,e4⟩ := HMO.out;have HAP : Hid ((Builtin.append_ #[61,61] 61 #[.slice la Ln lc,.slice (some ⟨W2.heap.size,0,none⟩) 1 1]).run Tryz.prog (W2.drew.alloc (Obj.cells #[.int .i64 x.kind,.int .i64 x.n,.string x.s,.slice a1 n1 c1,.slice a2 n2 c2] 39)) = .ok (.slice va vn vc) W') := e1;have HUP : Hid ((Instr.mapUpdate 111 (.map (some bm)) (.int .i64 ft) (.slice va vn vc)).run Tryz.prog W' = .ok () w5) := e3;have HPP : Hid (PutP n B bR bm c vr rest (setE ft (undE (esK K) ft ++ [x]) (esK K),0) w (.returned (.int .i64 0)) w5) := e4;have HK2 : Hid (Kp (fun q => q ∈ blkOf (.slice la Ln lc)) W2 W') := k2;clear e1 e3 e4 k2 HMO HH HR al2;refine M_region (T := fun W => Kp (fun q => q ∈ blkOf (.slice la Ln lc)) W2 W) (m := 10) (by kernel_rfl) ?_;have hS : Kp (fun q => q ∈ blkOf (.slice la Ln lc)) W2 W2.drew := (Kp.refl _ W2).drewN 1;refine M_take 0 22 (.map (some bm)) _ rfl rfl (by kernel_rfl) (by kernel_rfl) (by kernel_rfl) (by kernel_rfl) (by kernel_rfl) (fun _ _ _ h => h) (by rfl) (fun w' hw' => ?_) hS (listed' := bts 11 1) (by kernel_rfl) rfl ?_
  ·go_simp
  simp only [zsA,zsZ,zsS];refine M_take 1 23 (.pointer (some ⟨b4,1,none⟩)) _ rfl rfl (by kernel_rfl) (by kernel_rfl) (by kernel_rfl) (by kernel_rfl) (by kernel_rfl) (fun _ _ _ h => h) (by rfl) (fun w' hw' => ?_) hS (listed' := bts 11 3) (by kernel_rfl) rfl ?_
  ·go_simp
  simp only [zsA,zsZ,zsS];refine M_take 2 24 (.int .i64 ft) _ rfl rfl (by kernel_rfl) (by kernel_rfl) (by kernel_rfl) (by kernel_rfl) (by kernel_rfl) (fun _ _ _ h => h) (by rfl) (fun w' hw' => ?_) hS (listed' := bts 11 7) (by kernel_rfl) rfl ?_
  ·have f1 : w'.cell? ⟨b4,1,none⟩ = some (.int .i64 ft) := ((BF.kp hw' nF).cell 1).trans rfl; go_simp
  simp only [zsA,zsZ,zsS];refine M_take 3 25 (.map (some bm)) _ rfl rfl (by kernel_rfl) (by kernel_rfl) (by kernel_rfl) (by kernel_rfl) (by kernel_rfl) (fun _ _ _ h => h) (by rfl) (fun w' hw' => ?_) hS (listed' := bts 11 15) (by kernel_rfl) rfl ?_
  ·go_simp
  simp only [zsA,zsZ,zsS];refine M_take 4 26 (.pointer (some ⟨b4,1,none⟩)) _ rfl rfl (by kernel_rfl) (by kernel_rfl) (by kernel_rfl) (by kernel_rfl) (by kernel_rfl) (fun _ _ _ h => h) (by rfl) (fun w' hw' => ?_) hS (listed' := bts 11 31) (by kernel_rfl) rfl ?_
  ·go_simp
  simp only [zsA,zsZ,zsS];refine M_take 5 27 (.int .i64 ft) _ rfl rfl (by kernel_rfl) (by kernel_rfl) (by kernel_rfl) (by kernel_rfl) (by kernel_rfl) (fun _ _ _ h => h) (by rfl) (fun w' hw' => ?_) hS (listed' := bts 11 63) (by kernel_rfl) rfl ?_
  ·have f1 : w'.cell? ⟨b4,1,none⟩ = some (.int .i64 ft) := ((BF.kp hw' nF).cell 1).trans rfl; go_simp
  simp only [zsA,zsZ,zsS];refine M_take 6 28 (.slice la Ln lc) _ rfl rfl (by kernel_rfl) (by kernel_rfl) (by kernel_rfl) (by kernel_rfl) (by kernel_rfl) (fun _ _ _ h => h) (by rfl) (fun w' hw' => ?_) hS (listed' := bts 11 127) (by kernel_rfl) rfl ?_
  ·have hlk := HLK.out w' hw'; go_simp
  simp only [zsA,zsZ,zsS];refine M_take 7 29 (.agg #[.int .i64 x.kind,.int .i64 x.n,.string x.s,.slice a1 n1 c1,.slice a2 n2 c2]) _ rfl rfl (by kernel_rfl) (by kernel_rfl) (by kernel_rfl) (by kernel_rfl) (by kernel_rfl) (fun _ _ _ h => h) (by rfl) (fun w' hw' => ?_) hS (listed' := bts 11 255) (by kernel_rfl) rfl ?_
  ·have BT' := BT.kp hw' nT; have t0 : w'.cell? ⟨b4 + 1,0,none⟩ = some (.int .i64 x.kind) := (BT'.cell 0).trans rfl; have t1 : w'.cell? ⟨b4 + 1,1,none⟩ = some (.int .i64 x.n) := (BT'.cell 1).trans rfl; have t2 : w'.cell? ⟨b4 + 1,2,none⟩ = some (.string x.s) := (BT'.cell 2).trans rfl; have t3 : w'.cell? ⟨b4 + 1,3,none⟩ = some (.slice a1 n1 c1) := (BT'.cell 3).trans rfl; have t4 : w'.cell? ⟨b4 + 1,4,none⟩ = some (.slice a2 n2 c2) := (BT'.cell 4).trans rfl; go_simp
  simp only [zsA,zsZ,zsS];refine M_run 8 30 (.slice (some ⟨W2.heap.size,0,none⟩) 1 1) ((W2.drew.alloc (Obj.cells #[.int .i64 x.kind,.int .i64 x.n,.string x.s,.slice a1 n1 c1,.slice a2 n2 c2] 39))) rfl rfl (by kernel_rfl) (by rfl) (listed' := bts 11 511) (by kernel_rfl) (by go_simp) (hS.alloc _) ?_;simp only [zsA,zsZ,zsS];refine M_run 9 31 (.slice va vn vc) (W') rfl rfl (by kernel_rfl) (by rfl) (listed' := bts 11 1023) (by kernel_rfl) (append_run rfl rfl rfl HAP.out) HK2.out ?_;simp only [zsA,zsZ,zsS];refine M_store 10 w5 rfl rfl (by kernel_rfl) (by rfl) (listed' := bts 11 2047) (by kernel_rfl) (by have q := HUP.out; go_simp) (by kernel_rfl) ?_;refine M_done (by kernel_rfl) ?_ _;clear hS HLK HAP HUP HK2 BF BT nF nT nM;go_wp2_with fail;go_ret;exact HPP.out
end
def nextV (x : Fd × Nat × Nat) : Value := .tuple #[x.1.val,.int .i64 (x.2.1 : Int),.int .i64 (x.2.2 : Int)]
theorem ret_next {x : Fd × Nat × Nat} {r : Fd} {q e : Nat} (hx : x = (r,q,e)) {t k n q' e' : Int} {b : ByteArray} (h1 : t = r.tag) (h2 : k = r.wire) (h3 : n = r.n) (h4 : b = r.b) (h5 : q' = q) (h6 : e' = e) :
  Ending.returned (.tuple #[.agg #[.int .i64 t,.int .i64 k,.int .i64 n,.string b],.int .i64 q',.int .i64 e']) = .returned (nextV x) := by
 subst hx h1 h2 h3 h4 h5 h6; rfl
theorem below_two (w : World) (o1 o2 : Obj) : Below w.heap.size w ((w.alloc o1).alloc o2) := (below_one w o1).alloc (by simp) _
theorem results_next {fn : Func} {p u v : Tmp} {ty : TypeId} (h : fn.results = #[.cell p ty,.tmp u,.tmp v]) (tmps : Array Value) (P : Program) (w : World) (a : Addr) (x : Value) (ha : (asAddr (tmps.getD p undef)).run P w = .ok a w) (hl : (loadVar ty a).run P w = .ok x w) :
  (results fn tmps).run P w = .ok (.tuple #[x,tmps.getD u undef,tmps.getD v undef]) w := by
 simp only [results,h];simp only [Array.getD_eq_getD_getElem?] at ha
 simp [Sem.run_bind,Result.andThen,ha,hl]
theorem next_any (g off : Nat) (ns : List Nat) (N cap p : Nat) (w : World) (hN : ns.length = N) (hh : Holds w (some ⟨g,off,none⟩) ns) (hlt : ∀ n ∈ ns,n < 256) (hc : N ≤ cap) (hm : cap ≤ maxLen) (hl : N ≤ 4096) (hp : p < N) :
  Calls Tryz.prog 80 #[.slice (some ⟨g,off,none⟩) N cap,.int .i64 (p : Int)] w fun e w' => e = .returned (nextV (nextN ns p)) ∧ Below w.heap.size w w' := by
 have HG : Hid (∀ W q,Below w.heap.size w W → q ≤ N → Calls Tryz.prog 106 #[.slice (some ⟨g,off,none⟩) N cap,.int .i64 (q : Int)] W fun e w' => e = .returned (getV (getF (ns.drop q) 0 0 q)) ∧ w' = W) := fun W q hW hq => by
  have := get_any (some ⟨g,off,none⟩) ns cap (q : Int) W (.inr ⟨_,_,rfl⟩) (by omega) hm (by omega) (hh.below hW) hlt;rw [getR_in (by omega),hN] at this;exact this
 have HC : Hid (∀ W q v,Below w.heap.size w W → q + v ≤ N → ∀ c,(convert 45 9 (.slice (some ⟨g,off + q,none⟩) v c)).run Tryz.prog W = .ok (.string (strN ((ns.drop q).take v))) W) := fun W q v hW hq c => by
  have hl' : ((ns.drop q).take v).length = v := by simp; omega
  have := conv_holds W (some ⟨g,off + q,none⟩) ((ns.drop q).take v) c (fun h => by cases h) (Holds.of fun j hj => by
   have := (hh.below hW).at (q + j) (by omega);rw [← Nat.add_assoc] at this;rw [this]
   simp [List.getD_eq_getElem?_getD,List.getElem?_take,List.getElem?_drop,show j < v by omega])
  rw [hl'] at this;exact this
 have HT : Hid (∀ n ∈ ns,n < 256) := hlt;have HN : Hid (ns.length = N) := hN;unfold maxLen at hm;clear hh hlt hN;obtain ⟨⟨h,q1,e1⟩,g1⟩ : ∃ x,getF (ns.drop p) 0 0 p = x := ⟨_,rfl⟩
 have HG1 : Hid (∀ W,Below w.heap.size w W → Calls Tryz.prog 106 #[.slice (some ⟨g,off,none⟩) N cap,.int .i64 (p : Int)] W fun e w' => e = .returned (.tuple #[.int .u64 (h : Int),.int .i64 (q1 : Int),.int .i64 (e1 : Int)]) ∧ w' = W) := fun W hW => by
  have := HG.out W p hW (by omega);rw [g1] at this;exact this
 have G1 : Hid (getF (ns.drop p) 0 0 p = (h,q1,e1)) := g1
 have hh64 : e1 = 0 → p < q1 ∧ q1 ≤ N ∧ h < 18446744073709551616 := by
  rintro rfl;have := getF_at_bd g1 HT.out (by rw [HN.out]; omega);rw [HN.out] at this;exact this
 clear g1
 by_cases he1 : e1 = 0
 ·subst he1;obtain ⟨hq1,hq2,hh64⟩ := hh64 rfl
  by_cases ht : h / 2 = 0 ∨ 500 < h / 2
  ·have HX : Hid (nextN ns p = (fd0,0,7)) := next_tag G1.out ht;clear G1
   by_cases ht0 : h / 2 = 0
   ·have hd : ((h : Int) / 2 == 0) = true := by simp; omega
    go_enter Tryz.func80,Tryz.ntmps80
    go_wp2_with fail;refine (HG1.out _ (below_one _ _)).mono ?_;rintro e w1 ⟨rfl,rfl⟩;go_wp2_with fail;refine bodyPost_ret (results_next rfl _ _ _ ⟨w.heap.size,0,none⟩ (.agg #[.int .i64 0,.int .i64 0,.int .i64 0,.string ⟨#[]⟩]) (by go_simp) (by go_simp)) rfl ?_;exact ⟨ret_next HX.out rfl rfl rfl rfl rfl rfl,below_one _ _⟩
   ·have hd : ((h : Int) / 2 == 0) = false := by simp; omega
    have hd5 : decide (500 < (h : Int) / 2) = true := by simp; omega
    go_enter Tryz.func80,Tryz.ntmps80
    go_wp2_with fail;refine (HG1.out _ (below_one _ _)).mono ?_;rintro e w1 ⟨rfl,rfl⟩;go_wp2_with fail;refine bodyPost_ret (results_next rfl _ _ _ ⟨w.heap.size,0,none⟩ (.agg #[.int .i64 0,.int .i64 0,.int .i64 0,.string ⟨#[]⟩]) (by go_simp) (by go_simp)) rfl ?_;exact ⟨ret_next HX.out rfl rfl rfl rfl rfl rfl,below_one _ _⟩
  ·have hd : ((h : Int) / 2 == 0) = false := by simp; omega
   have hd5 : decide (500 < (h : Int) / 2) = false := by simp; omega
   obtain ⟨⟨v,q2,e2⟩,g2⟩ : ∃ x,getF (ns.drop q1) 0 0 q1 = x := ⟨_,rfl⟩
   have HG2 : Hid (∀ W,Below w.heap.size w W → Calls Tryz.prog 106 #[.slice (some ⟨g,off,none⟩) N cap,.int .i64 (q1 : Int)] W fun e w' => e = .returned (.tuple #[.int .u64 (v : Int),.int .i64 (q2 : Int),.int .i64 (e2 : Int)]) ∧ w' = W) := fun W hW => by
    have := HG.out W q1 hW (by omega);rw [g2] at this;exact this
   have G2 : Hid (getF (ns.drop q1) 0 0 q1 = (v,q2,e2)) := g2
   have hv64 : e2 = 0 → q1 < q2 ∧ q2 ≤ N ∧ v < 18446744073709551616 := by
    rintro rfl;have := getF_at_bd g2 HT.out (by rw [HN.out]; omega);rw [HN.out] at this;exact this
   clear g2
   by_cases he2 : e2 = 0
   ·subst he2;obtain ⟨hq3,hq4,hv64⟩ := hv64 rfl;obtain ⟨m,hm2⟩ : ∃ m,h % 2 = m := ⟨_,rfl⟩
    have hmi : (h : Int) % 2 = (m : Int) := by omega
    obtain ⟨t,ht2⟩ : ∃ t,h / 2 = t := ⟨_,rfl⟩
    have hti : (h : Int) / 2 = (t : Int) := by omega
    have hdt : ((t : Int) == 0) = false := by simp; omega
    have hdt5 : decide (500 < (t : Int)) = false := by simp; omega
    have ht500 : t ≤ 500 := by omega
    clear hd hd5
    by_cases hw : m = 0
    ·subst hw
     have HX : Hid (nextN ns p = (⟨(t : Nat),0,zagN v,⟨#[]⟩⟩,q2,0)) := by
      show _ = _
      rw [next_num G1.out ht G2.out hm2,ht2]
     clear G1 G2 hm2 ht2
     go_enter Tryz.func80,Tryz.ntmps80
     go_wp2_with fail;refine (HG1.out _ (below_one _ _)).mono ?_;rintro e w1 ⟨rfl,rfl⟩;go_wp2_with fail;refine (HG2.out _ (below_one _ _)).mono ?_;rintro e w1 ⟨rfl,rfl⟩;go_wp2_with fail;refine (zag_any v _ (by omega) (by omega)).mono ?_;rintro e w1 ⟨rfl,rfl⟩;have hz := zagN_bd v (by omega) (by omega);generalize zagN v = z at *;go_wp2_with fail;refine bodyPost_ret (results_next rfl _ _ _ ⟨w.heap.size,0,none⟩ (.agg #[.int .i64 (t : Int),.int .i64 0,.int .i64 z,.string ⟨#[]⟩]) (by go_simp) (by go_simp)) rfl ?_;exact ⟨ret_next HX.out rfl rfl rfl rfl rfl rfl,below_two _ _ _⟩
    ·obtain rfl : m = 1 := by omega
     by_cases hs : N - q2 < v
     ·have HX : Hid (nextN ns p = (fd0,0,2)) := next_short G1.out ht G2.out (by omega) (by rw [HN.out]; exact hs);clear G1 G2 hm2 ht2
      have hdv : decide ((N : Int) - (q2 : Int) < (v : Int)) = true := by simp; omega
      go_enter Tryz.func80,Tryz.ntmps80
      go_wp2_with fail;refine (HG1.out _ (below_one _ _)).mono ?_;rintro e w1 ⟨rfl,rfl⟩;go_wp2_with fail;refine (HG2.out _ (below_one _ _)).mono ?_;rintro e w1 ⟨rfl,rfl⟩;go_wp2_with fail;refine bodyPost_ret (results_next rfl _ _ _ ⟨w.heap.size,0,none⟩ (.agg #[.int .i64 0,.int .i64 0,.int .i64 0,.string ⟨#[]⟩]) (by go_simp) (by go_simp)) rfl ?_;exact ⟨ret_next HX.out rfl rfl rfl rfl rfl rfl,below_two _ _ _⟩
     ·have HX : Hid (nextN ns p = (⟨(t : Nat),1,0,strN ((ns.drop q2).take v)⟩,q2 + v,0)) := by
       show _ = _
       rw [next_text G1.out ht G2.out (by omega) (by rw [HN.out]; omega),ht2]
      clear G1 G2 hm2 ht2
      have hdv : decide ((N : Int) - (q2 : Int) < (v : Int)) = false := by simp; omega
      obtain ⟨S,hS⟩ : ∃ S,strN ((ns.drop q2).take v) = S := ⟨_,rfl⟩;rw [hS] at HX
      by_cases hqc : q2 = cap
      ·obtain rfl : v = 0 := by omega
       have hS0 : strN [] = S := by rw [← hS]; simp
       have hcv : ∀ o1 o2 c,(convert 45 9 (.slice (some ⟨g,off,none⟩) 0 c)).run Tryz.prog ((w.alloc o1).alloc o2) = .ok (.string S) ((w.alloc o1).alloc o2) := fun o1 o2 c => by
        have := conv_holds ((w.alloc o1).alloc o2) (some ⟨g,off,none⟩) [] c (fun h => by cases h) Holds.nil;rw [hS0] at this;exact this
       clear hS hS0;subst hqc
       go_enter Tryz.func80,Tryz.ntmps80
       go_wp2_with fail;refine (HG1.out _ (below_one _ _)).mono ?_;rintro e w1 ⟨rfl,rfl⟩;go_wp2_with fail;refine (HG2.out _ (below_one _ _)).mono ?_;rintro e w1 ⟨rfl,rfl⟩;go_wp2_with fail;refine bodyPost_ret (results_next rfl _ _ _ ⟨w.heap.size,0,none⟩ (.agg #[.int .i64 (t : Int),.int .i64 1,.int .i64 0,.string S]) (by go_simp) (by go_simp)) rfl ?_;exact ⟨ret_next HX.out rfl rfl rfl rfl (by simp) rfl,below_two _ _ _⟩
      ·have hcv : ∀ o1 o2 c,(convert 45 9 (.slice (some ⟨g,off + q2,none⟩) v c)).run Tryz.prog ((w.alloc o1).alloc o2) = .ok (.string S) ((w.alloc o1).alloc o2) := fun o1 o2 c => by
        have := HC.out ((w.alloc o1).alloc o2) q2 v (below_two _ _ _) (by omega) c;rw [hS] at this;exact this
       clear hS
       go_enter Tryz.func80,Tryz.ntmps80
       go_wp2_with fail;refine (HG1.out _ (below_one _ _)).mono ?_;rintro e w1 ⟨rfl,rfl⟩;go_wp2_with fail;refine (HG2.out _ (below_one _ _)).mono ?_;rintro e w1 ⟨rfl,rfl⟩;go_wp2_with fail;refine bodyPost_ret (results_next rfl _ _ _ ⟨w.heap.size,0,none⟩ (.agg #[.int .i64 (t : Int),.int .i64 1,.int .i64 0,.string S]) (by go_simp) (by go_simp)) rfl ?_;exact ⟨ret_next HX.out rfl rfl rfl rfl (by simp) rfl,below_two _ _ _⟩
   ·have HX : Hid (nextN ns p = (fd0,0,e2)) := next_e2 G1.out ht G2.out he2;clear G1 G2 hv64
    have hne : ((e2 : Int) != 0) = true := by simp; omega
    go_enter Tryz.func80,Tryz.ntmps80
    go_wp2_with fail;refine (HG1.out _ (below_one _ _)).mono ?_;rintro e w1 ⟨rfl,rfl⟩;go_wp2_with fail;refine (HG2.out _ (below_one _ _)).mono ?_;rintro e w1 ⟨rfl,rfl⟩;go_wp2_with fail;refine bodyPost_ret (results_next rfl _ _ _ ⟨w.heap.size,0,none⟩ (.agg #[.int .i64 0,.int .i64 0,.int .i64 0,.string ⟨#[]⟩]) (by go_simp) (by go_simp)) rfl ?_;exact ⟨ret_next HX.out rfl rfl rfl rfl rfl rfl,below_one _ _⟩
 ·have HX : Hid (nextN ns p = (fd0,0,e1)) := next_e1 G1.out he1;clear G1 hh64
  have hne : ((e1 : Int) != 0) = true := by simp; omega
  go_enter Tryz.func80,Tryz.ntmps80
  go_wp2_with fail;refine (HG1.out _ (below_one _ _)).mono ?_;rintro e w1 ⟨rfl,rfl⟩;go_wp2_with fail;refine bodyPost_ret (results_next rfl _ _ _ ⟨w.heap.size,0,none⟩ (.agg #[.int .i64 0,.int .i64 0,.int .i64 0,.string ⟨#[]⟩]) (by go_simp) (by go_simp)) rfl ?_;exact ⟨ret_next HX.out rfl rfl rfl rfl rfl rfl,below_one _ _⟩
theorem rawCells_snoc (acc : List Fd) (r : Fd) : (acc ++ [r]).length = acc.length + 1 ∧ rawCells (acc ++ [r]) = rawCells acc ++ r.cells := by
 constructor
 ·simp
 ·rw [rawCells_app,rawCells_cons,rawCells_nil,List.append_nil]
theorem wget_any (a : Option Addr) (ns : List Nat) (N cap : Nat) (w : World) (hN : ns.length = N) (hh : Holds w a ns) (hlt : ∀ n ∈ ns,n < 256) (hc : N ≤ cap) (hm : cap ≤ maxLen) (hadr : ns = [] ∨ ∃ g off,a = some ⟨g,off,none⟩) :
  Calls Tryz.prog 55 #[.slice a N cap] w fun e w' => ∃ v,e = .returned (.tuple #[v,.int .i64 ((getL ns).2 : Int)]) ∧ w'.ownsRow w.heap.size 44 4 v (getL ns).1.length (rawCells (getL ns).1) ∧ Below w.heap.size w w' := by
 have HM : Hid (cap ≤ maxLen) := hm;unfold maxLen at hm;obtain ⟨R,hR⟩ : ∃ R,getL ns = R := ⟨_,rfl⟩;rw [hR]
 by_cases hbig : 4096 < N
 ·have : R = ([],4) := by rw [← hR,getL,if_pos (by omega)]
  subst this;clear hR hh hlt
  go_enter Tryz.func55,Tryz.ntmps55
  go_wp2_with fail
  go_ret2
  exact ⟨_,rfl,World.ownsRow_nil _ _ _ _,Below.refl _ _⟩
 ·have HR : Hid (joinA [] (getA ns 0) = R) := by
   show _ = _
   rw [joinA_nil _ (getA_nil ns 0),← hR,getL,if_neg (by omega)]
  have HN : Hid (ns.length = N) := hN;have HH : Hid (Holds w a ns) := hh;have HT : Hid (∀ n ∈ ns,n < 256) := hlt;have HA : Hid (ns = [] ∨ ∃ g off,a = some ⟨g,off,none⟩) := hadr;obtain ⟨i0,hi,hz0,hz1,hz2⟩ := info_parts infoRaw;clear hR hN hh hlt hadr
  go_enter Tryz.func55,Tryz.ntmps55
  go_wp2_with fail
  go_loopw [4,5] (fun out pv wr => ∃ (acc : List Fd) (p : Nat),pv = .int .i64 (p : Int) ∧ p ≤ N ∧ acc.length ≤ p ∧ Hid (joinA acc (getA ns p) = R) ∧ Hid (wr.ownsRow w.heap.size 44 4 out acc.length (rawCells acc)) ∧ Below w.heap.size w wr)
   (fun _ pv _ => N - (intOf pv).toNat)
  case atStart => exact ⟨[],0,rfl,by omega,by simp,HR,World.ownsRow_nil _ _ _ _,Below.refl _ _⟩
  case round =>
   obtain ⟨acc,p,rfl,hp,hacc,HJ,HO,hbel⟩ := hrel;have hws := hbel.size
   by_cases hpn : p < N
   ·rcases HA.out with h0 | ⟨g,off,rfl⟩
    ·exact absurd hpn (by have := HN.out; rw [h0] at this; simp at this; omega)
    have hnx := next_any g off ns N cap p wr HN.out (HH.out.below hbel) HT.out hc HM.out (by omega) hpn;obtain ⟨⟨r,q,e⟩,hx⟩ : ∃ x,nextN ns p = x := ⟨_,rfl⟩;rw [hx] at hnx;have HX : Hid (nextN ns p = (r,q,e)) := hx;clear hx
    by_cases he : e = 0
    ·subst he
     have hq : p < q ∧ q ≤ N := by
      have := nextN_bd HX.out HT.out (by rw [HN.out]; omega);rw [HN.out] at this;exact this
     have HJ2 : Hid (joinA (acc ++ [r]) (getA ns q) = R) := by
      show _ = _
      rw [← joinA_join,← getA_on (by rw [HN.out]; exact hpn) HX.out HT.out];exact HJ.out
     clear HJ HX;obtain ⟨t,k,n,b⟩ := r;simp only [nextV,Fd.val] at hnx;go_wp2_with fail;refine hnx.mono ?_;rintro e w1 ⟨rfl,hb1⟩;have hb1' : Below w.heap.size w w1 := hbel.trans (hb1.mono hws);have hws1 := hb1'.size;have HO1 := own_belowH HO hb1;clear HO hnx
     go_wp2_with (first
      | (at_builtin; refine wpList_append_own _ rfl _ _ 37 rfl w.heap.size 44 i0 _ 4 40 Tryz.underlying37 hi hz0 hz1 hz2 rfl (by decide) _ _ _ rfl ((HO1.out.alloc _).alloc _) ⟨w1.heap.size + 1,0,none⟩ 1 1 (Fd.cells ⟨t,k,n,b⟩) rfl rfl ?c1 ?c2 ?c3 ?c4 ?c5 ?_)
      | fail)
     case c1 =>
      intro j u hj
      match j,hj with
      | 0,hj | 1,hj | 2,hj | 3,hj => simp [Fd.cells] at hj; subst hj; simp [Addr.add]
     case c2 => intro u hu; simp [Fd.cells] at hu; rcases hu with rfl | rfl | rfl | rfl <;> rfl
     case c3 => unfold maxLen; omega
     case c4 => omega
     case c5 => simp; omega
     intro v w2 ho2 hg2 _;have hb2 : Below w.heap.size w w2 := ((hb1'.alloc hws1 _).alloc (by simp; omega) _).grown hg2 (by simp; omega) (fun k hk => (HO1.out.lt k hk).1)
     have HO2 : Hid (w2.ownsRow w.heap.size 44 4 v (acc ++ [(⟨t,k,n,b⟩ : Fd)]).length (rawCells (acc ++ [⟨t,k,n,b⟩]))) := by
      show World.ownsRow _ _ _ _ _ _ _
      rw [(rawCells_snoc acc _).1,(rawCells_snoc acc _).2];exact ho2
     have hlen : (acc ++ [(⟨t,k,n,b⟩ : Fd)]).length ≤ q := by simp; omega
     clear HO1 ho2 hg2 hb1 hb1';go_wp2_with fail
     go_roundw
     case rel => exact ⟨acc ++ [⟨t,k,n,b⟩],q,rfl,hq.2,hlen,HJ2,HO2,hb2⟩
     case measure => simp [intOf]; omega
    ·have hne : ((e : Int) != 0) = true := by simp; omega
     have hR : R = ([],e) := by rw [← HJ.out,getA_err (by rw [HN.out]; exact hpn) HX.out he,joinA,if_neg he]
     subst hR;clear HJ HX HR HO;obtain ⟨t,k,n,b⟩ := r;simp only [nextV,Fd.val] at hnx;go_wp2_with fail;refine hnx.mono ?_;rintro e w1 ⟨rfl,hb1⟩;have hb1' : Below w.heap.size w w1 := hbel.trans (hb1.mono hws);have hb2 : ∀ o,Below w.heap.size w (w1.alloc o) := fun o => hb1'.alloc hb1'.size o
     clear hnx hb1 hb1';go_wp2_with fail
     go_ret2
     exact ⟨_,rfl,World.ownsRow_nil _ _ _ _,hb2 _⟩
   ·have hR : R = (acc,0) := by rw [← HJ.out,getA_end (by rw [HN.out]; omega),joinA,if_pos rfl,List.append_nil]
    subst hR;clear HJ HR;go_wp2_with fail
    go_ret2
    exact ⟨_,rfl,HO.out,hbel⟩
theorem wpList_app {ops : Array Oper} {rest : List Oper} {o : Oper} {a : Act} {Q : Exit → Act → World → Prop} {w w' : World} {t : TypeId} {v y v' : Value} (hgd : o.guard = none) (s x : Operand) (hop : o.op = .call { callee := .builtin .append,args := #[s,x],argTypes := #[t,t] })
  (hs : a.eval s = v) (hx : a.eval x = y) (hr : (Builtin.append_ #[t,t] o.type #[v,y]).run Tryz.prog w = .ok v' w') (h : wpList Tryz.prog ops Q rest (a.put o.dst v') w') : wpList Tryz.prog ops Q (o :: rest) a w :=
 wpList_plain hgd fun K hK => by
  unfold Oper.wp;rw [append_run hop hs hx hr];exact hK _ _ h
section
variable {n B bR bm c : Nat} {K : List KE} {vr : Value} {rest : List Fd} {w : World}
theorem DcS.pushR (h : DcS n B bR bm c K vr rest w) (hB : B ≤ w.heap.size) (r : Fd) (hr : Is64 r.tag ∧ Is64 r.wire ∧ Is64 r.n ∧ r.b.size ≤ 140737488351232) (hl : rest.length ≤ 5000) {bz : Nat} (BZ : Blk w bz r.cells.toArray 44) :
  ∃ a c' W',(Builtin.append_ #[37,37] 37 #[vr,.slice (some ⟨bz,0,none⟩) 1 1]).run Tryz.prog w = .ok (.slice a (rest.length + 1) c') W' ∧ Kp (fun q => q ∈ blkOf vr) w W' ∧ Blk W' bR #[vr] 37 ∧
   DcS n B bR bm c K (.slice a (rest.length + 1) c') (rest ++ [r]) (W'.setCell ⟨bR,0,none⟩ (.slice a (rest.length + 1) c')) := by
 obtain ⟨i0,hi0,hz0,hz1,hz2⟩ := info_parts infoRaw
 obtain ⟨v',W',r1,r2,r3,_,r5⟩ := run_append_own_at w B 37 37 44 i0 _ 4 40 Tryz.underlying37 hi0 hz0 hz1 hz2 rfl (by decide) vr rest.length _ h.rr ⟨bz,0,none⟩ 1 1 r.cells rfl (fun j u hu => by
  have := BZ.cell j;rw [Addr.add_lit,Nat.zero_add,this]
  simpa using hu) (fun u hu => by
   simp only [Fd.cells,List.mem_cons,List.not_mem_nil,or_false] at hu
   rcases hu with rfl | rfl | rfl | rfl <;> rfl) (by unfold maxLen; omega) (by omega) hB
 obtain ⟨a,c',rfl⟩ := own_form r2;have r6 : Kp (fun q => q ∈ blkOf vr) w W' := (Kp.refl _ _).grown r3 (fun k hk _ => mem_blkOf.2 hk);have hgeb : ∀ k ∈ blkOf vr,B ≤ k := fun k hk => (own_lt h.rr (mem_blkOf.1 hk)).1
 have hnm : bm ∉ blkOf vr := fun e => by have := hgeb _ e; have := h.ltm; omega
 have hnR : bR ∉ blkOf vr := fun e => by have := hgeb _ e; have := h.ltR; omega
 have BR : Blk W' bR #[vr] 37 := h.rb.kp r6 hnR
 have KS : Kp (fun q => q = bR) W' (W'.setCell ⟨bR,0,none⟩ (.slice a (rest.length + 1) c')) := by
  refine Kp.setCell ?_ (fun _ => by simp) _;exact Kp.refl _ _
 have hap : Apt B W' (fpK K ++ allB (.slice a (rest.length + 1) c') ([] ++ [[]])) := Apt.push (bss := []) (b := []) (by simpa [allB] using h.ap) r5 r2 r3.size hB
 have hap' : Apt B W' (fpK K ++ blkOf (.slice a (rest.length + 1) c')) := by simpa [allB] using hap
 have hne : ∀ k ∈ fpK K ++ blkOf (.slice a (rest.length + 1) c'),k ≠ bR := fun k hk e => by have := (hap'.2 k hk).1; have := h.ltR; omega
 have hS1 : Sm w W' (fpK K) := r6.sm fun k hk => ⟨(h.ap.2 k (List.mem_append.2 (.inl hk))).2,fun e => h.ap.apart k hk e⟩
 have hS2 : Sm W' (W'.setCell ⟨bR,0,none⟩ (.slice a (rest.length + 1) c')) (fpK K ++ blkOf (.slice a (rest.length + 1) c')) := KS.sm fun k hk => ⟨(hap'.2 k hk).2,hne k hk⟩
 have hS : Sm w (W'.setCell ⟨bR,0,none⟩ (.slice a (rest.length + 1) c')) (fpK K) := fun k hk => (hS2 k (List.mem_append.2 (.inl hk))).trans (hS1 k hk)
 refine ⟨a,c',W',r1,r6,BR,⟨(h.map.kp r6 hnm).kp KS (fun e => h.map.ne h.rb e.symm),h.ris,fun k hk => ?_,h.i64,BR.set 0 _ rfl,?_,?_,hap'.mono KS.size,h.ltR,h.ltm⟩⟩
 ·obtain ⟨rows,bss,g1,g2⟩ := h.row k hk;exact ⟨rows,bss,g1.sm (hS.mono fun q hq => fpK_mem hk q (by rw [g2]; exact hq)) fun _ _ _ hp hb => hp.sm hb,g2⟩
 ·obtain ⟨e1,e2⟩ := rawCells_snoc rest r;rw [e1,e2];exact own_sm r2 (hS2.mono fun q hq => List.mem_append.2 (.inr hq))
 ·intro f hf
  rcases List.mem_append.1 hf with hf | hf
  ·exact h.r64 f hf
  ·obtain rfl : f = r := by simpa using hf
   exact hr
end
end
end Go.Proofs.YtiajaocckkghgabGreat
