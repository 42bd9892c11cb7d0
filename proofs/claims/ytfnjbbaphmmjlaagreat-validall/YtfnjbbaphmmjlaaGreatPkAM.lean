/- Part 13 of what the proof stands on. -/
import Derived.Test.YtfnjbbaphmmjlaaGreatPkAL
namespace Go.Proofs.YtfnjbbaphmmjlaaGreat
set_option linter.unusedVariables false
set_option linter.unusedSimpArgs false
section
open Go.ChangeShapes Go.WideShapes Go.ChangeAt Go.RowKit
set_option maxRecDepth 20000
def cutE (n : Nat) (es : List (Int × List Tr)) : List (Int × List Tr) := es.map fun e => (e.1,e.2.map (cutT true n))
theorem cutT_nn (b : Bool) (n : Nat) (t : Tr) : (cutT b n t).n = t.n := by cases n <;> rfl
theorem cutT_ss (b : Bool) (n : Nat) (t : Tr) : (cutT b n t).s = t.s := by cases n <;> rfl
set_option maxHeartbeats 8000000 in
theorem rbare_step (n : Nat) (IH : ∀ t v w,TrIn n w v t → SmN n t → Calls Tryz.prog 20 #[v] w (CopyP n (cutT true n t) w)) (t : Tr) (v : Value) (w : World) (ht : TrIn (n + 1) w v t) (hsm : SmN (n + 1) t) :
  Calls Tryz.prog 20 #[v] w (CopyP (n + 1) (cutT true (n + 1) t) w) := by
 obtain ⟨n',ve,vr,e0,rfl,ka,na,sa,fa,ra,ea⟩ := ht.open
 obtain rfl : n' = n := by omega
 clear e0 ht
 obtain ⟨pe,ce,rfl,u1,u2, -⟩ := ea.open
 obtain ⟨pr,cr,rfl,x1,x2, -⟩ := rest_holds ra
 unfold maxLen at u2 x2
 obtain ⟨-,hr40,he40, -,hsub⟩ := hsm
 obtain ⟨Ke,hKe⟩ : ∃ K,t.es.length = K := ⟨_,rfl⟩
 obtain ⟨Kr,hKr⟩ : ∃ K,t.rest.length = K := ⟨_,rfl⟩
 have HSB : Hid (∀ e ∈ t.es,e.2.length ≤ 70 ∧ ∀ x ∈ e.2,SmN n' x) := hsub
 rw [hKe] at u1 he40 ⊢
 rw [hKr] at x1 hr40 ⊢
 have EA : Hid (EnsIn n' w (.slice pe Ke ce) t.es) := (by rw [← hKe]; exact ea : EnsIn n' w (.slice pe Ke ce) t.es)
 have RA : Hid (RowG w (.slice pr Kr cr) 4 (fdRows t.rest)) := (by rw [← hKr]; exact ra : RowG w (.slice pr Kr cr) 4 (fdRows t.rest))
 have HKe : Hid (t.es.length = Ke) := hKe
 have HKr : Hid (t.rest.length = Kr) := hKr
 have HFA : Hid (Is64 t.kind ∧ Is64 t.n ∧ t.s.size ≤ 140737488351232 ∧ Fd64 t.rest) := ⟨ka,na,sa,fa⟩
 clear hKe hKr ea ra fa ka na sa hsub
 obtain ⟨K,hK⟩ : ∃ K,t.kind = K := ⟨_,rfl⟩
 obtain ⟨N,hN⟩ : ∃ K,t.n = K := ⟨_,rfl⟩
 obtain ⟨S,hS⟩ : ∃ K,t.s = K := ⟨_,rfl⟩
 rw [hK,hN,hS]
 have HKN : Hid (t.kind = K ∧ t.n = N ∧ t.s = S) := ⟨hK,hN,hS⟩
 clear hK hN hS
 have hb2 : Below w.heap.size w (((w.alloc (Obj.cells #[.int .i64 K,.int .i64 N,.string S,.slice pe Ke ce,.slice pr Kr cr] 30)).alloc (Obj.cells #[.int .i64 0,.int .i64 0,.string ⟨#[]⟩,.slice none 0 0,.slice none 0 0] 30)).alloc (Obj.cells #[.int .i64 K,.int .i64 N,.string S,.slice none 0 0,.slice none 0 0] 30)) := (((Below.refl _ _).alloc (Nat.le_refl _) _).alloc (by simp) _).alloc (by simp; omega) _
 have BX2 : Blk (((w.alloc (Obj.cells #[.int .i64 K,.int .i64 N,.string S,.slice pe Ke ce,.slice pr Kr cr] 30)).alloc (Obj.cells #[.int .i64 0,.int .i64 0,.string ⟨#[]⟩,.slice none 0 0,.slice none 0 0] 30)).alloc (Obj.cells #[.int .i64 K,.int .i64 N,.string S,.slice none 0 0,.slice none 0 0] 30)) w.heap.size #[.int .i64 K,.int .i64 N,.string S,.slice pe Ke ce,.slice pr Kr cr] 30 := ((Blk.new w _ _).below ((Below.refl _ _).alloc (Nat.le_refl _) _)).below ((Below.refl _ _).alloc (Nat.le_refl _) _)
 have BR2 : Blk (((w.alloc (Obj.cells #[.int .i64 K,.int .i64 N,.string S,.slice pe Ke ce,.slice pr Kr cr] 30)).alloc (Obj.cells #[.int .i64 0,.int .i64 0,.string ⟨#[]⟩,.slice none 0 0,.slice none 0 0] 30)).alloc (Obj.cells #[.int .i64 K,.int .i64 N,.string S,.slice none 0 0,.slice none 0 0] 30)) (w.heap.size + 1) #[.int .i64 0,.int .i64 0,.string ⟨#[]⟩,.slice none 0 0,.slice none 0 0] 30 := by
  have := Blk.new (w.alloc (Obj.cells #[.int .i64 K,.int .i64 N,.string S,.slice pe Ke ce,.slice pr Kr cr] 30)) #[.int .i64 0,.int .i64 0,.string ⟨#[]⟩,.slice none 0 0,.slice none 0 0] 30
  rw [show (w.alloc (Obj.cells #[.int .i64 K,.int .i64 N,.string S,.slice pe Ke ce,.slice pr Kr cr] 30)).heap.size = w.heap.size + 1 from by simp] at this
  exact this.below ((Below.refl _ _).alloc (Nat.le_refl _) _)
 have BT2 : Blk (((w.alloc (Obj.cells #[.int .i64 K,.int .i64 N,.string S,.slice pe Ke ce,.slice pr Kr cr] 30)).alloc (Obj.cells #[.int .i64 0,.int .i64 0,.string ⟨#[]⟩,.slice none 0 0,.slice none 0 0] 30)).alloc (Obj.cells #[.int .i64 K,.int .i64 N,.string S,.slice none 0 0,.slice none 0 0] 30)) (w.heap.size + 1 + 1) #[.int .i64 K,.int .i64 N,.string S,.slice none 0 0,.slice none 0 0] 30 := by
  have := Blk.new ((w.alloc (Obj.cells #[.int .i64 K,.int .i64 N,.string S,.slice pe Ke ce,.slice pr Kr cr] 30)).alloc (Obj.cells #[.int .i64 0,.int .i64 0,.string ⟨#[]⟩,.slice none 0 0,.slice none 0 0] 30)) #[.int .i64 K,.int .i64 N,.string S,.slice none 0 0,.slice none 0 0] 30
  rwa [show ((w.alloc (Obj.cells #[.int .i64 K,.int .i64 N,.string S,.slice pe Ke ce,.slice pr Kr cr] 30)).alloc (Obj.cells #[.int .i64 0,.int .i64 0,.string ⟨#[]⟩,.slice none 0 0,.slice none 0 0] 30)).heap.size = w.heap.size + 1 + 1 from by simp] at this
 go_enter Tryz.func20,Tryz.ntmps20
 go_wp2_with fail
 generalize (((w.alloc (Obj.cells #[.int .i64 K,.int .i64 N,.string S,.slice pe Ke ce,.slice pr Kr cr] 30)).alloc (Obj.cells #[.int .i64 0,.int .i64 0,.string ⟨#[]⟩,.slice none 0 0,.slice none 0 0] 30)).alloc (Obj.cells #[.int .i64 K,.int .i64 N,.string S,.slice none 0 0,.slice none 0 0] 30)) = W2 at *
 obtain ⟨b0,hb0⟩ : ∃ n,w.heap.size = n := ⟨_,rfl⟩
 have HBZ : Hid (w.heap.size = b0) := hb0
 rw [hb0] at BX2 BR2 BT2
 simp only [hb0]
 clear hb0
 obtain ⟨bt,hbt0⟩ : ∃ n,b0 + 1 + 1 = n := ⟨_,rfl⟩
 have hbt : b0 + 2 ≤ bt := by omega
 rw [hbt0] at BT2
 simp only [hbt0]
 clear hbt0
 have HAP : Hid (Apt (b0 + 2) W2 (([bt] ++ blkOf (.slice none 0 0)) ++ allB (.slice none 0 0) [])) := by
  show Apt _ _ _
  have h1 : blkOf (.slice none 0 0) = [] := rfl
  simp only [allB,h1,List.flatten_nil,List.append_nil]
  refine ⟨by simp,fun k hk => ?_⟩
  rw [List.mem_singleton.1 hk]
  exact ⟨hbt,BT2.lt⟩
 have HCP : Hid (CpS n' (b0 + 2) b0 bt #[.int .i64 K,.int .i64 N,.string S,.slice pe Ke ce,.slice pr Kr cr] K N S (.slice none 0 0) (.slice none 0 0) (cutE n' (t.es.take 0)) [] [] [] W2) := ⟨RowO.nil _ _ _ _ _,World.ownsRow_nil _ _ _ _,BT2,BX2,BR2⟩
 clear BT2 BX2 BR2 RA
 go_loopw [4] (fun iv wr => ∃ (i : Nat) (va : Option Addr) (vc : Nat) (rows : List (List Value)) (bss : List (List Nat)),iv = .int .i64 (i : Int) ∧ i ≤ Ke ∧ Hid (CpS n' (b0 + 2) b0 bt #[.int .i64 K,.int .i64 N,.string S,.slice pe Ke ce,.slice pr Kr cr] K N S (.slice va i vc) (.slice none 0 0) (cutE n' (t.es.take i)) [] rows bss wr) ∧ Hid (Apt (b0 + 2) wr (([bt] ++ blkOf (.slice none 0 0)) ++ allB (.slice va i vc) bss)) ∧ Below w.heap.size w wr) (fun iv _ => Ke - (intOf iv).toNat)
 case atStart => exact ⟨0,none,0,[],[],rfl,by omega,HCP,HAP,hb2⟩
 case round =>
  clear HCP HAP hb2
  obtain ⟨i,va,vc,rows,bss,rfl,hi,HCP,HAP,hbel⟩ := hrel
  have q3 : wr.cell? ⟨b0,3,none⟩ = some (.slice pe Ke ce) := HCP.out.bx.cell 3
  have hbtl := HCP.out.bt.lt
  by_cases hlt : i < Ke
  ·obtain ⟨x,hx⟩ : ∃ r,t.es[i]? = some r := ⟨_,List.getElem?_eq_getElem (by rw [HKe.out]; exact hlt)⟩
   obtain ⟨ge,off,rfl,cc⟩ := EA.out.get hx
   obtain ⟨vt,p0,p1,p2,p3⟩ := ens_at cc
   obtain ⟨pt,ct,rfl,t1,t2, -⟩ := p3.open
   unfold maxLen at t2
   have HX : Hid (t.es[i]? = some x) := hx
   have HSX : Hid (x.2.length ≤ 70 ∧ ∀ y ∈ x.2,SmN n' y) := HSB.out x (List.mem_of_getElem? hx)
   obtain ⟨xt,xl⟩ := x
   simp only at p0 p1 p2 p3 t1 HSX
   obtain ⟨Kt,hKt⟩ : ∃ K,xl.length = K := ⟨_,rfl⟩
   rw [hKt] at p1 t1
   have T1 : Hid (TrsIn n' w (.slice pt Kt ct) xl) := (by rw [← hKt]; exact p3 : TrsIn n' w (.slice pt Kt ct) xl)
   have HKt : Hid (xl.length = Kt) := hKt
   have hkt : Kt ≤ 70 := by rw [← hKt]; exact HSX.out.1
   have H64 : Hid (Is64 xt) := p2
   have P1 : Hid (w.cell? ⟨ge,off + i * 2 + 1,none⟩ = some (.slice pt Kt ct)) := p1
   have r0 := (hbel.cell (World.block_lt_of_cell? _ _ p0)).trans p0
   clear hx cc p0 p1 p2 p3 hKt
   go_wp2_with fail
   have hbY : Below wr.heap.size wr (wr.alloc (.cells #[.int .i64 xt,.slice none 0 0] 58)) := (Below.refl _ _).alloc (Nat.le_refl _) _
   have BY : Blk (wr.alloc (.cells #[.int .i64 xt,.slice none 0 0] 58)) wr.heap.size #[.int .i64 xt,.slice none 0 0] 58 := Blk.new wr _ _
   have HAPY : Hid (Apt (b0 + 2) (wr.alloc (.cells #[.int .i64 xt,.slice none 0 0] 58)) ((([bt] ++ blkOf (.slice none 0 0)) ++ allB (.slice va i vc) bss ++ [wr.heap.size]) ++ allB (.slice none 0 0) [])) := by
    show Apt _ _ _
    have h1 : allB (.slice none 0 0) [] = [] := rfl
    rw [h1,List.append_nil]
    exact HAP.out.new (by omega) (by simp)
   have HCPY : Hid (CpS n' (b0 + 2) b0 bt #[.int .i64 K,.int .i64 N,.string S,.slice (some ⟨ge,off,none⟩) Ke ce,.slice pr Kr cr] K N S (.slice va i vc) (.slice none 0 0) (cutE n' (t.es.take i)) [] rows bss (wr.alloc (.cells #[.int .i64 xt,.slice none 0 0] 58))) := HCP.out.sm (Sm.below hbY (HCP.out.lt (more := []) (by simpa using HAP.out)))
   have hbZ : Below w.heap.size w (wr.alloc (.cells #[.int .i64 xt,.slice none 0 0] 58)) := hbel.trans (hbY.mono hbel.size)
   have HYW : Hid (b0 + 2 ≤ wr.heap.size) := (by have := (HAP.out.2 bt (by simp)).1; omega : b0 + 2 ≤ wr.heap.size)
   have HRY : Hid (RowO (TrO n' (b0 + 2)) (b0 + 2) 30 5 (wr.alloc (.cells #[.int .i64 xt,.slice none 0 0] 58)) (.slice none 0 0) ((xl.take 0).map (cutT true n')) [] []) := RowO.nil _ _ _ _ _
   generalize (wr.alloc (.cells #[.int .i64 xt,.slice none 0 0] 58)) = WY at *
   obtain ⟨by',hby⟩ : ∃ q,wr.heap.size = q := ⟨_,rfl⟩
   rw [hby] at BY HAPY HYW ⊢
   clear hby hbY HCP HAP hbel q3 r0 hbtl
   go_loopw [6] (fun iv wz => ∃ (j : Nat) (ta : Option Addr) (tc : Nat) (rows' : List (List Value)) (bss' : List (List Nat)),iv = .int .i64 (j : Int) ∧ j ≤ Kt ∧ Hid (RowO (TrO n' (b0 + 2)) (b0 + 2) 30 5 wz (.slice ta j tc) ((xl.take j).map (cutT true n')) rows' bss') ∧ Hid (Apt (b0 + 2) wz ((([bt] ++ blkOf (.slice none 0 0)) ++ allB (.slice va i vc) bss ++ [by']) ++ allB (.slice ta j tc) bss')) ∧ Hid (Blk wz by' #[.int .i64 xt,.slice ta j tc] 58) ∧ Hid (CpS n' (b0 + 2) b0 bt #[.int .i64 K,.int .i64 N,.string S,.slice (some ⟨ge,off,none⟩) Ke ce,.slice pr Kr cr] K N S (.slice va i vc) (.slice none 0 0) (cutE n' (t.es.take i)) [] rows bss wz) ∧ Below w.heap.size w wz) (fun iv _ => Kt - (intOf iv).toNat)
   case atStart => exact ⟨0,none,0,[],[],rfl,by omega,HRY,HAPY,BY,HCPY,hbZ⟩
   case round =>
    clear HRY HAPY BY HCPY hbZ
    obtain ⟨j,ta,tc,rows',bss',rfl,hj,HRY,HAP,BY,HCP,hbel⟩ := hrel
    have q3 : wr.cell? ⟨b0,3,none⟩ = some (.slice (some ⟨ge,off,none⟩) Ke ce) := HCP.out.bx.cell 3
    have p1 := (hbel.cell (World.block_lt_of_cell? _ _ P1.out)).trans P1.out
    by_cases hlt2 : j < Kt
    ·obtain ⟨x,hx⟩ : ∃ r,xl[j]? = some r := ⟨_,List.getElem?_eq_getElem (by rw [HKt.out]; exact hlt2)⟩
     obtain ⟨g3,off3,rfl,k1⟩ := T1.out.get hx
     obtain ⟨z1,n1,e1,z2,n2,e2,y0,y1,y2,y3,y4,y5⟩ := trs_get k1
     have HX2 : Hid (xl[j]? = some x) := hx
     have HSY : Hid (SmN n' x) := HSX.out.2 x (List.mem_of_getElem? hx)
     have HIN : Hid (TrIn n' w (.agg #[.int .i64 x.kind,.int .i64 x.n,.string x.s,.slice z1 n1 e1,.slice z2 n2 e2]) x) := y5
     have HCE : Hid (w.cell? ⟨g3,off3 + j * 5,none⟩ = some (.int .i64 x.kind) ∧ w.cell? ⟨g3,off3 + j * 5 + 1,none⟩ = some (.int .i64 x.n) ∧ w.cell? ⟨g3,off3 + j * 5 + 2,none⟩ = some (.string x.s) ∧ w.cell? ⟨g3,off3 + j * 5 + 3,none⟩ = some (.slice z1 n1 e1) ∧ w.cell? ⟨g3,off3 + j * 5 + 4,none⟩ = some (.slice z2 n2 e2)) := ⟨y0,y1,y2,y3,y4⟩
     clear y0 y1 y2 y3 y4 y5 k1 hx
     go_wp2_with fail
     clear q3 p1
     refine M_region (T := fun W => W.cell? ⟨by',1,none⟩ = some (.slice ta j tc) ∧ W.cell? ⟨b0,3,none⟩ = some (.slice (some ⟨ge,off,none⟩) Ke ce) ∧ W.cell? ⟨ge,off + i * 2 + 1,none⟩ = some (.slice (some ⟨g3,off3,none⟩) Kt ct) ∧ W.cell? ⟨g3,off3 + j * 5,none⟩ = some (.int .i64 x.kind) ∧ W.cell? ⟨g3,off3 + j * 5 + 1,none⟩ = some (.int .i64 x.n) ∧ W.cell? ⟨g3,off3 + j * 5 + 2,none⟩ = some (.string x.s) ∧ W.cell? ⟨g3,off3 + j * 5 + 3,none⟩ = some (.slice z1 n1 e1) ∧ W.cell? ⟨g3,off3 + j * 5 + 4,none⟩ = some (.slice z2 n2 e2)) (m := 15) (by kernel_rfl) ?_
     have hdr : Below wr.heap.size wr wr.drew := (Below.refl _ _).drew
     have HSZ : Hid (wr.drew.heap.size = wr.heap.size) := (rfl : wr.drew.heap.size = wr.heap.size)
     have HRYd : Hid (RowO (TrO n' (b0 + 2)) (b0 + 2) 30 5 wr.drew (.slice ta j tc) ((xl.take j).map (cutT true n')) rows' bss') := HRY.out.sm (fun _ _ => rfl) fun _ _ _ hp hb => hp.sm hb
     have HAPd : Hid (Apt (b0 + 2) wr.drew ((([bt] ++ blkOf (.slice none 0 0)) ++ allB (.slice va i vc) bss ++ [by']) ++ allB (.slice ta j tc) bss')) := HAP.out.mono (Nat.le_refl _)
     have BYd : Blk wr.drew by' #[.int .i64 xt,.slice ta j tc] 58 := BY.out
     have HCPd : Hid (CpS n' (b0 + 2) b0 bt #[.int .i64 K,.int .i64 N,.string S,.slice (some ⟨ge,off,none⟩) Ke ce,.slice pr Kr cr] K N S (.slice va i vc) (.slice none 0 0) (cutE n' (t.es.take i)) [] rows bss wr.drew) := HCP.out.sm (fun _ _ => rfl)
     have hbd : Below w.heap.size w wr.drew := hbel.trans (hdr.mono hbel.size)
     generalize wr.drew = W0 at *
     clear HRY HAP BY HCP hbel HSZ hdr
     have hTb : ∀ W,Below w.heap.size w W → Blk W by' #[.int .i64 xt,.slice ta j tc] 58 → Blk W b0 #[.int .i64 K,.int .i64 N,.string S,.slice (some ⟨ge,off,none⟩) Ke ce,.slice pr Kr cr] 30 → W.cell? ⟨by',1,none⟩ = some (.slice ta j tc) ∧ W.cell? ⟨b0,3,none⟩ = some (.slice (some ⟨ge,off,none⟩) Ke ce) ∧ W.cell? ⟨ge,off + i * 2 + 1,none⟩ = some (.slice (some ⟨g3,off3,none⟩) Kt ct) ∧ W.cell? ⟨g3,off3 + j * 5,none⟩ = some (.int .i64 x.kind) ∧ W.cell? ⟨g3,off3 + j * 5 + 1,none⟩ = some (.int .i64 x.n) ∧ W.cell? ⟨g3,off3 + j * 5 + 2,none⟩ = some (.string x.s) ∧ W.cell? ⟨g3,off3 + j * 5 + 3,none⟩ = some (.slice z1 n1 e1) ∧ W.cell? ⟨g3,off3 + j * 5 + 4,none⟩ = some (.slice z2 n2 e2) := fun W hW h1 h2 => by
      obtain ⟨y0,y1,y2,y3,y4⟩ := HCE.out
      exact ⟨h1.cell 1,h2.cell 3,(hW.cell (World.block_lt_of_cell? _ _ P1.out)).trans P1.out,(hW.cell (World.block_lt_of_cell? _ _ y0)).trans y0,(hW.cell (World.block_lt_of_cell? _ _ y1)).trans y1,(hW.cell (World.block_lt_of_cell? _ _ y2)).trans y2,(hW.cell (World.block_lt_of_cell? _ _ y3)).trans y3,(hW.cell (World.block_lt_of_cell? _ _ y4)).trans y4⟩
     have hT := hTb W0 hbd BYd HCPd.out.bx
     refine M_take 0 39 (.pointer (some ⟨by',1,none⟩)) _ rfl rfl (by kernel_rfl) (by kernel_rfl) (by kernel_rfl) (by kernel_rfl) (by kernel_rfl) (fun _ _ _ h => h) (by rfl) (fun w' hw' => ?_) hT (listed' := bts 16 1) (by kernel_rfl) rfl ?_
     ·obtain ⟨f0,f1,f2,f3,f4,f5,f6,f7⟩ := hw'; go_simp
     simp only [zsA,zsZ,zsS]
     refine M_take 2 41 (.pointer (some ⟨b0,3,none⟩)) _ rfl rfl (by kernel_rfl) (by kernel_rfl) (by kernel_rfl) (by kernel_rfl) (by kernel_rfl) (fun _ _ _ h => h) (by rfl) (fun w' hw' => ?_) hT (listed' := bts 16 5) (by kernel_rfl) rfl ?_
     ·obtain ⟨f0,f1,f2,f3,f4,f5,f6,f7⟩ := hw'; go_simp
     simp only [zsA,zsZ,zsS]
     refine M_take 4 43 (.int .i64 (i : Int)) _ rfl rfl (by kernel_rfl) (by kernel_rfl) (by kernel_rfl) (by kernel_rfl) (by kernel_rfl) (fun _ _ _ h => h) (by rfl) (fun w' hw' => ?_) hT (listed' := bts 16 21) (by kernel_rfl) rfl ?_
     ·obtain ⟨f0,f1,f2,f3,f4,f5,f6,f7⟩ := hw'; go_simp
     simp only [zsA,zsZ,zsS]
     refine M_take 8 47 (.int .i64 (j : Int)) _ rfl rfl (by kernel_rfl) (by kernel_rfl) (by kernel_rfl) (by kernel_rfl) (by kernel_rfl) (fun _ _ _ h => h) (by rfl) (fun w' hw' => ?_) hT (listed' := bts 16 277) (by kernel_rfl) rfl ?_
     ·obtain ⟨f0,f1,f2,f3,f4,f5,f6,f7⟩ := hw'; go_simp
     simp only [zsA,zsZ,zsS]
     refine M_take 1 40 (.slice ta j tc) _ rfl rfl (by kernel_rfl) (by kernel_rfl) (by kernel_rfl) (by kernel_rfl) (by kernel_rfl) (fun _ _ _ h => h) (by rfl) (fun w' hw' => ?_) hT (listed' := bts 16 279) (by kernel_rfl) rfl ?_
     ·obtain ⟨f0,f1,f2,f3,f4,f5,f6,f7⟩ := hw'; go_simp
     simp only [zsA,zsZ,zsS]
     refine M_take 3 42 (.slice (some ⟨ge,off,none⟩) Ke ce) _ rfl rfl (by kernel_rfl) (by kernel_rfl) (by kernel_rfl) (by kernel_rfl) (by kernel_rfl) (fun _ _ _ h => h) (by rfl) (fun w' hw' => ?_) hT (listed' := bts 16 287) (by kernel_rfl) rfl ?_
     ·obtain ⟨f0,f1,f2,f3,f4,f5,f6,f7⟩ := hw'; go_simp
     simp only [zsA,zsZ,zsS]
     refine M_take 5 44 (.pointer (some ⟨ge,off + i * 2,none⟩)) _ rfl rfl (by kernel_rfl) (by kernel_rfl) (by kernel_rfl) (by kernel_rfl) (by kernel_rfl) (fun _ _ _ h => h) (by rfl) (fun w' hw' => ?_) hT (listed' := bts 16 319) (by kernel_rfl) rfl ?_
     ·obtain ⟨f0,f1,f2,f3,f4,f5,f6,f7⟩ := hw'; go_simp
     simp only [zsA,zsZ,zsS]
     refine M_take 6 45 (.pointer (some ⟨ge,off + i * 2 + 1,none⟩)) _ rfl rfl (by kernel_rfl) (by kernel_rfl) (by kernel_rfl) (by kernel_rfl) (by kernel_rfl) (fun _ _ _ h => h) (by rfl) (fun w' hw' => ?_) hT (listed' := bts 16 383) (by kernel_rfl) rfl ?_
     ·obtain ⟨f0,f1,f2,f3,f4,f5,f6,f7⟩ := hw'; go_simp
     simp only [zsA,zsZ,zsS]
     refine M_take 7 46 (.slice (some ⟨g3,off3,none⟩) Kt ct) _ rfl rfl (by kernel_rfl) (by kernel_rfl) (by kernel_rfl) (by kernel_rfl) (by kernel_rfl) (fun _ _ _ h => h) (by rfl) (fun w' hw' => ?_) hT (listed' := bts 16 511) (by kernel_rfl) rfl ?_
     ·obtain ⟨f0,f1,f2,f3,f4,f5,f6,f7⟩ := hw'; go_simp
     simp only [zsA,zsZ,zsS]
     refine M_take 9 48 (.pointer (some ⟨g3,off3 + j * 5,none⟩)) _ rfl rfl (by kernel_rfl) (by kernel_rfl) (by kernel_rfl) (by kernel_rfl) (by kernel_rfl) (fun _ _ _ h => h) (by rfl) (fun w' hw' => ?_) hT (listed' := bts 16 1023) (by kernel_rfl) rfl ?_
     ·obtain ⟨f0,f1,f2,f3,f4,f5,f6,f7⟩ := hw'; go_simp
     simp only [zsA,zsZ,zsS]
     refine M_take 10 49 (.agg #[.int .i64 x.kind,.int .i64 x.n,.string x.s,.slice z1 n1 e1,.slice z2 n2 e2]) _ rfl rfl (by kernel_rfl) (by kernel_rfl) (by kernel_rfl) (by kernel_rfl) (by kernel_rfl) (fun _ _ _ h => h) (by rfl) (fun w' hw' => ?_) hT (listed' := bts 16 2047) (by kernel_rfl) rfl ?_
     ·obtain ⟨f0,f1,f2,f3,f4,f5,f6,f7⟩ := hw'; go_simp
     simp only [zsA,zsZ,zsS]
     refine M_call 11 50 20 #[.agg #[.int .i64 x.kind,.int .i64 x.n,.string x.s,.slice z1 n1 e1,.slice z2 n2 e2]] rfl rfl (by kernel_rfl) (by rfl) (listed' := bts 16 4095) (by kernel_rfl) (fun W => by go_simp) ?_
     refine (IH x _ W0 (HIN.out.below hbd) HSY.out).mono ?_
     rintro e W1 ⟨v,bs,rfl,⟨r,rfl,hO,hA⟩,hb1⟩
     obtain ⟨a1,m1,c1,a2,m2,c2,hrr⟩ := hO.open
     rw [cutT_kind,cutT_nn,cutT_ss] at hrr
     subst hrr
     have hbw1 : Below w.heap.size w W1 := hbd.trans (hb1.mono hbd.size)
     have BY1 := BYd.below hb1
     have HRY1 : Hid (RowO (TrO n' (b0 + 2)) (b0 + 2) 30 5 W1 (.slice ta j tc) ((xl.take j).map (cutT true n')) rows' bss') := HRYd.out.sm (Sm.below hb1 fun k hk => (HAPd.out.2 k (by simp only [List.mem_append]; exact .inr hk)).2) fun _ _ _ hp hb => hp.sm hb
     have HCP1 : Hid (CpS n' (b0 + 2) b0 bt #[.int .i64 K,.int .i64 N,.string S,.slice (some ⟨ge,off,none⟩) Ke ce,.slice pr Kr cr] K N S (.slice va i vc) (.slice none 0 0) (cutE n' (t.es.take i)) [] rows bss W1) := HCPd.out.sm (Sm.below hb1 (HCPd.out.lt (more := [by'] ++ allB (.slice ta j tc) bss') (HAPd.out.of_count fun k => by simp only [List.count_append]; omega)))
     have hW0B : b0 + 2 ≤ W0.heap.size := by have := (HAPd.out.2 by' (by simp)); omega
     have HAP1 : Hid (Apt (b0 + 2) W1 ((([bt] ++ blkOf (.slice none 0 0)) ++ allB (.slice va i vc) bss ++ [by']) ++ (allB (.slice ta j tc) bss' ++ bs))) := (HAPd.out.append hA hW0B (Nat.le_refl _) hb1.size).of_count fun k => by simp only [List.count_append]; omega
     have HTO : Hid (TrO n' (b0 + 2) W1 [.int .i64 x.kind,.int .i64 x.n,.string x.s,.slice a1 m1 c1,.slice a2 m2 c2] (cutT true n' x) bs) := hO.base hW0B
     have hT1 := hTb W1 hbw1 BY1 HCP1.out.bx
     refine ⟨_,rfl,hT1,?_⟩
     simp only [zsA,zsZ,zsS]
     clear HRYd HAPd BYd HCPd hbd hO hA hT HIN
     have hal : Below W1.heap.size W1 (W1.alloc (.cells #[.int .i64 x.kind,.int .i64 x.n,.string x.s,.slice a1 m1 c1,.slice a2 m2 c2] 30)) := (Below.refl _ _).alloc (Nat.le_refl _) _
     have hbw3 : Below w.heap.size w (W1.alloc (.cells #[.int .i64 x.kind,.int .i64 x.n,.string x.s,.slice a1 m1 c1,.slice a2 m2 c2] 30)) := hbw1.trans (hal.mono hbw1.size)
     have BE := Blk.new W1 #[.int .i64 x.kind,.int .i64 x.n,.string x.s,.slice a1 m1 c1,.slice a2 m2 c2] 30
     have BY3 := BY1.below hal
     have HRY3 : Hid (RowO (TrO n' (b0 + 2)) (b0 + 2) 30 5 (W1.alloc (.cells #[.int .i64 x.kind,.int .i64 x.n,.string x.s,.slice a1 m1 c1,.slice a2 m2 c2] 30)) (.slice ta j tc) ((xl.take j).map (cutT true n')) rows' bss') := HRY1.out.sm (Sm.below hal fun k hk => (HAP1.out.2 k (by simp only [List.mem_append]; exact .inr (.inl hk))).2) fun _ _ _ hp hb => hp.sm hb
     have HCP3 : Hid (CpS n' (b0 + 2) b0 bt #[.int .i64 K,.int .i64 N,.string S,.slice (some ⟨ge,off,none⟩) Ke ce,.slice pr Kr cr] K N S (.slice va i vc) (.slice none 0 0) (cutE n' (t.es.take i)) [] rows bss (W1.alloc (.cells #[.int .i64 x.kind,.int .i64 x.n,.string x.s,.slice a1 m1 c1,.slice a2 m2 c2] 30))) := HCP1.out.sm (Sm.below hal (HCP1.out.lt (more := [by'] ++ (allB (.slice ta j tc) bss' ++ bs)) (HAP1.out.of_count fun k => by simp only [List.count_append]; omega)))
     have HAP3 : Hid (Apt (b0 + 2) (W1.alloc (.cells #[.int .i64 x.kind,.int .i64 x.n,.string x.s,.slice a1 m1 c1,.slice a2 m2 c2] 30)) ((([bt] ++ blkOf (.slice none 0 0)) ++ allB (.slice va i vc) bss ++ [by']) ++ (allB (.slice ta j tc) bss' ++ bs))) := HAP1.out.mono hal.size
     have HTO3 : Hid (TrO n' (b0 + 2) (W1.alloc (.cells #[.int .i64 x.kind,.int .i64 x.n,.string x.s,.slice a1 m1 c1,.slice a2 m2 c2] 30)) [.int .i64 x.kind,.int .i64 x.n,.string x.s,.slice a1 m1 c1,.slice a2 m2 c2] (cutT true n' x) bs) := HTO.out.sm (Sm.below hal fun k hk => (HAP1.out.2 k (by simp only [List.mem_append]; exact .inr (.inr hk))).2)
     have hW3B : b0 + 2 ≤ (W1.alloc (.cells #[.int .i64 x.kind,.int .i64 x.n,.string x.s,.slice a1 m1 c1,.slice a2 m2 c2] 30)).heap.size := by have := hb1.size; simp; omega
     have hT3 := hTb _ hbw3 BY3 HCP3.out.bx
     obtain ⟨bz,hbz⟩ : ∃ n,W1.heap.size = n := ⟨_,rfl⟩
     refine M_run 12 51 (.slice (some ⟨W1.heap.size,0,none⟩) 1 1) ((W1.alloc (.cells #[.int .i64 x.kind,.int .i64 x.n,.string x.s,.slice a1 m1 c1,.slice a2 m2 c2] 30))) rfl rfl (by kernel_rfl) (by rfl) (listed' := bts 16 8191) (by kernel_rfl) (by go_simp) hT3 ?_
     simp only [zsA,zsZ,zsS]
     rw [hbz] at BE ⊢
     generalize (W1.alloc (.cells #[.int .i64 x.kind,.int .i64 x.n,.string x.s,.slice a1 m1 c1,.slice a2 m2 c2] 30)) = W3 at *
     clear hbz hal HRY1 HCP1 HAP1 HTO BY1 hbw1 hT1 hb1
     obtain ⟨i0,hi0,hz0,hz1,hz2⟩ := info_parts infoTr
     have hown := HRY3.out.own
     have hlj : ((xl.take j).map (cutT true n')).length = j := by rw [List.length_map,List.length_take,HKt.out]; omega
     rw [hlj] at hown
     obtain ⟨v',W4,r1,r2,r3,_,r5⟩ := run_append_own_at W3 (b0 + 2) 43 43 30 i0 _ 5 80 Tryz.underlying43 hi0 hz0 hz1 hz2 rfl (by decide) (.slice ta j tc) j _ hown ⟨bz,0,none⟩ 1 1 [.int .i64 x.kind,.int .i64 x.n,.string x.s,.slice a1 m1 c1,.slice a2 m2 c2] rfl (fun j u hu => by
      have := BE.cell j
      rw [Addr.add_lit,Nat.zero_add,this]
      simpa using hu) (fun u hu => by
      simp only [List.mem_cons,List.not_mem_nil,or_false] at hu
      rcases hu with rfl | rfl | rfl | rfl | rfl <;> rfl) (by unfold maxLen; omega) (by omega) hW3B
     have HRUN : Hid _ := r1
     have HRY4 : Hid (RowO (TrO n' (b0 + 2)) (b0 + 2) 30 5 W4 v' ((xl.take (j + 1)).map (cutT true n')) (rows' ++ [[.int .i64 x.kind,.int .i64 x.n,.string x.s,.slice a1 m1 c1,.slice a2 m2 c2]]) (bss' ++ [bs])) := by
      show RowO _ _ _ _ _ _ _ _ _
      rw [take_atC HX2.out,List.map_append,List.map_cons,List.map_nil]
      exact HRY3.out.push (HAP3.out.of_count fun k => by simp only [List.count_append]; omega) (by rw [hlj]; exact r2) r3 HTO3.out rfl fun _ _ _ hp hb => hp.sm hb
     have HAP4 : Hid (Apt (b0 + 2) W4 ((([bt] ++ blkOf (.slice none 0 0)) ++ allB (.slice va i vc) bss ++ [by']) ++ allB v' (bss' ++ [bs]))) := HAP3.out.push r5 r2 r3.size hW3B
     have hno : ∀ k ∈ (([bt] ++ blkOf (.slice none 0 0)) ++ allB (.slice va i vc) bss ++ [by']),k ∉ blkOf (.slice ta j tc) := fun k hk hq => HAP3.out.apart k hk (by simp [allB,hq])
     have HCP4 : Hid (CpS n' (b0 + 2) b0 bt #[.int .i64 K,.int .i64 N,.string S,.slice (some ⟨ge,off,none⟩) Ke ce,.slice pr Kr cr] K N S (.slice va i vc) (.slice none 0 0) (cutE n' (t.es.take i)) [] rows bss W4) := HCP3.out.sm (grown_sm r3 (HCP3.out.lt (more := [by'] ++ (allB (.slice ta j tc) bss' ++ bs)) (HAP3.out.of_count fun k => by simp only [List.count_append]; omega)) fun k hk hq => by
      have h9 := own_lt hown (mem_blkOf.1 hq)
      simp only [List.cons_append,List.nil_append,List.mem_cons] at hk
      rcases hk with rfl | rfl | rfl | hk
      ·omega
      ·omega
      ·exact hno _ (by simp) hq
      ·exact hno k (by simp only [List.mem_append] at hk ⊢; rcases hk with hk | hk <;> simp [hk]) hq)
     have BY4 : Blk W4 by' #[.int .i64 xt,.slice ta j tc] 58 := (r3.block by' BY3.lt (fun e => hno by' (by simp) (mem_blkOf.2 e.symm))).trans BY3
     have hbw4 : Below w.heap.size w W4 := hbw3.grown r3 hbw3.size (fun k hk => by have := (own_lt hown hk).1; have := HBZ.out; omega)
     have hT4 := hTb W4 hbw4 BY4 HCP4.out.bx
     obtain ⟨na,nc,hv'⟩ := own_form r2
     subst hv'
     clear r1 r2 r3 r5 hown HRY3 HAP3 HCP3 HTO3 BY3 hbw3 hT3 BE hno
     refine M_run 13 52 (.slice na (j + 1) nc) (W4) rfl rfl (by kernel_rfl) (by rfl) (listed' := bts 16 16383) (by kernel_rfl) (append_run rfl rfl rfl HRUN.out) hT4 ?_
     simp only [zsA,zsZ,zsS]
     clear HRUN
     refine M_take 14 53 (.pointer (some ⟨by',1,none⟩)) _ rfl rfl (by kernel_rfl) (by kernel_rfl) (by kernel_rfl) (by kernel_rfl) (by kernel_rfl) (fun _ _ _ h => h) (by rfl) (fun w' hw' => ?_) hT4 (listed' := bts 16 32767) (by kernel_rfl) rfl ?_
     ·obtain ⟨f0,f1,f2,f3,f4,f5,f6,f7⟩ := hw'; go_simp
     simp only [zsA,zsZ,zsS]
     have s1 := (BY4.cell 1).trans rfl
     have s2 := BY4.froz 1
     refine M_store 15 (W4.setCell ⟨by',1,none⟩ (.slice na (j + 1) nc)) rfl rfl (by kernel_rfl) (by rfl) (listed' := bts 16 65535) (by kernel_rfl) (by go_simp) (by kernel_rfl) ?_
     refine M_done (by kernel_rfl) ?_ _
     have KS : Kp (fun q => q = by') W4 (W4.setCell ⟨by',1,none⟩ (.slice na (j + 1) nc)) := by
      refine Kp.setCell ?_ (fun _ => by simp) _
      exact Kp.refl _ _
     have hsmY : ∀ bs : List Nat,(∀ k ∈ bs,k < W4.heap.size) → (∀ k ∈ bs,k ≠ by') → Sm W4 (W4.setCell ⟨by',1,none⟩ (.slice na (j + 1) nc)) bs := fun bs h1 h2 k hk => KS.block k (h1 k hk) (h2 k hk)
     have BY5 : Hid (Blk (W4.setCell ⟨by',1,none⟩ (.slice na (j + 1) nc)) by' #[.int .i64 xt,.slice na (j + 1) nc] 58) := BY4.set 1 _ rfl
     have hnb : ∀ k ∈ (([bt] ++ blkOf (.slice none 0 0)) ++ allB (.slice va i vc) bss) ++ allB (.slice na (j + 1) nc) (bss' ++ [bs]),k ≠ by' := fun k hk e => by
      subst e
      exact (HAP4.out.of_count (cs := ((([bt] ++ blkOf (.slice none 0 0)) ++ allB (.slice va i vc) bss) ++ allB (.slice na (j + 1) nc) (bss' ++ [bs])) ++ [k]) fun q => by simp only [List.count_append]; omega).apart k hk (by simp)
     have HRY5 : Hid (RowO (TrO n' (b0 + 2)) (b0 + 2) 30 5 (W4.setCell ⟨by',1,none⟩ (.slice na (j + 1) nc)) (.slice na (j + 1) nc) ((xl.take (j + 1)).map (cutT true n')) (rows' ++ [[.int .i64 x.kind,.int .i64 x.n,.string x.s,.slice a1 m1 c1,.slice a2 m2 c2]]) (bss' ++ [bs])) := HRY4.out.sm (hsmY _ (fun k hk => (HAP4.out.2 k (List.mem_append.2 (.inr hk))).2) fun k hk => hnb k (List.mem_append.2 (.inr hk))) fun _ _ _ hp hb => hp.sm hb
     have HAP5 : Hid (Apt (b0 + 2) (W4.setCell ⟨by',1,none⟩ (.slice na (j + 1) nc)) ((([bt] ++ blkOf (.slice none 0 0)) ++ allB (.slice va i vc) bss ++ [by']) ++ allB (.slice na (j + 1) nc) (bss' ++ [bs]))) := HAP4.out.mono KS.size
     have hbyB : b0 + 2 ≤ by' := (HAP4.out.2 by' (by simp)).1
     have HCP5 : Hid (CpS n' (b0 + 2) b0 bt #[.int .i64 K,.int .i64 N,.string S,.slice (some ⟨ge,off,none⟩) Ke ce,.slice pr Kr cr] K N S (.slice va i vc) (.slice none 0 0) (cutE n' (t.es.take i)) [] rows bss (W4.setCell ⟨by',1,none⟩ (.slice na (j + 1) nc))) := HCP4.out.sm (hsmY _ (HCP4.out.lt (more := [by'] ++ allB (.slice na (j + 1) nc) (bss' ++ [bs])) (HAP4.out.of_count fun k => by simp only [List.count_append]; omega)) fun k hk => by
      simp only [List.cons_append,List.nil_append,List.mem_cons] at hk
      rcases hk with rfl | rfl | rfl | hk
      ·omega
      ·omega
      ·exact hnb _ (by simp)
      ·exact hnb k (by simp only [List.mem_append] at hk ⊢; rcases hk with hk | hk <;> simp [hk]))
     have hbw5 : Below w.heap.size w (W4.setCell ⟨by',1,none⟩ (.slice na (j + 1) nc)) := hbw4.trans (KS.toBelow hbw4.size (fun q e => by have := HBZ.out; omega))
     generalize (W4.setCell ⟨by',1,none⟩ (.slice na (j + 1) nc)) = W5 at *
     clear s1 s2 KS BY4 HRY4 HAP4 HCP4 hbw4 hT4 hTb hsmY hnb HCE HSY
     go_wp2_with fail
     go_roundw
     case rel => exact ⟨j + 1,_,_,_,_,by go_num,by omega,HRY5,HAP5,BY5,HCP5,hbw5⟩
     case measure => simp [intOf]; omega
    ·obtain rfl : j = Kt := by omega
     have HRYF : Hid (RowO (TrO n' (b0 + 2)) (b0 + 2) 30 5 wr (.slice ta j tc) (xl.map (cutT true n')) rows' bss') := by
      have := HRY.out
      rw [List.take_of_length_le (by rw [HKt.out]; omega)] at this
      exact this
     have w3 : wr.cell? ⟨bt,3,none⟩ = some (.slice va i vc) := HCP.out.bt.cell 3
     have w0' : wr.cell? ⟨by',0,none⟩ = some (.int .i64 xt) := BY.out.cell 0
     have w1' : wr.cell? ⟨by',1,none⟩ = some (.slice ta j tc) := BY.out.cell 1
     have hal : Below wr.heap.size wr (wr.alloc (.cells #[.int .i64 xt,.slice ta j tc] 58)) := (Below.refl _ _).alloc (Nat.le_refl _) _
     have BE : Blk (wr.alloc (.cells #[.int .i64 xt,.slice ta j tc] 58)) wr.heap.size #[.int .i64 xt,.slice ta j tc] 58 := Blk.new wr _ _
     have HAP9 : Hid (Apt (b0 + 2) (wr.alloc (.cells #[.int .i64 xt,.slice ta j tc] 58)) (([bt] ++ blkOf (.slice none 0 0)) ++ (allB (.slice va i vc) bss ++ allB (.slice ta j tc) bss'))) := (HAP.out.mono hal.size).of_count fun k => by simp only [List.count_append]; omega
     have HCP9 : Hid (CpS n' (b0 + 2) b0 bt #[.int .i64 K,.int .i64 N,.string S,.slice (some ⟨ge,off,none⟩) Ke ce,.slice pr Kr cr] K N S (.slice va i vc) (.slice none 0 0) (cutE n' (t.es.take i)) [] rows bss (wr.alloc (.cells #[.int .i64 xt,.slice ta j tc] 58))) := HCP.out.sm (Sm.below hal (HCP.out.lt (more := [by'] ++ allB (.slice ta j tc) bss') (HAP.out.of_count fun k => by simp only [List.count_append]; omega)))
     have HEN9 : Hid (EtO (TrO n' (b0 + 2)) (b0 + 2) (wr.alloc (.cells #[.int .i64 xt,.slice ta j tc] 58)) [.int .i64 xt,.slice ta j tc] (xt,xl.map (cutT true n')) (allB (.slice ta j tc) bss')) := ⟨_,rows',bss',rfl,H64.out,HRYF.out.sm (Sm.below hal fun k hk => (HAP.out.2 k (List.mem_append.2 (.inr hk))).2) fun _ _ _ hp hb => hp.sm hb,rfl⟩
     have hbw9 : Below w.heap.size w (wr.alloc (.cells #[.int .i64 xt,.slice ta j tc] 58)) := hbel.trans (hal.mono hbel.size)
     have hW9B : b0 + 2 ≤ (wr.alloc (.cells #[.int .i64 xt,.slice ta j tc] 58)).heap.size := by have := (HAP.out.2 bt (by simp)); have := hal.size; omega
     have HRUN9 : Hid (∃ v' W4,(Builtin.append_ #[27,27] 27 #[.slice va i vc,.slice (some ⟨wr.heap.size,0,none⟩) 1 1]).run Tryz.prog (wr.alloc (.cells #[.int .i64 xt,.slice ta j tc] 58)) = .ok v' W4 ∧ W4.ownsRow (b0 + 2) 58 2 v' (i + 1) (rows.flatten ++ [.int .i64 xt,.slice ta j tc]) ∧ (wr.alloc (.cells #[.int .i64 xt,.slice ta j tc] 58)).grownBy W4 (Value.slice va i vc).ownBlock ∧ (v'.ownBlock = (Value.slice va i vc).ownBlock ∨ v'.ownBlock = some (wr.alloc (.cells #[.int .i64 xt,.slice ta j tc] 58)).heap.size)) := by
      obtain ⟨i0,hi0,hz0,hz1,hz2⟩ := info_parts infoEt
      have hown := HCP9.out.row.own
      rw [show (cutE n' (t.es.take i)).length = i by rw [cutE,List.length_map,List.length_take,HKe.out]; omega] at hown
      obtain ⟨v',W4,r1,r2,r3,_,r5⟩ := run_append_own_at (wr.alloc (.cells #[.int .i64 xt,.slice ta j tc] 58)) (b0 + 2) 27 27 58 i0 _ 2 32 Tryz.underlying27 hi0 hz0 hz1 hz2 rfl (by decide) (.slice va i vc) i _ hown ⟨wr.heap.size,0,none⟩ 1 1 [.int .i64 xt,.slice ta j tc] rfl (fun j u hu => by
       have := BE.cell j
       rw [Addr.add_lit,Nat.zero_add,this]
       simpa using hu) (fun u hu => by
       simp only [List.mem_cons,List.not_mem_nil,or_false] at hu
       rcases hu with rfl | rfl <;> rfl) (by unfold maxLen; omega) (by omega) hW9B
      exact ⟨v',W4,r1,r2,r3,r5⟩
     obtain ⟨v',W4,r1,r2,r3,r5⟩ := HRUN9.out
     have hli : (cutE n' (t.es.take i)).length = i := by rw [cutE,List.length_map,List.length_take,HKe.out]; omega
     have HROW4 : Hid (RowO (EtO (TrO n' (b0 + 2)) (b0 + 2)) (b0 + 2) 58 2 W4 v' (cutE n' (t.es.take (i + 1))) (rows ++ [[.int .i64 xt,.slice ta j tc]]) (bss ++ [allB (.slice ta j tc) bss'])) := by
      show RowO _ _ _ _ _ _ _ _ _
      rw [take_atC HX.out]
      show RowO _ _ _ _ _ _ (List.map _ _) _ _
      rw [List.map_append,List.map_cons,List.map_nil]
      exact HCP9.out.row.push (HAP9.out.of_count fun k => by simp only [List.count_append]; omega) (by rw [hli]; exact r2) r3 HEN9.out rfl fun _ _ _ hp hb => hp.sm hb
     have HAP4 : Hid (Apt (b0 + 2) W4 (([bt] ++ blkOf (.slice none 0 0)) ++ allB v' (bss ++ [allB (.slice ta j tc) bss']))) := HAP9.out.push r5 r2 r3.size hW9B
     have hno : ∀ k ∈ [bt] ++ blkOf (.slice none 0 0),k ∉ blkOf (.slice va i vc) := fun k hk hq => HAP9.out.apart k hk (by simp [allB,hq])
     have HLO : Hid (∀ k,(Value.slice va i vc).ownBlock = some k → b0 + 2 ≤ k) := fun k hk => (own_lt HCP9.out.row.own hk).1
     have hsm4 : ∀ bs : List Nat,(∀ k ∈ bs,k < (wr.alloc (.cells #[.int .i64 xt,.slice ta j tc] 58)).heap.size) → (∀ k ∈ bs,k ∉ blkOf (.slice va i vc)) → Sm (wr.alloc (.cells #[.int .i64 xt,.slice ta j tc] 58)) W4 bs := fun bs h1 h2 => grown_sm r3 h1 h2
     have BT4 : Blk W4 bt #[.int .i64 K,.int .i64 N,.string S,.slice va i vc,(.slice none 0 0)] 30 := (hsm4 [bt] (by have := HCP9.out.bt.lt; simpa using this) (by intro k hk; exact hno k (by simp at hk; simp [hk])) bt (by simp)).trans HCP9.out.bt
     have BX4 : Blk W4 b0 #[.int .i64 K,.int .i64 N,.string S,.slice (some ⟨ge,off,none⟩) Ke ce,.slice pr Kr cr] 30 := (hsm4 [b0] (by have := HCP9.out.bx.lt; simpa using this) (by intro k hk hq; simp at hk; have := HLO.out k (mem_blkOf.1 hq); omega) b0 (by simp)).trans HCP9.out.bx
     have BR4 : Blk W4 (b0 + 1) #[.int .i64 0,.int .i64 0,.string ⟨#[]⟩,.slice none 0 0,.slice none 0 0] 30 := (hsm4 [b0 + 1] (by have := HCP9.out.br.lt; simpa using this) (by intro k hk hq; simp at hk; have := HLO.out k (mem_blkOf.1 hq); omega) (b0 + 1) (by simp)).trans HCP9.out.br
     have HO4 : Hid (W4.ownsRow (b0 + 2) 60 4 (.slice none 0 0) ([] : List Fd).length (rawCells [])) := own_sm HCP9.out.rst (hsm4 _ (fun k hk => (own_lt HCP9.out.rst (mem_blkOf.1 hk)).2) fun k hk => hno k (by simp [hk]))
     have hbw4 : Below w.heap.size w W4 := hbw9.grown r3 hbw9.size (fun k hk => by have := HLO.out k hk; have := HBZ.out; omega)
     obtain ⟨na,nc,hv'⟩ := own_form r2
     subst hv'
     have s3 := (BT4.cell 3).trans rfl
     have s4 := BT4.froz 3
     clear r2 r3 r5 hsm4 hno HRUN9 HAP9 HCP9 HEN9 hW9B hbw9 HRY HAP BY HCP hbel BE
     go_wp2_with (first | (at_builtin; refine wpList_ran rfl (append_run rfl rfl rfl r1) ?_) | fail)
     clear w3 w0' w1' r1 hal q3 p1
     go_wp2_with fail
     have KS : Kp (fun q => q = bt) W4 (W4.setCell ⟨bt,3,none⟩ (.slice na (i + 1) nc)) := by
      refine Kp.setCell ?_ (fun _ => by simp) _
      exact Kp.refl _ _
     have hnb : ∀ k ∈ blkOf (.slice none 0 0) ++ allB (.slice na (i + 1) nc) (bss ++ [allB (.slice ta j tc) bss']),k ≠ bt := fun k hk e => by
      subst e
      exact (HAP4.out.of_count (cs := [k] ++ (blkOf (.slice none 0 0) ++ allB (.slice na (i + 1) nc) (bss ++ [allB (.slice ta j tc) bss']))) fun q => by simp only [List.count_append]; omega).apart k (by simp) hk
     have hsm5 : ∀ bs : List Nat,(∀ k ∈ bs,k < W4.heap.size) → (∀ k ∈ bs,k ≠ bt) → Sm W4 (W4.setCell ⟨bt,3,none⟩ (.slice na (i + 1) nc)) bs := fun bs h1 h2 k hk => KS.block k (h1 k hk) (h2 k hk)
     have HCP5 : Hid (CpS n' (b0 + 2) b0 bt #[.int .i64 K,.int .i64 N,.string S,.slice (some ⟨ge,off,none⟩) Ke ce,.slice pr Kr cr] K N S (.slice na (i + 1) nc) (.slice none 0 0) (cutE n' (t.es.take (i + 1))) [] (rows ++ [[.int .i64 xt,.slice ta j tc]]) (bss ++ [allB (.slice ta j tc) bss']) (W4.setCell ⟨bt,3,none⟩ (.slice na (i + 1) nc))) :=
      ⟨HROW4.out.sm (hsm5 _ (fun k hk => (HAP4.out.2 k (List.mem_append.2 (.inr hk))).2) fun k hk => hnb k (List.mem_append.2 (.inr hk))) fun _ _ _ hp hb => hp.sm hb,own_sm HO4.out (hsm5 _ (fun k hk => (own_lt HO4.out (mem_blkOf.1 hk)).2) fun k hk => hnb k (List.mem_append.2 (.inl hk))),BT4.set 3 _ rfl,BX4.kp KS (by omega),BR4.kp KS (by omega)⟩
     have HAP5 : Hid (Apt (b0 + 2) (W4.setCell ⟨bt,3,none⟩ (.slice na (i + 1) nc)) (([bt] ++ blkOf (.slice none 0 0)) ++ allB (.slice na (i + 1) nc) (bss ++ [allB (.slice ta j tc) bss']))) := HAP4.out.mono KS.size
     have hbw5 : Below w.heap.size w (W4.setCell ⟨bt,3,none⟩ (.slice na (i + 1) nc)) := hbw4.trans (KS.toBelow hbw4.size (fun q e => by have := HBZ.out; omega))
     go_roundw
     case rel => exact ⟨i + 1,_,_,_,_,by go_num,by omega,HCP5,HAP5,hbw5⟩
     case measure => simp [intOf]; omega
  ·obtain rfl : i = Ke := by omega
   have s0 := (HCP.out.bt.cell 0).trans rfl
   have s1 := (HCP.out.bt.cell 1).trans rfl
   have s2 := (HCP.out.bt.cell 2).trans rfl
   have s3 := (HCP.out.bt.cell 3).trans rfl
   have s4 := (HCP.out.bt.cell 4).trans rfl
   have y0 := (HCP.out.br.cell 0).trans rfl
   have y1 := (HCP.out.br.cell 1).trans rfl
   have y2 := (HCP.out.br.cell 2).trans rfl
   have y3 := (HCP.out.br.cell 3).trans rfl
   have y4 := (HCP.out.br.cell 4).trans rfl
   have z0 := HCP.out.br.froz 0
   have z1 := HCP.out.br.froz 1
   have z2 := HCP.out.br.froz 2
   have z3 := HCP.out.br.froz 3
   have z4 := HCP.out.br.froz 4
   go_wp2_with fail
   have KS : Kp (fun q => q = b0 + 1) wr (((((wr.setCell ⟨b0 + 1,0,none⟩ (.int .i64 K)).setCell ⟨b0 + 1,1,none⟩ (.int .i64 N)).setCell ⟨b0 + 1,2,none⟩ (.string S)).setCell ⟨b0 + 1,3,none⟩ (.slice va i vc)).setCell ⟨b0 + 1,4,none⟩ (.slice none 0 0)) := by
    refine Kp.setCell ?_ (fun _ => by simp) _
    refine Kp.setCell ?_ (fun _ => by simp) _
    refine Kp.setCell ?_ (fun _ => by simp) _
    refine Kp.setCell ?_ (fun _ => by simp) _
    refine Kp.setCell ?_ (fun _ => by simp) _
    exact Kp.refl _ _
   refine bodyPost_ret (results_cell rfl _ _ _ ⟨b0 + 1,0,none⟩ (.agg #[.int .i64 K,.int .i64 N,.string S,.slice va i vc,(.slice none 0 0)]) (by go_simp) (by go_simp)) rfl ?_
   have hrow := HCP.out.row
   rw [List.take_of_length_le (by rw [HKe.out]; omega)] at hrow
   have hsm : Sm wr (((((wr.setCell ⟨b0 + 1,0,none⟩ (.int .i64 K)).setCell ⟨b0 + 1,1,none⟩ (.int .i64 N)).setCell ⟨b0 + 1,2,none⟩ (.string S)).setCell ⟨b0 + 1,3,none⟩ (.slice va i vc)).setCell ⟨b0 + 1,4,none⟩ (.slice none 0 0)) (blkOf (.slice none 0 0) ++ allB (.slice va i vc) bss) := fun k hk => KS.block k (HAP.out.2 k (by simp only [List.mem_append] at hk ⊢; rcases hk with hk | hk <;> simp [hk])).2 (by have := (HAP.out.2 k (by simp only [List.mem_append] at hk ⊢; rcases hk with hk | hk <;> simp [hk])).1; omega)
   obtain ⟨f1,f2,f3,f4⟩ := HFA.out
   have hbz := HBZ.out
   refine ⟨_,blkOf (.slice none 0 0) ++ allB (.slice va i vc) bss,rfl,⟨_,rfl,TrO.base (B := b0 + 2) ⟨_,_,rows,bss,by show _ = [Value.int .i64 t.kind,Value.int .i64 t.n,Value.string t.s,_,_]; rw [HKN.out.1,HKN.out.2.1,HKN.out.2.2],f1,f2,f3,(fun f hf => by cases hf),own_sm HCP.out.rst (hsm.mono fun k hk => List.mem_append.2 (.inl hk)),hrow.sm (hsm.mono fun k hk => List.mem_append.2 (.inr hk)) (fun _ _ _ hp hb => hp.sm hb),rfl⟩ (by omega),?_⟩,?_⟩
   ·exact ((HAP.out.of_count fun k => by simp only [List.count_append]; omega).mono KS.size).base (by omega)
   ·exact hbel.trans (KS.toBelow hbel.size (fun q e => by omega))
theorem rbare_any : ∀ (n : Nat) (t : Tr) (v : Value) (w : World),TrIn n w v t → SmN n t → Calls Tryz.prog 20 #[v] w (CopyP n (cutT true n t) w)
 | 0,t,v,w,h,_ => by obtain ⟨r,_,h⟩ := h; exact h.elim
 | n + 1,t,v,w,h,hs => rbare_step n (fun t v w h hs => rbare_any n t v w h hs) t v w h hs
set_option maxHeartbeats 4000000 in
theorem rnumber_any (k n : Int) (nm : ByteArray) (w : World) : Calls Tryz.prog 15 #[.agg #[.int .i64 k,.string nm],.int .i64 n] w fun e w' => e = .returned (.bool (nmrB k n)) ∧ Below w.heap.size w w' := by
 have hb : Below w.heap.size w (w.alloc (Obj.cells #[.int .i64 k,.string nm] 32)) := (Below.refl _ _).alloc (Nat.le_refl _) _
 have kk : k = 3 ∨ k = 6 ∨ k = 1 ∨ k = 2 ∨ (¬ k = 3 ∧ ¬ k = 6 ∧ ¬ k = 1 ∧ ¬ k = 2) := by omega
 rcases kk with rfl | rfl | rfl | rfl | ⟨h3,h6,h1,h2⟩
 ·by_cases h0 : n = 0
  ·subst h0
   have hr : nmrB 3 0 = true := by decide
   rw [hr]
   clear hr
   go_enter Tryz.func15,Tryz.ntmps15
   go_wp2_with fail
   go_ret
   exact ⟨rfl,hb⟩
  ·by_cases h1 : n = 1
   ·subst h1
    have hr : nmrB 3 1 = true := by decide
    rw [hr]
    clear hr
    go_enter Tryz.func15,Tryz.ntmps15
    go_wp2_with fail
    go_ret
    exact ⟨rfl,hb⟩
   ·have e0 : (n == 0) = false := by simpa using h0
    have e1 : (n == 1) = false := by simpa using h1
    have hr : nmrB 3 n = false := by simp [nmrB]; omega
    rw [hr]
    clear hr h0 h1
    go_enter Tryz.func15,Tryz.ntmps15
    go_wp2_with fail
    go_ret
    exact ⟨rfl,hb⟩
 ·by_cases h0 : 0 ≤ n
  ·have e0 : decide (0 ≤ n) = true := by simpa using h0
   by_cases h1 : n ≤ 2147483647
   ·have e1 : decide (n ≤ 2147483647) = true := by simpa using h1
    have hr : nmrB 6 n = true := by simp [nmrB]; omega
    rw [hr]
    clear hr h0 h1
    go_enter Tryz.func15,Tryz.ntmps15
    go_wp2_with fail
    go_ret
    exact ⟨rfl,hb⟩
   ·have e1 : decide (n ≤ 2147483647) = false := by simpa using h1
    have hr : nmrB 6 n = false := by simp [nmrB]; omega
    rw [hr]
    clear hr h0 h1
    go_enter Tryz.func15,Tryz.ntmps15
    go_wp2_with fail
    go_ret
    exact ⟨rfl,hb⟩
  ·have e0 : decide (0 ≤ n) = false := by simpa using h0
   have hr : nmrB 6 n = false := by simp [nmrB]; omega
   rw [hr]
   clear hr h0
   go_enter Tryz.func15,Tryz.ntmps15
   go_wp2_with fail
   go_ret
   exact ⟨rfl,hb⟩
 ·by_cases h0 : -2147483648 ≤ n
  ·have e0 : decide (-2147483648 ≤ n) = true := by simpa using h0
   by_cases h1 : n ≤ 2147483647
   ·have e1 : decide (n ≤ 2147483647) = true := by simpa using h1
    have hr : nmrB 1 n = true := by simp [nmrB]; omega
    rw [hr]
    clear hr h0 h1
    go_enter Tryz.func15,Tryz.ntmps15
    go_wp2_with fail
    go_ret
    exact ⟨rfl,hb⟩
   ·have e1 : decide (n ≤ 2147483647) = false := by simpa using h1
    have hr : nmrB 1 n = false := by simp [nmrB]; omega
    rw [hr]
    clear hr h0 h1
    go_enter Tryz.func15,Tryz.ntmps15
    go_wp2_with fail
    go_ret
    exact ⟨rfl,hb⟩
  ·have e0 : decide (-2147483648 ≤ n) = false := by simpa using h0
   have hr : nmrB 1 n = false := by simp [nmrB]; omega
   rw [hr]
   clear hr h0
   go_enter Tryz.func15,Tryz.ntmps15
   go_wp2_with fail
   go_ret
   exact ⟨rfl,hb⟩
 ·have hr : nmrB 2 n = true := by simp [nmrB]
  rw [hr]
  clear hr
  go_enter Tryz.func15,Tryz.ntmps15
  go_wp2_with fail
  go_ret
  exact ⟨rfl,hb⟩
 ·have e1 : (k == 1) = false := by simpa using h1
  have e2 : (k == 2) = false := by simpa using h2
  have e3 : (k == 3) = false := by simpa using h3
  have e6 : (k == 6) = false := by simpa using h6
  have hr : nmrB k n = false := by simp [nmrB,h3,h6,h1,h2]
  rw [hr]
  clear h1 h2 h3 h6 hr
  go_enter Tryz.func15,Tryz.ntmps15
  go_wp2_with fail
  go_ret
  exact ⟨rfl,hb⟩
set_option maxHeartbeats 4000000 in
theorem rkind_any (k : Int) (nm : ByteArray) (w : World) (hk : 1 ≤ k ∧ k ≤ 7) : Calls Tryz.prog 49 #[.agg #[.int .i64 k,.string nm]] w fun e w' => e = .returned (.int .i64 (kindT k)) ∧ Below w.heap.size w w' := by
 have hb : Below w.heap.size w (w.alloc (Obj.cells #[.int .i64 k,.string nm] 32)) := (Below.refl _ _).alloc (Nat.le_refl _) _
 have hc : k = 1 ∨ k = 2 ∨ k = 3 ∨ k = 4 ∨ k = 5 ∨ k = 6 ∨ k = 7 := by omega
 clear hk
 rcases hc with rfl | rfl | rfl | rfl | rfl | rfl | rfl <;>
 ·go_enter Tryz.func49,Tryz.ntmps49
  go_wp2_with fail
  go_ret
  exact ⟨rfl,hb⟩
end
section
open Go.ChangeShapes Go.WideShapes Go.ChangeAt Go.RowKit Go.Maps
set_option maxRecDepth 20000
set_option maxHeartbeats 4000000 in
theorem r7messageW_any {w0 w : World} {snm nm : ByteArray} {ae at' : Option Addr} {E ce T ct : Nat} {vm : Value} {ms : List MsS} (hw0 : Below w0.heap.size w0 w) (hr : MsIn w0 vm ms) :
  Calls Tryz.prog 37 #[.agg #[.string snm,vm,.slice ae E ce,.slice at' T ct],.string nm] w fun e w' => ∃ vf vr,e = .returned (.tuple #[.agg #[.string ((ms.find? (fun m => decide (m.name = nm))).getD zeroM).name,vf,vr],.bool (ms.find? (fun m => decide (m.name = nm))).isSome]) ∧ RowG w0 vf 5 (flRows ((ms.find? (fun m => decide (m.name = nm))).getD zeroM).fields) ∧ RowG w0 vr 1 (inRows ((ms.find? (fun m => decide (m.name = nm))).getD zeroM).reserved) ∧ Below w.heap.size w w' := by
 obtain ⟨a,c,rfl,q1,q2⟩ := hr.form2
 have HR : Hid (MsIn w0 (.slice a ms.length c) ms) := hr
 obtain ⟨N,hN⟩ : ∃ N,ms.length = N := ⟨_,rfl⟩
 rw [hN] at HR q1 ⊢
 have HN : Hid (ms.length = N) := hN
 clear hN hr
 obtain ⟨A,hA⟩ : ∃ A,(ms.find? (fun m => decide (m.name = nm))) = A := ⟨_,rfl⟩
 rw [hA]
 have HA : Hid (A = ((ms.drop 0).find? (fun m => decide (m.name = nm)))) := hA.symm
 clear hA
 have BX0 : Blk ((w.alloc (.cells #[.string snm,.slice a N c,.slice ae E ce,.slice at' T ct] 26)).alloc (.cells #[.string ⟨#[]⟩,.slice none 0 0,.slice none 0 0] 50)) w.heap.size #[.string snm,.slice a N c,.slice ae E ce,.slice at' T ct] 26 := (Blk.new w _ _).below ((Below.refl _ _).alloc (Nat.le_refl _) _)
 have BR0 : Blk ((w.alloc (.cells #[.string snm,.slice a N c,.slice ae E ce,.slice at' T ct] 26)).alloc (.cells #[.string ⟨#[]⟩,.slice none 0 0,.slice none 0 0] 50)) (w.heap.size + 1) #[.string ⟨#[]⟩,.slice none 0 0,.slice none 0 0] 50 := by
  have := Blk.new (w.alloc (.cells #[.string snm,.slice a N c,.slice ae E ce,.slice at' T ct] 26)) #[.string ⟨#[]⟩,.slice none 0 0,.slice none 0 0] 50
  rwa [show (w.alloc (.cells #[.string snm,.slice a N c,.slice ae E ce,.slice at' T ct] 26)).heap.size = w.heap.size + 1 by simp] at this
 have hb0 : Below w.heap.size w ((w.alloc (.cells #[.string snm,.slice a N c,.slice ae E ce,.slice at' T ct] 26)).alloc (.cells #[.string ⟨#[]⟩,.slice none 0 0,.slice none 0 0] 50)) := ((Below.refl _ _).alloc (Nat.le_refl _) _).alloc (by simp) _
 go_enter Tryz.func37,Tryz.ntmps37
 go_wp2_with fail
 go_loopw [6] (fun iv wr => ∃ k : Nat,iv = .int .i64 (k : Int) ∧ k ≤ N ∧ Hid (A = ((ms.drop k).find? (fun m => decide (m.name = nm)))) ∧ Below w.heap.size w wr ∧ Blk wr (w.heap.size + 1) #[.string ⟨#[]⟩,.slice none 0 0,.slice none 0 0] 50 ∧ Blk wr w.heap.size #[.string snm,.slice a N c,.slice ae E ce,.slice at' T ct] 26) (fun iv _ => N - (intOf iv).toNat)
 case atStart => exact ⟨0,rfl,by omega,HA,hb0,BR0,BX0⟩
 case round =>
  obtain ⟨k,rfl,hk,HAk,hbel,BR,BX⟩ := hrel
  clear BX0 BR0 hb0
  have hlt2 : w.heap.size + 1 < wr.heap.size := BR.lt
  have r0 := (BR.cell 0).trans rfl
  have z0 := BR.froz 0
  have r1 := (BR.cell 1).trans rfl
  have z1 := BR.froz 1
  have r2 := (BR.cell 2).trans rfl
  have z2 := BR.froz 2
  have x1 : wr.cell? ⟨w.heap.size,1,none⟩ = some (.slice a N c) := BX.cell 1
  by_cases hlt : k < N
  ·obtain ⟨f,hf⟩ : ∃ n,ms[k]? = some n := ⟨_,List.getElem?_eq_getElem (by rw [HN.out]; exact hlt)⟩
   obtain ⟨g,off,vf,vr,rfl,c0',c1',c2',hrf,hrr⟩ := HR.out.get hf
   have c0 := ((hw0.trans (hbel.mono hw0.size)).cell (World.block_lt_of_cell? _ _ c0')).trans c0'
   have c1 := ((hw0.trans (hbel.mono hw0.size)).cell (World.block_lt_of_cell? _ _ c1')).trans c1'
   have c2 := ((hw0.trans (hbel.mono hw0.size)).cell (World.block_lt_of_cell? _ _ c2')).trans c2'
   clear c0' c1' c2'
   have HF : Hid (RowG w0 vf 5 (flRows f.fields)) := hrf
   have HV : Hid (RowG w0 vr 1 (inRows f.reserved)) := hrr
   obtain ⟨a3,c3,rfl,_,_⟩ := hrf.form2
   obtain ⟨a4,c4,rfl,_,_⟩ := hrr.form2
   have HF : Hid (RowG w0 (.slice a3 (flRows f.fields).length c3) 5 (flRows f.fields)) := HF
   have HV : Hid (RowG w0 (.slice a4 (inRows f.reserved).length c4) 1 (inRows f.reserved)) := HV
   have HA2 : Hid (A = if decide (f.name = nm) = true then some f else ((ms.drop (k + 1)).find? (fun m => decide (m.name = nm)))) := by
    show _ = _
    rw [HAk.out,drop_at hf,List.find?_cons]
    cases decide (f.name = nm) <;> rfl
   obtain ⟨f0,ff,fr⟩ := f
   simp only at c0 c1 c2 HA2 HF HV
   generalize hnF : (flRows ff).length = nF at *
   generalize hnR : (inRows fr).length = nR at *
   clear hrf hrr hf HAk hnF hnR
   by_cases he : f0 = nm
   ·subst he
    have HA3 : Hid (A = some ⟨f0,ff,fr⟩) := by show _ = _; rw [HA2.out,if_pos (by simp)]
    clear HA2
    go_wp2_with fail
    refine bodyPost_ret (results_two rfl _ _ _ ⟨w.heap.size + 1,0,none⟩ (.agg #[.string f0,.slice a3 nF c3,.slice a4 nR c4]) (by go_simp) (by go_simp)) rfl ?_
    refine ⟨.slice a3 nF c3,.slice a4 nR c4,ret_two (by rw [HA3.out]; rfl) (by rw [HA3.out]; rfl),?_,?_,(Below.setCell (Below.setCell (Below.setCell hbel (by simp) _) (by simp) _) (by simp) _)⟩
    ·rw [HA3.out]; exact HF.out
    ·rw [HA3.out]; exact HV.out
   ·have hq := bytes_ne he
    have HA3 : Hid (A = ((ms.drop (k + 1)).find? (fun m => decide (m.name = nm)))) := by show _ = _; rw [HA2.out,if_neg (by simpa using he)]
    go_wp2_with fail
    go_roundw
    case rel => exact ⟨k + 1,by go_num,by omega,HA3,hbel,BR,BX⟩
    case measure => simp [intOf]; omega
  ·have HA2 : Hid (A = none) := by show _ = _; rw [HAk.out,drop_end (by rw [HN.out]; omega)]; rfl
   go_wp2_with fail
   refine bodyPost_ret (results_two rfl _ _ _ ⟨w.heap.size + 1,0,none⟩ (.agg #[.string ⟨#[]⟩,.slice none 0 0,.slice none 0 0]) (by go_simp) (by go_simp)) rfl ?_
   exact ⟨.slice none 0 0,.slice none 0 0,ret_two (by rw [HA2.out]; rfl) (by rw [HA2.out]; rfl),by rw [HA2.out]; exact RowG.nil _ _,by rw [HA2.out]; exact RowG.nil _ _,(Below.setCell (Below.setCell (Below.setCell hbel (by simp) _) (by simp) _) (by simp) _)⟩
end
section
open Go.ChangeShapes Go.WideShapes Go.ChangeAt Go.RowKit
set_option maxRecDepth 20000
set_option maxHeartbeats 2000000 in
theorem rzero_any (t : Tr) (a1 a2 : Option Addr) (n1 c1 n2 c2 : Nat) (w : World) (h1 : n1 = t.es.length) (h2 : n2 = t.rest.length) : Calls Tryz.prog 17 #[.agg #[.int .i64 t.kind,.int .i64 t.n,.string t.s,.slice a1 n1 c1,.slice a2 n2 c2]] w fun e w' => e = .returned (.bool (zroB t)) ∧ Below w.heap.size w w' := by
 have hb : Below w.heap.size w (w.alloc (Obj.cells #[.int .i64 t.kind,.int .i64 t.n,.string t.s,.slice a1 n1 c1,.slice a2 n2 c2] 30)) := (Below.refl _ _).alloc (Nat.le_refl _) _
 have hz : zroB t = (decide (t.kind = 1 ∨ t.kind = 2 ∨ t.kind = 3) && decide (t.n = 0) && decide (t.s.size = 0) && decide (n1 = 0) && decide (n2 = 0)) := by rw [zroB,h1,h2]
 rw [hz]
 clear hz h1 h2
 generalize t.kind = K at *
 generalize t.n = N at *
 generalize t.s = S at *
 have kk : K = 1 ∨ K = 2 ∨ K = 3 ∨ (¬ K = 1 ∧ ¬ K = 2 ∧ ¬ K = 3) := by omega
 rcases kk with rfl | rfl | rfl | ⟨h1,h2,h3⟩
 ·by_cases hN : N = 0
  ·subst hN
   by_cases hS : S.size = 0
   ·obtain rfl := size_empty hS
    by_cases h1 : n1 = 0
    ·subst h1
     by_cases h2 : n2 = 0
     ·subst h2
      go_enter Tryz.func17,Tryz.ntmps17
      go_wp2_with fail
      go_ret
      exact ⟨rfl,hb⟩
     ·have d2 : ((n2 : Int) == 0) = false := by simp; omega
      simp only [decide_eq_false h2,Bool.and_false]
      clear h2
      go_enter Tryz.func17,Tryz.ntmps17
      go_wp2_with fail
      go_ret
      exact ⟨rfl,hb⟩
    ·have d1 : ((n1 : Int) == 0) = false := by simp; omega
     simp only [decide_eq_false h1,Bool.and_false,Bool.false_and]
     clear h1
     go_enter Tryz.func17,Tryz.ntmps17
     go_wp2_with fail
     go_ret
     exact ⟨rfl,hb⟩
   ·have dS : (S.toList == ([] : List UInt8)) = false := by rw [ByteArray.toList_eq]; simp; intro e; exact hS (by rw [← ByteArray.size_data,e]; rfl)
    simp only [decide_eq_false hS,Bool.and_false,Bool.false_and]
    clear hS
    go_enter Tryz.func17,Tryz.ntmps17
    go_wp2_with fail
    go_ret
    exact ⟨rfl,hb⟩
  ·have dN : (N == 0) = false := by simpa using hN
   simp only [decide_eq_false hN,Bool.and_false,Bool.false_and]
   clear hN
   go_enter Tryz.func17,Tryz.ntmps17
   go_wp2_with fail
   go_ret
   exact ⟨rfl,hb⟩
 ·by_cases hN : N = 0
  ·subst hN
   by_cases hS : S.size = 0
   ·obtain rfl := size_empty hS
    by_cases h1 : n1 = 0
    ·subst h1
     by_cases h2 : n2 = 0
     ·subst h2
      go_enter Tryz.func17,Tryz.ntmps17
      go_wp2_with fail
      go_ret
      exact ⟨rfl,hb⟩
     ·have d2 : ((n2 : Int) == 0) = false := by simp; omega
      simp only [decide_eq_false h2,Bool.and_false]
      clear h2
      go_enter Tryz.func17,Tryz.ntmps17
      go_wp2_with fail
      go_ret
      exact ⟨rfl,hb⟩
    ·have d1 : ((n1 : Int) == 0) = false := by simp; omega
     simp only [decide_eq_false h1,Bool.and_false,Bool.false_and]
     clear h1
     go_enter Tryz.func17,Tryz.ntmps17
     go_wp2_with fail
     go_ret
     exact ⟨rfl,hb⟩
   ·have dS : (S.toList == ([] : List UInt8)) = false := by rw [ByteArray.toList_eq]; simp; intro e; exact hS (by rw [← ByteArray.size_data,e]; rfl)
    simp only [decide_eq_false hS,Bool.and_false,Bool.false_and]
    clear hS
    go_enter Tryz.func17,Tryz.ntmps17
    go_wp2_with fail
    go_ret
    exact ⟨rfl,hb⟩
  ·have dN : (N == 0) = false := by simpa using hN
   simp only [decide_eq_false hN,Bool.and_false,Bool.false_and]
   clear hN
   go_enter Tryz.func17,Tryz.ntmps17
   go_wp2_with fail
   go_ret
   exact ⟨rfl,hb⟩
 ·by_cases hN : N = 0
  ·subst hN
   by_cases hS : S.size = 0
   ·obtain rfl := size_empty hS
    by_cases h1 : n1 = 0
    ·subst h1
     by_cases h2 : n2 = 0
     ·subst h2
      go_enter Tryz.func17,Tryz.ntmps17
      go_wp2_with fail
      go_ret
      exact ⟨rfl,hb⟩
     ·have d2 : ((n2 : Int) == 0) = false := by simp; omega
      simp only [decide_eq_false h2,Bool.and_false]
      clear h2
      go_enter Tryz.func17,Tryz.ntmps17
      go_wp2_with fail
      go_ret
      exact ⟨rfl,hb⟩
    ·have d1 : ((n1 : Int) == 0) = false := by simp; omega
     simp only [decide_eq_false h1,Bool.and_false,Bool.false_and]
     clear h1
     go_enter Tryz.func17,Tryz.ntmps17
     go_wp2_with fail
     go_ret
     exact ⟨rfl,hb⟩
   ·have dS : (S.toList == ([] : List UInt8)) = false := by rw [ByteArray.toList_eq]; simp; intro e; exact hS (by rw [← ByteArray.size_data,e]; rfl)
    simp only [decide_eq_false hS,Bool.and_false,Bool.false_and]
    clear hS
    go_enter Tryz.func17,Tryz.ntmps17
    go_wp2_with fail
    go_ret
    exact ⟨rfl,hb⟩
  ·have dN : (N == 0) = false := by simpa using hN
   simp only [decide_eq_false hN,Bool.and_false,Bool.false_and]
   clear hN
   go_enter Tryz.func17,Tryz.ntmps17
   go_wp2_with fail
   go_ret
   exact ⟨rfl,hb⟩
 ·have hk : decide (K = 1 ∨ K = 2 ∨ K = 3) = false := by simp [h1,h2,h3]
  simp only [hk,Bool.false_and]
  rcases (by omega : K < 1 ∨ (1 ≤ K ∧ 3 < K)) with h5 | ⟨h5,h6⟩
  ·have e1 : decide (1 ≤ K) = false := by simp; omega
   clear h1 h2 h3 hk
   go_enter Tryz.func17,Tryz.ntmps17
   go_wp2_with fail
   go_ret
   exact ⟨rfl,hb⟩
  ·have e1 : decide (1 ≤ K) = true := by simp; omega
   have e2 : decide (K ≤ 3) = false := by simp; omega
   clear h1 h2 h3 hk
   go_enter Tryz.func17,Tryz.ntmps17
   go_wp2_with fail
   go_ret
   exact ⟨rfl,hb⟩
def tlL : List UInt8 → Int
 | [] => -1
 | a :: _ => if ctU a = true then (a.toNat : Int) - 128 else -1
theorem tl_in (s : ByteArray) (i : Nat) (h : i < s.size) (a : 128 ≤ (s[i].toNat : Int)) (b : (s[i].toNat : Int) ≤ 191) : (s[i].toNat : Int) - 128 = tlL (s.data.toList.drop i) := by
 rw [drop_cons s i h]; simp only [tlL]; rw [if_pos (by simp [ctU]; omega)]
theorem tl_out (s : ByteArray) (i : Nat) (h : i < s.size) (a : (s[i].toNat : Int) < 128 ∨ 191 < (s[i].toNat : Int)) : -1 = tlL (s.data.toList.drop i) := by
 rw [drop_cons s i h]; simp only [tlL]; rw [if_neg (by simp [ctU]; omega)]
theorem tl_end (s : ByteArray) (i : Nat) (h : s.size ≤ i) : -1 = tlL (s.data.toList.drop i) := by
 rw [drop_none s i h]; rfl
set_option maxHeartbeats 1000000 in
theorem tail_any (s : ByteArray) (i : Int) (w : World) (hs : s.size ≤ 140737488351232) (hi : 0 ≤ i) :
  Calls Tryz.prog 120 #[.string s,.int .i64 i] w fun e w' => e = .returned (.int .i64 (tlL (s.data.toList.drop i.toNat))) ∧ w' = w := by
 by_cases h : i < s.size
 ·have hn : i.toNat < s.size := by omega
  go_enter Tryz.func120,Tryz.ntmps120
  go_wp2
  all_goals
   go_ret
   first
   | exact ⟨ret_int (tl_in s i.toNat hn (by omega) (by omega)),rfl⟩
   | exact ⟨ret_int (tl_out s i.toNat hn (by omega)),rfl⟩
 ·go_enter Tryz.func120,Tryz.ntmps120
  go_wp2
  go_ret
  exact ⟨ret_int (tl_end s i.toNat (by omega)),rfl⟩
set_option maxHeartbeats 1000000 in
theorem rnext_out (s : ByteArray) (i : Int) (w : World) (h : i < 0 ∨ (s.size : Int) ≤ i) :
  Calls Tryz.prog 102 #[.string s,.int .i64 i] w fun e w' => e = .returned (nxV (nxL (atL s i))) ∧ w' = w := by
 have hx := atL_out s i h
 have HX : Hid (nxL (atL s i) = none) := hx
 clear hx
 rcases h with h | h
 ·go_enter Tryz.func102,Tryz.ntmps102
  go_wp2
  go_ret3
  exact ⟨ret_none HX.out,rfl⟩
 ·by_cases h0 : i < 0
  all_goals
   go_enter Tryz.func102,Tryz.ntmps102
   go_wp2
   go_ret3
   exact ⟨ret_none HX.out,rfl⟩
def accv (v0 : Int) (l : List UInt8) : Nat → Int
 | 0 => v0
 | k + 1 => 64 * accv v0 l k + tlL (l.drop (k + 1))
theorem nxL_lead1 (s : ByteArray) (i : Nat) (h : i < s.size) (ha : (s[i].toNat : Int) < 128) : nxL (atL s i) = some (s[i].toNat,1) := by
 rw [atL_in s i (by omega),Int.toNat_natCast,drop_cons s i h]
 simp only [nxL]; rw [if_pos (by omega)]
theorem nxL_lead0 (s : ByteArray) (i : Nat) (h : i < s.size) (h0 : 128 ≤ (s[i].toNat : Int)) (h1 : (s[i].toNat : Int) < 192 ∨ 248 ≤ (s[i].toNat : Int)) : nxL (atL s i) = none := by
 rw [atL_in s i (by omega),Int.toNat_natCast,drop_cons s i h]
 simp only [nxL]; rw [if_neg (by omega),if_neg (by omega),if_neg (by omega),if_neg (by omega)]
set_option maxHeartbeats 1000000 in
theorem rnext_lead1 (s : ByteArray) (i : Nat) (w : World) (hs : s.size ≤ 140737488351232) (h : i < s.size) (ha : (s[i].toNat : Int) < 128) :
  Calls Tryz.prog 102 #[.string s,.int .i64 (i : Int)] w fun e w' => e = .returned (nxV (nxL (atL s i))) ∧ w' = w := by
 have HX : Hid (nxL (atL s i) = some (s[i].toNat,1)) := nxL_lead1 s i h ha
 have hb : 0 ≤ (s[i].toNat : Int) := by omega
 go_enter Tryz.func102,Tryz.ntmps102
 go_wp2
 go_ret3
 exact ⟨ret_some _ _ HX.out rfl rfl,rfl⟩
set_option maxHeartbeats 1000000 in
theorem rnext_lead0 (s : ByteArray) (i : Nat) (w : World) (hs : s.size ≤ 140737488351232) (h : i < s.size) (h0 : 128 ≤ (s[i].toNat : Int)) (h1 : (s[i].toNat : Int) < 192 ∨ 248 ≤ (s[i].toNat : Int)) :
  Calls Tryz.prog 102 #[.string s,.int .i64 (i : Int)] w fun e w' => e = .returned (nxV (nxL (atL s i))) ∧ w' = w := by
 have HX : Hid (nxL (atL s i) = none) := nxL_lead0 s i h h0 h1
 have hb : (s[i].toNat : Int) < 256 := by have := s[i].toNat_lt; omega
 rcases h1 with h1 | h1
 all_goals
  go_enter Tryz.func102,Tryz.ntmps102
  go_wp2
  go_ret3
  exact ⟨ret_none HX.out,rfl⟩
theorem tl_neg {r : List UInt8} (h : tlL r < 0) : ∀ b r',r = b :: r' → ctU b = false := by
 rintro b r' rfl
 cases e : ctU b with
 | false => rfl
 | true => simp only [tlL,e,if_true] at h; simp [ctU] at e; omega
theorem tl_pos {r : List UInt8} (h : 0 ≤ tlL r) : ∃ b r',r = b :: r' ∧ ctU b = true ∧ tlL r = (b.toNat : Int) - 128 := by
 match r with
 | [] => simp [tlL] at h
 | b :: r' =>
  cases e : ctU b with
  | false => simp [tlL,e] at h
  | true => exact ⟨b,r',rfl,e,by simp [tlL,e]⟩
theorem tl_bd (r : List UInt8) : -1 ≤ tlL r ∧ tlL r ≤ 63 := by
 match r with
 | [] => simp [tlL]
 | b :: r' =>
  simp only [tlL]
  split
  ·rename_i e; simp [ctU] at e; omega
  ·omega
def okVr (v : Int) : Prop := v ≤ 1114111 ∧ ¬ (55296 ≤ v ∧ v ≤ 57343)
theorem bad_2 {a : UInt8} {r : List UInt8} (h0 : 192 ≤ a.toNat) (h1 : a.toNat < 224) (m : Nat) (hm : 1 ≤ m) (hn : m < 2) (h : tlL ((a :: r).drop m) < 0) : nxL (a :: r) = none := by
 obtain rfl : m = 1 := by omega
 have hc := tl_neg (r := r) h
 simp only [nxL]
 rw [if_neg (by omega),if_pos ⟨h0,h1⟩]
 match r with
 | [] => rfl
 | b :: r' => simp [hc b r' rfl]
theorem bad_3 {a : UInt8} {r : List UInt8} (h0 : 224 ≤ a.toNat) (h1 : a.toNat < 240) (m : Nat) (hm : 1 ≤ m) (hn : m < 3) (h : tlL ((a :: r).drop m) < 0) : nxL (a :: r) = none := by
 simp only [nxL]
 rw [if_neg (by omega),if_neg (by omega),if_pos ⟨h0,h1⟩]
 match r with
 | [] => rfl
 | [b] => rfl
 | b :: c :: r' =>
  obtain rfl | rfl : m = 1 ∨ m = 2 := by omega
  ·have hc := tl_neg (r := b :: c :: r') h; simp [hc b _ rfl]
  ·have hc := tl_neg (r := c :: r') h; simp [hc c _ rfl]
theorem bad_4 {a : UInt8} {r : List UInt8} (h0 : 240 ≤ a.toNat) (h1 : a.toNat < 248) (m : Nat) (hm : 1 ≤ m) (hn : m < 4) (h : tlL ((a :: r).drop m) < 0) : nxL (a :: r) = none := by
 simp only [nxL]
 rw [if_neg (by omega),if_neg (by omega),if_neg (by omega),if_pos ⟨h0,h1⟩]
 match r with
 | [] => rfl
 | [b] => rfl
 | [b,c] => rfl
 | b :: c :: d :: r' =>
  obtain rfl | rfl | rfl : m = 1 ∨ m = 2 ∨ m = 3 := by omega
  ·have hc := tl_neg (r := b :: c :: d :: r') h; simp [hc b _ rfl]
  ·have hc := tl_neg (r := c :: d :: r') h; simp [hc c _ rfl]
  ·have hc := tl_neg (r := d :: r') h; simp [hc d _ rfl]
theorem good_2 {a : UInt8} {r : List UInt8} (h0 : 192 ≤ a.toNat) (h1 : a.toNat < 224) (h : ∀ m,1 ≤ m → m < 2 → 0 ≤ tlL ((a :: r).drop m)) :
  ∃ v : Nat,accv ((a.toNat : Int) - 192) (a :: r) 1 = v ∧ v ≤ 1000000000 ∧ (128 ≤ v ∧ okVr v → nxL (a :: r) = some (v,2)) ∧ (¬ (128 ≤ v ∧ okVr v) → nxL (a :: r) = none) := by
 obtain ⟨b,r',rfl,hb,eb⟩ := tl_pos (r := r) (h 1 (by omega) (by omega))
 have hl := two_lt h1 hb
 have hb' := hb
 simp only [ctU,Bool.and_eq_true,decide_eq_true_eq] at hb'
 refine ⟨two a b,?_,by omega,?_,?_⟩
 ·show 64 * ((a.toNat : Int) - 192) + tlL (b :: r') = _
  rw [eb]; simp only [two]; omega
 ·rintro ⟨g,_⟩
  simp only [nxL]
  rw [if_neg (by omega),if_pos ⟨h0,h1⟩,if_pos ⟨hb,g⟩]
 ·intro g
  simp only [nxL]
  rw [if_neg (by omega),if_pos ⟨h0,h1⟩,if_neg (fun x => g ⟨x.2,by simp only [okVr]; omega⟩)]
theorem good_3 {a : UInt8} {r : List UInt8} (h0 : 224 ≤ a.toNat) (h1 : a.toNat < 240) (h : ∀ m,1 ≤ m → m < 3 → 0 ≤ tlL ((a :: r).drop m)) :
  ∃ v : Nat,accv ((a.toNat : Int) - 224) (a :: r) 2 = v ∧ v ≤ 1000000000 ∧ (2048 ≤ v ∧ okVr v → nxL (a :: r) = some (v,3)) ∧ (¬ (2048 ≤ v ∧ okVr v) → nxL (a :: r) = none) := by
 obtain ⟨b,r1,rfl,hb,eb⟩ := tl_pos (r := r) (h 1 (by omega) (by omega))
 obtain ⟨c,r',rfl,hc,ec⟩ := tl_pos (r := r1) (h 2 (by omega) (by omega))
 have hl := three_lt h1 hb hc
 have hb' := hb
 have hc' := hc
 simp only [ctU,Bool.and_eq_true,decide_eq_true_eq] at hb' hc'
 refine ⟨three a b c,?_,by omega,?_,?_⟩
 ·show 64 * (64 * ((a.toNat : Int) - 224) + tlL (b :: c :: r')) + tlL (c :: r') = _
  rw [eb,ec]; simp only [three]; omega
 ·rintro ⟨g,g2⟩
  simp only [nxL]
  rw [if_neg (by omega),if_neg (by omega),if_pos ⟨h0,h1⟩,if_pos ⟨hb,hc,g,by simp only [okVr] at g2; omega⟩]
 ·intro g
  simp only [nxL]
  rw [if_neg (by omega),if_neg (by omega),if_pos ⟨h0,h1⟩,if_neg (fun x => g ⟨x.2.2.1,by simp only [okVr]; omega⟩)]
theorem good_4 {a : UInt8} {r : List UInt8} (h0 : 240 ≤ a.toNat) (h1 : a.toNat < 248) (h : ∀ m,1 ≤ m → m < 4 → 0 ≤ tlL ((a :: r).drop m)) :
  ∃ v : Nat,accv ((a.toNat : Int) - 240) (a :: r) 3 = v ∧ v ≤ 1000000000 ∧ (65536 ≤ v ∧ okVr v → nxL (a :: r) = some (v,4)) ∧ (¬ (65536 ≤ v ∧ okVr v) → nxL (a :: r) = none) := by
 obtain ⟨b,r1,rfl,hb,eb⟩ := tl_pos (r := r) (h 1 (by omega) (by omega))
 obtain ⟨c,r2,rfl,hc,ec⟩ := tl_pos (r := r1) (h 2 (by omega) (by omega))
 obtain ⟨d,r',rfl,hd,ed⟩ := tl_pos (r := r2) (h 3 (by omega) (by omega))
 have hb' := hb
 have hc' := hc
 have hd' := hd
 simp only [ctU,Bool.and_eq_true,decide_eq_true_eq] at hb' hc' hd'
 refine ⟨four a b c d,?_,by simp only [four]; omega,?_,?_⟩
 ·show 64 * (64 * (64 * ((a.toNat : Int) - 240) + tlL (b :: c :: d :: r')) + tlL (c :: d :: r')) + tlL (d :: r') = _
  rw [eb,ec,ed]; simp only [four]; omega
 ·rintro ⟨g,g2⟩
  simp only [nxL]
  rw [if_neg (by omega),if_neg (by omega),if_neg (by omega),if_pos ⟨h0,h1⟩,if_pos ⟨hb,hc,hd,g,by simp only [okVr] at g2; omega⟩]
 ·intro g
  simp only [nxL]
  rw [if_neg (by omega),if_neg (by omega),if_neg (by omega),if_pos ⟨h0,h1⟩,if_neg (fun x => g ⟨x.2.2.2.1,by simp only [okVr]; omega⟩)]
theorem accv_bd (v0 : Int) (l : List UInt8) (h0 : 0 ≤ v0) (h1 : v0 ≤ 31) (k : Nat) (hk : k ≤ 3) (h : ∀ m,1 ≤ m → m < k + 1 → 0 ≤ tlL (l.drop m)) : 0 ≤ accv v0 l k ∧ accv v0 l k ≤ 10000000 := by
 have b1 := tl_bd (l.drop 1)
 have b2 := tl_bd (l.drop 2)
 have b3 := tl_bd (l.drop 3)
 obtain rfl | rfl | rfl | rfl : k = 0 ∨ k = 1 ∨ k = 2 ∨ k = 3 := by omega
 ·simp only [accv]; omega
 ·have := h 1 (by omega) (by omega); simp only [accv,Nat.zero_add,Nat.reduceAdd]; omega
 ·have := h 1 (by omega) (by omega); have := h 2 (by omega) (by omega); simp only [accv,Nat.zero_add,Nat.reduceAdd]; omega
 ·have := h 1 (by omega) (by omega); have := h 2 (by omega) (by omega); have := h 3 (by omega) (by omega); simp only [accv,Nat.zero_add,Nat.reduceAdd]; omega
theorem rest_at (s : ByteArray) (i m : Nat) : s.data.toList.drop ((i : Int) + (m : Int)).toNat = (s.data.toList.drop i).drop m := by
 rw [List.drop_drop]; congr 1
set_option maxHeartbeats 2000000 in
theorem rnext_lead2 (s : ByteArray) (i : Nat) (w : World) (hs : s.size ≤ 140737488351232) (h : i < s.size) (h0 : 192 ≤ (s[i].toNat : Int)) (h1 : (s[i].toNat : Int) < 224) :
  Calls Tryz.prog 102 #[.string s,.int .i64 (i : Int)] w fun e w' => e = .returned (nxV (nxL (atL s i))) ∧ w' = w := by
 have hl0 : Hid (atL s i = s[i] :: s.data.toList.drop (i + 1)) := by rw [atL_in s i (by omega),Int.toNat_natCast,drop_cons s i h]; rfl
 have hl1 : Hid (atL s i = s.data.toList.drop i) := by rw [atL_in s i (by omega),Int.toNat_natCast]; rfl
 generalize atL s i = l at *
 have hd1 : decide (s.size ≤ i) = false := by simp; omega
 have hd2 : decide ((i : Int) < 0) = false := by simp
 have hd3 : decide ((s[i].toNat : Int) < 128) = false := by simp; omega
 go_enter Tryz.func102,Tryz.ntmps102
 go_wp2
 go_loop [9,11] (fun v j => ∃ m : Nat,1 ≤ m ∧ m ≤ 2 ∧ j = .int .i64 m ∧ v = .int .i64 (accv ((s[i].toNat : Int) - 192) l (m - 1)) ∧ Hid (∀ q,1 ≤ q → q < m → 0 ≤ tlL (l.drop q))) (fun _ j => 2 - (intOf j).toNat)
 case atStart => exact ⟨1,by omega,by omega,rfl,rfl,by intro q; omega⟩
 case round =>
  obtain ⟨m,hm1,hm2,rfl,rfl,H⟩ := hrel
  have hbd := accv_bd ((s[i].toNat : Int) - 192) l (by omega) (by omega) (m - 1) (by omega) (fun q a b => H.out q a (by omega))
  by_cases hlt : m < 2
  ·have ht := tl_bd (l.drop m)
   have HT : Hid (tlL (s.data.toList.drop ((i : Int) + (m : Int)).toNat) = tlL (l.drop m)) := by rw [rest_at,← hl1.out]; rfl
   have HS : Hid (64 * accv ((s[i].toNat : Int) - 192) l (m - 1) + tlL (l.drop m) = accv ((s[i].toNat : Int) - 192) l m) := by
    obtain ⟨k,rfl⟩ : ∃ k,m = k + 1 := ⟨m - 1,by omega⟩
    rfl
   have HB : Hid (tlL (l.drop m) < 0 → nxL l = none) := fun hh => by
    have hx := hh
    rw [hl0.out] at hx ⊢
    exact bad_2 (by omega) (by omega) m hm1 hlt hx
   have HN : Hid (0 ≤ tlL (l.drop m) → ∀ q,1 ≤ q → q < m + 1 → 0 ≤ tlL (l.drop q)) := fun hh q a b => by
    by_cases e : q = m
    ·rw [e]; exact hh
    ·exact H.out q a (by omega)
   generalize accv ((s[i].toNat : Int) - 192) l (m - 1) = v at *
   go_wp2_with fail
   refine (tail_any s _ _ hs (by omega)).mono ?_
   rintro e w' ⟨rfl,rfl⟩
   rw [HT.out]
   generalize tlL (l.drop m) = t at *
   by_cases hneg : t < 0
   ·go_wp2
    go_ret3
    exact ⟨ret_none (HB.out hneg),rfl⟩
   ·go_wp2
    go_round
    case rel => exact ⟨m + 1,by omega,by omega,by go_num,by rw [HS.out]; rfl,HN.out (by omega)⟩
    case measure => simp [intOf]; omega
  ·obtain rfl : m = 2 := by omega
   obtain ⟨v,ev,hv,hyes,hno⟩ : ∃ v : Nat,accv ((s[i].toNat : Int) - 192) l (2 - 1) = v ∧ v ≤ 1000000000 ∧ (128 ≤ v ∧ okVr v → nxL l = some (v,2)) ∧ (¬ (128 ≤ v ∧ okVr v) → nxL l = none) := by
    have hg := H.out
    rw [hl0.out] at hg ⊢
    exact good_2 (by omega) (by omega) hg
   rw [ev]
   have HY : Hid (128 ≤ v ∧ okVr v → nxL l = some (v,2)) := hyes
   have HNO : Hid (¬ (128 ≤ v ∧ okVr v) → nxL l = none) := hno
   clear hyes hno ev hbd H
   go_wp2
   all_goals
    go_ret3
    first
    | exact ⟨ret_none (HNO.out (by simp only [okVr]; omega)),rfl⟩
    | exact ⟨ret_some _ _ (HY.out (by simp only [okVr]; omega)) rfl rfl,rfl⟩
set_option maxHeartbeats 2000000 in
theorem rnext_lead3 (s : ByteArray) (i : Nat) (w : World) (hs : s.size ≤ 140737488351232) (h : i < s.size) (h0 : 224 ≤ (s[i].toNat : Int)) (h1 : (s[i].toNat : Int) < 240) :
  Calls Tryz.prog 102 #[.string s,.int .i64 (i : Int)] w fun e w' => e = .returned (nxV (nxL (atL s i))) ∧ w' = w := by
 have hl0 : Hid (atL s i = s[i] :: s.data.toList.drop (i + 1)) := by rw [atL_in s i (by omega),Int.toNat_natCast,drop_cons s i h]; rfl
 have hl1 : Hid (atL s i = s.data.toList.drop i) := by rw [atL_in s i (by omega),Int.toNat_natCast]; rfl
 generalize atL s i = l at *
 have hd1 : decide (s.size ≤ i) = false := by simp; omega
 have hd2 : decide ((i : Int) < 0) = false := by simp
 have hd3 : decide ((s[i].toNat : Int) < 128) = false := by simp; omega
 go_enter Tryz.func102,Tryz.ntmps102
 go_wp2
 go_loop [9,11] (fun v j => ∃ m : Nat,1 ≤ m ∧ m ≤ 3 ∧ j = .int .i64 m ∧ v = .int .i64 (accv ((s[i].toNat : Int) - 224) l (m - 1)) ∧ Hid (∀ q,1 ≤ q → q < m → 0 ≤ tlL (l.drop q))) (fun _ j => 3 - (intOf j).toNat)
 case atStart => exact ⟨1,by omega,by omega,rfl,rfl,by intro q; omega⟩
 case round =>
  obtain ⟨m,hm1,hm2,rfl,rfl,H⟩ := hrel
  have hbd := accv_bd ((s[i].toNat : Int) - 224) l (by omega) (by omega) (m - 1) (by omega) (fun q a b => H.out q a (by omega))
  by_cases hlt : m < 3
  ·have ht := tl_bd (l.drop m)
   have HT : Hid (tlL (s.data.toList.drop ((i : Int) + (m : Int)).toNat) = tlL (l.drop m)) := by rw [rest_at,← hl1.out]; rfl
   have HS : Hid (64 * accv ((s[i].toNat : Int) - 224) l (m - 1) + tlL (l.drop m) = accv ((s[i].toNat : Int) - 224) l m) := by
    obtain ⟨k,rfl⟩ : ∃ k,m = k + 1 := ⟨m - 1,by omega⟩
    rfl
   have HB : Hid (tlL (l.drop m) < 0 → nxL l = none) := fun hh => by
    have hx := hh
    rw [hl0.out] at hx ⊢
    exact bad_3 (by omega) (by omega) m hm1 hlt hx
   have HN : Hid (0 ≤ tlL (l.drop m) → ∀ q,1 ≤ q → q < m + 1 → 0 ≤ tlL (l.drop q)) := fun hh q a b => by
    by_cases e : q = m
    ·rw [e]; exact hh
    ·exact H.out q a (by omega)
   generalize accv ((s[i].toNat : Int) - 224) l (m - 1) = v at *
   go_wp2_with fail
   refine (tail_any s _ _ hs (by omega)).mono ?_
   rintro e w' ⟨rfl,rfl⟩
   rw [HT.out]
   generalize tlL (l.drop m) = t at *
   by_cases hneg : t < 0
   ·go_wp2
    go_ret3
    exact ⟨ret_none (HB.out hneg),rfl⟩
   ·go_wp2
    go_round
    case rel => exact ⟨m + 1,by omega,by omega,by go_num,by rw [HS.out]; rfl,HN.out (by omega)⟩
    case measure => simp [intOf]; omega
  ·obtain rfl : m = 3 := by omega
   obtain ⟨v,ev,hv,hyes,hno⟩ : ∃ v : Nat,accv ((s[i].toNat : Int) - 224) l (3 - 1) = v ∧ v ≤ 1000000000 ∧ (2048 ≤ v ∧ okVr v → nxL l = some (v,3)) ∧ (¬ (2048 ≤ v ∧ okVr v) → nxL l = none) := by
    have hg := H.out
    rw [hl0.out] at hg ⊢
    exact good_3 (by omega) (by omega) hg
   rw [ev]
   have HY : Hid (2048 ≤ v ∧ okVr v → nxL l = some (v,3)) := hyes
   have HNO : Hid (¬ (2048 ≤ v ∧ okVr v) → nxL l = none) := hno
   clear hyes hno ev hbd H
   go_wp2
   all_goals
    go_ret3
    first
    | exact ⟨ret_none (HNO.out (by simp only [okVr]; omega)),rfl⟩
    | exact ⟨ret_some _ _ (HY.out (by simp only [okVr]; omega)) rfl rfl,rfl⟩
set_option maxHeartbeats 2000000 in
theorem rnext_lead4 (s : ByteArray) (i : Nat) (w : World) (hs : s.size ≤ 140737488351232) (h : i < s.size) (h0 : 240 ≤ (s[i].toNat : Int)) (h1 : (s[i].toNat : Int) < 248) :
  Calls Tryz.prog 102 #[.string s,.int .i64 (i : Int)] w fun e w' => e = .returned (nxV (nxL (atL s i))) ∧ w' = w := by
 have hl0 : Hid (atL s i = s[i] :: s.data.toList.drop (i + 1)) := by rw [atL_in s i (by omega),Int.toNat_natCast,drop_cons s i h]; rfl
 have hl1 : Hid (atL s i = s.data.toList.drop i) := by rw [atL_in s i (by omega),Int.toNat_natCast]; rfl
 generalize atL s i = l at *
 have hd1 : decide (s.size ≤ i) = false := by simp; omega
 have hd2 : decide ((i : Int) < 0) = false := by simp
 have hd3 : decide ((s[i].toNat : Int) < 128) = false := by simp; omega
 go_enter Tryz.func102,Tryz.ntmps102
 go_wp2
 go_loop [9,11] (fun v j => ∃ m : Nat,1 ≤ m ∧ m ≤ 4 ∧ j = .int .i64 m ∧ v = .int .i64 (accv ((s[i].toNat : Int) - 240) l (m - 1)) ∧ Hid (∀ q,1 ≤ q → q < m → 0 ≤ tlL (l.drop q))) (fun _ j => 4 - (intOf j).toNat)
 case atStart => exact ⟨1,by omega,by omega,rfl,rfl,by intro q; omega⟩
 case round =>
  obtain ⟨m,hm1,hm2,rfl,rfl,H⟩ := hrel
  have hbd := accv_bd ((s[i].toNat : Int) - 240) l (by omega) (by omega) (m - 1) (by omega) (fun q a b => H.out q a (by omega))
  by_cases hlt : m < 4
  ·have ht := tl_bd (l.drop m)
   have HT : Hid (tlL (s.data.toList.drop ((i : Int) + (m : Int)).toNat) = tlL (l.drop m)) := by rw [rest_at,← hl1.out]; rfl
   have HS : Hid (64 * accv ((s[i].toNat : Int) - 240) l (m - 1) + tlL (l.drop m) = accv ((s[i].toNat : Int) - 240) l m) := by
    obtain ⟨k,rfl⟩ : ∃ k,m = k + 1 := ⟨m - 1,by omega⟩
    rfl
   have HB : Hid (tlL (l.drop m) < 0 → nxL l = none) := fun hh => by
    have hx := hh
    rw [hl0.out] at hx ⊢
    exact bad_4 (by omega) (by omega) m hm1 hlt hx
   have HN : Hid (0 ≤ tlL (l.drop m) → ∀ q,1 ≤ q → q < m + 1 → 0 ≤ tlL (l.drop q)) := fun hh q a b => by
    by_cases e : q = m
    ·rw [e]; exact hh
    ·exact H.out q a (by omega)
   generalize accv ((s[i].toNat : Int) - 240) l (m - 1) = v at *
   go_wp2_with fail
   refine (tail_any s _ _ hs (by omega)).mono ?_
   rintro e w' ⟨rfl,rfl⟩
   rw [HT.out]
   generalize tlL (l.drop m) = t at *
   by_cases hneg : t < 0
   ·go_wp2
    go_ret3
    exact ⟨ret_none (HB.out hneg),rfl⟩
   ·go_wp2
    go_round
    case rel => exact ⟨m + 1,by omega,by omega,by go_num,by rw [HS.out]; rfl,HN.out (by omega)⟩
    case measure => simp [intOf]; omega
  ·obtain rfl : m = 4 := by omega
   obtain ⟨v,ev,hv,hyes,hno⟩ : ∃ v : Nat,accv ((s[i].toNat : Int) - 240) l (4 - 1) = v ∧ v ≤ 1000000000 ∧ (65536 ≤ v ∧ okVr v → nxL l = some (v,4)) ∧ (¬ (65536 ≤ v ∧ okVr v) → nxL l = none) := by
    have hg := H.out
    rw [hl0.out] at hg ⊢
    exact good_4 (by omega) (by omega) hg
   rw [ev]
   have HY : Hid (65536 ≤ v ∧ okVr v → nxL l = some (v,4)) := hyes
   have HNO : Hid (¬ (65536 ≤ v ∧ okVr v) → nxL l = none) := hno
   clear hyes hno ev hbd H
   go_wp2
   all_goals
    go_ret3
    first
    | exact ⟨ret_none (HNO.out (by simp only [okVr]; omega)),rfl⟩
    | exact ⟨ret_some _ _ (HY.out (by simp only [okVr]; omega)) rfl rfl,rfl⟩
theorem rnext_any (s : ByteArray) (i : Int) (w : World) (hs : s.size ≤ 140737488351232) :
  Calls Tryz.prog 102 #[.string s,.int .i64 i] w fun e w' => e = .returned (nxV (nxL (atL s i))) ∧ w' = w := by
 by_cases h : i < 0 ∨ (s.size : Int) ≤ i
 ·exact rnext_out s i w h
 ·obtain ⟨n,rfl⟩ := Int.eq_ofNat_of_zero_le (a := i) (by omega)
  have hn : n < s.size := by omega
  by_cases h1 : (s[n].toNat : Int) < 128
  ·exact rnext_lead1 s n w hs hn h1
  ·by_cases h2 : (s[n].toNat : Int) < 192 ∨ 248 ≤ (s[n].toNat : Int)
   ·exact rnext_lead0 s n w hs hn (by omega) h2
   ·by_cases h3 : (s[n].toNat : Int) < 224
    ·exact rnext_lead2 s n w hs hn (by omega) h3
    ·by_cases h4 : (s[n].toNat : Int) < 240
     ·exact rnext_lead3 s n w hs hn (by omega) h4
     ·exact rnext_lead4 s n w hs hn (by omega) (by omega)
set_option maxHeartbeats 400000 in
theorem rdigit_any (r : Int) (w : World) :
  Calls Tryz.prog 74 #[.int .i32 r] w fun e w' => e = .returned (.bool (digB r)) ∧ w' = w := by
 go_enter Tryz.func74,Tryz.ntmps74
 go_wp2
 all_goals
  go_ret
  exact ⟨ret_bool (by simp [digB]; try omega),rfl⟩
set_option maxHeartbeats 1000000 in
theorem rletter_any (r : Int) (w : World) :
  Calls Tryz.prog 72 #[.int .i32 r] w fun e w' => e = .returned (.bool (letB r)) ∧ w' = w := by
 go_enter Tryz.func72,Tryz.ntmps72
 go_wp2
 all_goals
  go_ret
  refine ⟨ret_bool ?_,rfl⟩
  rw [Bool.eq_iff_iff]
  simp [letB]
  try omega
theorem infoRune : (Tryz.prog.info? 21).map (fun i => (i.zero,i.size,i.bytes)) = some (some (.int .i32 0),1,4) := by kernel_rfl
def runeCells (rs : List Nat) : List Value := rs.map fun (c : Nat) => Value.int .i32 (c : Int)
theorem owns_cast {w : World} {b e : Nat} {v : Value} {n n' : Nat} {xs xs' : List Value} (h : w.ownsRow b e 1 v n xs) (hn : n' = n) (hx : xs' = xs) : w.ownsRow b e 1 v n' xs' := by
 rw [hn,hx]; exact h
theorem all_len {l : List UInt8} {pos c k : Nat} (hn : nxL (l.drop pos) = some (c,k)) (hp : pos ≤ l.length) : pos + k ≤ l.length ∧ 1 ≤ k ∧ k ≤ 4 := by
 obtain ⟨_,_,_,h4,h5,h6,_⟩ := nxL_some _ _ _ hn
 simp at h5
 omega
set_option maxHeartbeats 1000000 in
theorem rall_any (s : ByteArray) (w : World) (hs : s.size ≤ 20000) :
  Calls Tryz.prog 71 #[.string s] w fun e w' => ∃ v,e = .returned (.tuple #[v,.bool (validB s.data.toList)]) ∧
   w'.ownsRow w.heap.size 21 1 v (countN s.data.toList) (runeCells ((runesOf s.data.toList).getD [])) ∧ Below w.heap.size w w' := by
 obtain ⟨i0,hi,hz0,hz1,hz2⟩ := info_parts infoRune
 go_enter Tryz.func71,Tryz.ntmps71
 go_wp2_with fail
 go_loopw [4,5] (fun v at' wr => ∃ (pos : Nat) (acc : List Nat),at' = .int .i64 pos ∧ pos ≤ s.size ∧ acc.length ≤ pos ∧ Hid (Gone s.data.toList pos acc) ∧ wr.ownsRow w.heap.size 21 1 v acc.length (runeCells acc) ∧ Below w.heap.size w wr)
  (fun _ at' _ => s.size - (intOf at').toNat)
 case atStart => exact ⟨0,[],rfl,by omega,by simp,Gone.start _,World.ownsRow_nil _ _ _ _,Below.refl _ _⟩
 case round =>
  obtain ⟨pos,acc,rfl,hps,hap,H,hown,hbel⟩ := hrel
  by_cases hp : pos < s.size
  ·have HA : Hid (atL s pos = s.data.toList.drop pos) := by rw [atL_in s pos (by omega),Int.toNat_natCast]; rfl
   go_wp2_with fail
   refine (rnext_any s _ _ (by omega)).mono ?_
   rintro e w1 ⟨rfl,rfl⟩
   rw [HA.out]
   generalize hx : nxL (s.data.toList.drop pos) = x
   cases x with
   | none =>
    have HR : Hid (runesOf s.data.toList = none) := H.out.bad (by rw [len_data]; exact hp) hx
    have H1 : Hid (validB s.data.toList = false) := by show _ = _; unfold validB; rw [HR.out]; rfl
    have H2 : Hid (countN s.data.toList = 0) := by show _ = _; unfold countN; rw [HR.out]; rfl
    have H3 : Hid ((runesOf s.data.toList).getD [] = []) := by show _ = _; rw [HR.out]; rfl
    simp only [nxV]
    clear hx
    go_wp2_with fail
    go_ret2
    refine ⟨.slice none 0 0,?_,?_,hbel⟩
    ·rw [H1.out]; rfl
    ·rw [H2.out,H3.out]; exact World.ownsRow_nil _ _ _ _
   | some x =>
    obtain ⟨c,k⟩ := x
    obtain ⟨g1,g2,g3⟩ := all_len hx (by rw [len_data]; omega)
    rw [len_data] at g1
    have HG : Hid (Gone s.data.toList (pos + k) (acc ++ [c])) := H.out.step hx
    clear hx
    simp only [nxV]
    have hws := hbel.size
    go_wp2_with (first
     | (at_builtin; refine wpList_append_own _ rfl _ _ 131 rfl w.heap.size 21 i0 (.int .i32 0) 1 4 Tryz.underlying131 hi hz0 hz1 hz2 rfl (by decide) _ _ _ rfl (hown.alloc _) ⟨w1.heap.size,0,none⟩ 1 1 [.int .i32 (c : Int)] rfl rfl ?c1 ?c2 ?c3 ?c4 ?c5 ?_)
     | fail)
    case c1 =>
     intro j u hj
     match j,hj with
     | 0,hj => simp at hj; subst hj; simp [Addr.add]
    case c2 => intro u hu; simp at hu; subst hu; rfl
    case c3 => unfold maxLen; omega
    case c4 => omega
    case c5 => simp; omega
    intro v' w2 hown' hgrow _
    have hb2 : Below w.heap.size w w2 := (hbel.alloc hws _).grown hgrow (by simp; omega) (fun k hk => (hown.lt k hk).1)
    have HO : Hid (w2.ownsRow w.heap.size 21 1 v' (acc ++ [c]).length (runeCells (acc ++ [c]))) := by
     have e1 : (acc ++ [c]).length = acc.length + 1 := by simp
     have e2 : runeCells (acc ++ [c]) = runeCells acc ++ [.int .i32 (c : Int)] := by simp [runeCells]
     show World.ownsRow _ _ _ _ _ _ _
     rw [e1,e2]
     exact hown'
    clear hown hown' hgrow
    go_wp2_with fail
    go_roundw
    case rel => exact ⟨pos + k,acc ++ [c],by go_num,by omega,by simp; omega,HG,HO.out,hb2⟩
    case measure => simp [intOf]; omega
  ·have HR : Hid (runesOf s.data.toList = some acc) := H.out.done (by rw [len_data]; omega)
   have H1 : Hid (validB s.data.toList = true) := by show _ = _; unfold validB; rw [HR.out]; rfl
   have H2 : Hid (countN s.data.toList = acc.length) := by show _ = _; unfold countN; rw [HR.out]; rfl
   have H3 : Hid ((runesOf s.data.toList).getD [] = acc) := by show _ = _; rw [HR.out]; rfl
   have HO := owns_cast hown H2.out (congrArg runeCells H3.out)
   clear hown
   go_wp2_with fail
   go_ret2
   exact ⟨_,by rw [H1.out]; rfl,HO,hbel⟩
theorem owns_form {w : World} {base e : Nat} {v : Value} {n : Nat} {xs : List Value} (h : w.ownsRow base e 1 v n xs) :
  ∃ a cap,v = .slice a n cap ∧ (0 < n → ∃ g,a = some ⟨g,0,none⟩ ∧ ∀ j,j < n → w.cell? ⟨g,j,none⟩ = xs[j]?) := by
 have h0 := h
 obtain ⟨h1,h2⟩ := h
 rcases h2 with ⟨rfl,rfl⟩ | ⟨g,cap,cur,rfl,_⟩
 ·exact ⟨none,0,rfl,by omega⟩
 ·exact ⟨some ⟨g,0,none⟩,cap,rfl,fun _ => ⟨g,rfl,fun j hj => h0.cellAt j (by omega)⟩⟩
set_option maxHeartbeats 1000000 in
theorem rvalidB_any (s : ByteArray) (w : World) (hs : s.size ≤ 6000) :
  Calls Tryz.prog 101 #[.string s] w fun e w' => e = .returned (.bool (validB s.data.toList)) ∧ Below w.heap.size w w' := by
 go_enter Tryz.func101,Tryz.ntmps101
 go_wp2_with fail
 refine (rall_any s _ (by omega)).mono ?_
 rintro e w1 ⟨v,rfl,_,h1⟩
 go_wp2_with fail
 go_ret
 exact ⟨rfl,h1⟩
end
end Go.Proofs.YtfnjbbaphmmjlaaGreat
