/- Part 21 of what the proof stands on. -/
import Derived.Test.YtmgbhicogmclgaaGreatPkWAT
import Derived.Lib.SlBytesConst
namespace Go.Proofs.YtmgbhicogmclgaaGreat
set_option maxHeartbeats 8000000
set_option linter.unusedVariables false
set_option linter.unusedSimpArgs false
set_option maxRecDepth 20000
section
open Go.ChangeShapes Go.WideShapes Go.ChangeAt Go.RowKit
theorem TrIn.all64 {n : Nat} {w : World} {v : Value} {t : Tr} (h : TrIn n w v t) : (∀ f ∈ t.rest,Is64 f.n) ∧ ∀ e ∈ t.es,∀ x ∈ e.2,Is64 x.n := by
 obtain ⟨r,_,h⟩ := h
 cases n with
 | zero => exact h.elim
 | succ n =>
  obtain ⟨ve,vr,h1,h2,h3,h4,h5,h6,h7⟩ := h;refine ⟨fun f hf => (h5 f hf).2.2.1,fun e he x hx => ?_⟩;obtain ⟨r',vt,_,_,g3⟩ := h7.all e he;obtain ⟨r'',hp⟩ := RowP.all g3 x hx
  cases n with
  | zero => exact hp.elim
  | succ n =>
   obtain ⟨_,_,_,_,q3,_⟩ := hp;exact q3
theorem fds_okR {n : Nat} {w : World} {v : Value} {t : Tr} {B : Tr → List Nat × Nat} (h : TrIn n w v t) (h1 : ∀ e ∈ t.es,e.2.length ≤ 70) (h2 : t.es.length ≤ 500) (h3 : t.rest.length ≤ 5000) : FdsOk (sortF ((fsE B t.es).map (·.1) ++ t.rest)) := by
 obtain ⟨-,q2,q3, -⟩ := sortF_all _ ((fsE B t.es).map (·.1) ++ t.rest) (Nat.le_refl _);have hl := subs_len h1;refine ⟨?_,fun r hr => ?_⟩
 ·rw [q2,List.length_append,List.length_map,fsE_len]
  omega
 ·obtain ⟨g2,g3⟩ := h.all64
  rcases List.mem_append.1 (q3 r hr) with hr | hr
  ·obtain ⟨p,hp,rfl⟩ := List.mem_map.1 hr;simp only [fsE,List.mem_flatMap,enE,List.mem_map] at hp;obtain ⟨e,he,x,hx,rfl⟩ := hp;exact flE_64 (g3 e he x hx)
  ·exact g2 r hr
theorem RwsP.err {R : List Fd × Nat} {w w' : World} {e : Int} (h : R = ([],e.toNat)) (he : 0 ≤ e) (h2 : Below w.heap.size w w') : RwsP R w (.returned (.tuple #[.slice none 0 0,.int .i64 e])) w' := by
 subst h;refine ⟨.slice none 0 0,?_,RawsAt.nil _ _,⟨by simp,by simp⟩,h2⟩;simp only;rw [Int.toNat_of_nonneg he]
theorem rsorted_at {B : Nat} {w : World} {v : Value} {n : Nat} {rs : List Fd} (h : w.ownsRow B 79 4 v n (rawCells rs)) (hl : rs.length ≤ 1000000) :
  Calls Tryz.prog 64 #[v] w fun e w' => ∃ v',e = .returned v' ∧ RawsAt w.heap.size w' v' (sortF rs) ∧ Below w.heap.size w w' := by
 obtain ⟨a,cap,rfl,_,h2,h3,h4,h5⟩ := own_openR h;refine (rsorted_any a rs rs.length cap w rfl hl (own_adrR h2) h3 h4 h5).mono ?_;rintro e w' ⟨v',rfl,g1,g2⟩;exact ⟨_,rfl,RawsAt.own g1,g2⟩
theorem rputall_at {B : Nat} {w : World} {v : Value} {rs : List Fd} (h : RawsAt B w v rs) (hr : FdsOk rs) :
  Calls Tryz.prog 60 #[v] w fun e w' => ∃ v,e = .returned (.tuple #[v,.int .i64 ((putL rs).2 : Int)]) ∧ w'.ownsRow w.heap.size 5 1 v (putL rs).1.length (byteCells (putL rs).1) ∧ Below w.heap.size w w' := by
 obtain ⟨a,cap,rfl,h2,h3,h4,h5⟩ := h;exact rputall_any a rs rs.length cap w rfl (own_adrR h2) h3 h4 hr.1 h5 hr.2
theorem own_setCell {w : World} {B : Nat} {e : TypeId} {s : Nat} {v : Value} {n : Nat} {xs : List Value} (h : w.ownsRow B e s v n xs) {p : Addr} (hp : ∀ k,v.ownBlock = some k → k ≠ p.block) (u : Value) : (w.setCell p u).ownsRow B e s v n xs := by
 refine ⟨h.1,?_⟩
 rcases h.2 with h' | ⟨g,cap,cur,h1,h2,h3,h4⟩
 ·exact .inl h'
 ·exact .inr ⟨g,cap,cur,h1,h2,(Below.heap_setCell _ _ _ _ (hp g (by rw [h1]; rfl))).trans h3,h4⟩
theorem rraws_step (m : Nat) (IE : ∀ x v w,TrIn m w v x → SmN m x → Calls Tryz.prog 31 #[v] w (EncP (bytE m x) w)) (t : Tr) (v : Value) (w : World) (ht : TrIn (m + 1) w v t) (hs : SmN (m + 1) t) :
  Calls Tryz.prog 59 #[v] w (RwsP (rwE (bytE m) t) w) := by
 have HFO : Hid (FdsOk (sortF ((fsE (bytE m) t.es).map (·.1) ++ t.rest))) := fds_okR ht (fun e he => (hs.2.2.2.2 e he).1) hs.2.2.1 hs.2.1;obtain ⟨m',ve,vr,hmn,rfl, -, -, -, -,hr,he⟩ := ht.open
 obtain rfl : m = m' := by omega
 obtain ⟨a1,c1,rfl,u1,u2, -⟩ := he.open;obtain ⟨a2,c2,rfl,x1,x2, -⟩ := rest_holds hr;have HUL : Hid (∀ i k,(uptE (bytE m) t.es i k).length ≤ 35070) := fun i k => uptE_len (fun e he => (hs.2.2.2.2 e he).1) hs.2.2.1 i k
 have HSM : Hid (∀ e ∈ t.es,e.2.length ≤ 70 ∧ ∀ x ∈ e.2,SmN m x) := hs.2.2.2.2;have HRL : Hid (t.rest.length ≤ 5000) := hs.2.1;obtain ⟨R,hR⟩ : ∃ R,rwE (bytE m) t = R := ⟨_,rfl⟩;rw [hR];have HR : Hid (rwE (bytE m) t = R) := hR;obtain ⟨K,hK⟩ : ∃ z,t.kind = z := ⟨_,rfl⟩;obtain ⟨N,hN⟩ : ∃ z,t.n = z := ⟨_,rfl⟩;obtain ⟨S,hS⟩ : ∃ z,t.s = z := ⟨_,rfl⟩;obtain ⟨n1,hn1⟩ : ∃ z,t.es.length = z := ⟨_,rfl⟩;obtain ⟨n2,hn2⟩ : ∃ z,t.rest.length = z := ⟨_,rfl⟩;rw [hK,hN,hS,hn1,hn2];rw [hn1] at he u1;rw [hn2] at hr x1;have HL : Hid (t.es.length = n1 ∧ t.rest.length = n2) := ⟨hn1,hn2⟩;have HE : Hid (EnsIn m w (.slice a1 n1 c1) t.es) := he;have HRR : Hid (RowG w (.slice a2 n2 c2) 4 (fdRows t.rest)) := hr;have HIE : Hid (∀ x v w,TrIn m w v x → SmN m x → Calls Tryz.prog 31 #[v] w (EncP (bytE m x) w)) := IE;unfold maxLen at u2 x2;obtain ⟨Z,hZ⟩ : ∃ Z,Z = w.alloc (Obj.cells #[.int .i64 K,.int .i64 N,.string S,.slice a1 n1 c1,.slice a2 n2 c2] 30) := ⟨_,rfl⟩
 have BT : Blk Z w.heap.size #[.int .i64 K,.int .i64 N,.string S,.slice a1 n1 c1,.slice a2 n2 c2] 30 := by
  rw [hZ];exact Blk.new w _ _
 have hZb : Below w.heap.size w Z := by
  rw [hZ];exact bra _
 clear hR ht IE hn1 hn2 hK hN hS hmn hs he hr
 go_enter Tryz.func59,Tryz.ntmps59
 go_wp2_with fail;rw [← hZ];have HSZ2 : Hid (w.heap.size < Z.heap.size) := BT.lt;clear hZ;obtain ⟨s,hs⟩ : ∃ s,w.heap.size = s := ⟨_,rfl⟩;have HSZ : Hid (w.heap.size = s) := hs;rw [hs] at BT;simp only [hs];clear hs;have HBT : Hid (Blk Z s #[.int .i64 K,.int .i64 N,.string S,.slice a1 n1 c1,.slice a2 n2 c2] 30) := BT;clear BT
 go_loopw [4,5] (fun ov iv wr => ∃ (out : Value) (i : Nat),out = ov ∧ iv = .int .i64 (i : Int) ∧ i ≤ n1 ∧ Hid (errE (fsE (bytE m) (t.es.take i)) = 0) ∧ Hid (wr.ownsRow Z.heap.size 79 4 out ((fsE (bytE m) (t.es.take i)).map (·.1)).length (rawCells ((fsE (bytE m) (t.es.take i)).map (·.1)))) ∧ Below Z.heap.size Z wr) (fun _ iv _ => n1 - (intOf iv).toNat)
 case atStart => exact ⟨_,0,rfl,rfl,by omega,(by simp [fsE,errE] : errE (fsE (bytE m) (t.es.take 0)) = 0),World.ownsRow_nil _ _ _ _,Below.refl _ _⟩
 case round =>
  obtain ⟨out,i,rfl,rfl,hi,HI,HO,hbr⟩ := hrel;have HBR : Hid (Below w.heap.size w wr) := hZb.trans (hbr.mono hZb.size);have BTr := HBT.out.below hbr;have q3 := (BTr.cell 3).trans rfl;have q4 := (BTr.cell 4).trans rfl;clear BTr
  by_cases hlt2 : i < n1
  ·obtain ⟨e,hx⟩ : ∃ r,t.es[i]? = some r := ⟨_,List.getElem?_eq_getElem (by rw [HL.out.1]; exact hlt2)⟩;obtain ⟨gx,ox,rfl,hrow⟩ := RowP.get HE.out hx;obtain ⟨vt,y0,y1, -,hvt⟩ := ens_at hrow;obtain ⟨xa,xc,rfl,hxc,hxm, -⟩ := hvt.open;have HIX : Hid (t.es[i]? = some e) := hx;obtain ⟨e1,he1⟩ : ∃ z,e.1 = z := ⟨_,rfl⟩;obtain ⟨Xl,hXl⟩ : ∃ z,e.2.length = z := ⟨_,rfl⟩;rw [he1] at y0;rw [hXl] at y1 hvt hxc;have HEE : Hid (e.1 = e1 ∧ e.2.length = Xl) := ⟨he1,hXl⟩;have HXT : Hid (TrsIn m w (.slice xa Xl xc) e.2) := hvt;have HY : Hid (w.cell? ⟨gx,ox + i * 2,none⟩ = some (.int .i64 e1) ∧ w.cell? ⟨gx,ox + i * 2 + 1,none⟩ = some (.slice xa Xl xc)) := ⟨y0,y1⟩;unfold maxLen at hxm;have HOe : Hid (wr.ownsRow Z.heap.size 79 4 out ((uptE (bytE m) t.es i 0).map (·.1)).length (rawCells ((uptE (bytE m) t.es i 0).map (·.1)))) := hid (by rw [uptE_zero]; exact HO.out);have HIe : Hid (errE (uptE (bytE m) t.es i 0) = 0) := hid (by rw [uptE_zero]; exact HI.out);clear hx he1 hXl hvt hrow HI HO HBR y0 y1;go_wp2_with fail
   go_loopw [4,6] (fun ov kv wr => ∃ (out : Value) (k : Nat),out = ov ∧ kv = .int .i64 (k : Int) ∧ k ≤ Xl ∧ Hid (errE (uptE (bytE m) t.es i k) = 0) ∧ Hid (wr.ownsRow Z.heap.size 79 4 out ((uptE (bytE m) t.es i k).map (·.1)).length (rawCells ((uptE (bytE m) t.es i k).map (·.1)))) ∧ Below Z.heap.size Z wr) (fun _ kv _ => Xl - (intOf kv).toNat)
   case atStart => exact ⟨_,0,rfl,rfl,by omega,HIe,HOe,hbr⟩
   case round =>
    obtain ⟨out,k,rfl,rfl,hk,HI,HO,hbr⟩ := hrel;have hbwr : Below w.heap.size w wr := hZb.trans (hbr.mono hZb.size);have BTr := HBT.out.below hbr;have q3 := (BTr.cell 3).trans rfl;have f0 := (hbwr.cell (World.block_lt_of_cell? _ _ HY.out.1)).trans HY.out.1;have f1 := (hbwr.cell (World.block_lt_of_cell? _ _ HY.out.2)).trans HY.out.2;clear BTr
    by_cases hlt3 : k < Xl
    ·obtain ⟨x,hx⟩ : ∃ r,e.2[k]? = some r := ⟨_,List.getElem?_eq_getElem (by rw [HEE.out.2]; exact hlt3)⟩;obtain ⟨gy,oy,rfl,hrow⟩ := RowP.get (RowP.belowT HXT.out hbwr) hx;obtain ⟨y1,z1,v1,y2,z2,v2,p0,p1,p2,p3,p4,hxw⟩ := trs_get hrow;obtain ⟨YK,hYK⟩ : ∃ z,x.kind = z := ⟨_,rfl⟩;obtain ⟨YN,hYN⟩ : ∃ z,x.n = z := ⟨_,rfl⟩;obtain ⟨YS,hYS⟩ : ∃ z,x.s = z := ⟨_,rfl⟩;rw [hYK] at p0 hxw;rw [hYN] at p1 hxw;rw [hYS] at p2 hxw;have HXP : Hid (x.kind = YK ∧ x.n = YN ∧ x.s = YS) := ⟨hYK,hYN,hYS⟩;have HXW : Hid (TrIn m wr (.agg #[.int .i64 YK,.int .i64 YN,.string YS,.slice y1 z1 v1,.slice y2 z2 v2]) x) := hxw;have hsx : SmN m x := (HSM.out e (List.mem_of_getElem? HIX.out)).2 x (List.mem_of_getElem? hx);have HSX : Hid (SmN m x) := hsx;have HUS : Hid (uptE (bytE m) t.es i (k + 1) = uptE (bytE m) t.es i k ++ [flE (bytE m) e1 x]) := (by have := uptE_step (B := bytE m) HIX.out hx; rw [HEE.out.1] at this; exact this : _ = _)
     have HUH : Hid ((flE (bytE m) e1 x).2 ≠ 0 → errE (fsE (bytE m) t.es) = (flE (bytE m) e1 x).2) := fun h => by have := errE_hit (B := bytE m) HIX.out hx HI.out; rw [HEE.out.1] at this; exact this h
     have hln : ((uptE (bytE m) t.es i k).map (·.1)).length ≤ 35070 := by rw [List.length_map]; exact HUL.out i k
     obtain ⟨acc,hacc⟩ : ∃ z,(uptE (bytE m) t.es i k).map (·.1) = z := ⟨_,rfl⟩;rw [hacc] at HO hln;have HAC : Hid ((uptE (bytE m) t.es i k).map (·.1) = acc) := hacc;obtain ⟨al,hal⟩ : ∃ z,acc.length = z := ⟨_,rfl⟩;rw [hal] at HO hln;have HAL : Hid (acc.length = al) := hal;obtain ⟨i0,hif,hz0,hz1,hz2⟩ := info_parts infoRaw;have hzw : Z.heap.size ≤ wr.heap.size := hbr.size;have hs_lt : s < wr.heap.size := World.block_lt_of_cell? _ _ q3;have hgx : gx < wr.heap.size := World.block_lt_of_cell? _ _ f0;have hgy : gy < wr.heap.size := World.block_lt_of_cell? _ _ p0;clear hx hrow hYK hYN hYS hxw hsx hacc hal
     by_cases h1 : YK = 1
     ·subst h1;have HF : Hid (flE (bytE m) e1 x = (⟨e1,0,YN,⟨#[]⟩⟩,0)) := (by unfold flE; rw [if_pos HXP.out.1,HXP.out.2.1] : _ = _)
      go_wp2_with (first
       | (at_builtin; refine wpList_append_own _ rfl _ _ 28 rfl Z.heap.size 79 i0 _ 4 40 Tryz.underlying28 hif hz0 hz1 hz2 rfl (by decide) _ _ _ rfl (((HO.out.alloc _).alloc _).alloc _) ⟨wr.heap.size + 1 + 1,0,none⟩ 1 1 (Fd.cells ⟨e1,0,YN,⟨#[]⟩⟩) rfl rfl ?c1 ?c2 ?c3 ?c4 ?c5 ?_)
       | fail)
      case c1 =>
       intro j u hj;rw [Addr.add_lit,Nat.zero_add];exact ((Blk.newAt (by simp)).cell j).trans (by simpa [Fd.cells] using hj)
      case c2 => intro u hu; simp [Fd.cells] at hu; rcases hu with rfl | rfl | rfl | rfl <;> rfl
      case c3 => unfold maxLen; omega
      case c4 => omega
      case c5 => simp; omega
      intro v5 w5 ho5 hg5 _;have hbz5 : Below Z.heap.size Z w5 := (((hbr.alloc hzw _).alloc (by simp; omega) _).alloc (by simp; omega) _).grown hg5 (by simp; omega) (fun k hk => (HO.out.lt k hk).1);have HI2 : Hid (errE (uptE (bytE m) t.es i (k + 1)) = 0) := hid (by rw [HUS.out,errE_app,if_pos HI.out,errE_one,HF.out])
      have HO5 : Hid (w5.ownsRow Z.heap.size 79 4 v5 ((uptE (bytE m) t.es i (k + 1)).map (·.1)).length (rawCells ((uptE (bytE m) t.es i (k + 1)).map (·.1)))) := hid (by
       rw [HUS.out,List.map_append,HAC.out,HF.out,List.map_cons,List.map_nil,(rawCells_snoc' acc _).1,(rawCells_snoc' acc _).2,HAL.out]
       exact ho5)
      clear ho5 hg5 HO HI HUS HUH;go_wp2_with fail
      go_roundw
      case rel => exact ⟨_,k + 1,rfl,by go_num,by omega,HI2,HO5,hbz5⟩
      case measure => simp [intOf]; omega
     ·by_cases h2 : YK = 2
      ·subst h2
       by_cases h3 : 4096 < YS.size
       ·have HF : Hid (flE (bytE m) e1 x = (fd0,4)) := (by unfold flE; rw [if_neg (by rw [HXP.out.1]; decide),if_pos HXP.out.1,HXP.out.2.2,if_pos h3] : _ = _)
        have HR2 : Hid (R = ([],4)) := (by
         have h1 := HUH.out (by rw [HF.out]; decide);rw [HF.out] at h1
         rw [← HR.out,rwE_no (by rw [h1]; decide),h1] : R = _)
        have hbf : ∀ o o',Below w.heap.size w ((wr.alloc o).alloc o') := fun o o' => (hbwr.alloc hbwr.size _).alloc (by simp; have := hbwr.size; omega) _
        clear HUH HUS HF;go_wp2_with fail
        go_ret2
        exact RwsP.err HR2.out (by decide) (hbf _ _)
       ·have HF : Hid (flE (bytE m) e1 x = (⟨e1,1,0,YS⟩,0)) := (by unfold flE; rw [if_neg (by rw [HXP.out.1]; decide),if_pos HXP.out.1,HXP.out.2.2,if_neg h3] : _ = _)
        go_wp2_with (first
         | (at_builtin; refine wpList_append_own _ rfl _ _ 28 rfl Z.heap.size 79 i0 _ 4 40 Tryz.underlying28 hif hz0 hz1 hz2 rfl (by decide) _ _ _ rfl (((HO.out.alloc _).alloc _).alloc _) ⟨wr.heap.size + 1 + 1,0,none⟩ 1 1 (Fd.cells ⟨e1,1,0,YS⟩) rfl rfl ?c1 ?c2 ?c3 ?c4 ?c5 ?_)
         | fail)
        case c1 =>
         intro j u hj;rw [Addr.add_lit,Nat.zero_add];exact ((Blk.newAt (by simp)).cell j).trans (by simpa [Fd.cells] using hj)
        case c2 => intro u hu; simp [Fd.cells] at hu; rcases hu with rfl | rfl | rfl | rfl <;> rfl
        case c3 => unfold maxLen; omega
        case c4 => omega
        case c5 => simp; omega
        intro v5 w5 ho5 hg5 _;have hbz5 : Below Z.heap.size Z w5 := (((hbr.alloc hzw _).alloc (by simp; omega) _).alloc (by simp; omega) _).grown hg5 (by simp; omega) (fun k hk => (HO.out.lt k hk).1);have HI2 : Hid (errE (uptE (bytE m) t.es i (k + 1)) = 0) := hid (by rw [HUS.out,errE_app,if_pos HI.out,errE_one,HF.out])
        have HO5 : Hid (w5.ownsRow Z.heap.size 79 4 v5 ((uptE (bytE m) t.es i (k + 1)).map (·.1)).length (rawCells ((uptE (bytE m) t.es i (k + 1)).map (·.1)))) := hid (by
         rw [HUS.out,List.map_append,HAC.out,HF.out,List.map_cons,List.map_nil,(rawCells_snoc' acc _).1,(rawCells_snoc' acc _).2,HAL.out]
         exact ho5)
        clear ho5 hg5 HO HI HUS HUH;go_wp2_with fail
        go_roundw
        case rel => exact ⟨_,k + 1,rfl,by go_num,by omega,HI2,HO5,hbz5⟩
        case measure => simp [intOf]; omega
      ·have d1 : (YK == 1) = false := by simpa using h1
       have d2 : (YK == 2) = false := by simpa using h2
       have HF0 : Hid (flE (bytE m) e1 x = if (bytE m x).2 ≠ 0 then (fd0,(bytE m x).2) else (⟨e1,1,0,strN (bytE m x).1⟩,0)) := (by unfold flE; rw [if_neg (by rw [HXP.out.1]; exact h1),if_neg (by rw [HXP.out.1]; exact h2)] : _ = _);clear h1 h2;obtain ⟨W,hW⟩ : ∃ W,W = (wr.alloc (Obj.cells #[.int .i64 YK,.int .i64 YN,.string YS,.slice y1 z1 v1,.slice y2 z2 v2] 30)).alloc (Obj.cells #[.int .i64 e1,.int .i64 1,.int .i64 0,.string ⟨#[]⟩] 79) := ⟨_,rfl⟩
       have alW : Below wr.heap.size wr W := by rw [hW]; exact (bra _).alloc (by simp) _
       have BX : Blk W wr.heap.size #[.int .i64 YK,.int .i64 YN,.string YS,.slice y1 z1 v1,.slice y2 z2 v2] 30 := by rw [hW]; exact (Blk.newAt rfl).up _
       have BR : Blk W (wr.heap.size + 1) #[.int .i64 e1,.int .i64 1,.int .i64 0,.string ⟨#[]⟩] 79 := by rw [hW]; exact Blk.newAt (by simp)
       have HEC : Hid (Calls Tryz.prog 31 #[.agg #[.int .i64 YK,.int .i64 YN,.string YS,.slice y1 z1 v1,.slice y2 z2 v2]] W (EncP (bytE m x) W)) := HIE.out x _ W (HXW.out.below alW) HSX.out;go_wp2_with fail;rw [← hW];clear hW;refine Calls.mono HEC.out ?_;rintro ee w4 ⟨r4,rfl,ho4,hb4⟩;have hbr4 : Below wr.heap.size wr w4 := alW.trans (hb4.mono alW.size);have hcv := conv_own ho4;have HLE : Hid ((bytE m x).1.length ≤ 4096) := bytE_le m x;have BR4 := BR.below hb4;have HO4 : Hid (w4.ownsRow Z.heap.size 79 4 out al (rawCells acc)) := own_belowH HO hbr4;have hlt4 : wr.heap.size + 1 < w4.heap.size := BR4.lt
       have HOB : Hid (∀ k,out.ownBlock = some k → k ≠ wr.heap.size + 1) := fun k hk => by have := (HO.out.lt k hk).2; omega
       have hbw4 : Below w.heap.size w w4 := hbwr.trans (hbr4.mono hbwr.size);have hbz4 : Below Z.heap.size Z w4 := hbr.trans (hbr4.mono hbr.size);clear HEC ho4 hb4 BX BR alW HO;generalize bytE m x = q at *;obtain ⟨ns,er⟩ := q;simp only at hcv HLE HF0 ⊢
       by_cases her : er = 0
       rotate_left
       ·have hd : ((er : Int) != 0) = true := by simp; omega
        have HR2 : Hid (R = ([],((er : Int)).toNat)) := (by
         have h0 : flE (bytE m) e1 x = (fd0,er) := by rw [HF0.out,if_pos her]
         have h1 := HUH.out (by rw [h0]; exact her);rw [h0] at h1;rw [← HR.out,rwE_no (by rw [h1]; exact her),h1]
         rfl : R = _)
        clear her HUH HUS HF0 hcv;go_wp2_with fail
        go_ret2
        exact RwsP.err HR2.out (by omega) hbw4
       ·subst her;have HF : Hid (flE (bytE m) e1 x = (⟨e1,1,0,strN ns⟩,0)) := (by rw [HF0.out,if_neg (by simp)] : _ = _)
        have hsz : (strN ns).size ≤ 4096 := by rw [strN_size]; exact HLE.out
        generalize strN ns = T at *;obtain ⟨r0,r1,r2,r3⟩ := cl4 BR4;have zr3 := BR4.froz 3
        have hts : ¬ 4096 < T.size := by omega
        clear HF0 HLE
        go_wp2_with (first
         | (at_builtin; refine wpList_append_own _ rfl _ _ 28 rfl Z.heap.size 79 i0 _ 4 40 Tryz.underlying28 hif hz0 hz1 hz2 rfl (by decide) _ _ _ rfl ((own_setCell HO4.out HOB.out _).alloc _) ⟨w4.heap.size,0,none⟩ 1 1 (Fd.cells ⟨e1,1,0,T⟩) rfl rfl ?c1 ?c2 ?c3 ?c4 ?c5 ?_)
         | fail)
        case c1 =>
         intro j u hj;rw [Addr.add_lit,Nat.zero_add];exact ((Blk.newAt (by simp)).cell j).trans (by simpa [Fd.cells] using hj)
        case c2 => intro u hu; simp [Fd.cells] at hu; rcases hu with rfl | rfl | rfl | rfl <;> rfl
        case c3 => unfold maxLen; omega
        case c4 => omega
        case c5 => simp; omega
        intro v5 w5 ho5 hg5 _;have hbz5 : Below Z.heap.size Z w5 := ((hbz4.setCell (by show Z.heap.size ≤ wr.heap.size + 1; omega) _).alloc (by simp; omega) _).grown hg5 (by simp; omega) (fun k hk => (HO4.out.lt k hk).1);have HI2 : Hid (errE (uptE (bytE m) t.es i (k + 1)) = 0) := hid (by rw [HUS.out,errE_app,if_pos HI.out,errE_one,HF.out])
        have HO5 : Hid (w5.ownsRow Z.heap.size 79 4 v5 ((uptE (bytE m) t.es i (k + 1)).map (·.1)).length (rawCells ((uptE (bytE m) t.es i (k + 1)).map (·.1)))) := hid (by
         rw [HUS.out,List.map_append,HAC.out,HF.out,List.map_cons,List.map_nil,(rawCells_snoc' acc _).1,(rawCells_snoc' acc _).2,HAL.out]
         exact ho5)
        clear ho5 hg5 HO4 HI HUS HUH;go_wp2_with fail
        go_roundw
        case rel => exact ⟨_,k + 1,rfl,by go_num,by omega,HI2,HO5,hbz5⟩
        case measure => simp [intOf]; omega
    ·obtain rfl : k = Xl := by omega
     have HI2 : Hid (errE (fsE (bytE m) (t.es.take (i + 1))) = 0) := hid (by rw [← uptE_end HIX.out,HEE.out.2]; exact HI.out);have HO2 : Hid (wr.ownsRow Z.heap.size 79 4 out ((fsE (bytE m) (t.es.take (i + 1))).map (·.1)).length (rawCells ((fsE (bytE m) (t.es.take (i + 1))).map (·.1)))) := hid (by rw [← uptE_end HIX.out,HEE.out.2]; exact HO.out);clear HI HO;go_wp2_with fail
     go_roundw
     case rel => exact ⟨_,i + 1,rfl,by go_num,by omega,HI2,HO2,hbr⟩
     case measure => simp [intOf]; omega
  ·obtain rfl : i = n1 := by omega
   have HI0 : Hid (errE (fsE (bytE m) t.es) = 0) := hid (by
    have h1 := HI.out;rw [List.take_of_length_le (by rw [HL.out.1]; exact Nat.le_refl _)] at h1
    exact h1)
   have HRV : Hid (R = (sortF ((fsE (bytE m) t.es).map (·.1) ++ t.rest),0)) := (by rw [← HR.out,rwE_ok HI0.out] : R = _)
   have HLN : Hid (((fsE (bytE m) t.es).map (·.1)).length ≤ 35070) := hid (by
    have h1 := HUL.out i 0;rw [uptE_zero,List.take_of_length_le (by rw [HL.out.1]; exact Nat.le_refl _)] at h1
    rw [List.length_map]; exact h1)
   have HO2 : Hid (wr.ownsRow Z.heap.size 79 4 out ((fsE (bytE m) t.es).map (·.1)).length (rawCells ((fsE (bytE m) t.es).map (·.1)))) := hid (by
    have h1 := HO.out;rw [List.take_of_length_le (by rw [HL.out.1]; exact Nat.le_refl _)] at h1
    exact h1)
   obtain ⟨acc,hacc⟩ : ∃ z,(fsE (bytE m) t.es).map (·.1) = z := ⟨_,rfl⟩;rw [hacc] at HO2 HLN HRV HFO;have HRG : Hid (RowG wr (.slice a2 n2 c2) 4 (fdRows t.rest)) := HRR.out.below HBR.out;have HFN : Hid ((fdRows t.rest).length = t.rest.length) := hid (by simp [fdRows]);have hws : Z.heap.size ≤ wr.heap.size := hbr.size;clear hacc HO HI HI0
   go_wp2_with (first
    | (at_builtin; refine wpList_joinG rfl _ _ 28 79 4 40 _ rfl Tryz.underlying28 infoRaw rfl (by decide) Z.heap.size out acc.length (rawCells acc) rfl HO2.out (.slice a2 n2 c2) (fdRows t.rest) rfl HRG.out (fdr_len t.rest) (fdr_one t.rest) ?c1 (by decide) hws ?_)
    | fail)
   case c1 => have h1 := HFN.out; have h2 := HLN.out; have h3 := HRL.out; have h4 := HL.out.2; omega
   intro v5 w5 ho5 hg5;have hb5 : Below w.heap.size w w5 := HBR.out.grown hg5 HBR.out.size (fun k hk => Nat.le_trans (Nat.le_of_lt HSZ2.out) (HO2.out.lt k hk).1)
   have HO5 : Hid (w5.ownsRow Z.heap.size 79 4 v5 (acc ++ t.rest).length (rawCells (acc ++ t.rest))) := hid (by
    rw [rawCells_app,rawCells_flat t.rest,List.length_append,← HFN.out]
    exact ho5)
   have HSC : Hid (Calls Tryz.prog 64 #[v5] w5 fun e w' => ∃ v',e = .returned v' ∧ RawsAt w5.heap.size w' v' (sortF (acc ++ t.rest)) ∧ Below w5.heap.size w5 w') := rsorted_at HO5.out (by rw [List.length_append]; have h2 := HLN.out; have h3 := HRL.out; have h4 := HL.out.2; omega);clear ho5 hg5 HO2 HO5 HRG q3 q4;go_wp2_with fail;refine Calls.mono HSC.out ?_;rintro ee w6 ⟨v6,rfl,hra,hb6⟩
   have HRA : Hid (RawsAt w.heap.size w6 v6 (sortF (acc ++ t.rest))) := hid (by
    obtain ⟨qa,qc,q1,q2,q3,q4,q5⟩ := hra;refine ⟨qa,qc,q1,?_,q3,q4,q5⟩
    rcases q2 with h | ⟨g,g1,g2,g3⟩
    ·exact .inl h
    ·exact .inr ⟨g,g1,Nat.le_trans hb5.size g2,g3⟩)
   have hbw6 : Below w.heap.size w w6 := hb5.trans (hb6.mono hb5.size);clear hra hb6 HSC hb5;go_wp2_with fail
   go_ret2
   exact ⟨v6,by rw [HRV.out]; rfl,by rw [HRV.out]; exact HRA.out,by rw [HRV.out]; exact HFO.out,hbw6⟩
theorem rencode_step (Q : List Fd × Nat) (t : Tr) (n : Nat) (v : Value) (w : World) (ht : TrIn n w v t) (IR : ∀ W,Below w.heap.size w W → Calls Tryz.prog 59 #[v] W (RwsP Q W)) : Calls Tryz.prog 31 #[v] w (EncP (ofR Q) w) := by
 obtain ⟨R,hR⟩ : ∃ R,ofR Q = R := ⟨_,rfl⟩;have HR : Hid (ofR Q = R) := hR;rw [hR];obtain ⟨m',ve,vr, -,rfl, -, -, -, -,ra,ea⟩ := ht.open;obtain ⟨a1,c1,rfl, -⟩ := ea.open;obtain ⟨a2,c2,rfl, -⟩ := rest_holds ra;have HRC : Hid (∀ W,Below w.heap.size w W → Calls Tryz.prog 59 #[.agg #[.int .i64 t.kind,.int .i64 t.n,.string t.s,.slice a1 t.es.length c1,.slice a2 t.rest.length c2]] W (RwsP Q W)) := IR;generalize t.kind = K at *;generalize t.n = N at *;generalize t.s = S at *;generalize t.es.length = n1 at *;generalize t.rest.length = n2 at *;have hbw : Below w.heap.size w (w.alloc (Obj.cells #[.int .i64 K,.int .i64 N,.string S,.slice a1 n1 c1,.slice a2 n2 c2] 30)) := bra _;clear hR ht ra ea IR
 go_enter Tryz.func31,Tryz.ntmps31
 go_wp2_with fail;refine Calls.mono (HRC.out _ hbw) ?_;rintro ee w1 ⟨r,rfl,hra,hok,hb1⟩;have hbw1 : Below w.heap.size w w1 := hbw.trans (hb1.mono hbw.size);obtain ⟨rs,er⟩ := Q;have HPC : Hid (Calls Tryz.prog 60 #[r] w1 fun e w' => ∃ v,e = .returned (.tuple #[v,.int .i64 ((putL rs).2 : Int)]) ∧ w'.ownsRow w1.heap.size 5 1 v (putL rs).1.length (byteCells (putL rs).1) ∧ Below w1.heap.size w1 w') := rputall_at hra hok;clear hra hok hb1 hbw HRC
 by_cases he : er = 0
 ·subst he;have HRV : Hid (putL rs = R) := hid (by have := HR.out; rw [ofR,if_neg (by simp)] at this; exact this);rw [HRV.out] at HPC;clear HR HRV;go_wp2_with fail;refine Calls.mono HPC.out ?_;rintro ee w2 ⟨u,rfl,ho,hb2⟩;have hbw2 : Below w.heap.size w w2 := hbw1.trans (hb2.mono hbw1.size)
  have HO : Hid (w2.ownsRow w.heap.size 5 1 u R.1.length (byteCells R.1)) := hid (by
   refine ⟨ho.1,?_⟩
   rcases ho.2 with h | ⟨g,cap,cur,h1,h2,h3⟩
   ·exact .inl h
   ·exact .inr ⟨g,cap,cur,h1,Nat.le_trans hbw1.size h2,h3⟩)
  clear ho hb2 HPC;go_wp2_with fail
  go_ret2
  exact ⟨u,rfl,HO.out,hbw2⟩
 ·have hd : ((er : Int) != 0) = true := by simp; omega
  have HRV : Hid (R = ([],er)) := (by have := HR.out; rw [ofR,if_pos he] at this; exact this.symm : R = _);clear HR HPC he;go_wp2_with fail
  go_ret2
  exact EncP.no HRV.out hbw1
theorem rraws_any : ∀ (m : Nat) (t : Tr) (v : Value) (w : World),TrIn m w v t → SmN m t → Calls Tryz.prog 59 #[v] w (RwsP (rwE (bytE (m - 1)) t) w)
 | 0,_,_,_,h,_ => by obtain ⟨r,_,h⟩ := h; exact h.elim
 | m + 1,t,v,w,h,hs => rraws_step m (fun x v w h hs => by
   cases m with
   | zero => obtain ⟨r,_,h⟩ := h; exact h.elim
   | succ m => exact rencode_step _ x (m + 1) v w h fun W hW => rraws_any (m + 1) x v W (h.below hW) hs) t v w h hs
theorem rencode_any (m : Nat) (t : Tr) (v : Value) (w : World) (h : TrIn m w v t) (hs : SmN m t) : Calls Tryz.prog 31 #[v] w (EncP (bytE m t) w) := by
 cases m with
 | zero => obtain ⟨r,_,h⟩ := h; exact h.elim
 | succ m => exact rencode_step _ t (m + 1) v w h fun W hW => rraws_any (m + 1) t v W (h.below hW) hs
theorem rEncode_any (n : Nat) (t : Tr) (v : Value) (w : World) (ht : TrIn n w v t) (hs : SmN n t) (hn : n ≤ 100) : Calls Tryz.prog 16 #[v] w (EncP (encA n t) w) := by
 obtain ⟨R,hR⟩ : ∃ R,encA n t = R := ⟨_,rfl⟩;have HR : Hid (encA n t = R) := hR;rw [hR];have HCK0 : Hid (∀ W,Below w.heap.size w W → Calls Tryz.prog 26 #[v] W fun e w' => e = .returned (.bool (chkN n t)) ∧ Below W.heap.size W w') := fun W hW => rCheck_any n t v W (ht.below hW) hn
 have HRC0 : Hid (∀ W,Below w.heap.size w W → Calls Tryz.prog 31 #[v] W (EncP (bytE n t) W)) := fun W hW => rencode_any n t v W (ht.below hW) hs
 cases n with
 | zero => exact hs.elim
 | succ n =>
  obtain ⟨m',ve,vr, -,rfl, -, -, -, -,ra,ea⟩ := ht.open;obtain ⟨a1,c1,rfl, -⟩ := ea.open;obtain ⟨a2,c2,rfl, -⟩ := rest_holds ra;have HCK : Hid (∀ W,Below w.heap.size w W → Calls Tryz.prog 26 #[.agg #[.int .i64 t.kind,.int .i64 t.n,.string t.s,.slice a1 t.es.length c1,.slice a2 t.rest.length c2]] W fun e w' => e = .returned (.bool (chkN (n + 1) t)) ∧ Below W.heap.size W w') := HCK0.out;have HRC : Hid (∀ W,Below w.heap.size w W → Calls Tryz.prog 31 #[.agg #[.int .i64 t.kind,.int .i64 t.n,.string t.s,.slice a1 t.es.length c1,.slice a2 t.rest.length c2]] W (EncP (bytE (n + 1) t) W)) := HRC0.out;obtain ⟨K,hK⟩ : ∃ z,t.kind = z := ⟨_,rfl⟩;have HT3 : Hid (t.kind = K) := hK;rw [hK] at HCK HRC ⊢;generalize t.n = N at *;generalize t.s = S at *;generalize t.es.length = n1 at *;generalize t.rest.length = n2 at *;have BT : Blk (w.alloc (Obj.cells #[.int .i64 K,.int .i64 N,.string S,.slice a1 n1 c1,.slice a2 n2 c2] 30)) w.heap.size #[.int .i64 K,.int .i64 N,.string S,.slice a1 n1 c1,.slice a2 n2 c2] 30 := Blk.new w _ _;have hbw : Below w.heap.size w (w.alloc (Obj.cells #[.int .i64 K,.int .i64 N,.string S,.slice a1 n1 c1,.slice a2 n2 c2] 30)) := bra _;clear hR ht ra ea hs hn hK HCK0 HRC0
  by_cases hK3 : K = 3
  rotate_left
  ·have d : (K != 3) = true := by simpa using hK3
   have HRV : Hid (R = ([],1)) := (by rw [← HR.out]; unfold encA rawsA; rw [if_neg (by rw [HT3.out]; exact fun h => hK3 h.1)]; rfl : R = _);clear hK3 HR HT3 HCK HRC BT
   go_enter Tryz.func16,Tryz.ntmps16
   go_wp2_with fail
   go_ret2
   exact EncP.no HRV.out hbw
  ·subst hK3
   go_enter Tryz.func16,Tryz.ntmps16
   go_wp2_with fail;refine (HCK.out _ hbw).mono ?_;rintro ee w1 ⟨rfl,hb1⟩;have hbw1 : Below w.heap.size w w1 := hbw.trans (hb1.mono hbw.size);have BT1 := BT.below hb1;clear hb1 hbw BT HCK;obtain ⟨C,hC⟩ : ∃ z,chkN (n + 1) t = z := ⟨_,rfl⟩;have HC : Hid (chkN (n + 1) t = C) := hC;rw [hC];clear hC
   cases C with
   | false =>
    have HRV : Hid (R = ([],1)) := (by rw [← HR.out]; unfold encA rawsA; rw [if_neg (by rw [HT3.out]; exact fun h => absurd h.2 (by rw [HC.out]; decide))]; rfl : R = _);clear HR HC HRC;go_wp2_with fail
    go_ret2
    exact EncP.no HRV.out hbw1
   | true =>
    have HRV : Hid (bytE (n + 1) t = R) := (by rw [← HR.out]; unfold encA rawsA; rw [if_pos ⟨HT3.out,HC.out⟩]; rfl : _ = R)
    have HF2 : Hid (Calls Tryz.prog 31 #[.agg #[.int .i64 3,.int .i64 N,.string S,.slice a1 n1 c1,.slice a2 n2 c2]] w1 (EncP R w1)) := (by
     have h1 := HRC.out w1 hbw1;rw [HRV.out] at h1
     exact h1 : Calls Tryz.prog _ _ _ _)
    obtain ⟨t0,t1,t2,t3,t4⟩ := cl5 BT1;clear HRC HRV HR HC BT1;go_wp2_with fail;refine Calls.mono HF2.out ?_;rintro ee w3 ⟨r,rfl,ho,hb3⟩;have hbw3 : Below w.heap.size w w3 := hbw1.trans (hb3.mono hbw1.size)
    have HO : Hid (w3.ownsRow w.heap.size 5 1 r R.1.length (byteCells R.1)) := hid (by
     refine ⟨ho.1,?_⟩
     rcases ho.2 with h | ⟨g,cap,cur,h1,h2,h3⟩
     ·exact .inl h
     ·exact .inr ⟨g,cap,cur,h1,Nat.le_trans hbw1.size h2,h3⟩)
    clear ho hb3 HF2 t0 t1 t2 t3 t4;go_wp2_with fail
    go_ret2
    exact ⟨r,rfl,HO.out,hbw3⟩
theorem r12decode_any {w : World} {v : Value} {s : ScS} {nm : ByteArray} {ns : List Nat} {vb : Value} (hs : ScIn w v s) (hf : FewS s) (hb : ByS w vb ns) : Calls Tryz.prog 17 #[v,.string nm,vb] w (DtrP 11 (decA s nm ns) w) := by
 obtain ⟨R,hR⟩ : ∃ R,decA s nm ns = R := ⟨_,rfl⟩;have HR : Hid ((if checkA s ≠ 0 then (tr0,1) else decM 10 s nm ns) = R) := hR;rw [hR];clear hR;have hs' := hs;obtain ⟨vm,ve,vt,rfl,hms,hen,hmt⟩ := hs;obtain ⟨ma,mc,rfl, -⟩ := hms.open;obtain ⟨ea,ec,rfl, -⟩ := hen.open;obtain ⟨ta,tn,tc,rfl⟩ := row_sliceD hmt;have HMS : Hid (MsIn w (.slice ma s.msgs.length mc) s.msgs) := hms;generalize s.msgs.length = mn at *;generalize s.enums.length = en at *;obtain ⟨sn,hsn⟩ : ∃ z,s.name = z := ⟨_,rfl⟩;rw [hsn] at hs' ⊢;obtain ⟨BS,BT,hbw⟩ := dblk2 w #[.string sn,.slice ma mn mc,.slice ea en ec,.slice ta tn tc] #[.int .i64 0,.int .i64 0,.string ⟨#[]⟩,.slice none 0 0,.slice none 0 0] 26 30;have HCK : Hid (Calls Tryz.prog 15 #[.agg #[.string sn,.slice ma mn mc,.slice ea en ec,.slice ta tn tc]] ((w.alloc (Obj.cells #[.string sn,.slice ma mn mc,.slice ea en ec,.slice ta tn tc] 26)).alloc (Obj.cells #[.int .i64 0,.int .i64 0,.string ⟨#[]⟩,.slice none 0 0,.slice none 0 0] 30)) fun e w' => e = .returned (.int .i64 (checkA s)) ∧ Below ((w.alloc (Obj.cells #[.string sn,.slice ma mn mc,.slice ea en ec,.slice ta tn tc] 26)).alloc (Obj.cells #[.int .i64 0,.int .i64 0,.string ⟨#[]⟩,.slice none 0 0,.slice none 0 0] 30)).heap.size ((w.alloc (Obj.cells #[.string sn,.slice ma mn mc,.slice ea en ec,.slice ta tn tc] 26)).alloc (Obj.cells #[.int .i64 0,.int .i64 0,.string ⟨#[]⟩,.slice none 0 0,.slice none 0 0] 30)) w') := rcheck_any (hs'.below hbw) hf;have HSC : Hid (ScIn w (.agg #[.string sn,.slice ma mn mc,.slice ea en ec,.slice ta tn tc]) s) := hs';have HBY : Hid (ByS w vb ns) := hb;have HFW : Hid (FewS s) := hf;clear hs' hms hen hmt hsn hf hb
 go_enter Tryz.func17,Tryz.ntmps17
 go_wp2_with fail;obtain ⟨b0,hb0⟩ : ∃ z,w.heap.size = z := ⟨_,rfl⟩;have HBZ : Hid (w.heap.size = b0) := hb0;generalize ((w.alloc (Obj.cells #[.string sn,.slice ma mn mc,.slice ea en ec,.slice ta tn tc] 26)).alloc (Obj.cells #[.int .i64 0,.int .i64 0,.string ⟨#[]⟩,.slice none 0 0,.slice none 0 0] 30)) = W0 at *;rw [hb0] at BS BT;simp only [hb0];clear hb0;obtain ⟨s0,s1,s2,s3⟩ := cl4 BS;have HBW : Hid (Below w.heap.size w W0) := hbw;have HBS : Hid (Blk W0 b0 #[.string sn,.slice ma mn mc,.slice ea en ec,.slice ta tn tc] 26) := BS;have HBT : Hid (Blk W0 (b0 + 1) #[.int .i64 0,.int .i64 0,.string ⟨#[]⟩,.slice none 0 0,.slice none 0 0] 30) := BT;clear BS BT hbw;go_wp2_with fail;refine HCK.out.mono ?_;rintro e w1 ⟨rfl,hb1⟩;have HW1 : Hid (Below W0.heap.size W0 w1) := hb1;have hbw1 : Below w.heap.size w w1 := HBW.out.trans (hb1.mono HBW.out.size);have BS1 := HBS.out.below hb1;have BT1 := HBT.out.below hb1;clear hb1 HCK s0 s1 s2 s3;obtain ⟨A,hA⟩ : ∃ z,checkA s = z := ⟨_,rfl⟩;have HA : Hid (checkA s = A) := hA;rw [hA] at HR ⊢;clear hA
 by_cases hA0 : A = 0
 rotate_left
 ·have d : (A != 0) = true := by simpa using hA0
  have HX1 : Hid (R = (tr0,1)) := hid (by rw [← HR.out,if_pos hA0])
  have HFI : Hid (DtrP 11 R w (.returned (.tuple #[.agg #[.int .i64 0,.int .i64 0,.string ⟨#[]⟩,.slice none 0 0,.slice none 0 0],.int .i64 1])) (set5 w1 (b0 + 1) 0 (.int .i64 0) (.int .i64 0) (.string ⟨#[]⟩) (.slice none 0 0) (.slice none 0 0))) := (
   DtrP.done (bs := []) hbw1 (by have := HBZ.out; omega) (by rw [HX1.out]; exact TrO.zeroO 10 _ w1) (Apt.nil _ _) (by simp) (by rw [HX1.out]) : DtrP _ _ _ _ _)
  clear hA0 hbw1;obtain ⟨t0,t1,t2,t3,t4⟩ := cl5 BT1;obtain ⟨z0,z1,z2,z3,z4⟩ := fz5 BT1;have ltT := BT1.lt;go_wp2_with fail;refine bodyPost_ret (results_two rfl _ _ _ ⟨b0 + 1,0,none⟩ (.agg #[.int .i64 0,.int .i64 0,.string ⟨#[]⟩,.slice none 0 0,.slice none 0 0]) (by go_simp) (by go_simp)) rfl ?_;exact HFI.out
 subst hA0;have HX1 : Hid (decM 10 s nm ns = R) := hid (by rw [← HR.out]; simp);have HOK : Hid (OkS s) := (checkA_ok s).1 HA.out;obtain ⟨X,hX⟩ : ∃ X,msgOf s nm = X := ⟨_,rfl⟩;have HXM : Hid (msgOf s nm = X) := hX
 have HMC : Hid (Calls Tryz.prog 25 #[.agg #[.string sn,.slice ma mn mc,.slice ea en ec,.slice ta tn tc],.string nm] w1 fun e w' => ∃ vf vr,e = .returned (.tuple #[.agg #[.string (X.getD zeroM).name,vf,vr],.bool X.isSome]) ∧ RowG w vf 5 (flRows (X.getD zeroM).fields) ∧ RowG w vr 1 (inRows (X.getD zeroM).reserved) ∧ Below w1.heap.size w1 w') := (by
  rw [← hX];obtain ⟨vm,ve,vt,e1,e2, -⟩ := HSC.out;simp only [Value.agg.injEq,Array.mk.injEq,List.cons.injEq,Value.string.injEq,and_true,true_and] at e1;obtain ⟨-,rfl, -, -⟩ := e1
  exact r7messageW_any (snm := sn) (nm := nm) (ae := ea) (at' := ta) (E := en) (ce := ec) (T := tn) (ct := tc) hbw1 e2 : Calls Tryz.prog _ _ w1 _)
 have HWW : Hid (Below w.heap.size w w1) := hbw1;obtain ⟨s0,s1,s2,s3⟩ := cl4 BS1;clear HR BT1 BS1 hX hbw1;go_wp2_with fail;refine HMC.out.mono ?_;rintro e w2 ⟨vf,vr,rfl,hvf,hvr,hb2⟩;have hw2 : Below W0.heap.size W0 w2 := HW1.out.trans (hb2.mono HW1.out.size);have HBW2 : Hid (Below w.heap.size w w2 ∧ Below W0.heap.size W0 w2) := ⟨HBW.out.trans (hw2.mono HBW.out.size),hw2⟩;have HVF : Hid (RowG w vf 5 (flRows (X.getD zeroM).fields) ∧ RowG w vr 1 (inRows (X.getD zeroM).reserved)) := ⟨hvf,hvr⟩;obtain ⟨fa,fc,hvf0, -⟩ := hvf.form2;obtain ⟨ra,rc,hvr0, -⟩ := hvr.form2;obtain ⟨fl,hfl⟩ : ∃ z,(flRows (X.getD zeroM).fields).length = z := ⟨_,rfl⟩;obtain ⟨rl,hrl⟩ : ∃ z,(inRows (X.getD zeroM).reserved).length = z := ⟨_,rfl⟩;rw [hfl] at hvf0;rw [hrl] at hvr0;subst hvf0;subst hvr0;obtain ⟨MN,hMN⟩ : ∃ z,(X.getD zeroM).name = z := ⟨_,rfl⟩;have HMN : Hid ((X.getD zeroM).name = MN) := hMN;rw [hMN];clear hMN hfl hrl hvf hvr HMC s0 s1 s2 s3;have al3 : Below w2.heap.size w2 (w2.alloc (Obj.cells #[.string MN,.slice fa fl fc,.slice ra rl rc] 52)) := bra _;have hw3 : Below W0.heap.size W0 (w2.alloc (Obj.cells #[.string MN,.slice fa fl fc,.slice ra rl rc] 52)) := hw2.trans (al3.mono hw2.size);have hbw3 : Below w.heap.size w (w2.alloc (Obj.cells #[.string MN,.slice fa fl fc,.slice ra rl rc] 52)) := HBW2.out.1.trans (al3.mono HBW2.out.1.size);have hlw : b0 + 1 < w2.heap.size := Nat.lt_of_lt_of_le HBT.out.lt hw2.size
 cases X with
 | none =>
  have HX2 : Hid (R = (tr0,14)) := hid (by rw [← HX1.out]; simp only [decM,HXM.out]);have BT2 := HBT.out.below hw2
  have HFI : Hid (DtrP 11 R w (.returned (.tuple #[.agg #[.int .i64 0,.int .i64 0,.string ⟨#[]⟩,.slice none 0 0,.slice none 0 0],.int .i64 14])) ((set5 w2 (b0 + 1) 0 (.int .i64 0) (.int .i64 0) (.string ⟨#[]⟩) (.slice none 0 0) (.slice none 0 0)).alloc (Obj.cells #[.string MN,.slice fa fl fc,.slice ra rl rc] 52))) := (
   DtrP.alloc (DtrP.done (bs := []) HBW2.out.1 (by have := HBZ.out; omega) (by rw [HX2.out]; exact TrO.zeroO 10 _ w2) (Apt.nil _ _) (by simp) (by rw [HX2.out])) _ : DtrP _ _ _ _ _)
  simp only [Option.isSome_none];clear al3 hw3 hbw3 hw2 hb2;obtain ⟨t0,t1,t2,t3,t4⟩ := cl5 BT2;obtain ⟨z0,z1,z2,z3,z4⟩ := fz5 BT2;have ltT := BT2.lt;go_wp2_with fail;refine bodyPost_ret (results_two rfl _ _ _ ⟨b0 + 1,0,none⟩ (.agg #[.int .i64 0,.int .i64 0,.string ⟨#[]⟩,.slice none 0 0,.slice none 0 0]) (by go_simp) (by go_simp)) rfl ?_;exact HFI.out
 | some m =>
  simp only [Option.getD_some] at HVF HMN;have hnm : m.name = nm := msgOf_name HXM.out
  have HM1 : Hid (Calls Tryz.prog 32 #[.agg #[.string sn,.slice ma mn mc,.slice ea en ec,.slice ta tn tc],.agg #[.string MN,.slice fa fl fc,.slice ra rl rc],vb,.int .i64 1] (w2.alloc (Obj.cells #[.string MN,.slice fa fl fc,.slice ra rl rc] 52)) (DtrP 11 R (w2.alloc (Obj.cells #[.string MN,.slice fa fl fc,.slice ra rl rc] 52)))) := (by
   have h1 := rmsg12_any s sn ma ea ta mn mc en ec tn tc HOK.out (fun m hm => (HFW.out.few.flds m hm).1) 9 1 rfl m (.slice fa fl fc) (.slice ra rl rc) vb ns (w2.alloc (Obj.cells #[.string MN,.slice fa fl fc,.slice ra rl rc] 52)) (by rw [hnm]; exact HXM.out) (HVF.out.1.below hbw3) (HVF.out.2.below hbw3) (HBY.out.below hbw3) (HSC.out.below hbw3);rw [hnm,HX1.out,← hnm,HMN.out] at h1
   simpa using h1 : Calls Tryz.prog _ _ _ _)
  have BS2 := HBS.out.below hw2;have BM3 : Blk (w2.alloc (Obj.cells #[.string MN,.slice fa fl fc,.slice ra rl rc] 52)) w2.heap.size #[.string MN,.slice fa fl fc,.slice ra rl rc] 52 := Blk.new w2 _ _;have HB3 : Hid (Below W0.heap.size W0 (w2.alloc (Obj.cells #[.string MN,.slice fa fl fc,.slice ra rl rc] 52)) ∧ Below w.heap.size w (w2.alloc (Obj.cells #[.string MN,.slice fa fl fc,.slice ra rl rc] 52))) := ⟨hw3,hbw3⟩
  have hlw0 : b0 < w2.heap.size := by omega
  simp only [Option.isSome_some];clear al3 hw3 hbw3 hw2 hb2 hnm HVF;obtain ⟨s0,s1,s2,s3⟩ := cl4 BS2;go_wp2_with fail;refine HM1.out.mono ?_;rintro e w5 ⟨r,bs,rfl,ht,hap,hb5⟩;have hw5 : Below W0.heap.size W0 w5 := HB3.out.1.trans (hb5.mono HB3.out.1.size);have hbw5 : Below w.heap.size w w5 := HB3.out.2.trans (hb5.mono HB3.out.2.size);have BT5 := HBT.out.below hw5;obtain ⟨a1,n1,c1,a2,n2,c2,rfl⟩ := ht.open;have hle := HB3.out.2.size
  have HFI : Hid (DtrP 11 R w (.returned (.tuple #[.agg #[.int .i64 R.1.kind,.int .i64 R.1.n,.string R.1.s,.slice a1 n1 c1,.slice a2 n2 c2],.int .i64 R.2])) (set5 w5 (b0 + 1) 0 (.int .i64 R.1.kind) (.int .i64 R.1.n) (.string R.1.s) (.slice a1 n1 c1) (.slice a2 n2 c2))) := (
   DtrP.done hbw5 (by have := HBZ.out; omega) (ht.base hle) (hap.base hle) (fun hc => by have h1 := (hap.2 _ hc).1; simp only [World.size_alloc] at h1; omega) rfl : DtrP _ _ _ _ _)
  clear ht hap hb5 hw5 hbw5 hle s0 s1 s2 s3 BS2 BM3 hlw0;obtain ⟨t0,t1,t2,t3,t4⟩ := cl5 BT5;obtain ⟨z0,z1,z2,z3,z4⟩ := fz5 BT5;have ltT := BT5.lt;generalize R.1.kind = K0 at *;generalize R.1.n = N0 at *;generalize R.1.s = S0 at *;generalize R.2 = E0 at *;clear BT5;go_wp2_with fail;refine bodyPost_ret (results_two rfl _ _ _ ⟨b0 + 1,0,none⟩ (.agg #[.int .i64 K0,.int .i64 N0,.string S0,.slice a1 n1 c1,.slice a2 n2 c2]) (by go_simp) (by go_simp)) rfl ?_;exact HFI.out
end
section
section
variable {P : Program} {md : Region.Mode} {ops : Array Oper} {Q : Exit → Act → World → Prop} {T : World → Prop} {m : Nat}
theorem M_forkAA {o1 o2 : Oper} {fuel : Nat} {listed : Array Bool} {a : Act} {w : World} (i j d1 d2 : Nat) (v1 v2 : Value) (w1 w2 : World) (h1 : ops[i]? = some o1) (h2 : ops[j]? = some o2) (hd1 : o1.dst = some d1) (hd2 : o2.dst = some d2)
  (hr : Region.ready md ops listed = [i,j]) (hw1 : Region.wanted o1 (yielded ops a.tmps) = true) (hw2 : Region.wanted o2 (yielded ops a.tmps) = true)
  (hx1 : (execOp a.eval o1).run P w = .ok (.value v1) w1) (hx2 : (execOp a.eval o2).run P w = .ok (.value v2) w2)
  (hT1 : T w1) (hA : wpAnyM P md ops Q T m fuel (listed.setIfInBounds i true) { a with tmps := a.tmps.setIfInBounds d1 v1 } w1)
  (hT2 : T w2) (hB : wpAnyM P md ops Q T m fuel (listed.setIfInBounds j true) { a with tmps := a.tmps.setIfInBounds d2 v2 } w2) : wpAnyM P md ops Q T m (fuel + 1) listed a w := by
 refine ⟨fun h0 => (by rw [hr] at h0; cases h0),fun k hk => ?_⟩;rw [hr] at hk;simp only [List.mem_cons,List.not_mem_nil,or_false] at hk
 rcases hk with rfl | rfl
 ·unfold wpOp;simp only [h1];rw [if_pos hw1];refine .inl ?_;unfold Oper.wp;rw [hx1,Oper.upon_value,hd1];exact ⟨fun _ => hT1,hA⟩
 ·unfold wpOp;simp only [h2];rw [if_pos hw2];refine .inl ?_;unfold Oper.wp;rw [hx2,Oper.upon_value,hd2];exact ⟨fun _ => hT2,hB⟩
end
end
section
open Go.ChangeShapes Go.WideShapes Go.ChangeAt Go.RowKit
theorem blk_new2 (w : World) (o : Obj) (cs : Array Value) (t : TypeId) : Blk ((w.alloc o).alloc (.cells cs t)) (w.heap.size + 1) cs t := by
 have := Blk.new (w.alloc o) cs t
 rwa [show (w.alloc o).heap.size = w.heap.size + 1 from by simp] at this
def SamT (a b : Tr) (e : Ending) : Prop := ∃ R : Bool,e = .returned (.bool R) ∧ (R = true ↔ a = b)
theorem sam_no {a b : Tr} (h : a ≠ b) : SamT a b (.returned (.bool false)) := ⟨false,rfl,by simp [h]⟩
theorem sam_yes {a b : Tr} (h : a = b) : SamT a b (.returned (.bool true)) := ⟨true,rfl,by simp [h]⟩
theorem tr_ext {a b : Tr} (h1 : a.kind = b.kind) (h2 : a.n = b.n) (h3 : a.s = b.s) (h4 : a.es = b.es) (h5 : a.rest = b.rest) : a = b := by
 cases a; cases b; simp_all
theorem list_ext {α : Type} {l m : List α} (h : l.length = m.length) (hj : ∀ j,j < l.length → l[j]? = m[j]?) : l = m := by
 refine List.ext_getElem? fun i => ?_
 by_cases hi : i < l.length
 ·exact hj i hi
 ·rw [List.getElem?_eq_none (by omega),List.getElem?_eq_none (by omega)]
theorem two_set {w0 w : World} {g k : Nat} {a b c d : Value} {t : TypeId} (h1 : Blk w g #[a,b] t) (h2 : Blk w k #[c,d] t) (hn : g ≠ k) (hS : Below w0.heap.size w0 w) (l1 : w0.heap.size ≤ g) (l2 : w0.heap.size ≤ k) (a' b' c' d' : Value) : Below w0.heap.size w0 ((w.setCell ⟨g,0,none⟩ a').setCell ⟨g,1,none⟩ b') ∧
  Blk ((((w.setCell ⟨g,0,none⟩ a').setCell ⟨g,1,none⟩ b').setCell ⟨k,0,none⟩ c').setCell ⟨k,1,none⟩ d') g #[a',b'] t ∧ Blk ((((w.setCell ⟨g,0,none⟩ a').setCell ⟨g,1,none⟩ b').setCell ⟨k,0,none⟩ c').setCell ⟨k,1,none⟩ d') k #[c',d'] t ∧ Below w0.heap.size w0 ((((w.setCell ⟨g,0,none⟩ a').setCell ⟨g,1,none⟩ b').setCell ⟨k,0,none⟩ c').setCell ⟨k,1,none⟩ d') := by
 have hS3 : Below w0.heap.size w0 ((w.setCell ⟨g,0,none⟩ a').setCell ⟨g,1,none⟩ b') := (hS.setCell (p := ⟨g,0,none⟩) l1 _).setCell (p := ⟨g,1,none⟩) l1 _;refine ⟨hS3,?_,?_,(hS3.setCell (p := ⟨k,0,none⟩) l2 _).setCell (p := ⟨k,1,none⟩) l2 _⟩
 ·have q1 := h1.set 0 a' rfl;have q2 := q1.set 1 b' rfl;exact (q2.other (a := ⟨k,0,none⟩) hn _).other (a := ⟨k,1,none⟩) hn _
 ·have q1 := (h2.other (a := ⟨g,0,none⟩) hn.symm a').other (a := ⟨g,1,none⟩) hn.symm b';have q2 := q1.set 0 c' rfl;exact q2.set 1 d' rfl
theorem rsame_step (n m : Nat) (IH : ∀ m' a b va vb w,TrIn n w va a → TrIn m' w vb b → Calls Tryz.prog 12 #[va,vb] w fun e w' => SamT a b e ∧ Below w.heap.size w w') (a b : Tr) (va vb : Value) (w : World) (ha : TrIn (n + 1) w va a) (hb : TrIn m w vb b) :
  Calls Tryz.prog 12 #[va,vb] w fun e w' => SamT a b e ∧ Below w.heap.size w w' := by
 obtain ⟨n',ve,vr,e0,rfl,ka,na,sa,fa,ra,ea⟩ := ha.open
 obtain rfl : n' = n := by omega
 obtain ⟨m',ve2,vr2,rfl,rfl,kb,nb,sb,fb,rb,eb⟩ := hb.open;obtain ⟨pe,ce,rfl,u1,u2,u3,u4,u5⟩ := ea.open;obtain ⟨pe2,ce2,rfl,v1,v2,v3,v4,v5⟩ := eb.open;obtain ⟨pr,cr,rfl,x1,x2,x3,x4,x5⟩ := rest_holds ra;obtain ⟨pr2,cr2,rfl,y1,y2,y3,y4,y5⟩ := rest_holds rb;clear u5 v5 x5 y5 ha hb e0;unfold maxLen at u2 v2 x2 y2;obtain ⟨Ke,hKe⟩ : ∃ K,a.es.length = K := ⟨_,rfl⟩;obtain ⟨Ke2,hKe2⟩ : ∃ K,b.es.length = K := ⟨_,rfl⟩;obtain ⟨Kr,hKr⟩ : ∃ K,a.rest.length = K := ⟨_,rfl⟩;obtain ⟨Kr2,hKr2⟩ : ∃ K,b.rest.length = K := ⟨_,rfl⟩;rw [hKe] at u1 ⊢;rw [hKe2] at v1 ⊢;rw [hKr] at x1 ⊢;rw [hKr2] at y1 ⊢;have EA : Hid (EnsIn n' w (.slice pe Ke ce) a.es) := hid (by rw [← hKe]; exact ea);have EB : Hid (EnsIn m' w (.slice pe2 Ke2 ce2) b.es) := hid (by rw [← hKe2]; exact eb);have RA : Hid (RowG w (.slice pr Kr cr) 4 (fdRows a.rest)) := hid (by rw [← hKr]; exact ra);have RB : Hid (RowG w (.slice pr2 Kr2 cr2) 4 (fdRows b.rest)) := hid (by rw [← hKr2]; exact rb);clear ea eb ra rb u4 v4 x4 y4 sa sb fa fb u3 v3 x3 y3;have HKe : Hid (a.es.length = Ke) := hKe;have HKe2 : Hid (b.es.length = Ke2) := hKe2;have HKr : Hid (a.rest.length = Kr) := hKr;have HKr2 : Hid (b.rest.length = Kr2) := hKr2;clear hKe hKe2 hKr hKr2
 by_cases hk : a.kind = b.kind
 ·by_cases hn : a.n = b.n
  ·by_cases hs : a.s = b.s
   ·by_cases he : Ke = Ke2
    ·by_cases hr : Kr = Kr2
     ·subst he hr;rw [← hk,← hn,← hs];have HK : Hid (a.kind = b.kind ∧ a.n = b.n ∧ a.s = b.s) := ⟨hk,hn,hs⟩;clear hk hn hs;obtain ⟨K,hK⟩ : ∃ K,a.kind = K := ⟨_,rfl⟩;obtain ⟨N,hN⟩ : ∃ K,a.n = K := ⟨_,rfl⟩;obtain ⟨S,hS⟩ : ∃ K,a.s = K := ⟨_,rfl⟩;rw [hK,hN,hS];clear hK hN hS ka na kb nb
      go_enter Tryz.func12,Tryz.ntmps12
      go_wp2_with fail
      go_loopw [5] (fun iv wr => ∃ i : Nat,iv = .int .i64 (i : Int) ∧ i ≤ Kr ∧ Hid (∀ j,j < i → a.rest[j]? = b.rest[j]?) ∧ Below w.heap.size w wr ∧ Hid (Blk wr w.heap.size #[.int .i64 K,.int .i64 N,.string S,.slice pe Ke ce,.slice pr Kr cr] 30) ∧ Hid (Blk wr (w.heap.size + 1) #[.int .i64 K,.int .i64 N,.string S,.slice pe2 Ke ce2,.slice pr2 Kr cr2] 30)) (fun iv _ => Kr - (intOf iv).toNat)
      case atStart => exact ⟨0,rfl,by omega,(fun j hj => absurd hj (by omega) : ∀ j,j < 0 → a.rest[j]? = b.rest[j]?),(bra _).alloc (by simp) _,(Blk.new w _ _).below (bra _),blk_new2 w _ _ _⟩
      case round =>
       obtain ⟨i,rfl,hi,HJ,hbel,HB1,HB2⟩ := hrel;have q14 := HB1.out.cell 4;have q24 := HB2.out.cell 4;have q13 := HB1.out.cell 3;have q23 := HB2.out.cell 3
       simp at q14 q24 q13 q23
       by_cases hlt : i < Kr
       ·obtain ⟨r,hr⟩ : ∃ r,a.rest[i]? = some r := ⟨_,List.getElem?_eq_getElem (by rw [HKr.out]; exact hlt)⟩;obtain ⟨s,hs⟩ : ∃ r,b.rest[i]? = some r := ⟨_,List.getElem?_eq_getElem (by rw [HKr2.out]; exact hlt)⟩;obtain ⟨g,off,rfl,c1⟩ := (RA.out.below hbel).get (show (fdRows a.rest)[i]? = some r.cells by simp [fdRows,hr]);obtain ⟨g2,off2,rfl,c2⟩ := (RB.out.below hbel).get (show (fdRows b.rest)[i]? = some s.cells by simp [fdRows,hs]);have p0 := c1 0 _ rfl;have p1 := c1 1 _ rfl;have p2 := c1 2 _ rfl;have p3 := c1 3 _ rfl;have o0 := c2 0 _ rfl;have o1 := c2 1 _ rfl;have o2 := c2 2 _ rfl;have o3 := c2 3 _ rfl;simp only [Nat.add_zero] at p0 o0;have HR : Hid (a.rest[i]? = some r) := hr;have HS : Hid (b.rest[i]? = some s) := hs;clear c1 c2 hr hs q13 q23
        by_cases hrs : r = s
        ·subst hrs;obtain ⟨t1,t2,t3,t4⟩ := r;simp only at p0 p1 p2 p3 o0 o1 o2 o3;go_wp2_with fail
         go_quiet (fail)
         have hbn := below_drewN nq hbel;clear p0 p1 p2 p3 o0 o1 o2 o3 q14 q24;go_wp2_with fail
         go_roundw
         case rel => exact ⟨i + 1,by go_num,by omega,(fun j hj => by
          rcases Nat.lt_or_eq_of_le (Nat.le_of_lt_succ hj) with h | h
          ·exact HJ.out j h
          ·subst h; rw [HR.out,HS.out] : ∀ j,j < i + 1 → a.rest[j]? = b.rest[j]?),hbn,HB1.out.below (below_drewN nq (Below.refl _ _)),HB2.out.below (below_drewN nq (Below.refl _ _))⟩
         case measure => simp [intOf]; omega
        ·obtain ⟨t1,t2,t3,t4⟩ := r;obtain ⟨s1,s2,s3,s4⟩ := s;simp only at p0 p1 p2 p3 o0 o1 o2 o3;have hne : a ≠ b := fun e => hrs (by have := HR.out; rw [e,HS.out] at this; exact (Option.some.inj this).symm)
         have hx := fd_neq t1 t2 t3 s1 s2 s3 t4 s4 hrs;clear hrs;go_wp2_with fail
         go_quiet (fail)
         have hbn := below_drewN nq hbel;clear p0 p1 p2 p3 o0 o1 o2 o3 q14 q24 hx;go_wp2_with fail;go_ret;exact ⟨sam_no hne,hbn⟩
       ·have hje : a.rest = b.rest := list_ext (by rw [HKr.out,HKr2.out]) (fun j hj => HJ.out j (by rw [HKr.out] at hj; omega));have HJE : Hid (a.rest = b.rest) := hje;clear hje HJ RA RB HKr HKr2 q13 q23;go_wp2_with fail
        go_loopw [6] (fun iv wr => ∃ i : Nat,iv = .int .i64 (i : Int) ∧ i ≤ Ke ∧ Hid (∀ j,j < i → a.es[j]? = b.es[j]?) ∧ Below w.heap.size w wr ∧ Hid (Blk wr w.heap.size #[.int .i64 K,.int .i64 N,.string S,.slice pe Ke ce,.slice pr Kr cr] 30) ∧ Hid (Blk wr (w.heap.size + 1) #[.int .i64 K,.int .i64 N,.string S,.slice pe2 Ke ce2,.slice pr2 Kr cr2] 30)) (fun iv _ => Ke - (intOf iv).toNat)
        case atStart => exact ⟨0,rfl,by omega,(fun j hj => absurd hj (by omega) : ∀ j,j < 0 → a.es[j]? = b.es[j]?),hbel,HB1,HB2⟩
        case round =>
         clear hi hbel HB1 HB2 hlt q14 q24;obtain ⟨i,rfl,hi,HJ,hbel,HB1,HB2⟩ := hrel;have q13 := HB1.out.cell 3;have q23 := HB2.out.cell 3
         simp at q13 q23
         by_cases hlt : i < Ke
         ·obtain ⟨x,hx⟩ : ∃ r,a.es[i]? = some r := ⟨_,List.getElem?_eq_getElem (by rw [HKe.out]; exact hlt)⟩;obtain ⟨y,hy⟩ : ∃ r,b.es[i]? = some r := ⟨_,List.getElem?_eq_getElem (by rw [HKe2.out]; exact hlt)⟩;obtain ⟨g,off,rfl,c1⟩ := (EA.out.belowE hbel).get hx;obtain ⟨g2,off2,rfl,c2⟩ := (EB.out.belowE hbel).get hy;obtain ⟨vt,p0,p1,p2,p3⟩ := ens_at c1;obtain ⟨vt2,o0,o1,o2,o3⟩ := ens_at c2;obtain ⟨pt,ct,rfl,t1,t2,t3,t4,t5⟩ := p3.open;obtain ⟨pt2,ct2,rfl,s1,s2,s3,s4,s5⟩ := o3.open;unfold maxLen at t2 s2;have HX : Hid (a.es[i]? = some x) := hx;have HY : Hid (b.es[i]? = some y) := hy;clear t3 t4 t5 s3 s4 s5 hx hy c1 c2 p2 o2;obtain ⟨xt,xl⟩ := x;obtain ⟨yt,yl⟩ := y;simp only at p0 p1 o0 o1 t1 s1 p3 o3;obtain ⟨Kt,hKt⟩ : ∃ K,xl.length = K := ⟨_,rfl⟩;obtain ⟨Kt2,hKt2⟩ : ∃ K,yl.length = K := ⟨_,rfl⟩;rw [hKt] at p1 t1;rw [hKt2] at o1 s1;have T1 : Hid (TrsIn n' wr (.slice pt Kt ct) xl) := hid (by rw [← hKt]; exact p3);have T2 : Hid (TrsIn m' wr (.slice pt2 Kt2 ct2) yl) := hid (by rw [← hKt2]; exact o3);clear p3 o3;have HKt : Hid (xl.length = Kt) := hKt;have HKt2 : Hid (yl.length = Kt2) := hKt2;clear hKt hKt2;have hz1 := HB1.out.lt;have hz2 := HB2.out.lt;have hz3 : g < wr.heap.size := World.block_lt_of_cell? _ _ p0;have hz4 : g2 < wr.heap.size := World.block_lt_of_cell? _ _ o0
          have HCE : Hid (∀ W,Below wr.heap.size wr W → Blk W w.heap.size #[.int .i64 K,.int .i64 N,.string S,.slice (some ⟨g,off,none⟩) Ke ce,.slice pr Kr cr] 30 ∧ Blk W (w.heap.size + 1) #[.int .i64 K,.int .i64 N,.string S,.slice (some ⟨g2,off2,none⟩) Ke ce2,.slice pr2 Kr cr2] 30 ∧ W.cell? ⟨g,off + i * 2,none⟩ = some (.int .i64 xt) ∧ W.cell? ⟨g,off + i * 2 + 1,none⟩ = some (.slice pt Kt ct) ∧ W.cell? ⟨g2,off2 + i * 2,none⟩ = some (.int .i64 yt) ∧ W.cell? ⟨g2,off2 + i * 2 + 1,none⟩ = some (.slice pt2 Kt2 ct2)) := fun W hW => by
           have cc : ∀ p u,wr.cell? p = some u → W.cell? p = some u := fun p u h => (hW.cell (World.block_lt_of_cell? _ _ h)).trans h
           exact ⟨HB1.out.below hW,HB2.out.below hW,cc _ _ p0,cc _ _ p1,cc _ _ o0,cc _ _ o1⟩
          clear p0 p1 o0 o1
          go_upto_region 11 with fail
          clear q13 q23
          go_cut [7,8] from 72 to 81 (fun pv qv wx => ∃ GX GY : Nat,pv = .pointer (some ⟨GX,0,none⟩) ∧ qv = .pointer (some ⟨GY,0,none⟩) ∧ Hid (Blk wx GX #[.int .i64 xt,.slice pt Kt ct] 69 ∧ Blk wx GY #[.int .i64 yt,.slice pt2 Kt2 ct2] 69 ∧ Below wr.heap.size wr wx))
          case first =>
           refine M_region (T := fun W => Below wr.heap.size wr W) (m := 13) (by kernel_rfl) ?_;have hS : Below wr.heap.size wr wr.drew := (Below.refl _ _).drew;refine M_tk 0 72 (.pointer (some ⟨w.heap.size,3,none⟩)) (fun w' hw' => ?_) hS (bts 14 1) ?_
           ·go_simp
           refine M_tk 1 73 (.slice (some ⟨g,off,none⟩) Ke ce) (fun w' hw' => ?_) hS (bts 14 3) ?_
           ·obtain ⟨B1,B2,c0,c1,c2,c3⟩ := HCE.out _ hw'; have f3 := (B1.cell 3).trans rfl; go_simp
           refine M_tk 2 74 (.int .i64 (i : Int)) (fun w' hw' => ?_) hS (bts 14 7) ?_
           ·go_simp
           refine M_tk 3 75 (.pointer (some ⟨g,off + i * 2,none⟩)) (fun w' hw' => ?_) hS (bts 14 15) ?_
           ·go_simp
           refine M_tk 4 76 (.agg #[.int .i64 xt,.slice pt Kt ct]) (fun w' hw' => ?_) hS (bts 14 31) ?_
           ·obtain ⟨B1,B2,c0,c1,c2,c3⟩ := HCE.out _ hw'; go_simp
           refine M_tk 5 77 (.pointer (some ⟨w.heap.size + 1,3,none⟩)) (fun w' hw' => ?_) hS (bts 14 63) ?_
           ·go_simp
           refine M_tk 6 78 (.slice (some ⟨g2,off2,none⟩) Ke ce2) (fun w' hw' => ?_) hS (bts 14 127) ?_
           ·obtain ⟨B1,B2,c0,c1,c2,c3⟩ := HCE.out _ hw'; have f3 := (B2.cell 3).trans rfl; go_simp
           refine M_tk 7 79 (.int .i64 (i : Int)) (fun w' hw' => ?_) hS (bts 14 255) ?_
           ·go_simp
           refine M_tk 8 80 (.pointer (some ⟨g2,off2 + i * 2,none⟩)) (fun w' hw' => ?_) hS (bts 14 511) ?_
           ·go_simp
           refine M_tk 9 81 (.agg #[.int .i64 yt,.slice pt2 Kt2 ct2]) (fun w' hw' => ?_) hS (bts 14 1023) ?_
           ·obtain ⟨B1,B2,c0,c1,c2,c3⟩ := HCE.out _ hw'; go_simp
           generalize wr.drew = U0 at *;clear HCE;refine M_forkAA 10 11 7 8 (.pointer (some ⟨U0.heap.size,0,none⟩)) (.pointer (some ⟨U0.heap.size,0,none⟩)) (U0.alloc (Obj.cells #[.int .i64 0,.slice none 0 0] 69)) (U0.alloc (Obj.cells #[.int .i64 0,.slice none 0 0] 69)) rfl rfl rfl rfl (by kernel_rfl) (by rfl) (by rfl) (by go_simp) (by go_simp) (hS.trans ((bra _).mono hS.size)) ?_ (hS.trans ((bra _).mono hS.size)) ?_
           ·skip
            obtain ⟨GX,hGX⟩ : ∃ z,U0.heap.size = z := ⟨_,rfl⟩
            have BGX : Blk (U0.alloc (Obj.cells #[.int .i64 0,.slice none 0 0] 69)) GX #[.int .i64 0,.slice none 0 0] 69 := by rw [← hGX]; exact Blk.new U0 _ _
            have LGX : wr.heap.size ≤ GX := by rw [← hGX]; exact hS.size
            have hS1 : Below wr.heap.size wr (U0.alloc (Obj.cells #[.int .i64 0,.slice none 0 0] 69)) := (hS.trans ((bra _).mono hS.size));simp only [zsA,zsZ,zsS]
            try simp only [hGX]
            clear hGX hS;generalize (U0.alloc (Obj.cells #[.int .i64 0,.slice none 0 0] 69)) = U1 at *;have hS := hS1;clear hS1;refine M_rn 11 8 (.pointer (some ⟨U1.heap.size,0,none⟩)) (U1.alloc (Obj.cells #[.int .i64 0,.slice none 0 0] 69)) (bts 14 4095) rfl (by go_simp) (hS.trans ((bra _).mono hS.size)) ?_;obtain ⟨GY,hGY⟩ : ∃ z,U1.heap.size = z := ⟨_,rfl⟩
            have BGY : Blk (U1.alloc (Obj.cells #[.int .i64 0,.slice none 0 0] 69)) GY #[.int .i64 0,.slice none 0 0] 69 := by rw [← hGY]; exact Blk.new U1 _ _
            have LGY : wr.heap.size ≤ GY := by rw [← hGY]; exact hS.size
            have NE : GX < GY := by rw [← hGY]; exact BGX.lt
            replace BGX := BGX.below ((Below.refl _ _).alloc (Nat.le_refl _) (Obj.cells #[.int .i64 0,.slice none 0 0] 69))
            have hS1 : Below wr.heap.size wr (U1.alloc (Obj.cells #[.int .i64 0,.slice none 0 0] 69)) := (hS.trans ((bra _).mono hS.size));simp only [zsA,zsZ,zsS]
            try simp only [hGY]
            clear hGY hS;generalize (U1.alloc (Obj.cells #[.int .i64 0,.slice none 0 0] 69)) = U2 at *;obtain ⟨cx0,cx1⟩ := cl2 BGX;obtain ⟨cy0,cy1⟩ := cl2 BGY;have zx0 := BGX.froz 0;have zx1 := BGX.froz 1;have zy0 := BGY.froz 0;have zy1 := BGY.froz 1
            have ne1 : GX ≠ GY := by omega
            have ne2 : GY ≠ GX := by omega
            obtain ⟨hS3,hfi⟩ := two_set BGX BGY ne1 hS1 LGX LGY (.int .i64 xt) (.slice pt Kt ct) (.int .i64 yt) (.slice pt2 Kt2 ct2);have HFI : Hid _ := hfi;clear hfi;refine M_sT 12 ((U2.setCell ⟨GX,0,none⟩ (.int .i64 xt)).setCell ⟨GX,1,none⟩ (.slice pt Kt ct)) (bts 14 8191) rfl (by go_simp) hS3 ?_;refine M_st 13 ((((U2.setCell ⟨GX,0,none⟩ (.int .i64 xt)).setCell ⟨GX,1,none⟩ (.slice pt Kt ct)).setCell ⟨GY,0,none⟩ (.int .i64 yt)).setCell ⟨GY,1,none⟩ (.slice pt2 Kt2 ct2)) (bts 14 16383) rfl (by go_simp) ?_;clear cx0 cx1 cy0 cy1 zx0 zx1 zy0 zy1 BGX BGY hS3 hS1 LGX LGY;generalize ((((U2.setCell ⟨GX,0,none⟩ (.int .i64 xt)).setCell ⟨GX,1,none⟩ (.slice pt Kt ct)).setCell ⟨GY,0,none⟩ (.int .i64 yt)).setCell ⟨GY,1,none⟩ (.slice pt2 Kt2 ct2)) = W9 at *;refine M_done (by kernel_rfl) ?_ _;go_wp2_with fail
            go_meet
            exact ⟨GX,GY,rfl,rfl,HFI⟩
           ·skip
            obtain ⟨GY,hGY⟩ : ∃ z,U0.heap.size = z := ⟨_,rfl⟩
            have BGY : Blk (U0.alloc (Obj.cells #[.int .i64 0,.slice none 0 0] 69)) GY #[.int .i64 0,.slice none 0 0] 69 := by rw [← hGY]; exact Blk.new U0 _ _
            have LGY : wr.heap.size ≤ GY := by rw [← hGY]; exact hS.size
            have hS1 : Below wr.heap.size wr (U0.alloc (Obj.cells #[.int .i64 0,.slice none 0 0] 69)) := (hS.trans ((bra _).mono hS.size));simp only [zsA,zsZ,zsS]
            try simp only [hGY]
            clear hGY hS;generalize (U0.alloc (Obj.cells #[.int .i64 0,.slice none 0 0] 69)) = U1 at *;have hS := hS1;clear hS1;refine M_rn 10 7 (.pointer (some ⟨U1.heap.size,0,none⟩)) (U1.alloc (Obj.cells #[.int .i64 0,.slice none 0 0] 69)) (bts 14 4095) rfl (by go_simp) (hS.trans ((bra _).mono hS.size)) ?_;obtain ⟨GX,hGX⟩ : ∃ z,U1.heap.size = z := ⟨_,rfl⟩
            have BGX : Blk (U1.alloc (Obj.cells #[.int .i64 0,.slice none 0 0] 69)) GX #[.int .i64 0,.slice none 0 0] 69 := by rw [← hGX]; exact Blk.new U1 _ _
            have LGX : wr.heap.size ≤ GX := by rw [← hGX]; exact hS.size
            have NE : GY < GX := by rw [← hGX]; exact BGY.lt
            replace BGY := BGY.below ((Below.refl _ _).alloc (Nat.le_refl _) (Obj.cells #[.int .i64 0,.slice none 0 0] 69))
            have hS1 : Below wr.heap.size wr (U1.alloc (Obj.cells #[.int .i64 0,.slice none 0 0] 69)) := (hS.trans ((bra _).mono hS.size));simp only [zsA,zsZ,zsS]
            try simp only [hGX]
            clear hGX hS;generalize (U1.alloc (Obj.cells #[.int .i64 0,.slice none 0 0] 69)) = U2 at *;obtain ⟨cx0,cx1⟩ := cl2 BGX;obtain ⟨cy0,cy1⟩ := cl2 BGY;have zx0 := BGX.froz 0;have zx1 := BGX.froz 1;have zy0 := BGY.froz 0;have zy1 := BGY.froz 1
            have ne1 : GX ≠ GY := by omega
            have ne2 : GY ≠ GX := by omega
            obtain ⟨hS3,hfi⟩ := two_set BGX BGY ne1 hS1 LGX LGY (.int .i64 xt) (.slice pt Kt ct) (.int .i64 yt) (.slice pt2 Kt2 ct2);have HFI : Hid _ := hfi;clear hfi;refine M_sT 12 ((U2.setCell ⟨GX,0,none⟩ (.int .i64 xt)).setCell ⟨GX,1,none⟩ (.slice pt Kt ct)) (bts 14 8191) rfl (by go_simp) hS3 ?_;refine M_st 13 ((((U2.setCell ⟨GX,0,none⟩ (.int .i64 xt)).setCell ⟨GX,1,none⟩ (.slice pt Kt ct)).setCell ⟨GY,0,none⟩ (.int .i64 yt)).setCell ⟨GY,1,none⟩ (.slice pt2 Kt2 ct2)) (bts 14 16383) rfl (by go_simp) ?_;clear cx0 cx1 cy0 cy1 zx0 zx1 zy0 zy1 BGX BGY hS3 hS1 LGX LGY;generalize ((((U2.setCell ⟨GX,0,none⟩ (.int .i64 xt)).setCell ⟨GX,1,none⟩ (.slice pt Kt ct)).setCell ⟨GY,0,none⟩ (.int .i64 yt)).setCell ⟨GY,1,none⟩ (.slice pt2 Kt2 ct2)) = W9 at *;refine M_done (by kernel_rfl) ?_ _;go_wp2_with fail
            go_meet
            exact ⟨GX,GY,rfl,rfl,HFI⟩
          case rest =>
           obtain ⟨GX,GY,rfl,rfl,HXY0⟩ := hcut;have hbB : Below wr.heap.size wr wc := HXY0.out.2.2;have hbA : Below w.heap.size w wc := hbel.trans (hbB.mono hbel.size);have hX1 := HXY0.out.1;have hX2 := HXY0.out.2.1;generalize wc = W at *;have HY1 : Hid (Blk W w.heap.size #[.int .i64 K,.int .i64 N,.string S,.slice (some ⟨g,off,none⟩) Ke ce,.slice pr Kr cr] 30) := HB1.out.below hbB;have HY2 : Hid (Blk W (w.heap.size + 1) #[.int .i64 K,.int .i64 N,.string S,.slice (some ⟨g2,off2,none⟩) Ke ce2,.slice pr2 Kr cr2] 30) := HB2.out.below hbB;have HT1 : Hid (TrsIn n' W (.slice pt Kt ct) xl) := T1.out.belowT hbB;have HT2 : Hid (TrsIn m' W (.slice pt2 Kt2 ct2) yl) := T2.out.belowT hbB;clear hbB HB1 HB2 T1 T2 hz1 hz2 hz3 hz4 hbel HXY0;have a0 := hX1.cell 0;have a1 := hX1.cell 1;have b0 := hX2.cell 0;have b1 := hX2.cell 1
           simp at a0 a1 b0 b1
           by_cases ht : xt = yt
           ·subst ht
            by_cases hk : Kt = Kt2
            ·subst hk;have HZ1 : Hid (Blk W GX #[Value.int IntKind.i64 xt,Value.slice pt Kt ct] 69) := hX1;have HZ2 : Hid (Blk W GY #[Value.int IntKind.i64 xt,Value.slice pt2 Kt ct2] 69) := hX2;clear hX1 hX2;go_wp2_with fail;clear a0 a1 b0 b1
             go_loopw [9] (fun iv wz => ∃ j : Nat,iv = .int .i64 (j : Int) ∧ j ≤ Kt ∧ Hid (∀ l,l < j → xl[l]? = yl[l]?) ∧ Below w.heap.size w wz ∧ Below W.heap.size W wz) (fun iv _ => Kt - (intOf iv).toNat)
             case atStart => exact ⟨0,rfl,by omega,(fun j hj => absurd hj (by omega) : ∀ l,l < 0 → xl[l]? = yl[l]?),hbA,Below.refl _ _⟩
             case round =>
              obtain ⟨j,rfl,hj,HL,hbel,hbW⟩ := hrel;have a1 := (HZ1.out.below hbW).cell 1;have b1 := (HZ2.out.below hbW).cell 1
              simp at a1 b1
              by_cases hlt2 : j < Kt
              ·obtain ⟨x,hx⟩ : ∃ r,xl[j]? = some r := ⟨_,List.getElem?_eq_getElem (by rw [HKt.out]; exact hlt2)⟩;obtain ⟨y,hy⟩ : ∃ r,yl[j]? = some r := ⟨_,List.getElem?_eq_getElem (by rw [HKt2.out]; exact hlt2)⟩;obtain ⟨g3,off3,rfl,c1⟩ := (HT1.out.belowT hbW).get hx;obtain ⟨g4,off4,rfl,c2⟩ := (HT2.out.belowT hbW).get hy;obtain ⟨z1,n1,d1,z2,n2,d2,p0,p1,p2,p3,p4,p5⟩ := trs_get c1;obtain ⟨z3,n3,d3,z4,n4,d4,o0,o1,o2,o3,o4,o5⟩ := trs_get c2;have HX2 : Hid (xl[j]? = some x) := hx;have HY2 : Hid (yl[j]? = some y) := hy;clear c1 c2 hx hy
               have HC : Hid (∀ W1,Below wr.heap.size wr W1 → Calls Tryz.prog 12 #[.agg #[.int .i64 x.kind,.int .i64 x.n,.string x.s,.slice z1 n1 d1,.slice z2 n2 d2],.agg #[.int .i64 y.kind,.int .i64 y.n,.string y.s,.slice z3 n3 d3,.slice z4 n4 d4]] W1 fun e W' => SamT x y e ∧ Below wr.heap.size wr W') := fun W1 hW1 => (by
                refine (IH m' x y _ _ W1 (p5.below hW1) (o5.below hW1)).mono ?_;rintro e W' ⟨hR,hb⟩
                exact ⟨hR,hW1.trans (hb.mono hW1.size)⟩ : Calls Tryz.prog _ _ W1 _)
               have HKC : Hid (∀ W1,Below wr.heap.size wr W1 → W1.cell? ⟨GX,1,none⟩ = some (.slice (some ⟨g3,off3,none⟩) Kt ct) ∧ W1.cell? ⟨GY,1,none⟩ = some (.slice (some ⟨g4,off4,none⟩) Kt ct2) ∧ W1.cell? ⟨g3,off3 + j * 5,none⟩ = some (.int .i64 x.kind) ∧ W1.cell? ⟨g3,off3 + j * 5 + 1,none⟩ = some (.int .i64 x.n) ∧ W1.cell? ⟨g3,off3 + j * 5 + 2,none⟩ = some (.string x.s) ∧ W1.cell? ⟨g3,off3 + j * 5 + 3,none⟩ = some (.slice z1 n1 d1) ∧ W1.cell? ⟨g3,off3 + j * 5 + 4,none⟩ = some (.slice z2 n2 d2) ∧ W1.cell? ⟨g4,off4 + j * 5,none⟩ = some (.int .i64 y.kind) ∧ W1.cell? ⟨g4,off4 + j * 5 + 1,none⟩ = some (.int .i64 y.n) ∧ W1.cell? ⟨g4,off4 + j * 5 + 2,none⟩ = some (.string y.s) ∧ W1.cell? ⟨g4,off4 + j * 5 + 3,none⟩ = some (.slice z3 n3 d3) ∧ W1.cell? ⟨g4,off4 + j * 5 + 4,none⟩ = some (.slice z4 n4 d4)) := fun W1 hW => by
                have cc : ∀ p u,wr.cell? p = some u → W1.cell? p = some u := fun p u h => (hW.cell (World.block_lt_of_cell? _ _ h)).trans h
                exact ⟨cc _ _ a1,cc _ _ b1,cc _ _ p0,cc _ _ p1,cc _ _ p2,cc _ _ p3,cc _ _ p4,cc _ _ o0,cc _ _ o1,cc _ _ o2,cc _ _ o3,cc _ _ o4⟩
               clear p0 p1 p2 p3 p4 p5 o0 o1 o2 o3 o4 o5;go_wp2_with fail;clear a1 b1;have hS : Below wr.heap.size wr wr.drew := (Below.refl _ _).drew;refine wp_region_held_drew (S := fun w' => Below wr.heap.size wr w') (by kernel_rfl) hS (fun hS => ?_);refine rg_tk 0 103 (.pointer (some ⟨GX,1,none⟩)) (fun w' hw' => ?_) hS (bts 12 1) ?_
               ·go_simp
               refine rg_tk 1 104 (.slice (some ⟨g3,off3,none⟩) Kt ct) (fun w' hw' => ?_) hS (bts 12 3) ?_
               ·obtain ⟨k1,k2,k3,k4,k5,k6,k7,k8,k9,k10,k11,k12⟩ := HKC.out _ hw'; go_simp
               refine rg_tk 2 105 (.int .i64 (j : Int)) (fun w' hw' => ?_) hS (bts 12 7) ?_
               ·go_simp
               refine rg_tk 3 106 (.pointer (some ⟨g3,off3 + j * 5,none⟩)) (fun w' hw' => ?_) hS (bts 12 15) ?_
               ·go_simp
               refine rg_tk 4 107 (.agg #[.int .i64 x.kind,.int .i64 x.n,.string x.s,.slice z1 n1 d1,.slice z2 n2 d2]) (fun w' hw' => ?_) hS (bts 12 31) ?_
               ·obtain ⟨k1,k2,k3,k4,k5,k6,k7,k8,k9,k10,k11,k12⟩ := HKC.out _ hw'; go_simp
               refine rg_tk 5 108 (.pointer (some ⟨GY,1,none⟩)) (fun w' hw' => ?_) hS (bts 12 63) ?_
               ·go_simp
               refine rg_tk 6 109 (.slice (some ⟨g4,off4,none⟩) Kt ct2) (fun w' hw' => ?_) hS (bts 12 127) ?_
               ·obtain ⟨k1,k2,k3,k4,k5,k6,k7,k8,k9,k10,k11,k12⟩ := HKC.out _ hw'; go_simp
               refine rg_tk 7 110 (.int .i64 (j : Int)) (fun w' hw' => ?_) hS (bts 12 255) ?_
               ·go_simp
               refine rg_tk 8 111 (.pointer (some ⟨g4,off4 + j * 5,none⟩)) (fun w' hw' => ?_) hS (bts 12 511) ?_
               ·go_simp
               refine rg_tk 9 112 (.agg #[.int .i64 y.kind,.int .i64 y.n,.string y.s,.slice z3 n3 d3,.slice z4 n4 d4]) (fun w' hw' => ?_) hS (bts 12 1023) ?_
               ·obtain ⟨k1,k2,k3,k4,k5,k6,k7,k8,k9,k10,k11,k12⟩ := HKC.out _ hw'; go_simp
               refine rg_cl 10 113 12 #[.agg #[.int .i64 x.kind,.int .i64 x.n,.string x.s,.slice z1 n1 d1,.slice z2 n2 d2],.agg #[.int .i64 y.kind,.int .i64 y.n,.string y.s,.slice z3 n3 d3,.slice z4 n4 d4]] (bts 12 2047) rfl (fun W => by go_simp) ?_;refine (HC.out _ hS).mono ?_;rintro e W1 ⟨⟨RB,rfl,hRB⟩,hW1⟩;have HRB : Hid (RB = true ↔ x = y) := hRB;have hS : Below wr.heap.size wr W1 := hW1;clear hRB;refine ⟨_,rfl,hS,?_⟩;simp only [zsA,zsZ,zsS];refine rg_tk 11 114 (.bool (!RB)) (fun w' hw' => ?_) hS (bts 12 4095) ?_
               ·go_simp
               refine wpAnyH_done (by kernel_rfl) ?_ _;have hb1 := hbel.trans (hS.mono hbel.size);have hb2 := hbW.trans (hS.mono hbW.size);clear HKC HC hS hW1 hbel hbW
               cases RB with
               | true =>
                have HXY : Hid (x = y) := HRB.out.1 rfl;go_wp2_with fail
                go_roundw
                case rel => exact ⟨j + 1,by go_num,by omega,(fun l hl => by
                 rcases Nat.lt_or_eq_of_le (Nat.le_of_lt_succ hl) with h | h
                 ·exact HL.out l h
                 ·subst h; rw [HX2.out,HY2.out,HXY.out] : ∀ l,l < j + 1 → xl[l]? = yl[l]?),hb1,hb2⟩
                case measure => simp [intOf]; omega
               | false =>
                have HNE : Hid (a ≠ b) := hid (fun e => absurd (HRB.out.2 (by
                 have h1 := HX.out;rw [e,HY.out] at h1;have h2 := (Prod.mk.inj (Option.some.inj h1)).2;have h3 := HX2.out;rw [← h2,HY2.out] at h3
                 exact (Option.some.inj h3).symm)) (by decide))
                go_wp2_with fail;go_ret;exact ⟨sam_no HNE.out,hb1⟩
              ·have hle : xl = yl := list_ext (by rw [HKt.out,HKt2.out]) (fun l hl => HL.out l (by rw [HKt.out] at hl; omega));have HLE : Hid (xl = yl) := hle;clear hle HL;go_wp2_with fail;clear a1 b1
               go_roundw
               case rel => exact ⟨i + 1,by go_num,by omega,(fun l hl => by
                 rcases Nat.lt_or_eq_of_le (Nat.le_of_lt_succ hl) with h | h
                 ·exact HJ.out l h
                 ·subst h; rw [HX.out,HY.out,HLE.out] : ∀ l,l < i + 1 → a.es[l]? = b.es[l]?),hbel,HY1.out.below hbW,HY2.out.below hbW⟩
               case measure => simp [intOf]; omega
            ·have hne : a ≠ b := fun e => hk (by
              have h1 := HX.out;rw [e,HY.out] at h1;have h2 := (Prod.mk.inj (Option.some.inj h1)).2
              rw [← HKt.out,← HKt2.out,h2])
             have hd : ((Kt : Int) != (Kt2 : Int)) = true := by simp; omega
             clear hX1 hX2 HX HY HKt HKt2;go_wp2_with fail;go_ret;exact ⟨sam_no hne,hbA⟩
           ·have hne : a ≠ b := fun e => ht (by
             have h1 := HX.out;rw [e,HY.out] at h1
             exact (Prod.mk.inj (Option.some.inj h1)).1.symm)
            have hd : (xt != yt) = true := by simpa using ht
            clear hX1 hX2 HX HY HKt HKt2;go_wp2_with fail;go_ret;exact ⟨sam_no hne,hbA⟩
         ·have hje : a.es = b.es := list_ext (by rw [HKe.out,HKe2.out]) (fun j hj => HJ.out j (by rw [HKe.out] at hj; omega));have hab : a = b := tr_ext HK.out.1 HK.out.2.1 HK.out.2.2 hje HJE.out;clear hje HJ HB1 HB2 HJE;have HAB : Hid (a = b) := hab;clear hab;go_wp2_with fail;go_ret;exact ⟨sam_yes HAB.out,hbel⟩
     ·have hne : a ≠ b := fun e => hr (by rw [← HKr.out,← HKr2.out,e])
      have hd : ((Kr : Int) != (Kr2 : Int)) = true := by simp; omega
      subst he;rw [← hk,← hn,← hs];clear hk hn hs hr;obtain ⟨K,hK⟩ : ∃ K,a.kind = K := ⟨_,rfl⟩;obtain ⟨N,hN⟩ : ∃ K,a.n = K := ⟨_,rfl⟩;obtain ⟨S,hS⟩ : ∃ K,a.s = K := ⟨_,rfl⟩;rw [hK,hN,hS];clear hK hN hS
      go_enter Tryz.func12,Tryz.ntmps12
      go_wp2_with fail;go_ret;exact ⟨sam_no hne,(bra _).alloc (by simp) _⟩
    ·have hne : a ≠ b := fun e => he (by rw [← HKe.out,← HKe2.out,e])
     have hd : ((Ke : Int) != (Ke2 : Int)) = true := by simp; omega
     rw [← hk,← hn,← hs];clear hk hn hs he;obtain ⟨K,hK⟩ : ∃ K,a.kind = K := ⟨_,rfl⟩;obtain ⟨N,hN⟩ : ∃ K,a.n = K := ⟨_,rfl⟩;obtain ⟨S,hS⟩ : ∃ K,a.s = K := ⟨_,rfl⟩;rw [hK,hN,hS];clear hK hN hS
     go_enter Tryz.func12,Tryz.ntmps12
     go_wp2_with fail;go_ret;exact ⟨sam_no hne,(bra _).alloc (by simp) _⟩
   ·have hne : a ≠ b := fun e => hs (by rw [e])
    have hd : (a.s.toList == b.s.toList) = false := by simpa using fun h => hs (toList_ext h)
    rw [← hk,← hn];clear hk hn hs;obtain ⟨K,hK⟩ : ∃ K,a.kind = K := ⟨_,rfl⟩;obtain ⟨N,hN⟩ : ∃ K,a.n = K := ⟨_,rfl⟩;obtain ⟨S,hS⟩ : ∃ K,a.s = K := ⟨_,rfl⟩;obtain ⟨S2,hS2⟩ : ∃ K,b.s = K := ⟨_,rfl⟩;rw [hS,hS2] at hd;rw [hK,hN,hS,hS2];clear hK hN hS hS2
    go_enter Tryz.func12,Tryz.ntmps12
    go_wp2_with fail;go_ret;exact ⟨sam_no hne,(bra _).alloc (by simp) _⟩
  ·have hne : a ≠ b := fun e => hn (by rw [e])
   have hd : (a.n != b.n) = true := by simpa using hn
   rw [← hk];clear hk hn;obtain ⟨K,hK⟩ : ∃ K,a.kind = K := ⟨_,rfl⟩;obtain ⟨N,hN⟩ : ∃ K,a.n = K := ⟨_,rfl⟩;obtain ⟨N2,hN2⟩ : ∃ K,b.n = K := ⟨_,rfl⟩;rw [hN,hN2] at hd;rw [hK,hN,hN2];clear hK hN hN2
   go_enter Tryz.func12,Tryz.ntmps12
   go_wp2_with fail;go_ret;exact ⟨sam_no hne,(bra _).alloc (by simp) _⟩
 ·have hne : a ≠ b := fun e => hk (by rw [e])
  obtain ⟨K,hK⟩ : ∃ K,a.kind = K := ⟨_,rfl⟩;obtain ⟨K2,hK2⟩ : ∃ K,b.kind = K := ⟨_,rfl⟩;rw [hK,hK2] at hk ⊢
  have h1 : (K != K2) = true := by simpa using hk
  clear hK hK2 hk
  go_enter Tryz.func12,Tryz.ntmps12
  go_wp2_with fail;go_ret;exact ⟨sam_no hne,(bra _).alloc (by simp) _⟩
theorem rsame_any : ∀ (n m : Nat) (a b : Tr) (va vb : Value) (w : World),TrIn n w va a → TrIn m w vb b → Calls Tryz.prog 12 #[va,vb] w fun e w' => SamT a b e ∧ Below w.heap.size w w'
 | 0,_,a,_,_,_,_,ha,_ => by obtain ⟨r,_,h⟩ := ha; exact h.elim
 | n + 1,m,a,b,va,vb,w,ha,hb => rsame_step n m (fun m' a b va vb w ha hb => rsame_any n m' a b va vb w ha hb) a b va vb w ha hb
theorem TrO.trIn {n B : Nat} {w : World} {r : List Value} {t : Tr} {bs : List Nat} (h : TrO n B w r t bs) : TrIn n w (.agg r.toArray) t := ⟨r,rfl,h.trC⟩
theorem rsame_eq {n m : Nat} {t : Tr} {va vb : Value} {w : World} (ha : TrIn n w va t) (hb : TrIn m w vb t) : Calls Tryz.prog 12 #[va,vb] w fun e w' => e = .returned (.bool true) ∧ Below w.heap.size w w' := by
 refine (rsame_any n m t t va vb w ha hb).mono ?_;rintro e w' ⟨⟨R,rfl,h⟩,hb⟩;have : R = true := h.2 rfl;subst this;exact ⟨rfl,hb⟩
theorem enc_byt {n : Nat} {t : Tr} (hk : t.kind = 3) (hc : chkN (n + 1) t = true) : encA (n + 1) t = bytE (n + 1) t := by
 unfold encA rawsA;rw [if_pos ⟨hk,hc⟩]
 rfl
theorem again_facts {s : ScS} {nm : ByteArray} {ns : List Nat} {T : Tr} (hb : ∀ k ∈ ns,k < 256) (h : decA s nm ns = (T,0)) :
  SmN 11 T ∧ cntN 11 T ≤ 4097 ∧ (validA 11 s nm T = 0 ∨ validA 11 s nm T = 11) ∧ (encA 11 T).2 = 0 ∧ (encA 11 T).1.length ≤ ns.length ∧ decA s nm (encA 11 T).1 = (T,0) ∧ canA s nm (encA 11 T).1 = true := by
 obtain ⟨hs,hd,h1,h2⟩ := dcA_small hb (by rw [h]);rw [h] at hd h1 h2;have hck : checkA s = 0 := (checkA_ok s).2 hs
 have h0 : (decM 10 s nm ns).2 = 0 := by rw [← hd]
 obtain ⟨hf,h64⟩ := dec_fit 10 s nm ns hb h0;obtain ⟨he,hl⟩ := dcd_len 10 11 s nm ns (by decide) hb h0;rw [← hd] at hf h64 he hl;simp only at hf h64 he hl;have hc : chkN (10 + 1) T = true := hf.chk hs (by decide);have hk : T.kind = 3 := hf.kind;have eb : encA 11 T = bytE 11 T := enc_byt hk hc;have hdp : DpN 11 T := hf.dp (by decide)
 have hback : decA s nm (encA 11 T).1 = (T,0) := by
  unfold decA;rw [hck,if_neg (by simp),eb];exact dec_back 10 11 s nm T hf (h64 11) hdp he
 have hm : (msgOf s nm).isSome = true := by
  obtain ⟨m,hm,_⟩ := hf;rw [hm]; rfl
 refine ⟨h1,h2,?_,by rw [eb]; exact he,by rw [eb]; exact hl,hback,?_⟩
 ·have hv := hf.msgV (n := 11) hs;unfold validA;rw [if_neg (by simp [hck]),if_neg (by simp [hm]),if_neg (by simp [hc,hk])];exact hv
 ·unfold canA;rw [hback];simp only;rw [eb,he]
  simp
end
section
theorem proj_twice {n : Nat} {s : ScS} {nm : ByteArray} {t R : Tr} (h : projA n s nm t = (R,true)) (hsm : SmN n t) : projA n s nm R = (R,true) ∧ FitT n s nm R ∧ bareN n R ∧ R = prM n s nm t ∧ t.kind = 3 ∧ OkS s ∧ chkN n R = true := by
 unfold projA at h
 by_cases hc : checkA s = 0 ∧ (msgOf s nm).isSome = true ∧ t.kind = 3 ∧ chkN n t = true
 ·rw [if_pos hc] at h;obtain ⟨h1,h2,h3,h4⟩ := hc;simp only [Prod.mk.injEq,and_true] at h;subst h;have hs := (checkA_ok s).1 h1;have hks := ok_kindsJ hs;simp only [chkN,Bool.and_eq_true,decide_eq_true_eq] at h4;obtain ⟨hf,hb⟩ := prM_fit hks n nm t h3 h4.2 hsm
  have hck : chkN n (prM n s nm t) = true := by
   simp only [chkN,Bool.and_eq_true,decide_eq_true_eq];exact ⟨Nat.le_trans (prM_dp n nm t h3) h4.1,hf.ok⟩
  refine ⟨?_,hf,hb,rfl,h3,hs,hck⟩;unfold projA;rw [if_pos ⟨h1,h2,by rw [hf.form],hck⟩,prM_twice hks h3 h4.2 hsm]
 ·rw [if_neg hc] at h
  simp at h
theorem one_cnt (n : Nat) (x : Tr) : 1 ≤ cntN (n + 1) x := by simp only [cntN]; omega
theorem sum_le {α : Type} {f g : α → Nat} : ∀ {l : List α},(∀ x ∈ l,f x ≤ g x) → (l.map f).sum ≤ (l.map g).sum
 | [],_ => Nat.le_refl _
 | a :: l,h => by
  have h1 := h a (List.mem_cons_self ..);have h2 := sum_le (l := l) fun x hx => h x (List.mem_cons_of_mem _ hx)
  simp only [List.map_cons,List.sum_cons]
  omega
theorem sum_drop {α : Type} (g : α → Nat) : ∀ (k : Nat) (l : List α),((l.drop k).map g).sum ≤ (l.map g).sum
 | 0,l => by simp
 | k + 1,[] => by simp
 | k + 1,a :: l => by
  have := sum_drop g k l;simp only [List.drop_succ_cons,List.map_cons,List.sum_cons]
  omega
theorem prM_cnt {s : ScS} : ∀ (n : Nat) (nm : ByteArray) (t : Tr),cntN n (prM n s nm t) ≤ cntN n t
 | 0,_,_ => Nat.le_refl _
 | n + 1,nm,t => by
  simp only [prM,cntN];refine Nat.add_le_add_left ?_ 1;generalize t.es = es
  induction es with
  | nil => exact Nat.le_refl _
  | cons e es ih =>
   have hsc : ((subs (e :: es)).map (cntN n)).sum = (e.2.map (cntN n)).sum + ((subs es).map (cntN n)).sum := by simp [subs]
   rw [hsc,List.filterMap_cons]
   cases hE : entP (prM n s) ((msgOf s nm).getD zMs).fields e with
   | none => simp only; omega
   | some e' =>
    have hsc' : ((subs (e' :: es.filterMap (entP (prM n s) ((msgOf s nm).getD zMs).fields))).map (cntN n)).sum = (e'.2.map (cntN n)).sum + ((subs (es.filterMap (entP (prM n s) ((msgOf s nm).getD zMs).fields))).map (cntN n)).sum := by simp [subs]
    simp only [hsc'];obtain ⟨f, -, -, -,rfl⟩ := entP_some hE
    have h1 : (((lastP f e.2).map (oneP (prM n s) f)).map (cntN n)).sum ≤ (e.2.map (cntN n)).sum := by
     rw [List.map_map];refine Nat.le_trans (sum_le (g := cntN n) fun x _ => ?_) ?_
     ·show cntN n (oneP (prM n s) f x) ≤ cntN n x
      unfold oneP
      split
      ·cases n with
       | zero => exact Nat.zero_le _
       | succ n => have := one_cnt n x; simp [cntN,subs] at this ⊢
      ·split
       ·exact prM_cnt n f.tname x
       ·exact Nat.le_refl _
     ·unfold lastP
      split
      ·exact Nat.le_refl _
      ·exact sum_drop _ _ _
    simp only at h1 ⊢
    omega
end
section
open Go.ChangeShapes Go.WideShapes Go.ChangeAt Go.RowKit
theorem pjawake_any (w : World) : Calls Tryz.prog 7 #[] w fun e w' => e = .returned (.bool true) ∧ Below w.heap.size w w' := by
 have c1 : Hid (∀ W,Calls Tryz.prog 13 #[.int .i64 1099511627776] W fun e w' => e = .returned (.int .i64 2147483647) ∧ Below W.heap.size W w') := fun W => clamp_any 1099511627776 W
 have c2 : Hid (∀ W,Calls Tryz.prog 13 #[.int .i64 (-1099511627776)] W fun e w' => e = .returned (.int .i64 (-2147483648)) ∧ Below W.heap.size W w') := fun W => clamp_any (-1099511627776) W
 have c3 : Hid (∀ W,Calls Tryz.prog 13 #[.int .i64 5] W fun e w' => e = .returned (.int .i64 5) ∧ Below W.heap.size W w') := fun W => clamp_any 5 W
 go_enter Tryz.func7,Tryz.ntmps7
 go_wp2_with fail;refine (c1.out _).mono ?_;rintro e w1 ⟨rfl,h1⟩;go_wp2_with fail;refine (c2.out _).mono ?_;rintro e w2 ⟨rfl,h2⟩;have h2' := h1.trans (h2.mono h1.size);clear h2;go_wp2_with fail;refine (c3.out _).mono ?_;rintro e w3 ⟨rfl,h3⟩;have h3' := h2'.trans (h3.mono h2'.size);clear h3;go_wp2_with fail;go_ret;exact ⟨rfl,h3'⟩
theorem ints_any {w : World} {v : Value} {fs : List Int} (hr : RowG w v 1 (inRows fs)) (hl : fs.length ≤ 100) :
  Calls Tryz.prog 24 #[v] w fun e w' => ∃ r,e = .returned r ∧ w'.ownsRow w.heap.size 3 1 r fs.length (inRows fs).flatten ∧ Below w.heap.size w w' := by
 have hN : (inRows fs).length = fs.length := by simp [inRows]
 have HN : Hid ((inRows fs).length = fs.length) := hN;have HR : Hid (RowG w v 1 (inRows fs)) := hr;have HL : Hid (fs.length ≤ 100) := hl;clear hr hN hl
 go_enter Tryz.func24,Tryz.ntmps24
 go_wp2_with (first
  | (at_builtin; refine wpList_joinG rfl _ _ 50 3 1 8 _ rfl Tryz.underlying50 infoIn rfl (by decide) w.heap.size (.slice none 0 0) 0 [] rfl (World.ownsRow_nil _ _ _ _) v (inRows fs) rfl HR.out (inr_len fs) (inr_one fs) ?c1 (by decide) (Nat.le_refl _) ?_)
  | fail)
 case c1 => have h1 := HN.out; have h2 := HL.out; omega
 intro r w1 ho hg;have hb : Below w.heap.size w w1 := (Below.refl _ _).grown hg (Nat.le_refl _) (fun k hk => by cases hk)
 have HO : Hid (w1.ownsRow w.heap.size 3 1 r fs.length (inRows fs).flatten) := by
  show World.ownsRow _ _ _ _ _ _ _
  rw [HN.out] at ho;exact ho
 clear hg ho;go_wp2_with fail;go_ret;exact ⟨_,rfl,HO.out,hb⟩
def ApR (ps : List (Value × Value)) : Prop := ∀ (i j : Nat) (p q : Value × Value) (k : Nat),ps[i]? = some p → ps[j]? = some q → p.2.ownBlock = some k → q.2.ownBlock = some k → i = j
def ApE (ps : List Value) : Prop := ∀ (i j : Nat) (p q : Value) (k : Nat),ps[i]? = some p → ps[j]? = some q → p.ownBlock = some k → q.ownBlock = some k → i = j
theorem ApR.nil : ApR [] := fun i j p q k hp => by simp at hp
theorem ApE.nil : ApE [] := fun i j p q k hp => by simp at hp
theorem ApR.snoc {ps : List (Value × Value)} {vf vr : Value} {H : Nat} (h : ApR ps) (hH : ∀ (i : Nat) (p : Value × Value) (k : Nat),ps[i]? = some p → p.2.ownBlock = some k → k < H) (hr : ∀ k,vr.ownBlock = some k → H ≤ k) : ApR (ps ++ [(vf,vr)]) := by
 intro i j p q k hp hq hpk hqk
 rcases get_snoc hp with ⟨hi,hp⟩ | ⟨hi,rfl⟩
 ·rcases get_snoc hq with ⟨hj,hq⟩ | ⟨hj,rfl⟩
  ·exact h i j p q k hp hq hpk hqk
  ·have a1 := hH i p k hp hpk;have a2 := hr k hqk
   omega
 ·rcases get_snoc hq with ⟨hj,hq⟩ | ⟨hj,rfl⟩
  ·have a1 := hH j q k hq hqk;have a2 := hr k hpk
   omega
  ·omega
theorem ApE.snoc {ps : List Value} {vr : Value} {H : Nat} (h : ApE ps) (hH : ∀ (i : Nat) (p : Value) (k : Nat),ps[i]? = some p → p.ownBlock = some k → k < H) (hr : ∀ k,vr.ownBlock = some k → H ≤ k) : ApE (ps ++ [vr]) := by
 intro i j p q k hp hq hpk hqk
 rcases get_snoc hp with ⟨hi,hp1⟩ | ⟨hi,ep⟩
 ·rcases get_snoc hq with ⟨hj,hq1⟩ | ⟨hj,eq⟩
  ·exact h i j p q k hp1 hq1 hpk hqk
  ·have a1 := hH i p k hp1 hpk;rw [eq] at hqk;have a2 := hr k hqk
   omega
 ·rcases get_snoc hq with ⟨hj,hq1⟩ | ⟨hj,eq⟩
  ·have a1 := hH j q k hq1 hqk;rw [ep] at hpk;have a2 := hr k hpk
   omega
  ·omega
theorem MsO.highR {w : World} {B : Nat} {v : Value} {ms : List MsS} {ps : List (Value × Value)} (h : MsO w B v ms ps) : ∀ (i : Nat) (p : Value × Value) (k : Nat),ps[i]? = some p → p.2.ownBlock = some k → k < w.heap.size := by
 intro i p k hp hk
 have hi : i < ms.length := by rw [← h.len]; exact (List.getElem?_eq_some_iff.1 hp).1
 exact ((h.each i _ p (List.getElem?_eq_getElem hi) hp).2.lt k hk).2
theorem EnO.highE {w : World} {B : Nat} {v : Value} {ms : List EnS} {ps : List Value} (h : EnO w B v ms ps) : ∀ (i : Nat) (p : Value) (k : Nat),ps[i]? = some p → p.ownBlock = some k → k < w.heap.size := by
 intro i p k hp hk
 have hi : i < ms.length := by rw [← h.len]; exact (List.getElem?_eq_some_iff.1 hp).1
 exact ((h.each i _ p (List.getElem?_eq_getElem hi) hp).lt k hk).2
end
end Go.Proofs.YtmgbhicogmclgaaGreat
