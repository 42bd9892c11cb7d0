/- Part 24 of what the proof stands on. -/
import Derived.Test.YtiajaocckkghgabGreatPkSAW
namespace Go.Proofs.YtiajaocckkghgabGreat
set_option maxHeartbeats 8000000
set_option linter.unusedVariables false
set_option linter.unusedSimpArgs false
set_option maxRecDepth 20000
open Go.ChangeShapes Go.WideShapes Go.ChangeAt Go.RowKit
theorem TrIn.all64 {n : Nat} {w : World} {v : Value} {t : Tr} (h : TrIn n w v t) : (∀ f ∈ t.rest,Is64 f.n) ∧ ∀ e ∈ t.es,∀ x ∈ e.2,Is64 x.n := by
 obtain ⟨r,_,h⟩ := h
 cases n with
 | zero => exact h.elim
 | succ n =>
  obtain ⟨ve,vr,h1,h2,h3,h4,h5,h6,h7⟩ := h;refine ⟨fun f hf => (h5 f hf).2.2.1,fun e he x hx => ?_⟩;obtain ⟨r',vt,_,_,g3⟩ := h7.all e he;obtain ⟨r'',hp⟩ := RowP.all g3 x hx
  cases n with
  | zero => exact hp.elim
  | succ n =>
   obtain ⟨_,_,_,_,q3,_⟩ := hp;exact q3
theorem fds_okR {n : Nat} {w : World} {v : Value} {t : Tr} {B : Tr → List Nat × Nat} (h : TrIn n w v t) (h1 : ∀ e ∈ t.es,e.2.length ≤ 70) (h2 : t.es.length ≤ 500) (h3 : t.rest.length ≤ 5000) : FdsOk (sortF ((fsE B t.es).map (·.1) ++ t.rest)) := by
 obtain ⟨-,q2,q3, -⟩ := sortF_all _ ((fsE B t.es).map (·.1) ++ t.rest) (Nat.le_refl _);have hl := subs_len h1;refine ⟨?_,fun r hr => ?_⟩
 ·rw [q2,List.length_append,List.length_map,fsE_len]
  omega
 ·obtain ⟨g2,g3⟩ := h.all64
  rcases List.mem_append.1 (q3 r hr) with hr | hr
  ·obtain ⟨p,hp,rfl⟩ := List.mem_map.1 hr;simp only [fsE,List.mem_flatMap,enE,List.mem_map] at hp;obtain ⟨e,he,x,hx,rfl⟩ := hp;exact flE_64 (g3 e he x hx)
  ·exact g2 r hr
theorem RwsP.err {R : List Fd × Nat} {w w' : World} {e : Int} (h : R = ([],e.toNat)) (he : 0 ≤ e) (h2 : Below w.heap.size w w') : RwsP R w (.returned (.tuple #[.slice none 0 0,.int .i64 e])) w' := by
 subst h;refine ⟨.slice none 0 0,?_,RawsAt.nil _ _,⟨by simp,by simp⟩,h2⟩;simp only;rw [Int.toNat_of_nonneg he]
theorem rsorted_at {B : Nat} {w : World} {v : Value} {n : Nat} {rs : List Fd} (h : w.ownsRow B 44 4 v n (rawCells rs)) (hl : rs.length ≤ 1000000) :
  Calls Tryz.prog 46 #[v] w fun e w' => ∃ v',e = .returned v' ∧ RawsAt w.heap.size w' v' (sortF rs) ∧ Below w.heap.size w w' := by
 obtain ⟨a,cap,rfl,_,h2,h3,h4,h5⟩ := own_openR h;refine (rsorted_any a rs rs.length cap w rfl hl (own_adrR h2) h3 h4 h5).mono ?_;rintro e w' ⟨v',rfl,g1,g2⟩;exact ⟨_,rfl,RawsAt.own g1,g2⟩
theorem rputall_at {B : Nat} {w : World} {v : Value} {rs : List Fd} (h : RawsAt B w v rs) (hr : FdsOk rs) :
  Calls Tryz.prog 68 #[v] w fun e w' => ∃ v,e = .returned (.tuple #[v,.int .i64 ((putL rs).2 : Int)]) ∧ w'.ownsRow w.heap.size 5 1 v (putL rs).1.length (byteCells (putL rs).1) ∧ Below w.heap.size w w' := by
 obtain ⟨a,cap,rfl,h2,h3,h4,h5⟩ := h;exact rputall_any a rs rs.length cap w rfl (own_adrR h2) h3 h4 hr.1 h5 hr.2
theorem own_setCell {w : World} {B : Nat} {e : TypeId} {s : Nat} {v : Value} {n : Nat} {xs : List Value} (h : w.ownsRow B e s v n xs) {p : Addr} (hp : ∀ k,v.ownBlock = some k → k ≠ p.block) (u : Value) : (w.setCell p u).ownsRow B e s v n xs := by
 refine ⟨h.1,?_⟩
 rcases h.2 with h' | ⟨g,cap,cur,h1,h2,h3,h4⟩
 ·exact .inl h'
 ·exact .inr ⟨g,cap,cur,h1,h2,(Below.heap_setCell _ _ _ _ (hp g (by rw [h1]; rfl))).trans h3,h4⟩
theorem rraws_step (m : Nat) (IE : ∀ x v w,TrIn m w v x → SmN m x → Calls Tryz.prog 45 #[v] w (EncP (bytE m x) w)) (t : Tr) (v : Value) (w : World) (ht : TrIn (m + 1) w v t) (hs : SmN (m + 1) t) :
  Calls Tryz.prog 25 #[v] w (RwsP (rwE (bytE m) t) w) := by
 have HFO : Hid (FdsOk (sortF ((fsE (bytE m) t.es).map (·.1) ++ t.rest))) := fds_okR ht (fun e he => (hs.2.2.2.2 e he).1) hs.2.2.1 hs.2.1;obtain ⟨m',ve,vr,hmn,rfl, -, -, -, -,hr,he⟩ := ht.open
 obtain rfl : m = m' := by omega
 obtain ⟨a1,c1,rfl,u1,u2, -⟩ := he.open;obtain ⟨a2,c2,rfl,x1,x2, -⟩ := rest_holds hr;have HUL : Hid (∀ i k,(uptE (bytE m) t.es i k).length ≤ 35070) := fun i k => uptE_len (fun e he => (hs.2.2.2.2 e he).1) hs.2.2.1 i k
 have HSM : Hid (∀ e ∈ t.es,e.2.length ≤ 70 ∧ ∀ x ∈ e.2,SmN m x) := hs.2.2.2.2;have HRL : Hid (t.rest.length ≤ 5000) := hs.2.1;obtain ⟨R,hR⟩ : ∃ R,rwE (bytE m) t = R := ⟨_,rfl⟩;rw [hR];have HR : Hid (rwE (bytE m) t = R) := hR;obtain ⟨K,hK⟩ : ∃ z,t.kind = z := ⟨_,rfl⟩;obtain ⟨N,hN⟩ : ∃ z,t.n = z := ⟨_,rfl⟩;obtain ⟨S,hS⟩ : ∃ z,t.s = z := ⟨_,rfl⟩;obtain ⟨n1,hn1⟩ : ∃ z,t.es.length = z := ⟨_,rfl⟩;obtain ⟨n2,hn2⟩ : ∃ z,t.rest.length = z := ⟨_,rfl⟩;rw [hK,hN,hS,hn1,hn2];rw [hn1] at he u1;rw [hn2] at hr x1;have HL : Hid (t.es.length = n1 ∧ t.rest.length = n2) := ⟨hn1,hn2⟩;have HE : Hid (EnsIn m w (.slice a1 n1 c1) t.es) := he;have HRR : Hid (RowG w (.slice a2 n2 c2) 4 (fdRows t.rest)) := hr;have HIE : Hid (∀ x v w,TrIn m w v x → SmN m x → Calls Tryz.prog 45 #[v] w (EncP (bytE m x) w)) := IE;unfold maxLen at u2 x2;obtain ⟨Z,hZ⟩ : ∃ Z,Z = w.alloc (Obj.cells #[.int .i64 K,.int .i64 N,.string S,.slice a1 n1 c1,.slice a2 n2 c2] 39) := ⟨_,rfl⟩
 have BT : Blk Z w.heap.size #[.int .i64 K,.int .i64 N,.string S,.slice a1 n1 c1,.slice a2 n2 c2] 39 := by
  rw [hZ];exact Blk.new w _ _
 have hZb : Below w.heap.size w Z := by
  rw [hZ];exact (Below.refl _ _).alloc (Nat.le_refl _) _
 clear hR ht IE hn1 hn2 hK hN hS hmn hs he hr
 go_enter Tryz.func25,Tryz.ntmps25
 go_wp2_with fail;rw [← hZ];have HSZ2 : Hid (w.heap.size < Z.heap.size) := BT.lt;clear hZ;obtain ⟨s,hs⟩ : ∃ s,w.heap.size = s := ⟨_,rfl⟩;have HSZ : Hid (w.heap.size = s) := hs;rw [hs] at BT;simp only [hs];clear hs;have HBT : Hid (Blk Z s #[.int .i64 K,.int .i64 N,.string S,.slice a1 n1 c1,.slice a2 n2 c2] 39) := BT;clear BT
 go_loopw [4,5] (fun ov iv wr => ∃ (out : Value) (i : Nat),out = ov ∧ iv = .int .i64 (i : Int) ∧ i ≤ n1 ∧ Hid (errE (fsE (bytE m) (t.es.take i)) = 0) ∧ Hid (wr.ownsRow Z.heap.size 44 4 out ((fsE (bytE m) (t.es.take i)).map (·.1)).length (rawCells ((fsE (bytE m) (t.es.take i)).map (·.1)))) ∧ Below Z.heap.size Z wr) (fun _ iv _ => n1 - (intOf iv).toNat)
 case atStart => exact ⟨_,0,rfl,rfl,by omega,(by simp [fsE,errE] : errE (fsE (bytE m) (t.es.take 0)) = 0),World.ownsRow_nil _ _ _ _,Below.refl _ _⟩
 case round =>
  obtain ⟨out,i,rfl,rfl,hi,HI,HO,hbr⟩ := hrel;have HBR : Hid (Below w.heap.size w wr) := hZb.trans (hbr.mono hZb.size);have BTr := HBT.out.below hbr;have q3 := (BTr.cell 3).trans rfl;have q4 := (BTr.cell 4).trans rfl;clear BTr
  by_cases hlt2 : i < n1
  ·obtain ⟨e,hx⟩ : ∃ r,t.es[i]? = some r := ⟨_,List.getElem?_eq_getElem (by rw [HL.out.1]; exact hlt2)⟩;obtain ⟨gx,ox,rfl,hrow⟩ := RowP.get HE.out hx;obtain ⟨vt,y0,y1, -,hvt⟩ := ens_at hrow;obtain ⟨xa,xc,rfl,hxc,hxm, -⟩ := hvt.open;have HIX : Hid (t.es[i]? = some e) := hx;obtain ⟨e1,he1⟩ : ∃ z,e.1 = z := ⟨_,rfl⟩;obtain ⟨Xl,hXl⟩ : ∃ z,e.2.length = z := ⟨_,rfl⟩;rw [he1] at y0;rw [hXl] at y1 hvt hxc;have HEE : Hid (e.1 = e1 ∧ e.2.length = Xl) := ⟨he1,hXl⟩;have HXT : Hid (TrsIn m w (.slice xa Xl xc) e.2) := hvt;have HY : Hid (w.cell? ⟨gx,ox + i * 2,none⟩ = some (.int .i64 e1) ∧ w.cell? ⟨gx,ox + i * 2 + 1,none⟩ = some (.slice xa Xl xc)) := ⟨y0,y1⟩;unfold maxLen at hxm;have HOe : Hid (wr.ownsRow Z.heap.size 44 4 out ((uptE (bytE m) t.es i 0).map (·.1)).length (rawCells ((uptE (bytE m) t.es i 0).map (·.1)))) := (by rw [uptE_zero]; exact HO.out : wr.ownsRow Z.heap.size 44 4 out ((uptE (bytE m) t.es i 0).map (·.1)).length (rawCells ((uptE (bytE m) t.es i 0).map (·.1))));have HIe : Hid (errE (uptE (bytE m) t.es i 0) = 0) := (by rw [uptE_zero]; exact HI.out : errE (uptE (bytE m) t.es i 0) = 0);clear hx he1 hXl hvt hrow HI HO HBR y0 y1;go_wp2_with fail
   go_loopw [4,6] (fun ov kv wr => ∃ (out : Value) (k : Nat),out = ov ∧ kv = .int .i64 (k : Int) ∧ k ≤ Xl ∧ Hid (errE (uptE (bytE m) t.es i k) = 0) ∧ Hid (wr.ownsRow Z.heap.size 44 4 out ((uptE (bytE m) t.es i k).map (·.1)).length (rawCells ((uptE (bytE m) t.es i k).map (·.1)))) ∧ Below Z.heap.size Z wr) (fun _ kv _ => Xl - (intOf kv).toNat)
   case atStart => exact ⟨_,0,rfl,rfl,by omega,HIe,HOe,hbr⟩
   case round =>
    obtain ⟨out,k,rfl,rfl,hk,HI,HO,hbr⟩ := hrel;have hbwr : Below w.heap.size w wr := hZb.trans (hbr.mono hZb.size);have BTr := HBT.out.below hbr;have q3 := (BTr.cell 3).trans rfl;have f0 := (hbwr.cell (World.block_lt_of_cell? _ _ HY.out.1)).trans HY.out.1;have f1 := (hbwr.cell (World.block_lt_of_cell? _ _ HY.out.2)).trans HY.out.2;clear BTr
    by_cases hlt3 : k < Xl
    ·obtain ⟨x,hx⟩ : ∃ r,e.2[k]? = some r := ⟨_,List.getElem?_eq_getElem (by rw [HEE.out.2]; exact hlt3)⟩;obtain ⟨gy,oy,rfl,hrow⟩ := RowP.get (RowP.belowT HXT.out hbwr) hx;obtain ⟨y1,z1,v1,y2,z2,v2,p0,p1,p2,p3,p4,hxw⟩ := trs_get hrow;obtain ⟨YK,hYK⟩ : ∃ z,x.kind = z := ⟨_,rfl⟩;obtain ⟨YN,hYN⟩ : ∃ z,x.n = z := ⟨_,rfl⟩;obtain ⟨YS,hYS⟩ : ∃ z,x.s = z := ⟨_,rfl⟩;rw [hYK] at p0 hxw;rw [hYN] at p1 hxw;rw [hYS] at p2 hxw;have HXP : Hid (x.kind = YK ∧ x.n = YN ∧ x.s = YS) := ⟨hYK,hYN,hYS⟩;have HXW : Hid (TrIn m wr (.agg #[.int .i64 YK,.int .i64 YN,.string YS,.slice y1 z1 v1,.slice y2 z2 v2]) x) := hxw;have hsx : SmN m x := (HSM.out e (List.mem_of_getElem? HIX.out)).2 x (List.mem_of_getElem? hx);have HSX : Hid (SmN m x) := hsx;have HUS : Hid (uptE (bytE m) t.es i (k + 1) = uptE (bytE m) t.es i k ++ [flE (bytE m) e1 x]) := (by have := uptE_step (B := bytE m) HIX.out hx; rw [HEE.out.1] at this; exact this : _ = _)
     have HUH : Hid ((flE (bytE m) e1 x).2 ≠ 0 → errE (fsE (bytE m) t.es) = (flE (bytE m) e1 x).2) := fun h => by have := errE_hit (B := bytE m) HIX.out hx HI.out; rw [HEE.out.1] at this; exact this h
     have hln : ((uptE (bytE m) t.es i k).map (·.1)).length ≤ 35070 := by rw [List.length_map]; exact HUL.out i k
     obtain ⟨acc,hacc⟩ : ∃ z,(uptE (bytE m) t.es i k).map (·.1) = z := ⟨_,rfl⟩;rw [hacc] at HO hln;have HAC : Hid ((uptE (bytE m) t.es i k).map (·.1) = acc) := hacc;obtain ⟨al,hal⟩ : ∃ z,acc.length = z := ⟨_,rfl⟩;rw [hal] at HO hln;have HAL : Hid (acc.length = al) := hal;obtain ⟨i0,hif,hz0,hz1,hz2⟩ := info_parts infoRaw;have hzw : Z.heap.size ≤ wr.heap.size := hbr.size;have hs_lt : s < wr.heap.size := World.block_lt_of_cell? _ _ q3;have hgx : gx < wr.heap.size := World.block_lt_of_cell? _ _ f0;have hgy : gy < wr.heap.size := World.block_lt_of_cell? _ _ p0;clear hx hrow hYK hYN hYS hxw hsx hacc hal
     by_cases h1 : YK = 1
     ·subst h1;have HF : Hid (flE (bytE m) e1 x = (⟨e1,0,YN,⟨#[]⟩⟩,0)) := (by unfold flE; rw [if_pos HXP.out.1,HXP.out.2.1] : _ = _)
      go_wp2_with (first
       | (at_builtin; refine wpList_append_own _ rfl _ _ 37 rfl Z.heap.size 44 i0 _ 4 40 Tryz.underlying37 hif hz0 hz1 hz2 rfl (by decide) _ _ _ rfl (((HO.out.alloc _).alloc _).alloc _) ⟨wr.heap.size + 1 + 1,0,none⟩ 1 1 (Fd.cells ⟨e1,0,YN,⟨#[]⟩⟩) rfl rfl ?c1 ?c2 ?c3 ?c4 ?c5 ?_)
       | fail)
      case c1 =>
       intro j u hj;rw [Addr.add_lit,Nat.zero_add];exact ((Blk.newAt (by simp)).cell j).trans (by simpa [Fd.cells] using hj)
      case c2 => intro u hu; simp [Fd.cells] at hu; rcases hu with rfl | rfl | rfl | rfl <;> rfl
      case c3 => unfold maxLen; omega
      case c4 => omega
      case c5 => simp; omega
      intro v5 w5 ho5 hg5 _;have hbz5 : Below Z.heap.size Z w5 := (((hbr.alloc hzw _).alloc (by simp; omega) _).alloc (by simp; omega) _).grown hg5 (by simp; omega) (fun k hk => (HO.out.lt k hk).1);have HI2 : Hid (errE (uptE (bytE m) t.es i (k + 1)) = 0) := (by rw [HUS.out,errE_app,if_pos HI.out,errE_one,HF.out] : errE (uptE (bytE m) t.es i (k + 1)) = 0)
      have HO5 : Hid (w5.ownsRow Z.heap.size 44 4 v5 ((uptE (bytE m) t.es i (k + 1)).map (·.1)).length (rawCells ((uptE (bytE m) t.es i (k + 1)).map (·.1)))) := (by
       rw [HUS.out,List.map_append,HAC.out,HF.out,List.map_cons,List.map_nil,(rawCells_snoc' acc _).1,(rawCells_snoc' acc _).2,HAL.out]
       exact ho5 : w5.ownsRow Z.heap.size 44 4 v5 ((uptE (bytE m) t.es i (k + 1)).map (·.1)).length (rawCells ((uptE (bytE m) t.es i (k + 1)).map (·.1))))
      clear ho5 hg5 HO HI HUS HUH;go_wp2_with fail
      go_roundw
      case rel => exact ⟨_,k + 1,rfl,by go_num,by omega,HI2,HO5,hbz5⟩
      case measure => simp [intOf]; omega
     ·by_cases h2 : YK = 2
      ·subst h2
       by_cases h3 : 4096 < YS.size
       ·have HF : Hid (flE (bytE m) e1 x = (fd0,4)) := (by unfold flE; rw [if_neg (by rw [HXP.out.1]; decide),if_pos HXP.out.1,HXP.out.2.2,if_pos h3] : _ = _)
        have HR2 : Hid (R = ([],4)) := (by
         have h1 := HUH.out (by rw [HF.out]; decide);rw [HF.out] at h1
         rw [← HR.out,rwE_no (by rw [h1]; decide),h1] : R = _)
        have hbf : ∀ o o',Below w.heap.size w ((wr.alloc o).alloc o') := fun o o' => (hbwr.alloc hbwr.size _).alloc (by simp; have := hbwr.size; omega) _
        clear HUH HUS HF;go_wp2_with fail
        go_ret2
        exact RwsP.err HR2.out (by decide) (hbf _ _)
       ·have HF : Hid (flE (bytE m) e1 x = (⟨e1,1,0,YS⟩,0)) := (by unfold flE; rw [if_neg (by rw [HXP.out.1]; decide),if_pos HXP.out.1,HXP.out.2.2,if_neg h3] : _ = _)
        go_wp2_with (first
         | (at_builtin; refine wpList_append_own _ rfl _ _ 37 rfl Z.heap.size 44 i0 _ 4 40 Tryz.underlying37 hif hz0 hz1 hz2 rfl (by decide) _ _ _ rfl (((HO.out.alloc _).alloc _).alloc _) ⟨wr.heap.size + 1 + 1,0,none⟩ 1 1 (Fd.cells ⟨e1,1,0,YS⟩) rfl rfl ?c1 ?c2 ?c3 ?c4 ?c5 ?_)
         | fail)
        case c1 =>
         intro j u hj;rw [Addr.add_lit,Nat.zero_add];exact ((Blk.newAt (by simp)).cell j).trans (by simpa [Fd.cells] using hj)
        case c2 => intro u hu; simp [Fd.cells] at hu; rcases hu with rfl | rfl | rfl | rfl <;> rfl
        case c3 => unfold maxLen; omega
        case c4 => omega
        case c5 => simp; omega
        intro v5 w5 ho5 hg5 _;have hbz5 : Below Z.heap.size Z w5 := (((hbr.alloc hzw _).alloc (by simp; omega) _).alloc (by simp; omega) _).grown hg5 (by simp; omega) (fun k hk => (HO.out.lt k hk).1);have HI2 : Hid (errE (uptE (bytE m) t.es i (k + 1)) = 0) := (by rw [HUS.out,errE_app,if_pos HI.out,errE_one,HF.out] : errE (uptE (bytE m) t.es i (k + 1)) = 0)
        have HO5 : Hid (w5.ownsRow Z.heap.size 44 4 v5 ((uptE (bytE m) t.es i (k + 1)).map (·.1)).length (rawCells ((uptE (bytE m) t.es i (k + 1)).map (·.1)))) := (by
         rw [HUS.out,List.map_append,HAC.out,HF.out,List.map_cons,List.map_nil,(rawCells_snoc' acc _).1,(rawCells_snoc' acc _).2,HAL.out]
         exact ho5 : w5.ownsRow Z.heap.size 44 4 v5 ((uptE (bytE m) t.es i (k + 1)).map (·.1)).length (rawCells ((uptE (bytE m) t.es i (k + 1)).map (·.1))))
        clear ho5 hg5 HO HI HUS HUH;go_wp2_with fail
        go_roundw
        case rel => exact ⟨_,k + 1,rfl,by go_num,by omega,HI2,HO5,hbz5⟩
        case measure => simp [intOf]; omega
      ·have d1 : (YK == 1) = false := by simpa using h1
       have d2 : (YK == 2) = false := by simpa using h2
       have HF0 : Hid (flE (bytE m) e1 x = if (bytE m x).2 ≠ 0 then (fd0,(bytE m x).2) else (⟨e1,1,0,strN (bytE m x).1⟩,0)) := (by unfold flE; rw [if_neg (by rw [HXP.out.1]; exact h1),if_neg (by rw [HXP.out.1]; exact h2)] : _ = _);clear h1 h2;obtain ⟨W,hW⟩ : ∃ W,W = (wr.alloc (Obj.cells #[.int .i64 YK,.int .i64 YN,.string YS,.slice y1 z1 v1,.slice y2 z2 v2] 39)).alloc (Obj.cells #[.int .i64 e1,.int .i64 1,.int .i64 0,.string ⟨#[]⟩] 44) := ⟨_,rfl⟩
       have alW : Below wr.heap.size wr W := by rw [hW]; exact ((Below.refl _ _).alloc (Nat.le_refl _) _).alloc (by simp) _
       have BX : Blk W wr.heap.size #[.int .i64 YK,.int .i64 YN,.string YS,.slice y1 z1 v1,.slice y2 z2 v2] 39 := by rw [hW]; exact (Blk.newAt rfl).up _
       have BR : Blk W (wr.heap.size + 1) #[.int .i64 e1,.int .i64 1,.int .i64 0,.string ⟨#[]⟩] 44 := by rw [hW]; exact Blk.newAt (by simp)
       have HEC : Hid (Calls Tryz.prog 45 #[.agg #[.int .i64 YK,.int .i64 YN,.string YS,.slice y1 z1 v1,.slice y2 z2 v2]] W (EncP (bytE m x) W)) := HIE.out x _ W (HXW.out.below alW) HSX.out;go_wp2_with fail;rw [← hW];clear hW;refine Calls.mono HEC.out ?_;rintro ee w4 ⟨r4,rfl,ho4,hb4⟩;have hbr4 : Below wr.heap.size wr w4 := alW.trans (hb4.mono alW.size);have hcv := conv_own ho4;have HLE : Hid ((bytE m x).1.length ≤ 4096) := bytE_le m x;have BR4 := BR.below hb4;have HO4 : Hid (w4.ownsRow Z.heap.size 44 4 out al (rawCells acc)) := own_belowH HO hbr4;have hlt4 : wr.heap.size + 1 < w4.heap.size := BR4.lt
       have HOB : Hid (∀ k,out.ownBlock = some k → k ≠ wr.heap.size + 1) := fun k hk => by have := (HO.out.lt k hk).2; omega
       have hbw4 : Below w.heap.size w w4 := hbwr.trans (hbr4.mono hbwr.size);have hbz4 : Below Z.heap.size Z w4 := hbr.trans (hbr4.mono hbr.size);clear HEC ho4 hb4 BX BR alW HO;generalize bytE m x = q at *;obtain ⟨ns,er⟩ := q;simp only at hcv HLE HF0 ⊢
       by_cases her : er = 0
       rotate_left
       ·have hd : ((er : Int) != 0) = true := by simp; omega
        have HR2 : Hid (R = ([],((er : Int)).toNat)) := (by
         have h0 : flE (bytE m) e1 x = (fd0,er) := by rw [HF0.out,if_pos her]
         have h1 := HUH.out (by rw [h0]; exact her);rw [h0] at h1;rw [← HR.out,rwE_no (by rw [h1]; exact her),h1]
         rfl : R = _)
        clear her HUH HUS HF0 hcv;go_wp2_with fail
        go_ret2
        exact RwsP.err HR2.out (by omega) hbw4
       ·subst her;have HF : Hid (flE (bytE m) e1 x = (⟨e1,1,0,strN ns⟩,0)) := (by rw [HF0.out,if_neg (by simp)] : _ = _)
        have hsz : (strN ns).size ≤ 4096 := by rw [strN_size]; exact HLE.out
        generalize strN ns = T at *;have r0 := (BR4.cell 0).trans rfl;have r1 := (BR4.cell 1).trans rfl;have r2 := (BR4.cell 2).trans rfl;have r3 := (BR4.cell 3).trans rfl;have zr3 := BR4.froz 3
        have hts : ¬ 4096 < T.size := by omega
        clear HF0 HLE
        go_wp2_with (first
         | (at_builtin; refine wpList_append_own _ rfl _ _ 37 rfl Z.heap.size 44 i0 _ 4 40 Tryz.underlying37 hif hz0 hz1 hz2 rfl (by decide) _ _ _ rfl ((own_setCell HO4.out HOB.out _).alloc _) ⟨w4.heap.size,0,none⟩ 1 1 (Fd.cells ⟨e1,1,0,T⟩) rfl rfl ?c1 ?c2 ?c3 ?c4 ?c5 ?_)
         | fail)
        case c1 =>
         intro j u hj;rw [Addr.add_lit,Nat.zero_add];exact ((Blk.newAt (by simp)).cell j).trans (by simpa [Fd.cells] using hj)
        case c2 => intro u hu; simp [Fd.cells] at hu; rcases hu with rfl | rfl | rfl | rfl <;> rfl
        case c3 => unfold maxLen; omega
        case c4 => omega
        case c5 => simp; omega
        intro v5 w5 ho5 hg5 _;have hbz5 : Below Z.heap.size Z w5 := ((hbz4.setCell (by show Z.heap.size ≤ wr.heap.size + 1; omega) _).alloc (by simp; omega) _).grown hg5 (by simp; omega) (fun k hk => (HO4.out.lt k hk).1);have HI2 : Hid (errE (uptE (bytE m) t.es i (k + 1)) = 0) := (by rw [HUS.out,errE_app,if_pos HI.out,errE_one,HF.out] : errE (uptE (bytE m) t.es i (k + 1)) = 0)
        have HO5 : Hid (w5.ownsRow Z.heap.size 44 4 v5 ((uptE (bytE m) t.es i (k + 1)).map (·.1)).length (rawCells ((uptE (bytE m) t.es i (k + 1)).map (·.1)))) := (by
         rw [HUS.out,List.map_append,HAC.out,HF.out,List.map_cons,List.map_nil,(rawCells_snoc' acc _).1,(rawCells_snoc' acc _).2,HAL.out]
         exact ho5 : w5.ownsRow Z.heap.size 44 4 v5 ((uptE (bytE m) t.es i (k + 1)).map (·.1)).length (rawCells ((uptE (bytE m) t.es i (k + 1)).map (·.1))))
        clear ho5 hg5 HO4 HI HUS HUH;go_wp2_with fail
        go_roundw
        case rel => exact ⟨_,k + 1,rfl,by go_num,by omega,HI2,HO5,hbz5⟩
        case measure => simp [intOf]; omega
    ·obtain rfl : k = Xl := by omega
     have HI2 : Hid (errE (fsE (bytE m) (t.es.take (i + 1))) = 0) := (by rw [← uptE_end HIX.out,HEE.out.2]; exact HI.out : errE (fsE (bytE m) (t.es.take (i + 1))) = 0);have HO2 : Hid (wr.ownsRow Z.heap.size 44 4 out ((fsE (bytE m) (t.es.take (i + 1))).map (·.1)).length (rawCells ((fsE (bytE m) (t.es.take (i + 1))).map (·.1)))) := (by rw [← uptE_end HIX.out,HEE.out.2]; exact HO.out : wr.ownsRow Z.heap.size 44 4 out ((fsE (bytE m) (t.es.take (i + 1))).map (·.1)).length (rawCells ((fsE (bytE m) (t.es.take (i + 1))).map (·.1))));clear HI HO;go_wp2_with fail
     go_roundw
     case rel => exact ⟨_,i + 1,rfl,by go_num,by omega,HI2,HO2,hbr⟩
     case measure => simp [intOf]; omega
  ·obtain rfl : i = n1 := by omega
   have HI0 : Hid (errE (fsE (bytE m) t.es) = 0) := (by
    have h1 := HI.out;rw [List.take_of_length_le (by rw [HL.out.1]; exact Nat.le_refl _)] at h1
    exact h1 : errE (fsE (bytE m) t.es) = 0)
   have HRV : Hid (R = (sortF ((fsE (bytE m) t.es).map (·.1) ++ t.rest),0)) := (by rw [← HR.out,rwE_ok HI0.out] : R = _)
   have HLN : Hid (((fsE (bytE m) t.es).map (·.1)).length ≤ 35070) := (by
    have h1 := HUL.out i 0;rw [uptE_zero,List.take_of_length_le (by rw [HL.out.1]; exact Nat.le_refl _)] at h1
    rw [List.length_map]; exact h1 : ((fsE (bytE m) t.es).map (·.1)).length ≤ 35070)
   have HO2 : Hid (wr.ownsRow Z.heap.size 44 4 out ((fsE (bytE m) t.es).map (·.1)).length (rawCells ((fsE (bytE m) t.es).map (·.1)))) := (by
    have h1 := HO.out;rw [List.take_of_length_le (by rw [HL.out.1]; exact Nat.le_refl _)] at h1
    exact h1 : wr.ownsRow Z.heap.size 44 4 out ((fsE (bytE m) t.es).map (·.1)).length (rawCells ((fsE (bytE m) t.es).map (·.1))))
   obtain ⟨acc,hacc⟩ : ∃ z,(fsE (bytE m) t.es).map (·.1) = z := ⟨_,rfl⟩;rw [hacc] at HO2 HLN HRV HFO;have HRG : Hid (RowG wr (.slice a2 n2 c2) 4 (fdRows t.rest)) := HRR.out.below HBR.out;have HFN : Hid ((fdRows t.rest).length = t.rest.length) := (by simp [fdRows] : (fdRows t.rest).length = t.rest.length);have hws : Z.heap.size ≤ wr.heap.size := hbr.size;clear hacc HO HI HI0
   go_wp2_with (first
    | (at_builtin; refine wpList_joinG rfl _ _ 37 44 4 40 _ rfl Tryz.underlying37 infoRaw rfl (by decide) Z.heap.size out acc.length (rawCells acc) rfl HO2.out (.slice a2 n2 c2) (fdRows t.rest) rfl HRG.out (fdr_len t.rest) (fdr_one t.rest) ?c1 (by decide) hws ?_)
    | fail)
   case c1 => have h1 := HFN.out; have h2 := HLN.out; have h3 := HRL.out; have h4 := HL.out.2; omega
   intro v5 w5 ho5 hg5;have hb5 : Below w.heap.size w w5 := HBR.out.grown hg5 HBR.out.size (fun k hk => Nat.le_trans (Nat.le_of_lt HSZ2.out) (HO2.out.lt k hk).1)
   have HO5 : Hid (w5.ownsRow Z.heap.size 44 4 v5 (acc ++ t.rest).length (rawCells (acc ++ t.rest))) := (by
    rw [rawCells_app,rawCells_flat t.rest,List.length_append,← HFN.out]
    exact ho5 : w5.ownsRow Z.heap.size 44 4 v5 (acc ++ t.rest).length (rawCells (acc ++ t.rest)))
   have HSC : Hid (Calls Tryz.prog 46 #[v5] w5 fun e w' => ∃ v',e = .returned v' ∧ RawsAt w5.heap.size w' v' (sortF (acc ++ t.rest)) ∧ Below w5.heap.size w5 w') := rsorted_at HO5.out (by rw [List.length_append]; have h2 := HLN.out; have h3 := HRL.out; have h4 := HL.out.2; omega);clear ho5 hg5 HO2 HO5 HRG q3 q4;go_wp2_with fail;refine Calls.mono HSC.out ?_;rintro ee w6 ⟨v6,rfl,hra,hb6⟩
   have HRA : Hid (RawsAt w.heap.size w6 v6 (sortF (acc ++ t.rest))) := (by
    obtain ⟨qa,qc,q1,q2,q3,q4,q5⟩ := hra;refine ⟨qa,qc,q1,?_,q3,q4,q5⟩
    rcases q2 with h | ⟨g,g1,g2,g3⟩
    ·exact .inl h
    ·exact .inr ⟨g,g1,Nat.le_trans hb5.size g2,g3⟩ : RawsAt w.heap.size w6 v6 (sortF (acc ++ t.rest)))
   have hbw6 : Below w.heap.size w w6 := hb5.trans (hb6.mono hb5.size);clear hra hb6 HSC hb5;go_wp2_with fail
   go_ret2
   exact ⟨v6,by rw [HRV.out]; rfl,by rw [HRV.out]; exact HRA.out,by rw [HRV.out]; exact HFO.out,hbw6⟩
theorem rencode_step (Q : List Fd × Nat) (t : Tr) (n : Nat) (v : Value) (w : World) (ht : TrIn n w v t) (IR : ∀ W,Below w.heap.size w W → Calls Tryz.prog 25 #[v] W (RwsP Q W)) : Calls Tryz.prog 45 #[v] w (EncP (ofR Q) w) := by
 obtain ⟨R,hR⟩ : ∃ R,ofR Q = R := ⟨_,rfl⟩;have HR : Hid (ofR Q = R) := hR;rw [hR];obtain ⟨m',ve,vr, -,rfl, -, -, -, -,ra,ea⟩ := ht.open;obtain ⟨a1,c1,rfl, -⟩ := ea.open;obtain ⟨a2,c2,rfl, -⟩ := rest_holds ra;have HRC : Hid (∀ W,Below w.heap.size w W → Calls Tryz.prog 25 #[.agg #[.int .i64 t.kind,.int .i64 t.n,.string t.s,.slice a1 t.es.length c1,.slice a2 t.rest.length c2]] W (RwsP Q W)) := IR;generalize t.kind = K at *;generalize t.n = N at *;generalize t.s = S at *;generalize t.es.length = n1 at *;generalize t.rest.length = n2 at *;have hbw : Below w.heap.size w (w.alloc (Obj.cells #[.int .i64 K,.int .i64 N,.string S,.slice a1 n1 c1,.slice a2 n2 c2] 39)) := (Below.refl _ _).alloc (Nat.le_refl _) _;clear hR ht ra ea IR
 go_enter Tryz.func45,Tryz.ntmps45
 go_wp2_with fail;refine Calls.mono (HRC.out _ hbw) ?_;rintro ee w1 ⟨r,rfl,hra,hok,hb1⟩;have hbw1 : Below w.heap.size w w1 := hbw.trans (hb1.mono hbw.size);obtain ⟨rs,er⟩ := Q;have HPC : Hid (Calls Tryz.prog 68 #[r] w1 fun e w' => ∃ v,e = .returned (.tuple #[v,.int .i64 ((putL rs).2 : Int)]) ∧ w'.ownsRow w1.heap.size 5 1 v (putL rs).1.length (byteCells (putL rs).1) ∧ Below w1.heap.size w1 w') := rputall_at hra hok;clear hra hok hb1 hbw HRC
 by_cases he : er = 0
 ·subst he;have HRV : Hid (putL rs = R) := (by have := HR.out; rw [ofR,if_neg (by simp)] at this; exact this : putL rs = R);rw [HRV.out] at HPC;clear HR HRV;go_wp2_with fail;refine Calls.mono HPC.out ?_;rintro ee w2 ⟨u,rfl,ho,hb2⟩;have hbw2 : Below w.heap.size w w2 := hbw1.trans (hb2.mono hbw1.size)
  have HO : Hid (w2.ownsRow w.heap.size 5 1 u R.1.length (byteCells R.1)) := (by
   refine ⟨ho.1,?_⟩
   rcases ho.2 with h | ⟨g,cap,cur,h1,h2,h3⟩
   ·exact .inl h
   ·exact .inr ⟨g,cap,cur,h1,Nat.le_trans hbw1.size h2,h3⟩ : w2.ownsRow w.heap.size 5 1 u R.1.length (byteCells R.1))
  clear ho hb2 HPC;go_wp2_with fail
  go_ret2
  exact ⟨u,rfl,HO.out,hbw2⟩
 ·have hd : ((er : Int) != 0) = true := by simp; omega
  have HRV : Hid (R = ([],er)) := (by have := HR.out; rw [ofR,if_pos he] at this; exact this.symm : R = _);clear HR HPC he;go_wp2_with fail
  go_ret2
  exact EncP.no HRV.out hbw1
theorem rraws_any : ∀ (m : Nat) (t : Tr) (v : Value) (w : World),TrIn m w v t → SmN m t → Calls Tryz.prog 25 #[v] w (RwsP (rwE (bytE (m - 1)) t) w)
 | 0,_,_,_,h,_ => by obtain ⟨r,_,h⟩ := h; exact h.elim
 | m + 1,t,v,w,h,hs => rraws_step m (fun x v w h hs => by
   cases m with
   | zero => obtain ⟨r,_,h⟩ := h; exact h.elim
   | succ m => exact rencode_step _ x (m + 1) v w h fun W hW => rraws_any (m + 1) x v W (h.below hW) hs) t v w h hs
theorem rRaws_any (n : Nat) (t : Tr) (v : Value) (w : World) (ht : TrIn n w v t) (hs : SmN n t) (hn : n ≤ 100) : Calls Tryz.prog 11 #[v] w (RwsP (rawsA n t) w) := by
 obtain ⟨R,hR⟩ : ∃ R,rawsA n t = R := ⟨_,rfl⟩;have HR : Hid (rawsA n t = R) := hR;rw [hR];have HCK0 : Hid (∀ W,Below w.heap.size w W → Calls Tryz.prog 24 #[v] W fun e w' => e = .returned (.bool (chkN n t)) ∧ Below W.heap.size W w') := fun W hW => rCheck_any n t v W (ht.below hW) hn
 have HRC0 : Hid (∀ W,Below w.heap.size w W → Calls Tryz.prog 25 #[v] W (RwsP (rwE (bytE (n - 1)) t) W)) := fun W hW => rraws_any n t v W (ht.below hW) hs
 cases n with
 | zero => exact hs.elim
 | succ n =>
  obtain ⟨m',ve,vr, -,rfl, -, -, -, -,ra,ea⟩ := ht.open;obtain ⟨a1,c1,rfl, -⟩ := ea.open;obtain ⟨a2,c2,rfl, -⟩ := rest_holds ra;have HCK : Hid (∀ W,Below w.heap.size w W → Calls Tryz.prog 24 #[.agg #[.int .i64 t.kind,.int .i64 t.n,.string t.s,.slice a1 t.es.length c1,.slice a2 t.rest.length c2]] W fun e w' => e = .returned (.bool (chkN (n + 1) t)) ∧ Below W.heap.size W w') := HCK0.out;have HRC : Hid (∀ W,Below w.heap.size w W → Calls Tryz.prog 25 #[.agg #[.int .i64 t.kind,.int .i64 t.n,.string t.s,.slice a1 t.es.length c1,.slice a2 t.rest.length c2]] W (RwsP (rwE (bytE (n + 1 - 1)) t) W)) := HRC0.out;obtain ⟨K,hK⟩ : ∃ z,t.kind = z := ⟨_,rfl⟩;have HT3 : Hid (t.kind = K) := hK;rw [hK] at HCK HRC ⊢;generalize t.n = N at *;generalize t.s = S at *;generalize t.es.length = n1 at *;generalize t.rest.length = n2 at *;have BT : Blk (w.alloc (Obj.cells #[.int .i64 K,.int .i64 N,.string S,.slice a1 n1 c1,.slice a2 n2 c2] 39)) w.heap.size #[.int .i64 K,.int .i64 N,.string S,.slice a1 n1 c1,.slice a2 n2 c2] 39 := Blk.new w _ _;have hbw : Below w.heap.size w (w.alloc (Obj.cells #[.int .i64 K,.int .i64 N,.string S,.slice a1 n1 c1,.slice a2 n2 c2] 39)) := (Below.refl _ _).alloc (Nat.le_refl _) _;clear hR ht ra ea hs hn hK HCK0 HRC0
  by_cases hK3 : K = 3
  rotate_left
  ·have d : (K != 3) = true := by simpa using hK3
   have HRV : Hid (R = ([],1)) := (by rw [← HR.out]; unfold rawsA; rw [if_neg (by rw [HT3.out]; exact fun h => hK3 h.1)] : R = _);clear hK3 HR HT3 HCK HRC BT
   go_enter Tryz.func11,Tryz.ntmps11
   go_wp2_with fail
   go_ret2
   exact RwsP.no HRV.out hbw
  ·subst hK3
   go_enter Tryz.func11,Tryz.ntmps11
   go_wp2_with fail;refine (HCK.out _ hbw).mono ?_;rintro ee w1 ⟨rfl,hb1⟩;have hbw1 : Below w.heap.size w w1 := hbw.trans (hb1.mono hbw.size);have BT1 := BT.below hb1;clear hb1 hbw BT HCK;obtain ⟨C,hC⟩ : ∃ z,chkN (n + 1) t = z := ⟨_,rfl⟩;have HC : Hid (chkN (n + 1) t = C) := hC;rw [hC];clear hC
   cases C with
   | false =>
    have HRV : Hid (R = ([],1)) := (by rw [← HR.out]; unfold rawsA; rw [if_neg (by rw [HT3.out]; exact fun h => absurd h.2 (by rw [HC.out]; decide))] : R = _);clear HR HC HRC;go_wp2_with fail
    go_ret2
    exact RwsP.no HRV.out hbw1
   | true =>
    have HRV : Hid (rwE (bytE (n + 1 - 1)) t = R) := (by rw [← HR.out]; unfold rawsA; rw [if_pos ⟨HT3.out,HC.out⟩] : _ = R)
    have HF2 : Hid (Calls Tryz.prog 25 #[.agg #[.int .i64 3,.int .i64 N,.string S,.slice a1 n1 c1,.slice a2 n2 c2]] w1 (RwsP R w1)) := (by
     have h1 := HRC.out w1 hbw1;rw [HRV.out] at h1
     exact h1 : Calls Tryz.prog _ _ _ _)
    have t0 := (BT1.cell 0).trans rfl;have t1 := (BT1.cell 1).trans rfl;have t2 := (BT1.cell 2).trans rfl;have t3 := (BT1.cell 3).trans rfl;have t4 := (BT1.cell 4).trans rfl;clear HRC HRV HR HC BT1;go_wp2_with fail;refine Calls.mono HF2.out ?_;rintro ee w3 ⟨r,rfl,hra,hok,hb3⟩;have hbw3 : Below w.heap.size w w3 := hbw1.trans (hb3.mono hbw1.size)
    have HRA : Hid (RawsAt w.heap.size w3 r R.1) := (by
     obtain ⟨qa,qc,q1,q2,q3,q4,q5⟩ := hra;refine ⟨qa,qc,q1,?_,q3,q4,q5⟩
     rcases q2 with h | ⟨g,g1,g2,g3⟩
     ·exact .inl h
     ·exact .inr ⟨g,g1,Nat.le_trans hbw1.size g2,g3⟩ : RawsAt w.heap.size w3 r R.1)
    clear hra hb3 HF2 t0 t1 t2 t3 t4;go_wp2_with fail
    go_ret2
    exact ⟨r,rfl,HRA.out,hok,hbw3⟩
theorem pushRaw {w : World} {B : Nat} {v : Value} {xs : List Fd} {bz : Nat} (h : w.ownsRow B 44 4 v xs.length (rawCells xs)) (hB : B ≤ w.heap.size) (r : Fd) (hl : xs.length ≤ 5000) (BZ : Blk w bz r.cells.toArray 44) :
  ∃ a c' W',(Builtin.append_ #[37,37] 37 #[v,.slice (some ⟨bz,0,none⟩) 1 1]).run Tryz.prog w = .ok (.slice a (xs.length + 1) c') W' ∧ W'.ownsRow B 44 4 (.slice a (xs.length + 1) c') (xs ++ [r]).length (rawCells (xs ++ [r])) ∧ Below B w W' := by
 obtain ⟨i0,hi0,hz0,hz1,hz2⟩ := info_parts infoRaw
 obtain ⟨v',W',r1,r2,r3,_,r5⟩ := run_append_own_at w B 37 37 44 i0 _ 4 40 Tryz.underlying37 hi0 hz0 hz1 hz2 rfl (by decide) v xs.length _ h ⟨bz,0,none⟩ 1 1 r.cells rfl (fun j u hu => by
  have := BZ.cell j;rw [Addr.add_lit,Nat.zero_add,this]
  simpa using hu) (fun u hu => by
   simp only [Fd.cells,List.mem_cons,List.not_mem_nil,or_false] at hu
   rcases hu with rfl | rfl | rfl | rfl <;> rfl) (by unfold maxLen; omega) (by omega) hB
 obtain ⟨a,c',rfl⟩ := own_form r2;obtain ⟨e1,e2⟩ := rawCells_snoc xs r;refine ⟨a,c',W',r1,by rw [e1,e2]; exact r2,?_⟩;exact (Below.refl _ _).grown r3 hB fun k hk => (own_lt h hk).1
end Go.Proofs.YtiajaocckkghgabGreat
