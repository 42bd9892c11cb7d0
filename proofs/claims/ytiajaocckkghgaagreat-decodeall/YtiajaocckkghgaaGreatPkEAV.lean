/- Part 22 of what the proof stands on. -/
import Derived.Test.YtiajaocckkghgaaGreatPkEAU
namespace Go.Proofs.YtiajaocckkghgaaGreat
set_option maxHeartbeats 8000000
set_option linter.unusedVariables false
set_option linter.unusedSimpArgs false
set_option maxRecDepth 20000
open Go.ChangeShapes Go.WideShapes Go.ChangeAt Go.RowKit
theorem TrIn.all64 {n : Nat} {w : World} {v : Value} {t : Tr} (h : TrIn n w v t) : (∀ f ∈ t.rest,Is64 f.n) ∧ ∀ e ∈ t.es,∀ x ∈ e.2,Is64 x.n := by
 obtain ⟨r,_,h⟩ := h
 cases n with
 | zero => exact h.elim
 | succ n =>
  obtain ⟨ve,vr,h1,h2,h3,h4,h5,h6,h7⟩ := h;refine ⟨fun f hf => (h5 f hf).2.2.1,fun e he x hx => ?_⟩;obtain ⟨r',vt,_,_,g3⟩ := h7.all e he;obtain ⟨r'',hp⟩ := RowP.all g3 x hx
  cases n with
  | zero => exact hp.elim
  | succ n =>
   obtain ⟨_,_,_,_,q3,_⟩ := hp;exact q3
theorem fds_okR {n : Nat} {w : World} {v : Value} {t : Tr} {B : Tr → List Nat × Nat} (h : TrIn n w v t) (h1 : ∀ e ∈ t.es,e.2.length ≤ 70) (h2 : t.es.length ≤ 500) (h3 : t.rest.length ≤ 5000) : FdsOk (sortF ((fsE B t.es).map (·.1) ++ t.rest)) := by
 obtain ⟨-,q2,q3, -⟩ := sortF_all _ ((fsE B t.es).map (·.1) ++ t.rest) (Nat.le_refl _);have hl := subs_len h1;refine ⟨?_,fun r hr => ?_⟩
 ·rw [q2,List.length_append,List.length_map,fsE_len]
  omega
 ·obtain ⟨g2,g3⟩ := h.all64
  rcases List.mem_append.1 (q3 r hr) with hr | hr
  ·obtain ⟨p,hp,rfl⟩ := List.mem_map.1 hr;simp only [fsE,List.mem_flatMap,enE,List.mem_map] at hp;obtain ⟨e,he,x,hx,rfl⟩ := hp;exact flE_64 (g3 e he x hx)
  ·exact g2 r hr
theorem RwsP.err {R : List Fd × Nat} {w w' : World} {e : Int} (h : R = ([],e.toNat)) (he : 0 ≤ e) (h2 : Below w.heap.size w w') : RwsP R w (.returned (.tuple #[.slice none 0 0,.int .i64 e])) w' := by
 subst h;refine ⟨.slice none 0 0,?_,RawsAt.nil _ _,⟨by simp,by simp⟩,h2⟩;simp only;rw [Int.toNat_of_nonneg he]
theorem rsorted_at {B : Nat} {w : World} {v : Value} {n : Nat} {rs : List Fd} (h : w.ownsRow B 61 4 v n (rawCells rs)) (hl : rs.length ≤ 1000000) :
  Calls Tryz.prog 66 #[v] w fun e w' => ∃ v',e = .returned v' ∧ RawsAt w.heap.size w' v' (sortF rs) ∧ Below w.heap.size w w' := by
 obtain ⟨a,cap,rfl,_,h2,h3,h4,h5⟩ := own_openR h;refine (rsorted_any a rs rs.length cap w rfl hl (own_adrR h2) h3 h4 h5).mono ?_;rintro e w' ⟨v',rfl,g1,g2⟩;exact ⟨_,rfl,RawsAt.own g1,g2⟩
theorem rputall_at {B : Nat} {w : World} {v : Value} {rs : List Fd} (h : RawsAt B w v rs) (hr : FdsOk rs) :
  Calls Tryz.prog 95 #[v] w fun e w' => ∃ v,e = .returned (.tuple #[v,.int .i64 ((putL rs).2 : Int)]) ∧ w'.ownsRow w.heap.size 5 1 v (putL rs).1.length (byteCells (putL rs).1) ∧ Below w.heap.size w w' := by
 obtain ⟨a,cap,rfl,h2,h3,h4,h5⟩ := h;exact rputall_any a rs rs.length cap w rfl (own_adrR h2) h3 h4 hr.1 h5 hr.2
theorem own_setCell {w : World} {B : Nat} {e : TypeId} {s : Nat} {v : Value} {n : Nat} {xs : List Value} (h : w.ownsRow B e s v n xs) {p : Addr} (hp : ∀ k,v.ownBlock = some k → k ≠ p.block) (u : Value) : (w.setCell p u).ownsRow B e s v n xs := by
 refine ⟨h.1,?_⟩
 rcases h.2 with h' | ⟨g,cap,cur,h1,h2,h3,h4⟩
 ·exact .inl h'
 ·exact .inr ⟨g,cap,cur,h1,h2,(Below.heap_setCell _ _ _ _ (hp g (by rw [h1]; rfl))).trans h3,h4⟩
theorem rraws_step (m : Nat) (IE : ∀ x v w,TrIn m w v x → SmN m x → Calls Tryz.prog 48 #[v] w (EncP (bytE m x) w)) (t : Tr) (v : Value) (w : World) (ht : TrIn (m + 1) w v t) (hs : SmN (m + 1) t) :
  Calls Tryz.prog 94 #[v] w (RwsP (rwE (bytE m) t) w) := by
 have HFO : Hid (FdsOk (sortF ((fsE (bytE m) t.es).map (·.1) ++ t.rest))) := fds_okR ht (fun e he => (hs.2.2.2.2 e he).1) hs.2.2.1 hs.2.1;obtain ⟨m',ve,vr,hmn,rfl, -, -, -, -,hr,he⟩ := ht.open
 obtain rfl : m = m' := by omega
 obtain ⟨a1,c1,rfl,u1,u2, -⟩ := he.open;obtain ⟨a2,c2,rfl,x1,x2, -⟩ := rest_holds hr;have HUL : Hid (∀ i k,(uptE (bytE m) t.es i k).length ≤ 35070) := fun i k => uptE_len (fun e he => (hs.2.2.2.2 e he).1) hs.2.2.1 i k
 have HSM : Hid (∀ e ∈ t.es,e.2.length ≤ 70 ∧ ∀ x ∈ e.2,SmN m x) := hs.2.2.2.2;have HRL : Hid (t.rest.length ≤ 5000) := hs.2.1;obtain ⟨R,hR⟩ : ∃ R,rwE (bytE m) t = R := ⟨_,rfl⟩;rw [hR];have HR : Hid (rwE (bytE m) t = R) := hR;obtain ⟨K,hK⟩ : ∃ z,t.kind = z := ⟨_,rfl⟩;obtain ⟨N,hN⟩ : ∃ z,t.n = z := ⟨_,rfl⟩;obtain ⟨S,hS⟩ : ∃ z,t.s = z := ⟨_,rfl⟩;obtain ⟨n1,hn1⟩ : ∃ z,t.es.length = z := ⟨_,rfl⟩;obtain ⟨n2,hn2⟩ : ∃ z,t.rest.length = z := ⟨_,rfl⟩;rw [hK,hN,hS,hn1,hn2];rw [hn1] at he u1;rw [hn2] at hr x1;have HL : Hid (t.es.length = n1 ∧ t.rest.length = n2) := ⟨hn1,hn2⟩;have HE : Hid (EnsIn m w (.slice a1 n1 c1) t.es) := he;have HRR : Hid (RowG w (.slice a2 n2 c2) 4 (fdRows t.rest)) := hr;have HIE : Hid (∀ x v w,TrIn m w v x → SmN m x → Calls Tryz.prog 48 #[v] w (EncP (bytE m x) w)) := IE;unfold maxLen at u2 x2;obtain ⟨Z,hZ⟩ : ∃ Z,Z = w.alloc (Obj.cells #[.int .i64 K,.int .i64 N,.string S,.slice a1 n1 c1,.slice a2 n2 c2] 33) := ⟨_,rfl⟩
 have BT : Blk Z w.heap.size #[.int .i64 K,.int .i64 N,.string S,.slice a1 n1 c1,.slice a2 n2 c2] 33 := by
  rw [hZ];exact Blk.new w _ _
 have hZb : Below w.heap.size w Z := by
  rw [hZ];exact bra _
 clear hR ht IE hn1 hn2 hK hN hS hmn hs he hr
 go_enter Tryz.func94,Tryz.ntmps94
 go_wp2_with fail;rw [← hZ];have HSZ2 : Hid (w.heap.size < Z.heap.size) := BT.lt;clear hZ;obtain ⟨s,hs⟩ : ∃ s,w.heap.size = s := ⟨_,rfl⟩;have HSZ : Hid (w.heap.size = s) := hs;rw [hs] at BT;simp only [hs];clear hs;have HBT : Hid (Blk Z s #[.int .i64 K,.int .i64 N,.string S,.slice a1 n1 c1,.slice a2 n2 c2] 33) := BT;clear BT
 go_loopw [4,5] (fun ov iv wr => ∃ (out : Value) (i : Nat),out = ov ∧ iv = .int .i64 (i : Int) ∧ i ≤ n1 ∧ Hid (errE (fsE (bytE m) (t.es.take i)) = 0) ∧ Hid (wr.ownsRow Z.heap.size 61 4 out ((fsE (bytE m) (t.es.take i)).map (·.1)).length (rawCells ((fsE (bytE m) (t.es.take i)).map (·.1)))) ∧ Below Z.heap.size Z wr) (fun _ iv _ => n1 - (intOf iv).toNat)
 case atStart => exact ⟨_,0,rfl,rfl,by omega,(by simp [fsE,errE] : errE (fsE (bytE m) (t.es.take 0)) = 0),World.ownsRow_nil _ _ _ _,Below.refl _ _⟩
 case round =>
  obtain ⟨out,i,rfl,rfl,hi,HI,HO,hbr⟩ := hrel;have HBR : Hid (Below w.heap.size w wr) := hZb.trans (hbr.mono hZb.size);have BTr := HBT.out.below hbr;have q3 := (BTr.cell 3).trans rfl;have q4 := (BTr.cell 4).trans rfl;clear BTr
  by_cases hlt2 : i < n1
  ·obtain ⟨e,hx⟩ : ∃ r,t.es[i]? = some r := ⟨_,List.getElem?_eq_getElem (by rw [HL.out.1]; exact hlt2)⟩;obtain ⟨gx,ox,rfl,hrow⟩ := RowP.get HE.out hx;obtain ⟨vt,y0,y1, -,hvt⟩ := ens_at hrow;obtain ⟨xa,xc,rfl,hxc,hxm, -⟩ := hvt.open;have HIX : Hid (t.es[i]? = some e) := hx;obtain ⟨e1,he1⟩ : ∃ z,e.1 = z := ⟨_,rfl⟩;obtain ⟨Xl,hXl⟩ : ∃ z,e.2.length = z := ⟨_,rfl⟩;rw [he1] at y0;rw [hXl] at y1 hvt hxc;have HEE : Hid (e.1 = e1 ∧ e.2.length = Xl) := ⟨he1,hXl⟩;have HXT : Hid (TrsIn m w (.slice xa Xl xc) e.2) := hvt;have HY : Hid (w.cell? ⟨gx,ox + i * 2,none⟩ = some (.int .i64 e1) ∧ w.cell? ⟨gx,ox + i * 2 + 1,none⟩ = some (.slice xa Xl xc)) := ⟨y0,y1⟩;unfold maxLen at hxm;have HOe : Hid (wr.ownsRow Z.heap.size 61 4 out ((uptE (bytE m) t.es i 0).map (·.1)).length (rawCells ((uptE (bytE m) t.es i 0).map (·.1)))) := hid (by rw [uptE_zero]; exact HO.out);have HIe : Hid (errE (uptE (bytE m) t.es i 0) = 0) := hid (by rw [uptE_zero]; exact HI.out);clear hx he1 hXl hvt hrow HI HO HBR y0 y1;go_wp2_with fail
   go_loopw [4,6] (fun ov kv wr => ∃ (out : Value) (k : Nat),out = ov ∧ kv = .int .i64 (k : Int) ∧ k ≤ Xl ∧ Hid (errE (uptE (bytE m) t.es i k) = 0) ∧ Hid (wr.ownsRow Z.heap.size 61 4 out ((uptE (bytE m) t.es i k).map (·.1)).length (rawCells ((uptE (bytE m) t.es i k).map (·.1)))) ∧ Below Z.heap.size Z wr) (fun _ kv _ => Xl - (intOf kv).toNat)
   case atStart => exact ⟨_,0,rfl,rfl,by omega,HIe,HOe,hbr⟩
   case round =>
    obtain ⟨out,k,rfl,rfl,hk,HI,HO,hbr⟩ := hrel;have hbwr : Below w.heap.size w wr := hZb.trans (hbr.mono hZb.size);have BTr := HBT.out.below hbr;have q3 := (BTr.cell 3).trans rfl;have f0 := (hbwr.cell (World.block_lt_of_cell? _ _ HY.out.1)).trans HY.out.1;have f1 := (hbwr.cell (World.block_lt_of_cell? _ _ HY.out.2)).trans HY.out.2;clear BTr
    by_cases hlt3 : k < Xl
    ·obtain ⟨x,hx⟩ : ∃ r,e.2[k]? = some r := ⟨_,List.getElem?_eq_getElem (by rw [HEE.out.2]; exact hlt3)⟩;obtain ⟨gy,oy,rfl,hrow⟩ := RowP.get (RowP.belowT HXT.out hbwr) hx;obtain ⟨y1,z1,v1,y2,z2,v2,p0,p1,p2,p3,p4,hxw⟩ := trs_get hrow;obtain ⟨YK,hYK⟩ : ∃ z,x.kind = z := ⟨_,rfl⟩;obtain ⟨YN,hYN⟩ : ∃ z,x.n = z := ⟨_,rfl⟩;obtain ⟨YS,hYS⟩ : ∃ z,x.s = z := ⟨_,rfl⟩;rw [hYK] at p0 hxw;rw [hYN] at p1 hxw;rw [hYS] at p2 hxw;have HXP : Hid (x.kind = YK ∧ x.n = YN ∧ x.s = YS) := ⟨hYK,hYN,hYS⟩;have HXW : Hid (TrIn m wr (.agg #[.int .i64 YK,.int .i64 YN,.string YS,.slice y1 z1 v1,.slice y2 z2 v2]) x) := hxw;have hsx : SmN m x := (HSM.out e (List.mem_of_getElem? HIX.out)).2 x (List.mem_of_getElem? hx);have HSX : Hid (SmN m x) := hsx;have HUS : Hid (uptE (bytE m) t.es i (k + 1) = uptE (bytE m) t.es i k ++ [flE (bytE m) e1 x]) := (by have := uptE_step (B := bytE m) HIX.out hx; rw [HEE.out.1] at this; exact this : _ = _)
     have HUH : Hid ((flE (bytE m) e1 x).2 ≠ 0 → errE (fsE (bytE m) t.es) = (flE (bytE m) e1 x).2) := fun h => by have := errE_hit (B := bytE m) HIX.out hx HI.out; rw [HEE.out.1] at this; exact this h
     have hln : ((uptE (bytE m) t.es i k).map (·.1)).length ≤ 35070 := by rw [List.length_map]; exact HUL.out i k
     obtain ⟨acc,hacc⟩ : ∃ z,(uptE (bytE m) t.es i k).map (·.1) = z := ⟨_,rfl⟩;rw [hacc] at HO hln;have HAC : Hid ((uptE (bytE m) t.es i k).map (·.1) = acc) := hacc;obtain ⟨al,hal⟩ : ∃ z,acc.length = z := ⟨_,rfl⟩;rw [hal] at HO hln;have HAL : Hid (acc.length = al) := hal;obtain ⟨i0,hif,hz0,hz1,hz2⟩ := info_parts infoRaw;have hzw : Z.heap.size ≤ wr.heap.size := hbr.size;have hs_lt : s < wr.heap.size := World.block_lt_of_cell? _ _ q3;have hgx : gx < wr.heap.size := World.block_lt_of_cell? _ _ f0;have hgy : gy < wr.heap.size := World.block_lt_of_cell? _ _ p0;clear hx hrow hYK hYN hYS hxw hsx hacc hal
     by_cases h1 : YK = 1
     ·subst h1;have HF : Hid (flE (bytE m) e1 x = (⟨e1,0,YN,⟨#[]⟩⟩,0)) := (by unfold flE; rw [if_pos HXP.out.1,HXP.out.2.1] : _ = _)
      go_wp2_with (first
       | (at_builtin; refine wpList_append_own _ rfl _ _ 31 rfl Z.heap.size 61 i0 _ 4 40 Tryz.underlying31 hif hz0 hz1 hz2 rfl (by decide) _ _ _ rfl (((HO.out.alloc _).alloc _).alloc _) ⟨wr.heap.size + 1 + 1,0,none⟩ 1 1 (Fd.cells ⟨e1,0,YN,⟨#[]⟩⟩) rfl rfl ?c1 ?c2 ?c3 ?c4 ?c5 ?_)
       | fail)
      case c1 =>
       intro j u hj;rw [Addr.add_lit,Nat.zero_add];exact ((Blk.newAt (by simp)).cell j).trans (by simpa [Fd.cells] using hj)
      case c2 => intro u hu; simp [Fd.cells] at hu; rcases hu with rfl | rfl | rfl | rfl <;> rfl
      case c3 => unfold maxLen; omega
      case c4 => omega
      case c5 => simp; omega
      intro v5 w5 ho5 hg5 _;have hbz5 : Below Z.heap.size Z w5 := (((hbr.alloc hzw _).alloc (by simp; omega) _).alloc (by simp; omega) _).grown hg5 (by simp; omega) (fun k hk => (HO.out.lt k hk).1);have HI2 : Hid (errE (uptE (bytE m) t.es i (k + 1)) = 0) := hid (by rw [HUS.out,errE_app,if_pos HI.out,errE_one,HF.out])
      have HO5 : Hid (w5.ownsRow Z.heap.size 61 4 v5 ((uptE (bytE m) t.es i (k + 1)).map (·.1)).length (rawCells ((uptE (bytE m) t.es i (k + 1)).map (·.1)))) := hid (by
       rw [HUS.out,List.map_append,HAC.out,HF.out,List.map_cons,List.map_nil,(rawCells_snoc' acc _).1,(rawCells_snoc' acc _).2,HAL.out]
       exact ho5)
      clear ho5 hg5 HO HI HUS HUH;go_wp2_with fail
      go_roundw
      case rel => exact ⟨_,k + 1,rfl,by go_num,by omega,HI2,HO5,hbz5⟩
      case measure => simp [intOf]; omega
     ·by_cases h2 : YK = 2
      ·subst h2
       by_cases h3 : 4096 < YS.size
       ·have HF : Hid (flE (bytE m) e1 x = (fd0,4)) := (by unfold flE; rw [if_neg (by rw [HXP.out.1]; decide),if_pos HXP.out.1,HXP.out.2.2,if_pos h3] : _ = _)
        have HR2 : Hid (R = ([],4)) := (by
         have h1 := HUH.out (by rw [HF.out]; decide);rw [HF.out] at h1
         rw [← HR.out,rwE_no (by rw [h1]; decide),h1] : R = _)
        have hbf : ∀ o o',Below w.heap.size w ((wr.alloc o).alloc o') := fun o o' => (hbwr.alloc hbwr.size _).alloc (by simp; have := hbwr.size; omega) _
        clear HUH HUS HF;go_wp2_with fail
        go_ret2
        exact RwsP.err HR2.out (by decide) (hbf _ _)
       ·have HF : Hid (flE (bytE m) e1 x = (⟨e1,1,0,YS⟩,0)) := (by unfold flE; rw [if_neg (by rw [HXP.out.1]; decide),if_pos HXP.out.1,HXP.out.2.2,if_neg h3] : _ = _)
        go_wp2_with (first
         | (at_builtin; refine wpList_append_own _ rfl _ _ 31 rfl Z.heap.size 61 i0 _ 4 40 Tryz.underlying31 hif hz0 hz1 hz2 rfl (by decide) _ _ _ rfl (((HO.out.alloc _).alloc _).alloc _) ⟨wr.heap.size + 1 + 1,0,none⟩ 1 1 (Fd.cells ⟨e1,1,0,YS⟩) rfl rfl ?c1 ?c2 ?c3 ?c4 ?c5 ?_)
         | fail)
        case c1 =>
         intro j u hj;rw [Addr.add_lit,Nat.zero_add];exact ((Blk.newAt (by simp)).cell j).trans (by simpa [Fd.cells] using hj)
        case c2 => intro u hu; simp [Fd.cells] at hu; rcases hu with rfl | rfl | rfl | rfl <;> rfl
        case c3 => unfold maxLen; omega
        case c4 => omega
        case c5 => simp; omega
        intro v5 w5 ho5 hg5 _;have hbz5 : Below Z.heap.size Z w5 := (((hbr.alloc hzw _).alloc (by simp; omega) _).alloc (by simp; omega) _).grown hg5 (by simp; omega) (fun k hk => (HO.out.lt k hk).1);have HI2 : Hid (errE (uptE (bytE m) t.es i (k + 1)) = 0) := hid (by rw [HUS.out,errE_app,if_pos HI.out,errE_one,HF.out])
        have HO5 : Hid (w5.ownsRow Z.heap.size 61 4 v5 ((uptE (bytE m) t.es i (k + 1)).map (·.1)).length (rawCells ((uptE (bytE m) t.es i (k + 1)).map (·.1)))) := hid (by
         rw [HUS.out,List.map_append,HAC.out,HF.out,List.map_cons,List.map_nil,(rawCells_snoc' acc _).1,(rawCells_snoc' acc _).2,HAL.out]
         exact ho5)
        clear ho5 hg5 HO HI HUS HUH;go_wp2_with fail
        go_roundw
        case rel => exact ⟨_,k + 1,rfl,by go_num,by omega,HI2,HO5,hbz5⟩
        case measure => simp [intOf]; omega
      ·have d1 : (YK == 1) = false := by simpa using h1
       have d2 : (YK == 2) = false := by simpa using h2
       have HF0 : Hid (flE (bytE m) e1 x = if (bytE m x).2 ≠ 0 then (fd0,(bytE m x).2) else (⟨e1,1,0,strN (bytE m x).1⟩,0)) := (by unfold flE; rw [if_neg (by rw [HXP.out.1]; exact h1),if_neg (by rw [HXP.out.1]; exact h2)] : _ = _);clear h1 h2;obtain ⟨W,hW⟩ : ∃ W,W = (wr.alloc (Obj.cells #[.int .i64 YK,.int .i64 YN,.string YS,.slice y1 z1 v1,.slice y2 z2 v2] 33)).alloc (Obj.cells #[.int .i64 e1,.int .i64 1,.int .i64 0,.string ⟨#[]⟩] 61) := ⟨_,rfl⟩
       have alW : Below wr.heap.size wr W := by rw [hW]; exact (bra _).alloc (by simp) _
       have BX : Blk W wr.heap.size #[.int .i64 YK,.int .i64 YN,.string YS,.slice y1 z1 v1,.slice y2 z2 v2] 33 := by rw [hW]; exact (Blk.newAt rfl).up _
       have BR : Blk W (wr.heap.size + 1) #[.int .i64 e1,.int .i64 1,.int .i64 0,.string ⟨#[]⟩] 61 := by rw [hW]; exact Blk.newAt (by simp)
       have HEC : Hid (Calls Tryz.prog 48 #[.agg #[.int .i64 YK,.int .i64 YN,.string YS,.slice y1 z1 v1,.slice y2 z2 v2]] W (EncP (bytE m x) W)) := HIE.out x _ W (HXW.out.below alW) HSX.out;go_wp2_with fail;rw [← hW];clear hW;refine Calls.mono HEC.out ?_;rintro ee w4 ⟨r4,rfl,ho4,hb4⟩;have hbr4 : Below wr.heap.size wr w4 := alW.trans (hb4.mono alW.size);have hcv := conv_own ho4;have HLE : Hid ((bytE m x).1.length ≤ 4096) := bytE_le m x;have BR4 := BR.below hb4;have HO4 : Hid (w4.ownsRow Z.heap.size 61 4 out al (rawCells acc)) := own_belowH HO hbr4;have hlt4 : wr.heap.size + 1 < w4.heap.size := BR4.lt
       have HOB : Hid (∀ k,out.ownBlock = some k → k ≠ wr.heap.size + 1) := fun k hk => by have := (HO.out.lt k hk).2; omega
       have hbw4 : Below w.heap.size w w4 := hbwr.trans (hbr4.mono hbwr.size);have hbz4 : Below Z.heap.size Z w4 := hbr.trans (hbr4.mono hbr.size);clear HEC ho4 hb4 BX BR alW HO;generalize bytE m x = q at *;obtain ⟨ns,er⟩ := q;simp only at hcv HLE HF0 ⊢
       by_cases her : er = 0
       rotate_left
       ·have hd : ((er : Int) != 0) = true := by simp; omega
        have HR2 : Hid (R = ([],((er : Int)).toNat)) := (by
         have h0 : flE (bytE m) e1 x = (fd0,er) := by rw [HF0.out,if_pos her]
         have h1 := HUH.out (by rw [h0]; exact her);rw [h0] at h1;rw [← HR.out,rwE_no (by rw [h1]; exact her),h1]
         rfl : R = _)
        clear her HUH HUS HF0 hcv;go_wp2_with fail
        go_ret2
        exact RwsP.err HR2.out (by omega) hbw4
       ·subst her;have HF : Hid (flE (bytE m) e1 x = (⟨e1,1,0,strN ns⟩,0)) := (by rw [HF0.out,if_neg (by simp)] : _ = _)
        have hsz : (strN ns).size ≤ 4096 := by rw [strN_size]; exact HLE.out
        generalize strN ns = T at *;obtain ⟨r0,r1,r2,r3⟩ := cl4 BR4;have zr3 := BR4.froz 3
        have hts : ¬ 4096 < T.size := by omega
        clear HF0 HLE
        go_wp2_with (first
         | (at_builtin; refine wpList_append_own _ rfl _ _ 31 rfl Z.heap.size 61 i0 _ 4 40 Tryz.underlying31 hif hz0 hz1 hz2 rfl (by decide) _ _ _ rfl ((own_setCell HO4.out HOB.out _).alloc _) ⟨w4.heap.size,0,none⟩ 1 1 (Fd.cells ⟨e1,1,0,T⟩) rfl rfl ?c1 ?c2 ?c3 ?c4 ?c5 ?_)
         | fail)
        case c1 =>
         intro j u hj;rw [Addr.add_lit,Nat.zero_add];exact ((Blk.newAt (by simp)).cell j).trans (by simpa [Fd.cells] using hj)
        case c2 => intro u hu; simp [Fd.cells] at hu; rcases hu with rfl | rfl | rfl | rfl <;> rfl
        case c3 => unfold maxLen; omega
        case c4 => omega
        case c5 => simp; omega
        intro v5 w5 ho5 hg5 _;have hbz5 : Below Z.heap.size Z w5 := ((hbz4.setCell (by show Z.heap.size ≤ wr.heap.size + 1; omega) _).alloc (by simp; omega) _).grown hg5 (by simp; omega) (fun k hk => (HO4.out.lt k hk).1);have HI2 : Hid (errE (uptE (bytE m) t.es i (k + 1)) = 0) := hid (by rw [HUS.out,errE_app,if_pos HI.out,errE_one,HF.out])
        have HO5 : Hid (w5.ownsRow Z.heap.size 61 4 v5 ((uptE (bytE m) t.es i (k + 1)).map (·.1)).length (rawCells ((uptE (bytE m) t.es i (k + 1)).map (·.1)))) := hid (by
         rw [HUS.out,List.map_append,HAC.out,HF.out,List.map_cons,List.map_nil,(rawCells_snoc' acc _).1,(rawCells_snoc' acc _).2,HAL.out]
         exact ho5)
        clear ho5 hg5 HO4 HI HUS HUH;go_wp2_with fail
        go_roundw
        case rel => exact ⟨_,k + 1,rfl,by go_num,by omega,HI2,HO5,hbz5⟩
        case measure => simp [intOf]; omega
    ·obtain rfl : k = Xl := by omega
     have HI2 : Hid (errE (fsE (bytE m) (t.es.take (i + 1))) = 0) := hid (by rw [← uptE_end HIX.out,HEE.out.2]; exact HI.out);have HO2 : Hid (wr.ownsRow Z.heap.size 61 4 out ((fsE (bytE m) (t.es.take (i + 1))).map (·.1)).length (rawCells ((fsE (bytE m) (t.es.take (i + 1))).map (·.1)))) := hid (by rw [← uptE_end HIX.out,HEE.out.2]; exact HO.out);clear HI HO;go_wp2_with fail
     go_roundw
     case rel => exact ⟨_,i + 1,rfl,by go_num,by omega,HI2,HO2,hbr⟩
     case measure => simp [intOf]; omega
  ·obtain rfl : i = n1 := by omega
   have HI0 : Hid (errE (fsE (bytE m) t.es) = 0) := hid (by
    have h1 := HI.out;rw [List.take_of_length_le (by rw [HL.out.1]; exact Nat.le_refl _)] at h1
    exact h1)
   have HRV : Hid (R = (sortF ((fsE (bytE m) t.es).map (·.1) ++ t.rest),0)) := (by rw [← HR.out,rwE_ok HI0.out] : R = _)
   have HLN : Hid (((fsE (bytE m) t.es).map (·.1)).length ≤ 35070) := hid (by
    have h1 := HUL.out i 0;rw [uptE_zero,List.take_of_length_le (by rw [HL.out.1]; exact Nat.le_refl _)] at h1
    rw [List.length_map]; exact h1)
   have HO2 : Hid (wr.ownsRow Z.heap.size 61 4 out ((fsE (bytE m) t.es).map (·.1)).length (rawCells ((fsE (bytE m) t.es).map (·.1)))) := hid (by
    have h1 := HO.out;rw [List.take_of_length_le (by rw [HL.out.1]; exact Nat.le_refl _)] at h1
    exact h1)
   obtain ⟨acc,hacc⟩ : ∃ z,(fsE (bytE m) t.es).map (·.1) = z := ⟨_,rfl⟩;rw [hacc] at HO2 HLN HRV HFO;have HRG : Hid (RowG wr (.slice a2 n2 c2) 4 (fdRows t.rest)) := HRR.out.below HBR.out;have HFN : Hid ((fdRows t.rest).length = t.rest.length) := hid (by simp [fdRows]);have hws : Z.heap.size ≤ wr.heap.size := hbr.size;clear hacc HO HI HI0
   go_wp2_with (first
    | (at_builtin; refine wpList_joinG rfl _ _ 31 61 4 40 _ rfl Tryz.underlying31 infoRaw rfl (by decide) Z.heap.size out acc.length (rawCells acc) rfl HO2.out (.slice a2 n2 c2) (fdRows t.rest) rfl HRG.out (fdr_len t.rest) (fdr_one t.rest) ?c1 (by decide) hws ?_)
    | fail)
   case c1 => have h1 := HFN.out; have h2 := HLN.out; have h3 := HRL.out; have h4 := HL.out.2; omega
   intro v5 w5 ho5 hg5;have hb5 : Below w.heap.size w w5 := HBR.out.grown hg5 HBR.out.size (fun k hk => Nat.le_trans (Nat.le_of_lt HSZ2.out) (HO2.out.lt k hk).1)
   have HO5 : Hid (w5.ownsRow Z.heap.size 61 4 v5 (acc ++ t.rest).length (rawCells (acc ++ t.rest))) := hid (by
    rw [rawCells_app,rawCells_flat t.rest,List.length_append,← HFN.out]
    exact ho5)
   have HSC : Hid (Calls Tryz.prog 66 #[v5] w5 fun e w' => ∃ v',e = .returned v' ∧ RawsAt w5.heap.size w' v' (sortF (acc ++ t.rest)) ∧ Below w5.heap.size w5 w') := rsorted_at HO5.out (by rw [List.length_append]; have h2 := HLN.out; have h3 := HRL.out; have h4 := HL.out.2; omega);clear ho5 hg5 HO2 HO5 HRG q3 q4;go_wp2_with fail;refine Calls.mono HSC.out ?_;rintro ee w6 ⟨v6,rfl,hra,hb6⟩
   have HRA : Hid (RawsAt w.heap.size w6 v6 (sortF (acc ++ t.rest))) := hid (by
    obtain ⟨qa,qc,q1,q2,q3,q4,q5⟩ := hra;refine ⟨qa,qc,q1,?_,q3,q4,q5⟩
    rcases q2 with h | ⟨g,g1,g2,g3⟩
    ·exact .inl h
    ·exact .inr ⟨g,g1,Nat.le_trans hb5.size g2,g3⟩)
   have hbw6 : Below w.heap.size w w6 := hb5.trans (hb6.mono hb5.size);clear hra hb6 HSC hb5;go_wp2_with fail
   go_ret2
   exact ⟨v6,by rw [HRV.out]; rfl,by rw [HRV.out]; exact HRA.out,by rw [HRV.out]; exact HFO.out,hbw6⟩
theorem rencode_step (Q : List Fd × Nat) (t : Tr) (n : Nat) (v : Value) (w : World) (ht : TrIn n w v t) (IR : ∀ W,Below w.heap.size w W → Calls Tryz.prog 94 #[v] W (RwsP Q W)) : Calls Tryz.prog 48 #[v] w (EncP (ofR Q) w) := by
 obtain ⟨R,hR⟩ : ∃ R,ofR Q = R := ⟨_,rfl⟩;have HR : Hid (ofR Q = R) := hR;rw [hR];obtain ⟨m',ve,vr, -,rfl, -, -, -, -,ra,ea⟩ := ht.open;obtain ⟨a1,c1,rfl, -⟩ := ea.open;obtain ⟨a2,c2,rfl, -⟩ := rest_holds ra;have HRC : Hid (∀ W,Below w.heap.size w W → Calls Tryz.prog 94 #[.agg #[.int .i64 t.kind,.int .i64 t.n,.string t.s,.slice a1 t.es.length c1,.slice a2 t.rest.length c2]] W (RwsP Q W)) := IR;generalize t.kind = K at *;generalize t.n = N at *;generalize t.s = S at *;generalize t.es.length = n1 at *;generalize t.rest.length = n2 at *;have hbw : Below w.heap.size w (w.alloc (Obj.cells #[.int .i64 K,.int .i64 N,.string S,.slice a1 n1 c1,.slice a2 n2 c2] 33)) := bra _;clear hR ht ra ea IR
 go_enter Tryz.func48,Tryz.ntmps48
 go_wp2_with fail;refine Calls.mono (HRC.out _ hbw) ?_;rintro ee w1 ⟨r,rfl,hra,hok,hb1⟩;have hbw1 : Below w.heap.size w w1 := hbw.trans (hb1.mono hbw.size);obtain ⟨rs,er⟩ := Q;have HPC : Hid (Calls Tryz.prog 95 #[r] w1 fun e w' => ∃ v,e = .returned (.tuple #[v,.int .i64 ((putL rs).2 : Int)]) ∧ w'.ownsRow w1.heap.size 5 1 v (putL rs).1.length (byteCells (putL rs).1) ∧ Below w1.heap.size w1 w') := rputall_at hra hok;clear hra hok hb1 hbw HRC
 by_cases he : er = 0
 ·subst he;have HRV : Hid (putL rs = R) := hid (by have := HR.out; rw [ofR,if_neg (by simp)] at this; exact this);rw [HRV.out] at HPC;clear HR HRV;go_wp2_with fail;refine Calls.mono HPC.out ?_;rintro ee w2 ⟨u,rfl,ho,hb2⟩;have hbw2 : Below w.heap.size w w2 := hbw1.trans (hb2.mono hbw1.size)
  have HO : Hid (w2.ownsRow w.heap.size 5 1 u R.1.length (byteCells R.1)) := hid (by
   refine ⟨ho.1,?_⟩
   rcases ho.2 with h | ⟨g,cap,cur,h1,h2,h3⟩
   ·exact .inl h
   ·exact .inr ⟨g,cap,cur,h1,Nat.le_trans hbw1.size h2,h3⟩)
  clear ho hb2 HPC;go_wp2_with fail
  go_ret2
  exact ⟨u,rfl,HO.out,hbw2⟩
 ·have hd : ((er : Int) != 0) = true := by simp; omega
  have HRV : Hid (R = ([],er)) := (by have := HR.out; rw [ofR,if_pos he] at this; exact this.symm : R = _);clear HR HPC he;go_wp2_with fail
  go_ret2
  exact EncP.no HRV.out hbw1
theorem rraws_any : ∀ (m : Nat) (t : Tr) (v : Value) (w : World),TrIn m w v t → SmN m t → Calls Tryz.prog 94 #[v] w (RwsP (rwE (bytE (m - 1)) t) w)
 | 0,_,_,_,h,_ => by obtain ⟨r,_,h⟩ := h; exact h.elim
 | m + 1,t,v,w,h,hs => rraws_step m (fun x v w h hs => by
   cases m with
   | zero => obtain ⟨r,_,h⟩ := h; exact h.elim
   | succ m => exact rencode_step _ x (m + 1) v w h fun W hW => rraws_any (m + 1) x v W (h.below hW) hs) t v w h hs
theorem rencode_any (m : Nat) (t : Tr) (v : Value) (w : World) (h : TrIn m w v t) (hs : SmN m t) : Calls Tryz.prog 48 #[v] w (EncP (bytE m t) w) := by
 cases m with
 | zero => obtain ⟨r,_,h⟩ := h; exact h.elim
 | succ m => exact rencode_step _ t (m + 1) v w h fun W hW => rraws_any (m + 1) t v W (h.below hW) hs
theorem rEncode_any (n : Nat) (t : Tr) (v : Value) (w : World) (ht : TrIn n w v t) (hs : SmN n t) (hn : n ≤ 100) : Calls Tryz.prog 27 #[v] w (EncP (encA n t) w) := by
 obtain ⟨R,hR⟩ : ∃ R,encA n t = R := ⟨_,rfl⟩;have HR : Hid (encA n t = R) := hR;rw [hR];have HCK0 : Hid (∀ W,Below w.heap.size w W → Calls Tryz.prog 47 #[v] W fun e w' => e = .returned (.bool (chkN n t)) ∧ Below W.heap.size W w') := fun W hW => rCheck_any n t v W (ht.below hW) hn
 have HRC0 : Hid (∀ W,Below w.heap.size w W → Calls Tryz.prog 48 #[v] W (EncP (bytE n t) W)) := fun W hW => rencode_any n t v W (ht.below hW) hs
 cases n with
 | zero => exact hs.elim
 | succ n =>
  obtain ⟨m',ve,vr, -,rfl, -, -, -, -,ra,ea⟩ := ht.open;obtain ⟨a1,c1,rfl, -⟩ := ea.open;obtain ⟨a2,c2,rfl, -⟩ := rest_holds ra;have HCK : Hid (∀ W,Below w.heap.size w W → Calls Tryz.prog 47 #[.agg #[.int .i64 t.kind,.int .i64 t.n,.string t.s,.slice a1 t.es.length c1,.slice a2 t.rest.length c2]] W fun e w' => e = .returned (.bool (chkN (n + 1) t)) ∧ Below W.heap.size W w') := HCK0.out;have HRC : Hid (∀ W,Below w.heap.size w W → Calls Tryz.prog 48 #[.agg #[.int .i64 t.kind,.int .i64 t.n,.string t.s,.slice a1 t.es.length c1,.slice a2 t.rest.length c2]] W (EncP (bytE (n + 1) t) W)) := HRC0.out;obtain ⟨K,hK⟩ : ∃ z,t.kind = z := ⟨_,rfl⟩;have HT3 : Hid (t.kind = K) := hK;rw [hK] at HCK HRC ⊢;generalize t.n = N at *;generalize t.s = S at *;generalize t.es.length = n1 at *;generalize t.rest.length = n2 at *;have BT : Blk (w.alloc (Obj.cells #[.int .i64 K,.int .i64 N,.string S,.slice a1 n1 c1,.slice a2 n2 c2] 33)) w.heap.size #[.int .i64 K,.int .i64 N,.string S,.slice a1 n1 c1,.slice a2 n2 c2] 33 := Blk.new w _ _;have hbw : Below w.heap.size w (w.alloc (Obj.cells #[.int .i64 K,.int .i64 N,.string S,.slice a1 n1 c1,.slice a2 n2 c2] 33)) := bra _;clear hR ht ra ea hs hn hK HCK0 HRC0
  by_cases hK3 : K = 3
  rotate_left
  ·have d : (K != 3) = true := by simpa using hK3
   have HRV : Hid (R = ([],1)) := (by rw [← HR.out]; unfold encA rawsA; rw [if_neg (by rw [HT3.out]; exact fun h => hK3 h.1)]; rfl : R = _);clear hK3 HR HT3 HCK HRC BT
   go_enter Tryz.func27,Tryz.ntmps27
   go_wp2_with fail
   go_ret2
   exact EncP.no HRV.out hbw
  ·subst hK3
   go_enter Tryz.func27,Tryz.ntmps27
   go_wp2_with fail;refine (HCK.out _ hbw).mono ?_;rintro ee w1 ⟨rfl,hb1⟩;have hbw1 : Below w.heap.size w w1 := hbw.trans (hb1.mono hbw.size);have BT1 := BT.below hb1;clear hb1 hbw BT HCK;obtain ⟨C,hC⟩ : ∃ z,chkN (n + 1) t = z := ⟨_,rfl⟩;have HC : Hid (chkN (n + 1) t = C) := hC;rw [hC];clear hC
   cases C with
   | false =>
    have HRV : Hid (R = ([],1)) := (by rw [← HR.out]; unfold encA rawsA; rw [if_neg (by rw [HT3.out]; exact fun h => absurd h.2 (by rw [HC.out]; decide))]; rfl : R = _);clear HR HC HRC;go_wp2_with fail
    go_ret2
    exact EncP.no HRV.out hbw1
   | true =>
    have HRV : Hid (bytE (n + 1) t = R) := (by rw [← HR.out]; unfold encA rawsA; rw [if_pos ⟨HT3.out,HC.out⟩]; rfl : _ = R)
    have HF2 : Hid (Calls Tryz.prog 48 #[.agg #[.int .i64 3,.int .i64 N,.string S,.slice a1 n1 c1,.slice a2 n2 c2]] w1 (EncP R w1)) := (by
     have h1 := HRC.out w1 hbw1;rw [HRV.out] at h1
     exact h1 : Calls Tryz.prog _ _ _ _)
    obtain ⟨t0,t1,t2,t3,t4⟩ := cl5 BT1;clear HRC HRV HR HC BT1;go_wp2_with fail;refine Calls.mono HF2.out ?_;rintro ee w3 ⟨r,rfl,ho,hb3⟩;have hbw3 : Below w.heap.size w w3 := hbw1.trans (hb3.mono hbw1.size)
    have HO : Hid (w3.ownsRow w.heap.size 5 1 r R.1.length (byteCells R.1)) := hid (by
     refine ⟨ho.1,?_⟩
     rcases ho.2 with h | ⟨g,cap,cur,h1,h2,h3⟩
     ·exact .inl h
     ·exact .inr ⟨g,cap,cur,h1,Nat.le_trans hbw1.size h2,h3⟩)
    clear ho hb3 HF2 t0 t1 t2 t3 t4;go_wp2_with fail
    go_ret2
    exact ⟨r,rfl,HO.out,hbw3⟩
theorem r12decode_any {w : World} {v : Value} {s : ScS} {nm : ByteArray} {ns : List Nat} {vb : Value} (hs : ScIn w v s) (hf : FewS s) (hb : ByS w vb ns) : Calls Tryz.prog 14 #[v,.string nm,vb] w (DtrP 11 (decA s nm ns) w) := by
 obtain ⟨R,hR⟩ : ∃ R,decA s nm ns = R := ⟨_,rfl⟩;have HR : Hid ((if checkA s ≠ 0 then (tr0,1) else decM 10 s nm ns) = R) := hR;rw [hR];clear hR;have hs' := hs;obtain ⟨vm,ve,vt,rfl,hms,hen,hmt⟩ := hs;obtain ⟨ma,mc,rfl, -⟩ := hms.open;obtain ⟨ea,ec,rfl, -⟩ := hen.open;obtain ⟨ta,tn,tc,rfl⟩ := row_sliceD hmt;have HMS : Hid (MsIn w (.slice ma s.msgs.length mc) s.msgs) := hms;generalize s.msgs.length = mn at *;generalize s.enums.length = en at *;obtain ⟨sn,hsn⟩ : ∃ z,s.name = z := ⟨_,rfl⟩;rw [hsn] at hs' ⊢;obtain ⟨BS,BT,hbw⟩ := dblk2r w #[.string sn,.slice ma mn mc,.slice ea en ec,.slice ta tn tc] #[.int .i64 0,.int .i64 0,.string ⟨#[]⟩,.slice none 0 0,.slice none 0 0] 26 33;have HCK : Hid (Calls Tryz.prog 21 #[.agg #[.string sn,.slice ma mn mc,.slice ea en ec,.slice ta tn tc]] ((w.alloc (Obj.cells #[.string sn,.slice ma mn mc,.slice ea en ec,.slice ta tn tc] 26)).alloc (Obj.cells #[.int .i64 0,.int .i64 0,.string ⟨#[]⟩,.slice none 0 0,.slice none 0 0] 33)) fun e w' => e = .returned (.int .i64 (checkA s)) ∧ Below ((w.alloc (Obj.cells #[.string sn,.slice ma mn mc,.slice ea en ec,.slice ta tn tc] 26)).alloc (Obj.cells #[.int .i64 0,.int .i64 0,.string ⟨#[]⟩,.slice none 0 0,.slice none 0 0] 33)).heap.size ((w.alloc (Obj.cells #[.string sn,.slice ma mn mc,.slice ea en ec,.slice ta tn tc] 26)).alloc (Obj.cells #[.int .i64 0,.int .i64 0,.string ⟨#[]⟩,.slice none 0 0,.slice none 0 0] 33)) w') := rcheck_any (hs'.below hbw) hf;have HSC : Hid (ScIn w (.agg #[.string sn,.slice ma mn mc,.slice ea en ec,.slice ta tn tc]) s) := hs';have HBY : Hid (ByS w vb ns) := hb;have HFW : Hid (FewS s) := hf;clear hs' hms hen hmt hsn hf hb
 go_enter Tryz.func14,Tryz.ntmps14
 go_wp2_with fail;obtain ⟨b0,hb0⟩ : ∃ z,w.heap.size = z := ⟨_,rfl⟩;have HBZ : Hid (w.heap.size = b0) := hb0;generalize ((w.alloc (Obj.cells #[.string sn,.slice ma mn mc,.slice ea en ec,.slice ta tn tc] 26)).alloc (Obj.cells #[.int .i64 0,.int .i64 0,.string ⟨#[]⟩,.slice none 0 0,.slice none 0 0] 33)) = W0 at *;rw [hb0] at BS BT;simp only [hb0];clear hb0;obtain ⟨s0,s1,s2,s3⟩ := cl4 BS;have HBW : Hid (Below w.heap.size w W0) := hbw;have HBS : Hid (Blk W0 b0 #[.string sn,.slice ma mn mc,.slice ea en ec,.slice ta tn tc] 26) := BS;have HBT : Hid (Blk W0 (b0 + 1) #[.int .i64 0,.int .i64 0,.string ⟨#[]⟩,.slice none 0 0,.slice none 0 0] 33) := BT;clear BS BT hbw;go_wp2_with fail;refine HCK.out.mono ?_;rintro e w1 ⟨rfl,hb1⟩;have HW1 : Hid (Below W0.heap.size W0 w1) := hb1;have hbw1 : Below w.heap.size w w1 := HBW.out.trans (hb1.mono HBW.out.size);have BS1 := HBS.out.below hb1;have BT1 := HBT.out.below hb1;clear hb1 HCK s0 s1 s2 s3;obtain ⟨A,hA⟩ : ∃ z,checkA s = z := ⟨_,rfl⟩;have HA : Hid (checkA s = A) := hA;rw [hA] at HR ⊢;clear hA
 by_cases hA0 : A = 0
 rotate_left
 ·have d : (A != 0) = true := by simpa using hA0
  have HX1 : Hid (R = (tr0,1)) := hid (by rw [← HR.out,if_pos hA0])
  have HFI : Hid (DtrP 11 R w (.returned (.tuple #[.agg #[.int .i64 0,.int .i64 0,.string ⟨#[]⟩,.slice none 0 0,.slice none 0 0],.int .i64 1])) (set5 w1 (b0 + 1) 0 (.int .i64 0) (.int .i64 0) (.string ⟨#[]⟩) (.slice none 0 0) (.slice none 0 0))) := (
   DtrP.done (bs := []) hbw1 (by have := HBZ.out; omega) (by rw [HX1.out]; exact TrO.zeroO 10 _ w1) (Apt.nil _ _) (by simp) (by rw [HX1.out]) : DtrP _ _ _ _ _)
  clear hA0 hbw1;obtain ⟨t0,t1,t2,t3,t4⟩ := cl5 BT1;obtain ⟨z0,z1,z2,z3,z4⟩ := fz5 BT1;have ltT := BT1.lt;go_wp2_with fail;refine bodyPost_ret (results_two rfl _ _ _ ⟨b0 + 1,0,none⟩ (.agg #[.int .i64 0,.int .i64 0,.string ⟨#[]⟩,.slice none 0 0,.slice none 0 0]) (by go_simp) (by go_simp)) rfl ?_;exact HFI.out
 subst hA0;have HX1 : Hid (decM 10 s nm ns = R) := hid (by rw [← HR.out]; simp);have HOK : Hid (OkS s) := (checkA_ok s).1 HA.out;obtain ⟨X,hX⟩ : ∃ X,msgOf s nm = X := ⟨_,rfl⟩;have HXM : Hid (msgOf s nm = X) := hX
 have HMC : Hid (Calls Tryz.prog 33 #[.agg #[.string sn,.slice ma mn mc,.slice ea en ec,.slice ta tn tc],.string nm] w1 fun e w' => ∃ vf vr,e = .returned (.tuple #[.agg #[.string (X.getD zeroM).name,vf,vr],.bool X.isSome]) ∧ RowG w vf 5 (flRows (X.getD zeroM).fields) ∧ RowG w vr 1 (inRows (X.getD zeroM).reserved) ∧ Below w1.heap.size w1 w') := (by
  rw [← hX];obtain ⟨vm,ve,vt,e1,e2, -⟩ := HSC.out;simp only [Value.agg.injEq,Array.mk.injEq,List.cons.injEq,Value.string.injEq,and_true,true_and] at e1;obtain ⟨-,rfl, -, -⟩ := e1
  exact r7messageW_any (snm := sn) (nm := nm) (ae := ea) (at' := ta) (E := en) (ce := ec) (T := tn) (ct := tc) hbw1 e2 : Calls Tryz.prog _ _ w1 _)
 have HWW : Hid (Below w.heap.size w w1) := hbw1;obtain ⟨s0,s1,s2,s3⟩ := cl4 BS1;clear HR BT1 BS1 hX hbw1;go_wp2_with fail;refine HMC.out.mono ?_;rintro e w2 ⟨vf,vr,rfl,hvf,hvr,hb2⟩;have hw2 : Below W0.heap.size W0 w2 := HW1.out.trans (hb2.mono HW1.out.size);have HBW2 : Hid (Below w.heap.size w w2 ∧ Below W0.heap.size W0 w2) := ⟨HBW.out.trans (hw2.mono HBW.out.size),hw2⟩;have HVF : Hid (RowG w vf 5 (flRows (X.getD zeroM).fields) ∧ RowG w vr 1 (inRows (X.getD zeroM).reserved)) := ⟨hvf,hvr⟩;obtain ⟨fa,fc,hvf0, -⟩ := hvf.form2;obtain ⟨ra,rc,hvr0, -⟩ := hvr.form2;obtain ⟨fl,hfl⟩ : ∃ z,(flRows (X.getD zeroM).fields).length = z := ⟨_,rfl⟩;obtain ⟨rl,hrl⟩ : ∃ z,(inRows (X.getD zeroM).reserved).length = z := ⟨_,rfl⟩;rw [hfl] at hvf0;rw [hrl] at hvr0;subst hvf0;subst hvr0;obtain ⟨MN,hMN⟩ : ∃ z,(X.getD zeroM).name = z := ⟨_,rfl⟩;have HMN : Hid ((X.getD zeroM).name = MN) := hMN;rw [hMN];clear hMN hfl hrl hvf hvr HMC s0 s1 s2 s3;have al3 : Below w2.heap.size w2 (w2.alloc (Obj.cells #[.string MN,.slice fa fl fc,.slice ra rl rc] 50)) := bra _;have hw3 : Below W0.heap.size W0 (w2.alloc (Obj.cells #[.string MN,.slice fa fl fc,.slice ra rl rc] 50)) := hw2.trans (al3.mono hw2.size);have hbw3 : Below w.heap.size w (w2.alloc (Obj.cells #[.string MN,.slice fa fl fc,.slice ra rl rc] 50)) := HBW2.out.1.trans (al3.mono HBW2.out.1.size);have hlw : b0 + 1 < w2.heap.size := Nat.lt_of_lt_of_le HBT.out.lt hw2.size
 cases X with
 | none =>
  have HX2 : Hid (R = (tr0,14)) := hid (by rw [← HX1.out]; simp only [decM,HXM.out]);have BT2 := HBT.out.below hw2
  have HFI : Hid (DtrP 11 R w (.returned (.tuple #[.agg #[.int .i64 0,.int .i64 0,.string ⟨#[]⟩,.slice none 0 0,.slice none 0 0],.int .i64 14])) ((set5 w2 (b0 + 1) 0 (.int .i64 0) (.int .i64 0) (.string ⟨#[]⟩) (.slice none 0 0) (.slice none 0 0)).alloc (Obj.cells #[.string MN,.slice fa fl fc,.slice ra rl rc] 50))) := (
   DtrP.alloc (DtrP.done (bs := []) HBW2.out.1 (by have := HBZ.out; omega) (by rw [HX2.out]; exact TrO.zeroO 10 _ w2) (Apt.nil _ _) (by simp) (by rw [HX2.out])) _ : DtrP _ _ _ _ _)
  simp only [Option.isSome_none];clear al3 hw3 hbw3 hw2 hb2;obtain ⟨t0,t1,t2,t3,t4⟩ := cl5 BT2;obtain ⟨z0,z1,z2,z3,z4⟩ := fz5 BT2;have ltT := BT2.lt;go_wp2_with fail;refine bodyPost_ret (results_two rfl _ _ _ ⟨b0 + 1,0,none⟩ (.agg #[.int .i64 0,.int .i64 0,.string ⟨#[]⟩,.slice none 0 0,.slice none 0 0]) (by go_simp) (by go_simp)) rfl ?_;exact HFI.out
 | some m =>
  simp only [Option.getD_some] at HVF HMN;have hnm : m.name = nm := msgOf_name HXM.out
  have HM1 : Hid (Calls Tryz.prog 34 #[.agg #[.string sn,.slice ma mn mc,.slice ea en ec,.slice ta tn tc],.agg #[.string MN,.slice fa fl fc,.slice ra rl rc],vb,.int .i64 1] (w2.alloc (Obj.cells #[.string MN,.slice fa fl fc,.slice ra rl rc] 50)) (DtrP 11 R (w2.alloc (Obj.cells #[.string MN,.slice fa fl fc,.slice ra rl rc] 50)))) := (by
   have h1 := rmsg12_any s sn ma ea ta mn mc en ec tn tc HOK.out (fun m hm => (HFW.out.few.flds m hm).1) 9 1 rfl m (.slice fa fl fc) (.slice ra rl rc) vb ns (w2.alloc (Obj.cells #[.string MN,.slice fa fl fc,.slice ra rl rc] 50)) (by rw [hnm]; exact HXM.out) (HVF.out.1.below hbw3) (HVF.out.2.below hbw3) (HBY.out.below hbw3) (HSC.out.below hbw3);rw [hnm,HX1.out,← hnm,HMN.out] at h1
   simpa using h1 : Calls Tryz.prog _ _ _ _)
  have BS2 := HBS.out.below hw2;have BM3 : Blk (w2.alloc (Obj.cells #[.string MN,.slice fa fl fc,.slice ra rl rc] 50)) w2.heap.size #[.string MN,.slice fa fl fc,.slice ra rl rc] 50 := Blk.new w2 _ _;have HB3 : Hid (Below W0.heap.size W0 (w2.alloc (Obj.cells #[.string MN,.slice fa fl fc,.slice ra rl rc] 50)) ∧ Below w.heap.size w (w2.alloc (Obj.cells #[.string MN,.slice fa fl fc,.slice ra rl rc] 50))) := ⟨hw3,hbw3⟩
  have hlw0 : b0 < w2.heap.size := by omega
  simp only [Option.isSome_some];clear al3 hw3 hbw3 hw2 hb2 hnm HVF;obtain ⟨s0,s1,s2,s3⟩ := cl4 BS2;go_wp2_with fail;refine HM1.out.mono ?_;rintro e w5 ⟨r,bs,rfl,ht,hap,hb5⟩;have hw5 : Below W0.heap.size W0 w5 := HB3.out.1.trans (hb5.mono HB3.out.1.size);have hbw5 : Below w.heap.size w w5 := HB3.out.2.trans (hb5.mono HB3.out.2.size);have BT5 := HBT.out.below hw5;obtain ⟨a1,n1,c1,a2,n2,c2,rfl⟩ := ht.open;have hle := HB3.out.2.size
  have HFI : Hid (DtrP 11 R w (.returned (.tuple #[.agg #[.int .i64 R.1.kind,.int .i64 R.1.n,.string R.1.s,.slice a1 n1 c1,.slice a2 n2 c2],.int .i64 R.2])) (set5 w5 (b0 + 1) 0 (.int .i64 R.1.kind) (.int .i64 R.1.n) (.string R.1.s) (.slice a1 n1 c1) (.slice a2 n2 c2))) := (
   DtrP.done hbw5 (by have := HBZ.out; omega) (ht.base hle) (hap.base hle) (fun hc => by have h1 := (hap.2 _ hc).1; simp only [World.size_alloc] at h1; omega) rfl : DtrP _ _ _ _ _)
  clear ht hap hb5 hw5 hbw5 hle s0 s1 s2 s3 BS2 BM3 hlw0;obtain ⟨t0,t1,t2,t3,t4⟩ := cl5 BT5;obtain ⟨z0,z1,z2,z3,z4⟩ := fz5 BT5;have ltT := BT5.lt;generalize R.1.kind = K0 at *;generalize R.1.n = N0 at *;generalize R.1.s = S0 at *;generalize R.2 = E0 at *;clear BT5;go_wp2_with fail;refine bodyPost_ret (results_two rfl _ _ _ ⟨b0 + 1,0,none⟩ (.agg #[.int .i64 K0,.int .i64 N0,.string S0,.slice a1 n1 c1,.slice a2 n2 c2]) (by go_simp) (by go_simp)) rfl ?_;exact HFI.out
theorem r12canonical_any {w : World} {v : Value} {s : ScS} {nm : ByteArray} {ns : List Nat} {vb : Value} (hs : ScIn w v s) (hf : FewS s) (hb : ByS w vb ns) : Calls Tryz.prog 17 #[v,.string nm,vb] w fun e w' => e = .returned (.bool (canA s nm ns)) ∧ Below w.heap.size w w' := by
 obtain ⟨R,hR⟩ : ∃ R,decA s nm ns = R := ⟨_,rfl⟩;obtain ⟨C,hC⟩ : ∃ C,canA s nm ns = C := ⟨_,rfl⟩;have HC : Hid ((decide (R.2 = 0) && decide ((encA 11 R.1).2 = 0) && decide ((encA 11 R.1).1 = ns)) = C) := (by rw [← hC,canA,hR] : _ = C)
 have HSM : Hid (R.2 = 0 → SmN 11 R.1 ∧ cntN 11 R.1 ≤ 4097) := fun h0 => by
  have h1 := dcA_small hb.lt (by rw [hR]; exact h0);rw [hR] at h1;exact ⟨h1.2.2.1,h1.2.2.2⟩
 rw [hC];clear hC;have hs' := hs;obtain ⟨vm,ve,vt,rfl,hms,hen,hmt⟩ := hs;obtain ⟨ma,mc,rfl, -⟩ := hms.open;obtain ⟨ea,ec,rfl, -⟩ := hen.open;obtain ⟨ta,tn,tc,rfl⟩ := row_sliceD hmt;have HMS : Hid (MsIn w (.slice ma s.msgs.length mc) s.msgs) := hms;generalize s.msgs.length = mn at *;generalize s.enums.length = en at *;obtain ⟨sn,hsn⟩ : ∃ z,s.name = z := ⟨_,rfl⟩;rw [hsn] at hs' ⊢;have al : Below w.heap.size w (w.alloc (Obj.cells #[.string sn,.slice ma mn mc,.slice ea en ec,.slice ta tn tc] 26)) := bra _;have BS : Blk (w.alloc (Obj.cells #[.string sn,.slice ma mn mc,.slice ea en ec,.slice ta tn tc] 26)) w.heap.size #[.string sn,.slice ma mn mc,.slice ea en ec,.slice ta tn tc] 26 := Blk.new w _ _
 have HDE : Hid (Calls Tryz.prog 14 #[.agg #[.string sn,.slice ma mn mc,.slice ea en ec,.slice ta tn tc],.string nm,vb] (w.alloc (Obj.cells #[.string sn,.slice ma mn mc,.slice ea en ec,.slice ta tn tc] 26)) (DtrP 11 R (w.alloc (Obj.cells #[.string sn,.slice ma mn mc,.slice ea en ec,.slice ta tn tc] 26)))) := (by
  rw [← hR]
  exact r12decode_any (hs'.below al) hf (hb.below al) : Calls Tryz.prog _ _ _ _)
 have HBY : Hid (ByS w vb ns) := hb;clear hs' hms hen hmt hsn hf hb hR HMS
 go_enter Tryz.func17,Tryz.ntmps17
 go_wp2_with fail;refine HDE.out.mono ?_;rintro e w2 ⟨r,bs,rfl,ht,hap,hb2⟩;have hbw2 : Below w.heap.size w w2 := al.trans (hb2.mono al.size);obtain ⟨a1,n1,c1,a2,n2,c2,rfl⟩ := ht.open;clear HDE hb2 al BS;obtain ⟨T,E0⟩ := R;simp only at HC HSM ht ⊢;have al3 : Below w2.heap.size w2 (w2.alloc (Obj.cells #[.int .i64 T.kind,.int .i64 T.n,.string T.s,.slice a1 n1 c1,.slice a2 n2 c2] 33)) := bra _;have hbw3 : Below w.heap.size w (w2.alloc (Obj.cells #[.int .i64 T.kind,.int .i64 T.n,.string T.s,.slice a1 n1 c1,.slice a2 n2 c2] 33)) := hbw2.trans (al3.mono hbw2.size)
 by_cases hE : E0 = 0
 rotate_left
 ·have d : (E0 != 0) = true := by simpa using hE
  have HX : Hid (false = C) := hid (by rw [← HC.out]; simp [hE]);clear hE ht hap al3;generalize T.kind = K0 at *;generalize T.n = N0 at *;generalize T.s = S0 at *;go_wp2_with fail;go_ret;exact ⟨congrArg (fun z => Ending.returned (Value.bool z)) HX.out,hbw3⟩
 ·subst hE
  have HEN : Hid (Calls Tryz.prog 27 #[.agg #[.int .i64 T.kind,.int .i64 T.n,.string T.s,.slice a1 n1 c1,.slice a2 n2 c2]] (w2.alloc (Obj.cells #[.int .i64 T.kind,.int .i64 T.n,.string T.s,.slice a1 n1 c1,.slice a2 n2 c2] 33)) (EncP (encA 11 T) (w2.alloc (Obj.cells #[.int .i64 T.kind,.int .i64 T.n,.string T.s,.slice a1 n1 c1,.slice a2 n2 c2] 33)))) :=
   rEncode_any 11 T _ _ (TrIn.below ⟨_,rfl,ht.trC⟩ al3) (HSM.out rfl).1 (by omega)
  have HLT : Hid (∀ k ∈ (encA 11 T).1,k < 256) := encA_bytes 11 T;clear ht hap al3 HSM;obtain ⟨Y,hY⟩ : ∃ Y,encA 11 T = Y := ⟨_,rfl⟩;rw [hY] at HEN HC HLT;clear hY;generalize T.kind = K0 at *;generalize T.n = N0 at *;generalize T.s = S0 at *;go_wp2_with fail;refine Calls.mono HEN.out ?_;rintro e w4 ⟨ro,rfl,ho,hb4⟩;have hbw4 : Below w.heap.size w w4 := hbw3.trans (hb4.mono hbw3.size);have hq1 := ByS.own ho HLT.out;have hq2 := HBY.out.below hbw4;have cv1 := hq1.conv;have cv2 := hq2.conv;obtain ⟨Yn,Ye⟩ := Y;simp only at HC cv1 hq1 ⊢
  have HE : Hid (decide (Yn = ns) = ((strN Yn).toList == (strN ns).toList)) := (by
   rw [Bool.eq_iff_iff];simp only [decide_eq_true_eq,beq_iff_eq,ByteArray.toList_eq]
   constructor
   ·rintro rfl; rfl
   ·intro h
    refine (strN_inj hq1.lt hq2.lt).1 (ByteArray.ext (Array.toList_inj.1 h)) : _ = _)
  clear ho hb4 HEN hbw3 HLT hq1 hq2
  by_cases hYe : Ye = 0
  rotate_left
  ·have d : ((Ye : Int) == 0) = false := by simp; omega
   have HX : Hid (false = C) := hid (by rw [← HC.out]; simp [hYe]);clear hYe;go_wp2_with fail;go_ret;exact ⟨congrArg (fun z => Ending.returned (Value.bool z)) HX.out,hbw4⟩
  ·subst hYe;have HX : Hid (((strN Yn).toList == (strN ns).toList) = C) := (by rw [← HC.out,← HE.out]; simp : _ = C);simp only [show ((0 : Nat) : Int) = 0 from rfl];clear HE HC;generalize strN Yn = S1 at *;generalize strN ns = S2 at *;go_wp2_with fail;go_ret;exact ⟨congrArg (fun z => Ending.returned (Value.bool z)) HX.out,hbw4⟩
theorem ints_any {w : World} {v : Value} {fs : List Int} (hr : RowG w v 1 (inRows fs)) (hl : fs.length ≤ 100) :
  Calls Tryz.prog 32 #[v] w fun e w' => ∃ r,e = .returned r ∧ w'.ownsRow w.heap.size 3 1 r fs.length (inRows fs).flatten ∧ Below w.heap.size w w' := by
 have hN : (inRows fs).length = fs.length := by simp [inRows]
 have HN : Hid ((inRows fs).length = fs.length) := hN;have HR : Hid (RowG w v 1 (inRows fs)) := hr;have HL : Hid (fs.length ≤ 100) := hl;clear hr hN hl
 go_enter Tryz.func32,Tryz.ntmps32
 go_wp2_with (first
  | (at_builtin; refine wpList_joinG rfl _ _ 46 3 1 8 _ rfl Tryz.underlying46 infoIn rfl (by decide) w.heap.size (.slice none 0 0) 0 [] rfl (World.ownsRow_nil _ _ _ _) v (inRows fs) rfl HR.out (inr_len fs) (inr_one fs) ?c1 (by decide) (Nat.le_refl _) ?_)
  | fail)
 case c1 => have h1 := HN.out; have h2 := HL.out; omega
 intro r w1 ho hg;have hb : Below w.heap.size w w1 := (Below.refl _ _).grown hg (Nat.le_refl _) (fun k hk => by cases hk)
 have HO : Hid (w1.ownsRow w.heap.size 3 1 r fs.length (inRows fs).flatten) := by
  show World.ownsRow _ _ _ _ _ _ _
  rw [HN.out] at ho;exact ho
 clear hg ho;go_wp2_with fail;go_ret;exact ⟨_,rfl,HO.out,hb⟩
def ApR (ps : List (Value × Value)) : Prop := ∀ (i j : Nat) (p q : Value × Value) (k : Nat),ps[i]? = some p → ps[j]? = some q → p.2.ownBlock = some k → q.2.ownBlock = some k → i = j
def ApE (ps : List Value) : Prop := ∀ (i j : Nat) (p q : Value) (k : Nat),ps[i]? = some p → ps[j]? = some q → p.ownBlock = some k → q.ownBlock = some k → i = j
theorem ApR.nil : ApR [] := fun i j p q k hp => by simp at hp
theorem ApE.nil : ApE [] := fun i j p q k hp => by simp at hp
theorem ApR.snoc {ps : List (Value × Value)} {vf vr : Value} {H : Nat} (h : ApR ps) (hH : ∀ (i : Nat) (p : Value × Value) (k : Nat),ps[i]? = some p → p.2.ownBlock = some k → k < H) (hr : ∀ k,vr.ownBlock = some k → H ≤ k) : ApR (ps ++ [(vf,vr)]) := by
 intro i j p q k hp hq hpk hqk
 rcases get_snoc hp with ⟨hi,hp⟩ | ⟨hi,rfl⟩
 ·rcases get_snoc hq with ⟨hj,hq⟩ | ⟨hj,rfl⟩
  ·exact h i j p q k hp hq hpk hqk
  ·have a1 := hH i p k hp hpk;have a2 := hr k hqk
   omega
 ·rcases get_snoc hq with ⟨hj,hq⟩ | ⟨hj,rfl⟩
  ·have a1 := hH j q k hq hqk;have a2 := hr k hpk
   omega
  ·omega
theorem ApE.snoc {ps : List Value} {vr : Value} {H : Nat} (h : ApE ps) (hH : ∀ (i : Nat) (p : Value) (k : Nat),ps[i]? = some p → p.ownBlock = some k → k < H) (hr : ∀ k,vr.ownBlock = some k → H ≤ k) : ApE (ps ++ [vr]) := by
 intro i j p q k hp hq hpk hqk
 rcases get_snoc hp with ⟨hi,hp1⟩ | ⟨hi,ep⟩
 ·rcases get_snoc hq with ⟨hj,hq1⟩ | ⟨hj,eq⟩
  ·exact h i j p q k hp1 hq1 hpk hqk
  ·have a1 := hH i p k hp1 hpk;rw [eq] at hqk;have a2 := hr k hqk
   omega
 ·rcases get_snoc hq with ⟨hj,hq1⟩ | ⟨hj,eq⟩
  ·have a1 := hH j q k hq1 hqk;rw [ep] at hpk;have a2 := hr k hpk
   omega
  ·omega
theorem MsO.highR {w : World} {B : Nat} {v : Value} {ms : List MsS} {ps : List (Value × Value)} (h : MsO w B v ms ps) : ∀ (i : Nat) (p : Value × Value) (k : Nat),ps[i]? = some p → p.2.ownBlock = some k → k < w.heap.size := by
 intro i p k hp hk
 have hi : i < ms.length := by rw [← h.len]; exact (List.getElem?_eq_some_iff.1 hp).1
 exact ((h.each i _ p (List.getElem?_eq_getElem hi) hp).2.lt k hk).2
theorem EnO.highE {w : World} {B : Nat} {v : Value} {ms : List EnS} {ps : List Value} (h : EnO w B v ms ps) : ∀ (i : Nat) (p : Value) (k : Nat),ps[i]? = some p → p.ownBlock = some k → k < w.heap.size := by
 intro i p k hp hk
 have hi : i < ms.length := by rw [← h.len]; exact (List.getElem?_eq_some_iff.1 hp).1
 exact ((h.each i _ p (List.getElem?_eq_getElem hi) hp).lt k hk).2
theorem schema_ap {w : World} {v : Value} {s : ScS} (hr : ScIn w v s) (hf : FewL s) :
  Calls Tryz.prog 12 #[v] w fun e w' => ∃ vm ve vt pm pe,e = .returned (.agg #[.string s.name,vm,ve,vt]) ∧ MsO w' w.heap.size vm s.msgs pm ∧ EnO w' w.heap.size ve s.enums pe ∧ w'.ownsRow w.heap.size 72 3 vt s.methods.length (mtRows s.methods).flatten ∧ Below w.heap.size w w' ∧ ApR pm ∧ ApE pe := by
 obtain ⟨vm0,ve0,vt0,rfl,hm,he,ht⟩ := hr;obtain ⟨am,cm,rfl,qm1,qm2⟩ := hm.form2;obtain ⟨ae,ce,rfl,qe1,qe2⟩ := he.form2;obtain ⟨at',ct,rfl,qt1,qt2⟩ := ht.form2
 have hT : (mtRows s.methods).length = s.methods.length := by simp [mtRows]
 rw [hT] at ht qt1 ⊢;clear hT;have HM : Hid (MsIn w (.slice am s.msgs.length cm) s.msgs) := hm;have HE : Hid (EnIn w (.slice ae s.enums.length ce) s.enums) := he;have HT : Hid (RowG w (.slice at' s.methods.length ct) 3 (mtRows s.methods)) := ht;have HF : Hid (FewL s) := hf;have h1 := hf.msgs;have h2 := hf.enums;have h3 := hf.meths;obtain ⟨nm,ms,es,ts⟩ := s;simp only at *;have HM : Hid (MsIn w (.slice am ms.length cm) ms) := HM;have HE : Hid (EnIn w (.slice ae es.length ce) es) := HE;have HT : Hid (RowG w (.slice at' ts.length ct) 3 (mtRows ts)) := HT;obtain ⟨M,hM⟩ : ∃ N,ms.length = N := ⟨_,rfl⟩;obtain ⟨E,hE⟩ : ∃ N,es.length = N := ⟨_,rfl⟩;obtain ⟨T,hT⟩ : ∃ N,ts.length = N := ⟨_,rfl⟩;rw [hM] at HM qm1 h1 ⊢;rw [hE] at HE qe1 h2 ⊢;rw [hT] at HT qt1 h3 ⊢;have HNM : Hid (ms.length = M) := hM;have HNE : Hid (es.length = E) := hE;have HNT : Hid (ts.length = T) := hT
 have HNR : Hid ((mtRows ts).length = T) := by show _ = _; simp [mtRows,hT]
 clear hM hE hT hf hm he ht
 go_enter Tryz.func12,Tryz.ntmps12
 go_wp2_with fail;refine M_region (T := fun W => W.cell? ⟨w.heap.size,0,none⟩ = some (.string nm) ∧ W.cell? ⟨w.heap.size,3,none⟩ = some (.slice at' T ct)) (m := 7) (by kernel_rfl) ?_;have HB0 : Hid (Below w.heap.size w ((w.alloc (.cells #[.string nm,.slice am M cm,.slice ae E ce,.slice at' T ct] 26)).alloc (.cells #[.string ⟨#[]⟩,.slice none 0 0,.slice none 0 0,.slice none 0 0] 26)).drew) := below_drewN 1 ((bra _).alloc (by simp) _);have HX0 : Hid (Blk ((w.alloc (.cells #[.string nm,.slice am M cm,.slice ae E ce,.slice at' T ct] 26)).alloc (.cells #[.string ⟨#[]⟩,.slice none 0 0,.slice none 0 0,.slice none 0 0] 26)).drew w.heap.size #[.string nm,.slice am M cm,.slice ae E ce,.slice at' T ct] 26) := (Blk.new w _ _).below (below_drewN 1 (bra _))
 have HR0 : Hid (Blk ((w.alloc (.cells #[.string nm,.slice am M cm,.slice ae E ce,.slice at' T ct] 26)).alloc (.cells #[.string ⟨#[]⟩,.slice none 0 0,.slice none 0 0,.slice none 0 0] 26)).drew (w.heap.size + 1) #[.string ⟨#[]⟩,.slice none 0 0,.slice none 0 0,.slice none 0 0] 26) := by
  have := Blk.new (w.alloc (.cells #[.string nm,.slice am M cm,.slice ae E ce,.slice at' T ct] 26)) #[.string ⟨#[]⟩,.slice none 0 0,.slice none 0 0,.slice none 0 0] 26;rw [show (w.alloc (.cells #[.string nm,.slice am M cm,.slice ae E ce,.slice at' T ct] 26)).heap.size = w.heap.size + 1 by simp] at this;exact this
 have HS0 : Hid (((w.alloc (.cells #[.string nm,.slice am M cm,.slice ae E ce,.slice at' T ct] 26)).alloc (.cells #[.string ⟨#[]⟩,.slice none 0 0,.slice none 0 0,.slice none 0 0] 26)).drew.heap.size = w.heap.size + 2) := by show _ = _; simp [World.drew]
 generalize ((w.alloc (.cells #[.string nm,.slice am M cm,.slice ae E ce,.slice at' T ct] 26)).alloc (.cells #[.string ⟨#[]⟩,.slice none 0 0,.slice none 0 0,.slice none 0 0] 26)).drew = W0 at *;have hT : W0.cell? ⟨w.heap.size,0,none⟩ = some (.string nm) ∧ W0.cell? ⟨w.heap.size,3,none⟩ = some (.slice at' T ct) := ⟨HX0.out.cell 0,HX0.out.cell 3⟩;obtain ⟨b0,hb0⟩ : ∃ n,w.heap.size = n := ⟨_,rfl⟩;rw [hb0] at HX0 HR0 HS0 hT ⊢;have HBZ : Hid (w.heap.size = b0) := hb0;clear hb0;refine M_tk 0 7 (.pointer (some ⟨b0,0,none⟩)) (fun w' hw' => ?_) hT (bts 8 1) ?_
 ·obtain ⟨g0,g3⟩ := hw'; go_simp
 refine M_tk 2 9 (.pointer (some ⟨b0,3,none⟩)) (fun w' hw' => ?_) hT (bts 8 5) ?_
 ·obtain ⟨g0,g3⟩ := hw'; go_simp
 refine M_tk 1 8 (.string nm) (fun w' hw' => ?_) hT (bts 8 7) ?_
 ·obtain ⟨g0,g3⟩ := hw'; go_simp
 refine M_tk 3 10 (.slice at' T ct) (fun w' hw' => ?_) hT (bts 8 15) ?_
 ·obtain ⟨g0,g3⟩ := hw'; go_simp
 have HAPP : Hid (∀ W : World,Below W0.heap.size W0 W → ∃ u W1,(Builtin.append_ #[24,24] 24 #[.slice none 0 0,.slice at' T ct]).run Tryz.prog W = .ok u W1 ∧ (∃ a c,u = .slice a T c) ∧ W1.ownsRow (b0 + 2) 72 3 u T (mtRows ts).flatten ∧ Below W.heap.size W W1) := fun W hW => by
  obtain ⟨u,W1,r1,r2,r3⟩ := run_joinG (w := W) 24 24 72 3 48 _ Tryz.underlying24 infoMt rfl (by decide) (b0 + 2) (.slice none 0 0) 0 [] (World.ownsRow_nil _ _ _ _) (.slice at' T ct) (mtRows ts) (HT.out.below (HB0.out.trans (hW.mono HB0.out.size))) (mtr_len ts) (mtr_one ts) (by have := HNR.out; omega) (by decide) (by have := hW.size; have := HS0.out; omega);rw [List.nil_append,HNR.out,Nat.zero_add] at r2;exact ⟨u,W1,r1,own_form r2,r2,(Below.refl _ _).grown r3 (Nat.le_refl _) (fun k hk => by cases hk)⟩
 have hTb : ∀ W,Below W0.heap.size W0 W → W.cell? ⟨b0,0,none⟩ = some (.string nm) ∧ W.cell? ⟨b0,3,none⟩ = some (.slice at' T ct) := fun W hW => ⟨(HX0.out.below hW).cell 0,(HX0.out.below hW).cell 3⟩
 have hAl : ∀ W : World,Below W.heap.size W (W.alloc (.cells #[.string ⟨#[]⟩,.slice none 0 0,.slice none 0 0,.slice none 0 0] 26)) := fun W => bra _
 refine M_aa 4 6 5 11 3 12 (fun W => .pointer (some ⟨W.heap.size,0,none⟩)) (fun W => W.alloc (.cells #[.string ⟨#[]⟩,.slice none 0 0,.slice none 0 0,.slice none 0 0] 26)) (fun u => .agg #[.string nm,.slice none 0 0,.slice none 0 0,u]) (fun u => ∃ a c,u = .slice a T c)
  (fun u p W => ∃ bt,p = .pointer (some ⟨bt,0,none⟩) ∧ b0 + 2 ≤ bt ∧ Blk W bt #[.string ⟨#[]⟩,.slice none 0 0,.slice none 0 0,.slice none 0 0] 26 ∧ W.ownsRow (b0 + 2) 72 3 u T (mtRows ts).flatten ∧ Below W0.heap.size W0 W)
  rfl rfl rfl rfl rfl rfl (by decide) (by decide) (by decide) (by decide) (by kernel_rfl) (by kernel_rfl) (by kernel_rfl) (by kernel_rfl) (by kernel_rfl) (fun _ => rfl) (fun _ => rfl) (fun _ => rfl) (by kernel_rfl) (by kernel_rfl) (by kernel_rfl) (by kernel_rfl) (fun _ _ _ _ h => h) ?x2 ?hA ?hB ?xk ?xk' ?_
 case x2 => intro a' W'; go_simp
 case hA =>
  obtain ⟨u,W1,r1,r2,r3,r4⟩ := HAPP.out W0 (Below.refl _ _);have r5 : Below W0.heap.size W0 (W1.alloc (.cells #[.string ⟨#[]⟩,.slice none 0 0,.slice none 0 0,.slice none 0 0] 26)) := r4.trans ((hAl W1).mono r4.size);exact ⟨u,W1,append_run rfl rfl rfl r1,r2,hTb W1 r4,hTb _ r5,W1.heap.size,rfl,by have := r4.size; have := HS0.out; omega,Blk.new W1 _ _,own_below r3 (hAl W1),r5⟩
 case hB =>
  refine ⟨hTb _ (hAl W0),?_⟩;obtain ⟨u,W1,r1,r2,r3,r4⟩ := HAPP.out _ (hAl W0);have r5 : Below W0.heap.size W0 W1 := (hAl W0).trans (r4.mono (hAl W0).size);exact ⟨u,W1,append_run rfl rfl rfl r1,r2,hTb W1 r5,W0.heap.size,rfl,by have := HS0.out; omega,(Blk.new W0 _ _).below r4,r3,r5⟩
 case xk => rintro u W' ⟨a,c,rfl⟩; go_simp
 case xk' => rintro u v W' ⟨a,c,rfl⟩; go_simp
 rintro u p W1 ⟨ua,uc,rfl⟩ _ ⟨bt,rfl,hbt,BT,ho,hbel⟩;simp only [zsA,zsZ,zsS];have HO : Hid (W1.ownsRow (b0 + 2) 72 3 (.slice ua T uc) T (mtRows ts).flatten) := ho;have HX1 := HX0.out.below hbel;have HR1 := HR0.out.below hbel;have hbw : Below w.heap.size w W1 := HB0.out.trans (hbel.mono HB0.out.size);obtain ⟨t0,t1,t2,t3⟩ := cl4 BT;have z0 := BT.froz 0;have z1 := BT.froz 1;have z2 := BT.froz 2;have z3 := BT.froz 3;refine M_st 7 ((((W1.setCell ⟨bt,0,none⟩ (.string nm)).setCell ⟨bt,1,none⟩ (.slice none 0 0)).setCell ⟨bt,2,none⟩ (.slice none 0 0)).setCell ⟨bt,3,none⟩ (.slice ua T uc)) (bts 8 255) rfl (by go_simp) ?_;refine M_done (by kernel_rfl) ?_ _
 have KS : Kp (fun k => k = bt) W1 ((((W1.setCell ⟨bt,0,none⟩ (.string nm)).setCell ⟨bt,1,none⟩ (.slice none 0 0)).setCell ⟨bt,2,none⟩ (.slice none 0 0)).setCell ⟨bt,3,none⟩ (.slice ua T uc)) := by
  refine Kp.setCell ?_ (fun _ => by simp) _;refine Kp.setCell ?_ (fun _ => by simp) _;refine Kp.setCell ?_ (fun _ => by simp) _;refine Kp.setCell ?_ (fun _ => by simp) _;exact Kp.refl _ _
 have BA : Blk (W1.setCell ⟨bt,0,none⟩ (.string nm)) bt #[.string nm,.slice none 0 0,.slice none 0 0,.slice none 0 0] 26 := BT.set 0 (.string nm) rfl;have BB : Blk ((W1.setCell ⟨bt,0,none⟩ (.string nm)).setCell ⟨bt,1,none⟩ (.slice none 0 0)) bt #[.string nm,.slice none 0 0,.slice none 0 0,.slice none 0 0] 26 := BA.set 1 (.slice none 0 0) rfl;have BC : Blk (((W1.setCell ⟨bt,0,none⟩ (.string nm)).setCell ⟨bt,1,none⟩ (.slice none 0 0)).setCell ⟨bt,2,none⟩ (.slice none 0 0)) bt #[.string nm,.slice none 0 0,.slice none 0 0,.slice none 0 0] 26 := BB.set 2 (.slice none 0 0) rfl;have BT2 : Blk ((((W1.setCell ⟨bt,0,none⟩ (.string nm)).setCell ⟨bt,1,none⟩ (.slice none 0 0)).setCell ⟨bt,2,none⟩ (.slice none 0 0)).setCell ⟨bt,3,none⟩ (.slice ua T uc)) bt #[.string nm,.slice none 0 0,.slice none 0 0,.slice ua T uc] 26 := BC.set 3 (.slice ua T uc) rfl;clear BA BB BC;have HO2 : Hid (((((W1.setCell ⟨bt,0,none⟩ (.string nm)).setCell ⟨bt,1,none⟩ (.slice none 0 0)).setCell ⟨bt,2,none⟩ (.slice none 0 0)).setCell ⟨bt,3,none⟩ (.slice ua T uc)).ownsRow (b0 + 2) 72 3 (.slice ua T uc) T (mtRows ts).flatten) := own_blk HO.out BT (by decide) KS;have BX2 := HX1.kp KS (by omega);have BR2 := HR1.kp KS (by omega);have hb2 : Below w.heap.size w ((((W1.setCell ⟨bt,0,none⟩ (.string nm)).setCell ⟨bt,1,none⟩ (.slice none 0 0)).setCell ⟨bt,2,none⟩ (.slice none 0 0)).setCell ⟨bt,3,none⟩ (.slice ua T uc)) := hbw.trans (KS.toBelow hbw.size (fun k e => by have := HBZ.out; omega));generalize ((((W1.setCell ⟨bt,0,none⟩ (.string nm)).setCell ⟨bt,1,none⟩ (.slice none 0 0)).setCell ⟨bt,2,none⟩ (.slice none 0 0)).setCell ⟨bt,3,none⟩ (.slice ua T uc)) = W2 at *;have hbt2 : bt < W2.heap.size := BT2.lt;clear t0 t1 t2 t3 z0 z1 z2 z3 KS HO HX1 HR1 hbw BT ho hbel hT hTb HAPP HB0 HX0 HR0 HS0 hAl;have HMS0 : Hid (MsO W2 (bt + 1) (.slice none 0 0) (ms.take 0) []) := MsO.nil W2 (bt + 1);go_wp2_with fail
 go_loopw [4] (fun iv wr => ∃ (k : Nat) (va : Option Addr) (vc : Nat) (pm : List (Value × Value)),iv = .int .i64 (k : Int) ∧ k ≤ M ∧ Hid (MsO wr (bt + 1) (.slice va k vc) (ms.take k) pm) ∧ Hid (ApR pm) ∧ Blk wr bt #[.string nm,.slice va k vc,.slice none 0 0,.slice ua T uc] 26 ∧ Hid (wr.ownsRow (b0 + 2) 72 3 (.slice ua T uc) T (mtRows ts).flatten) ∧ Blk wr b0 #[.string nm,.slice am M cm,.slice ae E ce,.slice at' T ct] 26 ∧ Blk wr (b0 + 1) #[.string ⟨#[]⟩,.slice none 0 0,.slice none 0 0,.slice none 0 0] 26 ∧ Below w.heap.size w wr) (fun iv _ => M - (intOf iv).toNat)
 case atStart => exact ⟨0,none,0,[],rfl,by omega,HMS0,ApR.nil,BT2,HO2,BX2,BR2,hb2⟩
 case round =>
  obtain ⟨k,va,vc,pm,rfl,hk,HMS,HAR,BT,HO,BX,BR,hbel⟩ := hrel;clear HMS0 BT2 HO2 BX2 BR2 hb2 hbt2;have hbtw : bt < wr.heap.size := BT.lt;have x1 : wr.cell? ⟨b0,1,none⟩ = some (.slice am M cm) := BX.cell 1
  by_cases hlt : k < M
  ·obtain ⟨m,hm⟩ : ∃ n,ms[k]? = some n := ⟨_,List.getElem?_eq_getElem (by rw [HNM.out]; exact hlt)⟩;obtain ⟨g,off,vf,vr,rfl,c0,c1,c2,hrf,hrr⟩ := (HM.out.below hbel).get hm;have HFf : Hid (RowG wr vf 5 (flRows m.fields)) := hrf;have HRr : Hid (RowG wr vr 1 (inRows m.reserved)) := hrr;obtain ⟨a3,c3,rfl,_,_⟩ := hrf.form2;obtain ⟨a4,c4,rfl,_,_⟩ := hrr.form2;have HFl : Hid (m.fields.length ≤ 20 ∧ m.reserved.length ≤ 40) := HF.out.flds m (List.mem_of_getElem? hm);have HTK : Hid (ms.take (k + 1) = ms.take k ++ [m]) := take_at hm
   have HLK : Hid ((ms.take k).length = k) := by show _ = _; rw [List.length_take,HNM.out]; omega
   obtain ⟨m0,mf,mr⟩ := m;simp only at c0 c1 c2 HFl HTK;have HFf : Hid (RowG wr (.slice a3 (flRows mf).length c3) 5 (flRows mf)) := HFf;have HRr : Hid (RowG wr (.slice a4 (inRows mr).length c4) 1 (inRows mr)) := HRr;generalize hnF : (flRows mf).length = nF at *;generalize hnR : (inRows mr).length = nR at *;clear hrf hrr hm hnF hnR
   have HLF : Hid ((flRows mf).length = mf.length) := by show _ = _; simp [flRows]
   go_wp2_with fail;clear c0 c1 c2 x1;refine M_region (T := fun W => W.cell? ⟨bt,1,none⟩ = some (.slice va k vc) ∧ W.cell? ⟨wr.heap.size,0,none⟩ = some (.string m0) ∧ W.cell? ⟨wr.heap.size,1,none⟩ = some (.slice a3 nF c3) ∧ W.cell? ⟨wr.heap.size,2,none⟩ = some (.slice a4 nR c4)) (m := 14) (by kernel_rfl) ?_;have hb0 : Below wr.heap.size wr (wr.alloc (.cells #[.string m0,.slice a3 nF c3,.slice a4 nR c4] 50)).drew := below_drewN 1 (bra _);have BM0 : Blk (wr.alloc (.cells #[.string m0,.slice a3 nF c3,.slice a4 nR c4] 50)).drew wr.heap.size #[.string m0,.slice a3 nF c3,.slice a4 nR c4] 50 := Blk.new wr #[.string m0,.slice a3 nF c3,.slice a4 nR c4] 50;generalize (wr.alloc (.cells #[.string m0,.slice a3 nF c3,.slice a4 nR c4] 50)).drew = W0 at *;have BT0 := BT.below hb0;have BX0 := BX.below hb0;have BR0 := BR.below hb0;have HMS0 : Hid (MsO W0 (bt + 1) (.slice va k vc) (ms.take k) pm) := HMS.out.below hb0;have HO0 : Hid (W0.ownsRow (b0 + 2) 72 3 (.slice ua T uc) T (mtRows ts).flatten) := own_below HO.out hb0;have HF0 : Hid (RowG W0 (.slice a3 nF c3) 5 (flRows mf)) := HFf.out.below hb0;have HR0 : Hid (RowG W0 (.slice a4 nR c4) 1 (inRows mr)) := HRr.out.below hb0;have hbel0 : Below w.heap.size w W0 := hbel.trans (hb0.mono hbel.size);have HOB : Hid (∀ q,(Value.slice va k vc).ownBlock = some q → q < wr.heap.size) := fun q hq => (HMS.out.own.lt q hq).2
   obtain ⟨bm,hbm⟩ : ∃ n,wr.heap.size = n := ⟨_,rfl⟩;rw [hbm] at BM0 hbtw HOB ⊢;clear hbm BT BX BR HMS HO HFf HRr hb0 hbel;have hTW : ∀ W,Below W0.heap.size W0 W → W.cell? ⟨bt,1,none⟩ = some (.slice va k vc) ∧ W.cell? ⟨bm,0,none⟩ = some (.string m0) ∧ W.cell? ⟨bm,1,none⟩ = some (.slice a3 nF c3) ∧ W.cell? ⟨bm,2,none⟩ = some (.slice a4 nR c4) := fun W hW => ⟨(BT0.below hW).cell 1,(BM0.below hW).cell 0,(BM0.below hW).cell 1,(BM0.below hW).cell 2⟩
   have hT := hTW W0 (Below.refl _ _);refine M_tk 0 25 (.pointer (some ⟨bt,1,none⟩)) (fun w' hw' => ?_) hT (bts 15 1) ?_
   ·obtain ⟨g0,g1,g2,g3⟩ := hw'; go_simp
   refine M_tk 2 27 (.pointer (some ⟨bm,0,none⟩)) (fun w' hw' => ?_) hT (bts 15 5) ?_
   ·obtain ⟨g0,g1,g2,g3⟩ := hw'; go_simp
   refine M_tk 4 29 (.pointer (some ⟨bm,1,none⟩)) (fun w' hw' => ?_) hT (bts 15 21) ?_
   ·obtain ⟨g0,g1,g2,g3⟩ := hw'; go_simp
   refine M_tk 7 32 (.pointer (some ⟨bm,2,none⟩)) (fun w' hw' => ?_) hT (bts 15 149) ?_
   ·obtain ⟨g0,g1,g2,g3⟩ := hw'; go_simp
   refine M_tk 1 26 (.slice va k vc) (fun w' hw' => ?_) hT (bts 15 151) ?_
   ·obtain ⟨g0,g1,g2,g3⟩ := hw'; go_simp
   refine M_tk 3 28 (.string m0) (fun w' hw' => ?_) hT (bts 15 159) ?_
   ·obtain ⟨g0,g1,g2,g3⟩ := hw'; go_simp
   refine M_tk 5 30 (.slice a3 nF c3) (fun w' hw' => ?_) hT (bts 15 191) ?_
   ·obtain ⟨g0,g1,g2,g3⟩ := hw'; go_simp
   refine M_tk 8 33 (.slice a4 nR c4) (fun w' hw' => ?_) hT (bts 15 447) ?_
   ·obtain ⟨g0,g1,g2,g3⟩ := hw'; go_simp
   obtain ⟨vf,W1,r1,r2,r3⟩ := run_joinG (w := W0) 48 48 58 5 56 _ Tryz.underlying48 infoFl rfl (by decide) W0.heap.size (.slice none 0 0) 0 [] (World.ownsRow_nil _ _ _ _) (.slice a3 nF c3) (flRows mf) HF0.out (flr_len mf) (flr_one mf) (by have := HLF.out; have := HFl.out; omega) (by decide) (Nat.le_refl _);rw [List.nil_append,HLF.out,Nat.zero_add] at r2;have hb1 : Below W0.heap.size W0 W1 := (Below.refl _ _).grown r3 (Nat.le_refl _) (fun k hk => by cases hk);obtain ⟨fa,fc,rfl⟩ := own_form r2;have HO1 : Hid (W1.ownsRow W0.heap.size 58 5 (.slice fa mf.length fc) mf.length (flRows mf).flatten) := r2;have HRUN : Hid _ := r1;clear r1 r2 r3;refine M_rn 6 31 (.slice fa mf.length fc) (W1) (bts 15 511) rfl (append_run rfl rfl rfl HRUN.out) (hTW W1 hb1) ?_;simp only [zsA,zsZ,zsS];clear HRUN;refine M_cl 9 34 32 #[.slice a4 nR c4] (bts 15 1023) rfl (fun W => by go_simp) ?_;refine (ints_any (HR0.out.below hb1) (by have := HFl.out; omega)).mono ?_;rintro e W2 ⟨vr,rfl,ho2,hb2⟩;have hb02 : Below W0.heap.size W0 W2 := hb1.trans (hb2.mono hb1.size);have hT := hTW W2 hb02;obtain ⟨ra,rc,hrv⟩ := own_form ho2;subst hrv;refine ⟨_,rfl,hT,?_⟩;simp only [zsA,zsZ,zsS];have HO2 : Hid (W2.ownsRow W0.heap.size 3 1 (.slice ra mr.length rc) mr.length (inRows mr).flatten) := own_base ho2 hb1.size;have HAR5 : Hid (ApR (pm ++ [(.slice fa mf.length fc,.slice ra mr.length rc)])) := HAR.out.snoc HMS0.out.highR (fun k hk => (HO2.out.lt k hk).1);have HO1 : Hid (W2.ownsRow W0.heap.size 58 5 (.slice fa mf.length fc) mf.length (flRows mf).flatten) := own_below HO1.out hb2;clear ho2 hb2 hb1;refine M_tk 10 35 (.agg #[.string m0,.slice fa mf.length fc,.slice ra mr.length rc]) (fun w' hw' => ?_) hT (bts 15 2047) ?_
   ·obtain ⟨g0,g1,g2,g3⟩ := hw'; go_simp
   have hal : Below W2.heap.size W2 (W2.alloc (.cells #[.string m0,.slice fa mf.length fc,.slice ra mr.length rc] 50)) := bra _;have hb03 : Below W0.heap.size W0 (W2.alloc (.cells #[.string m0,.slice fa mf.length fc,.slice ra mr.length rc] 50)) := hb02.trans (hal.mono hb02.size);have BE := Blk.new W2 #[.string m0,.slice fa mf.length fc,.slice ra mr.length rc] 50;have HO1 : Hid ((W2.alloc (.cells #[.string m0,.slice fa mf.length fc,.slice ra mr.length rc] 50)).ownsRow W0.heap.size 58 5 (.slice fa mf.length fc) mf.length (flRows mf).flatten) := own_below HO1.out hal;have HO2 : Hid ((W2.alloc (.cells #[.string m0,.slice fa mf.length fc,.slice ra mr.length rc] 50)).ownsRow W0.heap.size 3 1 (.slice ra mr.length rc) mr.length (inRows mr).flatten) := own_below HO2.out hal;obtain ⟨bz,hbz⟩ : ∃ n,W2.heap.size = n := ⟨_,rfl⟩;refine M_rn 11 36 (.slice (some ⟨W2.heap.size,0,none⟩) 1 1) (W2.alloc (.cells #[.string m0,.slice fa mf.length fc,.slice ra mr.length rc] 50)) (bts 15 4095) rfl (by go_simp) (hTW _ hb03) ?_;simp only [zsA,zsZ,zsS];rw [hbz] at BE ⊢;generalize (W2.alloc (.cells #[.string m0,.slice fa mf.length fc,.slice ra mr.length rc] 50)) = W3 at *;clear hbz hal hb02;have HMS3 : Hid (MsO W3 (bt + 1) (.slice va k vc) (ms.take k) pm) := HMS0.out.below hb03;obtain ⟨i0,hi0,hz0,hz1,hz2⟩ := info_parts infoMs;have hown := HMS3.out.own;rw [HLK.out] at hown
   obtain ⟨v',W4,r1,r2,r3,_⟩ := run_append_own W3 (bt + 1) 22 22 50 i0 _ 3 64 Tryz.underlying22 hi0 hz0 hz1 hz2 rfl (by decide) (.slice va k vc) k _ hown ⟨bz,0,none⟩ 1 1 [.string m0,.slice fa mf.length fc,.slice ra mr.length rc] rfl (fun j u hu => by
    have := BE.cell j;rw [Addr.add_lit,Nat.zero_add,this]
    simpa using hu) (fun u hu => by
    simp only [List.mem_cons,List.not_mem_nil,or_false] at hu
    rcases hu with rfl | rfl | rfl <;> rfl) (by unfold maxLen; omega) (by omega) (by have := hb03.size; have := BT0.lt; omega)
   have HRUN : Hid _ := r1;have KA : Kp (fun q => (Value.slice va k vc).ownBlock = some q) W3 W4 := (Kp.refl _ _).grown r3 (fun q hq _ => hq)
   have HMS4 : Hid (MsO W4 (bt + 1) v' (ms.take (k + 1)) (pm ++ [(.slice fa mf.length fc,.slice ra mr.length rc)])) := by
    show MsO _ _ _ _ _
    rw [HTK.out];refine MsO.snoc (m := ⟨m0,mf,mr⟩) HMS3.out HMS0.out.high (by have := BT0.lt; omega) HO1.out HO2.out ?_ KA;rw [HLK.out]; exact r2
   obtain ⟨na,nc,hv'⟩ := own_form r2;subst hv';have HMS4 : Hid (MsO W4 (bt + 1) (.slice na (k + 1) nc) (ms.take (k + 1)) (pm ++ [(.slice fa mf.length fc,.slice ra mr.length rc)])) := HMS4;have hnob : ∀ b cs t,Blk W3 b cs t → t ≠ 50 → ¬ (Value.slice va k vc).ownBlock = some b := fun b cs t hb ht hq => ht (own_type hown hq hb).symm
   have BT4 := (BT0.below hb03).kp KA (hnob _ _ _ (BT0.below hb03) (by decide));have BX4 := (BX0.below hb03).kp KA (hnob _ _ _ (BX0.below hb03) (by decide));have BR4 := (BR0.below hb03).kp KA (hnob _ _ _ (BR0.below hb03) (by decide));have BMb := BM0.below hb03;have HO4 : Hid (W4.ownsRow (b0 + 2) 72 3 (.slice ua T uc) T (mtRows ts).flatten) := own_kpV (own_below HO0.out hb03) KA (fun q hv hq => own_apart hown (own_below HO0.out hb03) (by decide) q hq hv);have hb4 : Below w.heap.size w W4 := (hbel0.trans (hb03.mono hbel0.size)).grown r3 (by have := hb03.size; have := hbel0.size; omega) (fun q hq => by have := (hown.lt q hq).1; have := HBZ.out; omega)
   have hTm : W4.cell? ⟨bt,1,none⟩ = some (.slice va k vc) ∧ W4.cell? ⟨bm,0,none⟩ = some (.string m0) ∧ W4.cell? ⟨bm,1,none⟩ = some (.slice a3 nF c3) ∧ W4.cell? ⟨bm,2,none⟩ = some (.slice a4 nR c4) := by
    have hq : ¬ (Value.slice va k vc).ownBlock = some bm := fun hq => by
     have := HOB.out bm hq
     omega
    exact ⟨BT4.cell 1,(BMb.kp KA hq).cell 0,(BMb.kp KA hq).cell 1,(BMb.kp KA hq).cell 2⟩
   clear r1 r2 r3 hown;refine M_rn 12 37 (.slice na (k + 1) nc) (W4) (bts 15 8191) rfl (append_run rfl rfl rfl HRUN.out) hTm ?_;simp only [zsA,zsZ,zsS];clear HRUN;have hT := hTm;refine M_tk 13 38 (.pointer (some ⟨bt,1,none⟩)) (fun w' hw' => ?_) hT (bts 15 16383) ?_
   ·obtain ⟨g0,g1,g2,g3⟩ := hw'; go_simp
   have y1 := (BT4.cell 1).trans rfl;have z1 := BT4.froz 1;refine M_st 14 (W4.setCell ⟨bt,1,none⟩ (.slice na (k + 1) nc)) (bts 15 32767) rfl (by go_simp) ?_;refine M_done (by kernel_rfl) ?_ _
   have KS : Kp (fun q => q = bt) W4 (W4.setCell ⟨bt,1,none⟩ (.slice na (k + 1) nc)) := by
    refine Kp.setCell ?_ (fun _ => by simp) _;exact Kp.refl _ _
   have BT5 : Blk (W4.setCell ⟨bt,1,none⟩ (.slice na (k + 1) nc)) bt #[.string nm,.slice na (k + 1) nc,.slice none 0 0,.slice ua T uc] 26 := BT4.set 1 _ rfl;have BX5 := BX4.kp KS (by omega);have BR5 := BR4.kp KS (by omega);have HMS5 : Hid (MsO (W4.setCell ⟨bt,1,none⟩ (.slice na (k + 1) nc)) (bt + 1) (.slice na (k + 1) nc) (ms.take (k + 1)) (pm ++ [(.slice fa mf.length fc,.slice ra mr.length rc)])) := HMS4.out.kp KS (fun q h1 h2 => by omega);have HO5 : Hid ((W4.setCell ⟨bt,1,none⟩ (.slice na (k + 1) nc)).ownsRow (b0 + 2) 72 3 (.slice ua T uc) T (mtRows ts).flatten) := own_blk HO4.out BT4 (by decide) KS;have hb5 : Below w.heap.size w (W4.setCell ⟨bt,1,none⟩ (.slice na (k + 1) nc)) := hb4.trans (KS.toBelow hb4.size (fun q e => by have := HBZ.out; omega));generalize (W4.setCell ⟨bt,1,none⟩ (.slice na (k + 1) nc)) = W5 at *;clear y1 z1 KS BT4 BX4 BR4 HMS4 HO4 hb4 hT hTm hTW BM0 BT0 BX0 BR0 HMS0 HO0 HF0 HR0 hbel0 HMS3 KA BE hb03 HO1 HO2 hnob BMb;go_wp2_with fail
   go_roundw
   case rel => exact ⟨k + 1,_,_,_,by go_num,by omega,HMS5,HAR5,BT5,HO5,BX5,BR5,hb5⟩
   case measure => simp [intOf]; omega
  ·obtain rfl : k = M := by omega
   have HMS0 : Hid (MsO wr (bt + 1) (.slice va k vc) ms pm) := by
    have := HMS.out;rw [List.take_of_length_le (by rw [HNM.out]; omega)] at this;exact this
   have HES0 : Hid (EnO wr (bt + 1) (.slice none 0 0) (es.take 0) []) := EnO.nil wr (bt + 1);clear HMS;go_wp2_with fail;clear x1
   go_loopw [6] (fun iv wr => ∃ (i : Nat) (na : Option Addr) (nc : Nat) (pe : List Value),iv = .int .i64 (i : Int) ∧ i ≤ E ∧ Hid (EnO wr (bt + 1) (.slice na i nc) (es.take i) pe) ∧ Hid (ApE pe) ∧ Hid (MsO wr (bt + 1) (.slice va k vc) ms pm) ∧ Blk wr bt #[.string nm,.slice va k vc,.slice na i nc,.slice ua T uc] 26 ∧ Hid (wr.ownsRow (b0 + 2) 72 3 (.slice ua T uc) T (mtRows ts).flatten) ∧ Blk wr b0 #[.string nm,.slice am k cm,.slice ae E ce,.slice at' T ct] 26 ∧ Blk wr (b0 + 1) #[.string ⟨#[]⟩,.slice none 0 0,.slice none 0 0,.slice none 0 0] 26 ∧ Below w.heap.size w wr) (fun iv _ => E - (intOf iv).toNat)
   case atStart => exact ⟨0,none,0,[],rfl,by omega,HES0,ApE.nil,HMS0,BT,HO,BX,BR,hbel⟩
   case round =>
    obtain ⟨i,na,nc,pe,rfl,hi,HES,HAE,HMS,BT,HO,BX,BR,hbel⟩ := hrel;clear HES0 HMS0;have hbtw : bt < wr.heap.size := BT.lt;have x2 : wr.cell? ⟨b0,2,none⟩ = some (.slice ae E ce) := BX.cell 2
    by_cases hlt : i < E
    ·obtain ⟨m,hm⟩ : ∃ n,es[i]? = some n := ⟨_,List.getElem?_eq_getElem (by rw [HNE.out]; exact hlt)⟩;obtain ⟨g,off,vv,rfl,c0,c1,hrf⟩ := (HE.out).get hm;have HFf : Hid (RowG w vv 2 (nmRows m.values)) := hrf;obtain ⟨a3,c3,rfl,_,_⟩ := hrf.form2;have HFl : Hid (m.values.length ≤ 24) := HF.out.vals m (List.mem_of_getElem? hm);have HTK : Hid (es.take (i + 1) = es.take i ++ [m]) := take_at hm
     have HLK : Hid ((es.take i).length = i) := by show _ = _; rw [List.length_take,HNE.out]; omega
     obtain ⟨m0,mf⟩ := m;simp only at c0 c1 HFl HTK;have HFf : Hid (RowG w (.slice a3 (nmRows mf).length c3) 2 (nmRows mf)) := HFf;generalize hnF : (nmRows mf).length = nF at *;clear hrf hm hnF
     have HLF : Hid ((nmRows mf).length = mf.length) := by show _ = _; simp [nmRows]
     have hgb : g < b0 := by have h9 : g < w.heap.size := World.block_lt_of_cell? _ _ c0; have := HBZ.out; omega
     have C0 : Hid (w.cell? ⟨g,off + i * 2,none⟩ = some (.string m0)) := c0;have C1 : Hid (w.cell? ⟨g,off + i * 2 + 1,none⟩ = some (.slice a3 nF c3)) := c1;clear c0 c1;go_wp2_with fail;clear x2;refine M_region (T := fun W => W.cell? ⟨bt,2,none⟩ = some (.slice na i nc) ∧ W.cell? ⟨b0,2,none⟩ = some (.slice (some ⟨g,off,none⟩) E ce) ∧ W.cell? ⟨g,off + i * 2,none⟩ = some (.string m0) ∧ W.cell? ⟨g,off + i * 2 + 1,none⟩ = some (.slice a3 nF c3)) (m := 19) (by kernel_rfl) ?_;have hb0 : Below wr.heap.size wr wr.drew := below_drewN 1 (Below.refl _ _);generalize wr.drew = W0 at *;have BT0 := BT.below hb0;have BX0 := BX.below hb0;have BR0 := BR.below hb0;have HES0 : Hid (EnO W0 (bt + 1) (.slice na i nc) (es.take i) pe) := HES.out.below hb0;have HMS0 : Hid (MsO W0 (bt + 1) (.slice va k vc) ms pm) := HMS.out.below hb0;have HO0 : Hid (W0.ownsRow (b0 + 2) 72 3 (.slice ua T uc) T (mtRows ts).flatten) := own_below HO.out hb0;have hbel0 : Below w.heap.size w W0 := hbel.trans (hb0.mono hbel.size);have hbtw : bt < W0.heap.size := BT0.lt;clear BT BX BR HES HMS HO hb0 hbel
     have hTW : ∀ W,Below W0.heap.size W0 W → W.cell? ⟨bt,2,none⟩ = some (.slice na i nc) ∧ W.cell? ⟨b0,2,none⟩ = some (.slice (some ⟨g,off,none⟩) E ce) ∧ W.cell? ⟨g,off + i * 2,none⟩ = some (.string m0) ∧ W.cell? ⟨g,off + i * 2 + 1,none⟩ = some (.slice a3 nF c3) := fun W hW => by
      have hwW : Below w.heap.size w W := hbel0.trans (hW.mono hbel0.size);exact ⟨(BT0.below hW).cell 2,(BX0.below hW).cell 2,(hwW.cell (World.block_lt_of_cell? _ _ C0.out)).trans C0.out,(hwW.cell (World.block_lt_of_cell? _ _ C1.out)).trans C1.out⟩
     have hT := hTW W0 (Below.refl _ _);refine M_tk 0 46 (.pointer (some ⟨bt,2,none⟩)) (fun w' hw' => ?_) hT (bts 20 1) ?_
     ·obtain ⟨g0,g1,g2,g3⟩ := hw'; go_simp
     refine M_tk 2 48 (.pointer (some ⟨b0,2,none⟩)) (fun w' hw' => ?_) hT (bts 20 5) ?_
     ·obtain ⟨g0,g1,g2,g3⟩ := hw'; go_simp
     refine M_tk 4 50 (.int .i64 (i : Int)) (fun w' hw' => ?_) hT (bts 20 21) ?_
     ·obtain ⟨g0,g1,g2,g3⟩ := hw'; go_simp
     refine M_tk 8 54 (.pointer (some ⟨b0,2,none⟩)) (fun w' hw' => ?_) hT (bts 20 277) ?_
     ·obtain ⟨g0,g1,g2,g3⟩ := hw'; go_simp
     refine M_tk 10 56 (.int .i64 (i : Int)) (fun w' hw' => ?_) hT (bts 20 1301) ?_
     ·obtain ⟨g0,g1,g2,g3⟩ := hw'; go_simp
     refine M_tk 1 47 (.slice na i nc) (fun w' hw' => ?_) hT (bts 20 1303) ?_
     ·obtain ⟨g0,g1,g2,g3⟩ := hw'; go_simp
     refine M_tk 3 49 (.slice (some ⟨g,off,none⟩) E ce) (fun w' hw' => ?_) hT (bts 20 1311) ?_
     ·obtain ⟨g0,g1,g2,g3⟩ := hw'; go_simp
     refine M_tk 9 55 (.slice (some ⟨g,off,none⟩) E ce) (fun w' hw' => ?_) hT (bts 20 1823) ?_
     ·obtain ⟨g0,g1,g2,g3⟩ := hw'; go_simp
     refine M_tk 5 51 (.pointer (some ⟨g,off + i * 2,none⟩)) (fun w' hw' => ?_) hT (bts 20 1855) ?_
     ·obtain ⟨g0,g1,g2,g3⟩ := hw'; go_simp
     refine M_tk 11 57 (.pointer (some ⟨g,off + i * 2,none⟩)) (fun w' hw' => ?_) hT (bts 20 3903) ?_
     ·obtain ⟨g0,g1,g2,g3⟩ := hw'; go_simp
     refine M_tk 6 52 (.pointer (some ⟨g,off + i * 2,none⟩)) (fun w' hw' => ?_) hT (bts 20 3967) ?_
     ·obtain ⟨g0,g1,g2,g3⟩ := hw'; go_simp
     refine M_tk 12 58 (.pointer (some ⟨g,off + i * 2 + 1,none⟩)) (fun w' hw' => ?_) hT (bts 20 8063) ?_
     ·obtain ⟨g0,g1,g2,g3⟩ := hw'; go_simp
     refine M_tk 7 53 (.string m0) (fun w' hw' => ?_) hT (bts 20 8191) ?_
     ·obtain ⟨g0,g1,g2,g3⟩ := hw'; go_simp
     refine M_tk 13 59 (.slice a3 nF c3) (fun w' hw' => ?_) hT (bts 20 16383) ?_
     ·obtain ⟨g0,g1,g2,g3⟩ := hw'; go_simp
     obtain ⟨vf,W1,r1,r2,r3⟩ := run_joinG (w := W0) 66 66 70 2 24 _ Tryz.underlying66 infoNm rfl (by decide) W0.heap.size (.slice none 0 0) 0 [] (World.ownsRow_nil _ _ _ _) (.slice a3 nF c3) (nmRows mf) (HFf.out.below hbel0) (nmr_len mf) (nmr_one mf) (by have := HLF.out; have := HFl.out; omega) (by decide) (Nat.le_refl _);rw [List.nil_append,HLF.out,Nat.zero_add] at r2;have hb1 : Below W0.heap.size W0 W1 := (Below.refl _ _).grown r3 (Nat.le_refl _) (fun k hk => by cases hk);obtain ⟨fa,fc,rfl⟩ := own_form r2;have HO1 : Hid (W1.ownsRow W0.heap.size 70 2 (.slice fa mf.length fc) mf.length (nmRows mf).flatten) := r2;have HAE5 : Hid (ApE (pe ++ [.slice fa mf.length fc])) := HAE.out.snoc HES0.out.highE (fun k hk => (HO1.out.lt k hk).1);have HRUN : Hid _ := r1;have hT := hTW W1 hb1;clear r1 r2 r3;refine M_rn 14 60 (.slice fa mf.length fc) (W1) (bts 20 32767) rfl (append_run rfl rfl rfl HRUN.out) hT ?_;simp only [zsA,zsZ,zsS];clear HRUN;refine M_tk 15 61 (.agg #[.string m0,.slice fa mf.length fc]) (fun w' hw' => ?_) hT (bts 20 65535) ?_
     ·obtain ⟨g0,g1,g2,g3⟩ := hw'; go_simp
     have hal : Below W1.heap.size W1 (W1.alloc (.cells #[.string m0,.slice fa mf.length fc] 68)) := bra _;have hb03 : Below W0.heap.size W0 (W1.alloc (.cells #[.string m0,.slice fa mf.length fc] 68)) := hb1.trans (hal.mono hb1.size);have BE := Blk.new W1 #[.string m0,.slice fa mf.length fc] 68;have HO1 : Hid ((W1.alloc (.cells #[.string m0,.slice fa mf.length fc] 68)).ownsRow W0.heap.size 70 2 (.slice fa mf.length fc) mf.length (nmRows mf).flatten) := own_below HO1.out hal;obtain ⟨bz,hbz⟩ : ∃ n,W1.heap.size = n := ⟨_,rfl⟩;refine M_rn 16 62 (.slice (some ⟨W1.heap.size,0,none⟩) 1 1) (W1.alloc (.cells #[.string m0,.slice fa mf.length fc] 68)) (bts 20 131071) rfl (by go_simp) (hTW _ hb03) ?_;simp only [zsA,zsZ,zsS];rw [hbz] at BE ⊢;generalize (W1.alloc (.cells #[.string m0,.slice fa mf.length fc] 68)) = W3 at *;clear hbz hal hb1;have HES3 : Hid (EnO W3 (bt + 1) (.slice na i nc) (es.take i) pe) := HES0.out.below hb03;obtain ⟨i0,hi0,hz0,hz1,hz2⟩ := info_parts infoEn;have hown := HES3.out.own;rw [HLK.out] at hown
     obtain ⟨v',W4,r1,r2,r3,_⟩ := run_append_own W3 (bt + 1) 23 23 68 i0 _ 2 40 Tryz.underlying23 hi0 hz0 hz1 hz2 rfl (by decide) (.slice na i nc) i _ hown ⟨bz,0,none⟩ 1 1 [.string m0,.slice fa mf.length fc] rfl (fun j u hu => by
      have := BE.cell j;rw [Addr.add_lit,Nat.zero_add,this]
      simpa using hu) (fun u hu => by
      simp only [List.mem_cons,List.not_mem_nil,or_false] at hu
      rcases hu with rfl | rfl <;> rfl) (by unfold maxLen; omega) (by omega) (by have := hb03.size; omega)
     have HRUN : Hid _ := r1;have KA : Kp (fun q => (Value.slice na i nc).ownBlock = some q) W3 W4 := (Kp.refl _ _).grown r3 (fun q hq _ => hq)
     have HES4 : Hid (EnO W4 (bt + 1) v' (es.take (i + 1)) (pe ++ [.slice fa mf.length fc])) := by
      show EnO _ _ _ _ _
      rw [HTK.out];refine EnO.snoc (m := ⟨m0,mf⟩) HES3.out (H := W0.heap.size) (by omega) HO1.out ?_ KA;rw [HLK.out]; exact r2
     obtain ⟨oa,oc,hv'⟩ := own_form r2;subst hv';have HES4 : Hid (EnO W4 (bt + 1) (.slice oa (i + 1) oc) (es.take (i + 1)) (pe ++ [.slice fa mf.length fc])) := HES4;have hnob : ∀ b cs t,Blk W3 b cs t → t ≠ 68 → ¬ (Value.slice na i nc).ownBlock = some b := fun b cs t hb ht hq => ht (own_type hown hq hb).symm
     have BT4 := (BT0.below hb03).kp KA (hnob _ _ _ (BT0.below hb03) (by decide));have BX4 := (BX0.below hb03).kp KA (hnob _ _ _ (BX0.below hb03) (by decide));have BR4 := (BR0.below hb03).kp KA (hnob _ _ _ (BR0.below hb03) (by decide));have HMS4 : Hid (MsO W4 (bt + 1) (.slice va k vc) ms pm) := (HMS0.out.below hb03).beside hown (by decide) (by decide) (by decide) KA;have HO4 : Hid (W4.ownsRow (b0 + 2) 72 3 (.slice ua T uc) T (mtRows ts).flatten) := own_kpV (own_below HO0.out hb03) KA (fun q hv hq => own_apart hown (own_below HO0.out hb03) (by decide) q hq hv);have hb4 : Below w.heap.size w W4 := (hbel0.trans (hb03.mono hbel0.size)).grown r3 (by have := hb03.size; have := hbel0.size; omega) (fun q hq => by have := (hown.lt q hq).1; have := HBZ.out; omega)
     have hTm : W4.cell? ⟨bt,2,none⟩ = some (.slice na i nc) ∧ W4.cell? ⟨b0,2,none⟩ = some (.slice (some ⟨g,off,none⟩) E ce) ∧ W4.cell? ⟨g,off + i * 2,none⟩ = some (.string m0) ∧ W4.cell? ⟨g,off + i * 2 + 1,none⟩ = some (.slice a3 nF c3) :=
      ⟨BT4.cell 2,BX4.cell 2,(hb4.cell (World.block_lt_of_cell? _ _ C0.out)).trans C0.out,(hb4.cell (World.block_lt_of_cell? _ _ C1.out)).trans C1.out⟩
     clear r1 r2 r3 hown;refine M_rn 17 63 (.slice oa (i + 1) oc) (W4) (bts 20 262143) rfl (append_run rfl rfl rfl HRUN.out) hTm ?_;simp only [zsA,zsZ,zsS];clear HRUN;have hT := hTm;refine M_tk 18 64 (.pointer (some ⟨bt,2,none⟩)) (fun w' hw' => ?_) hT (bts 20 524287) ?_
     ·obtain ⟨g0,g1,g2,g3⟩ := hw'; go_simp
     have y1 := (BT4.cell 2).trans rfl;have z1 := BT4.froz 2;refine M_st 19 (W4.setCell ⟨bt,2,none⟩ (.slice oa (i + 1) oc)) (bts 20 1048575) rfl (by go_simp) ?_;refine M_done (by kernel_rfl) ?_ _
     have KS : Kp (fun q => q = bt) W4 (W4.setCell ⟨bt,2,none⟩ (.slice oa (i + 1) oc)) := by
      refine Kp.setCell ?_ (fun _ => by simp) _;exact Kp.refl _ _
     have BT5 : Blk (W4.setCell ⟨bt,2,none⟩ (.slice oa (i + 1) oc)) bt #[.string nm,.slice va k vc,.slice oa (i + 1) oc,.slice ua T uc] 26 := BT4.set 2 _ rfl;have BX5 := BX4.kp KS (by omega);have BR5 := BR4.kp KS (by omega);have HES5 : Hid (EnO (W4.setCell ⟨bt,2,none⟩ (.slice oa (i + 1) oc)) (bt + 1) (.slice oa (i + 1) oc) (es.take (i + 1)) (pe ++ [.slice fa mf.length fc])) := HES4.out.kp KS (fun q h1 h2 => by omega);have HMS5 : Hid (MsO (W4.setCell ⟨bt,2,none⟩ (.slice oa (i + 1) oc)) (bt + 1) (.slice va k vc) ms pm) := HMS4.out.kp KS (fun q h1 h2 => by omega);have HO5 : Hid ((W4.setCell ⟨bt,2,none⟩ (.slice oa (i + 1) oc)).ownsRow (b0 + 2) 72 3 (.slice ua T uc) T (mtRows ts).flatten) := own_blk HO4.out BT4 (by decide) KS;have hb5 : Below w.heap.size w (W4.setCell ⟨bt,2,none⟩ (.slice oa (i + 1) oc)) := hb4.trans (KS.toBelow hb4.size (fun q e => by have := HBZ.out; omega));generalize (W4.setCell ⟨bt,2,none⟩ (.slice oa (i + 1) oc)) = W5 at *;clear y1 z1 KS BT4 BX4 BR4 HMS4 HES4 HO4 hb4 hT hTm hTW BT0 BX0 BR0 HMS0 HES0 HO0 hbel0 HES3 KA BE hb03 HO1 hnob;go_wp2_with fail
     go_roundw
     case rel => exact ⟨i + 1,_,_,_,by go_num,by omega,HES5,HAE5,HMS5,BT5,HO5,BX5,BR5,hb5⟩
     case measure => simp [intOf]; omega
    ·have HES1 : Hid (EnO wr (bt + 1) (.slice na i nc) es pe) := by
      have := HES.out;rw [List.take_of_length_le (by rw [HNE.out]; omega)] at this;exact this
     have t0 : wr.cell? ⟨bt,0,none⟩ = some (.string nm) := BT.cell 0;have t1 : wr.cell? ⟨bt,1,none⟩ = some (.slice va k vc) := BT.cell 1;have t2 : wr.cell? ⟨bt,2,none⟩ = some (.slice na i nc) := BT.cell 2;have t3 : wr.cell? ⟨bt,3,none⟩ = some (.slice ua T uc) := BT.cell 3;obtain ⟨r0,r1,r2,r3⟩ := cl4 BR;have z0 := BR.froz 0;have z1 := BR.froz 1;have z2 := BR.froz 2;have z3 := BR.froz 3;go_wp2_with fail;refine bodyPost_ret (results_cell rfl _ _ _ ⟨b0 + 1,0,none⟩ (.agg #[.string nm,.slice va k vc,.slice na i nc,.slice ua T uc]) (by go_simp) (by go_simp)) rfl ?_
     have KS : Kp (fun q => q = b0 + 1) wr ((((wr.setCell ⟨b0 + 1,0,none⟩ (.string nm)).setCell ⟨b0 + 1,1,none⟩ (.slice va k vc)).setCell ⟨b0 + 1,2,none⟩ (.slice na i nc)).setCell ⟨b0 + 1,3,none⟩ (.slice ua T uc)) := by
      refine Kp.setCell ?_ (fun _ => by simp) _;refine Kp.setCell ?_ (fun _ => by simp) _;refine Kp.setCell ?_ (fun _ => by simp) _;refine Kp.setCell ?_ (fun _ => by simp) _;exact Kp.refl _ _
     refine ⟨_,_,_,pm,pe,rfl,?_,?_,?_,?_,HAR.out,HAE.out⟩
     ·exact (HMS.out.kp KS (fun q h1 h2 => by omega)).base (by have := HBZ.out; omega)
     ·exact (HES1.out.kp KS (fun q h1 h2 => by omega)).base (by have := HBZ.out; omega)
     ·exact own_base (own_kp HO.out KS (fun q h1 h2 => by omega)) (by have := HBZ.out; omega)
     ·exact hbel.trans (KS.toBelow hbel.size (fun q e => by have := HBZ.out; omega))
theorem schema_any {w : World} {v : Value} {s : ScS} (hr : ScIn w v s) (hf : FewL s) :
  Calls Tryz.prog 12 #[v] w fun e w' => ∃ vm ve vt pm pe,e = .returned (.agg #[.string s.name,vm,ve,vt]) ∧ MsO w' w.heap.size vm s.msgs pm ∧ EnO w' w.heap.size ve s.enums pe ∧ w'.ownsRow w.heap.size 72 3 vt s.methods.length (mtRows s.methods).flatten ∧ Below w.heap.size w w' :=
 (schema_ap hr hf).mono fun e w' ⟨vm,ve,vt,pm,pe,h1,h2,h3,h4,h5,_⟩ => ⟨vm,ve,vt,pm,pe,h1,h2,h3,h4,h5⟩
end Go.Proofs.YtiajaocckkghgaaGreat
