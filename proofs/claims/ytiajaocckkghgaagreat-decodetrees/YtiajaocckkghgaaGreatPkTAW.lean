/- Part 23 of what the proof stands on. -/
import Derived.Test.YtiajaocckkghgaaGreatPkTAV
import Derived.ChangeArms
import Derived.Lib.SlBytesConst
namespace Go.Proofs.YtiajaocckkghgaaGreat
set_option maxHeartbeats 8000000
set_option linter.unusedVariables false
set_option linter.unusedSimpArgs false
set_option maxRecDepth 20000
section
open Go.ChangeShapes Go.WideShapes Go.ChangeAt Go.RowKit
def LiteT {H : Type} (t : TypeId) (d : DataW H) : Prop := ∀ n ∈ d.weights Tryz.prog t,n ≤ 140737488351232
theorem liteT_all {H : Type} {e : TypeId} : ∀ {l : List (DataW H)} {d : DataW H},d ∈ l → ∀ n ∈ d.weights Tryz.prog e,n ∈ DataW.weightsAll Tryz.prog e l
 | x :: l,d,h,n,hn => by
  simp only [DataW.weightsAll,List.mem_append]
  rcases List.mem_cons.1 h with rfl | h
  ·exact .inl hn
  ·exact .inr (liteT_all h n hn)
theorem liteT_each {H : Type} {ts : List TypeId} {ds : List (DataW H)} (h : ∀ n ∈ DataW.weightsEach Tryz.prog ts ds,n ≤ 140737488351232) {j : Nat} {t : TypeId} {d : DataW H} (ht : ts[j]? = some t) (hd : ds[j]? = some d) : LiteT t d :=
 fun n hn => h n (DataW.weights_mem_each ht hd n hn)
section
variable {H : Type} {enc : TypeId × Value → H} {W : World} {base : Nat} {spare : Nat → Bool} {held : Bool}
theorem liteT_struct {t : TypeId} {fs : Array Field} {ds : List (DataW H)} (hu : Tryz.prog.underlying t = some (.struct fs)) (h : LiteT t (.agg ds : DataW H)) {j : Nat} {u : TypeId} {d : DataW H} (ht : (fs.toList.map (·.type))[j]? = some u) (hd : ds[j]? = some d) : LiteT u d := by
 refine liteT_each (ts := fs.toList.map (·.type)) (ds := ds) (fun n hn => h n ?_) ht hd;simp only [DataW.weights,hu];exact hn
theorem rowP_in {α : Type} [Inhabited α] {t e : TypeId} {size : Nat} (hc : Tryz.prog.cellsOf e = size) (hpos : 0 < size) (ht : Tryz.prog.underlying t = some (.slice e)) (P : List Value → α → Prop) (hw : ∀ r x,P r x → r.length = size)
  {fuel : Nat} {c : Value} {x : DataW H × List MemPlace} (h : DataW.trod enc Tryz.prog W base spare held fuel t [c] = some x) (hl : LiteT t x.1)
  (one : ∀ n cs' y,n < fuel → DataW.trod enc Tryz.prog W base spare held n e cs' = some y → LiteT e y.1 → ∃ r,P cs' r) : ∃ rs : List α,RowP P W size c rs := by
 rcases DataW.trod_slice ht h with ⟨hcs, -⟩ | ⟨ad,len,cap,elems,rest,n,hfu,hcs,hx,hb,hle,hm,hlen,hel, -, -⟩
 ·obtain rfl : c = .slice none 0 0 := by simpa using hcs
  exact ⟨[],RowP.nil P W size⟩
 ·obtain rfl : c = .slice (some ad) len cap := by simpa using hcs
  rw [hc] at hel
  have each : ∀ i,i < len → ∃ (cs' : List Value) (r : α),W.cells? base (ad.add (i * size)) size = some cs' ∧ P cs' r := fun i hi => by
   have h1 := hel i hi;rw [List.getElem?_eq_getElem (by omega)] at h1;obtain ⟨cs',h2,h3⟩ := Option.bind_eq_some_iff.1 h1
   obtain ⟨r,hp⟩ := one n cs' _ (by omega) h3 (fun k hk => hl k (by
    rw [hx];simp only [DataW.weights,ht,List.mem_cons,List.mem_append]
    exact .inr (.inl (liteT_all (List.mem_map.2 ⟨_,List.getElem_mem (by omega),rfl⟩) k hk))))
   exact ⟨cs',r,h2,hp⟩
  obtain ⟨f,hf⟩ : ∃ f : Nat → List Value × α,∀ i,i < len → W.cells? base (ad.add (i * size)) size = some (f i).1 ∧ P (f i).1 (f i).2 :=
   ⟨fun i => if h : i < len then (Classical.choose (each i h),Classical.choose (Classical.choose_spec (each i h))) else ([],default),fun i hi => by simp only [dif_pos hi]; exact Classical.choose_spec (Classical.choose_spec (each i hi))⟩
  refine ⟨(List.range len).map fun i => (f i).2,(List.range len).map fun i => (f i).1,⟨some ad,cap,by simp,by simpa using hle,hm,(fun e => by cases e),fun hne => ?_⟩,by simp,fun i y hy => ?_⟩
  ·have hlp : 0 < len := by
    rcases Nat.eq_zero_or_pos len with h0 | h0
    ·subst h0; simp at hne
    ·exact h0
   have hcell : ∀ i,i < len → ∀ k,k < size → W.cell? ((ad.add (i * size)).add k) = (f i).1[k]? := fun i hi => (World.cells?_some (hf i hi).1).2.2
   obtain ⟨g,off,spot⟩ := ad
   have hspot : spot = none := by
    have h1 := hcell 0 hlp 0 hpos;obtain ⟨u,hu⟩ : ∃ u,(f 0).1[0]? = some u := ⟨_,List.getElem?_eq_getElem (by rw [hw _ _ (hf 0 hlp).2]; exact hpos)⟩;rw [hu] at h1
    simpa [Addr.add] using World.cell?_spot h1
   subst hspot;refine ⟨g,off,rfl,fun i c u j hi hj => ?_⟩;simp only [List.getElem?_map,Option.map_eq_some_iff] at hi;obtain ⟨i',hi',rfl⟩ := hi;obtain ⟨hil,hie⟩ := List.getElem?_eq_some_iff.1 hi'
   simp at hie
   subst hie;simp only [List.length_range] at hil
   have hjs : j < size := by rw [← hw _ _ (hf i hil).2]; exact (List.getElem?_eq_some_iff.1 hj).1
   have h2 := hcell i hil j hjs;rw [hj,Deep.add_add,Addr.add_lit] at h2;rw [Nat.add_assoc];exact h2
  ·simp only [List.getElem?_map,Option.map_eq_some_iff] at hy;obtain ⟨i',hi',rfl⟩ := hy;obtain ⟨hil,hie⟩ := List.getElem?_eq_some_iff.1 hi'
   simp at hie
   subst hie;simp only [List.length_range] at hil;exact ⟨(f i).1,by simp [hil],(hf i hil).2⟩
theorem cellsRwT : Tryz.prog.cellsOf 61 = 4 := by kernel_rfl
theorem cellsTrT : Tryz.prog.cellsOf 33 = 5 := by kernel_rfl
theorem cellsEnT : Tryz.prog.cellsOf 80 = 2 := by kernel_rfl
theorem cellsOneT : Tryz.prog.cellsOf 3 = 1 ∧ Tryz.prog.cellsOf 9 = 1 ∧ Tryz.prog.cellsOf 31 = 1 ∧ Tryz.prog.cellsOf 78 = 1 ∧ Tryz.prog.cellsOf 30 = 1 := ⟨by kernel_rfl,by kernel_rfl,by kernel_rfl,by kernel_rfl,by kernel_rfl⟩
theorem intT_in {n : Nat} {c : Value} {y : DataW H × List MemPlace} (h : DataW.trod enc Tryz.prog W base spare held n 3 [c] = some y) : ∃ b : Int,c = .int .i64 b ∧ Is64 b := by
 obtain ⟨b,e,hy,w⟩ := DataW.trod_int Tryz.underlying3 h;simp only [List.cons.injEq,and_true] at e;subst e;exact ⟨b,rfl,bounds_i64 w⟩
theorem strT_in {n : Nat} {c : Value} {y : DataW H × List MemPlace} (h : DataW.trod enc Tryz.prog W base spare held n 9 [c] = some y) (hl : LiteT 9 y.1) : ∃ b : ByteArray,c = .string b ∧ b.size ≤ 140737488351232 := by
 obtain ⟨b,e,hy,w⟩ := DataW.trod_string Tryz.underlying9 h;simp only [List.cons.injEq,and_true] at e;subst e hy;refine ⟨b,rfl,?_⟩;have := hl b.data.toList.length (by simp [DataW.weights])
 simpa using this
def RawC (r : List Value) (f : Fd) : Prop := r = f.cells ∧ Is64 f.tag ∧ Is64 f.wire ∧ Is64 f.n ∧ f.b.size ≤ 140737488351232
theorem rawT_in : ∀ n cs' y,DataW.trod enc Tryz.prog W base spare held n 61 cs' = some y → LiteT 61 y.1 → ∃ f : Fd,RawC cs' f := by
 intro n cs y h hl;obtain ⟨y0,y1,y2,y3,m,hy,hc,h0,h1,h2,h3⟩ := _root_.Go.Joins.trod_struct4 Tryz.underlying61 h;rw [cellsRwT] at hc
 match cs,hc with
 | [c0,c1,c2,c3],_ =>
  rw [cellsOneT.1] at h0 h1 h2;rw [cellsOneT.2.1] at h3;simp only [List.drop_zero,List.drop_succ_cons,List.take_succ_cons,List.take_zero] at h0 h1 h2 h3;subst hy;obtain ⟨b0,rfl,s0⟩ := intT_in h0;obtain ⟨b1,rfl,s1⟩ := intT_in h1;obtain ⟨b2,rfl,s2⟩ := intT_in h2;obtain ⟨b3,rfl,s3⟩ := strT_in h3 (liteT_struct Tryz.underlying61 hl (j := 3) rfl rfl);exact ⟨⟨b0,b1,b2,b3⟩,rfl,s0,s1,s2,s3⟩
theorem rawRow {w : World} {v : Value} {l : List Fd} (h : RowP RawC w 4 v l) : RowG w v 4 (fdRows l) ∧ ∀ f ∈ l,Is64 f.tag ∧ Is64 f.wire ∧ Is64 f.n ∧ f.b.size ≤ 140737488351232 := by
 obtain ⟨rows,h1,h2,h3⟩ := h
 have hr : rows = fdRows l := by
  refine List.ext_getElem? fun i => ?_
  by_cases hi : i < l.length
  ·obtain ⟨r,e,hp⟩ := h3 i _ (List.getElem?_eq_getElem hi);rw [e,hp.1]
   simp [fdRows,hi]
  ·rw [List.getElem?_eq_none (by omega),List.getElem?_eq_none (by simp [fdRows]; omega)]
 rw [hr] at h1;refine ⟨h1,fun f hf => ?_⟩;obtain ⟨i,hi,e⟩ := List.getElem_of_mem hf;obtain ⟨r,_,hp⟩ := h3 i f (by rw [List.getElem?_eq_getElem hi,e]);exact hp.2
theorem TrC.le {n m : Nat} (h : n ≤ m) {w : World} {r : List Value} {t : Tr} (hc : TrC n w r t) : TrC m w r t := by
 induction h with
 | refl => exact hc
 | step _ ih => exact ih.more
theorem TrC.len {n : Nat} {w : World} {r : List Value} {t : Tr} (h : TrC n w r t) : r.length = 5 := by
 cases n with
 | zero => exact h.elim
 | succ n => obtain ⟨ve,vr,rfl,_⟩ := h; rfl
theorem treeC_in (N : Nat) : ∀ fuel,fuel ≤ N → ∀ cs' y,DataW.trod enc Tryz.prog W base spare held fuel 33 cs' = some y → LiteT 33 y.1 → ∃ t : Tr,TrC fuel W cs' t := by
 induction N with
 | zero =>
  intro fuel hf cs y h hl
  obtain rfl : fuel = 0 := by omega
  simp [DataW.trod] at h
 | succ N ih =>
  intro fuel hf cs y h hl;obtain ⟨xs,n,rfl,rfl,hc,hlen,hfs⟩ := DataW.trod_struct Tryz.underlying33 h;rw [cellsTrT] at hc
  match xs,hlen with
  | [y0,y1,y2,y3,y4],_ =>
   match cs,hc with
   | [c0,c1,c2,c3,c4],_ =>
    have h0 := hfs 0 _ rfl;have h1 := hfs 1 _ rfl;have h2 := hfs 2 _ rfl;have h3 := hfs 3 _ rfl;have h4 := hfs 4 _ rfl;simp only [cellsOneT.1,cellsOneT.2.1,cellsOneT.2.2.1,cellsOneT.2.2.2.2,List.drop_zero,List.drop_succ_cons,List.take_succ_cons,List.take_zero,List.getElem?_cons_zero,List.getElem?_cons_succ] at h0 h1 h2 h3 h4;obtain ⟨b0,rfl,s0⟩ := intT_in h0;obtain ⟨b1,rfl,s1⟩ := intT_in h1;obtain ⟨b2,rfl,s2⟩ := strT_in h2 (liteT_struct Tryz.underlying33 hl (j := 2) rfl rfl)
    haveI : Inhabited Fd := ⟨fd0⟩
    haveI : Inhabited Tr := ⟨tr0⟩
    obtain ⟨fs,hfr⟩ := rowP_in cellsRwT (by decide) Tryz.underlying31 RawC (fun r x hp => by rw [hp.1]; rfl) h4 (liteT_struct Tryz.underlying33 hl (j := 4) rfl rfl) (fun n cs' y _ => rawT_in n cs' y)
    obtain ⟨es,her⟩ := rowP_in cellsEnT (by decide) Tryz.underlying30 (EnC (TrC n W) W) (fun r x hp => by obtain ⟨vt,rfl,_⟩ := hp; rfl) h3 (liteT_struct Tryz.underlying33 hl (j := 3) rfl rfl) (fun n2 cs2 y2 hn2 ht2 hl2 => by
     obtain ⟨xs2,n3,rfl,rfl,hc2,hlen2,hfs2⟩ := DataW.trod_struct Tryz.underlying80 ht2;rw [cellsEnT] at hc2
     match xs2,hlen2 with
     | [z0,z1],_ =>
      match cs2,hc2 with
      | [d0,d1],_ =>
       have g0 := hfs2 0 _ rfl;have g1 := hfs2 1 _ rfl;simp only [cellsOneT.1,cellsOneT.2.2.2.1,List.drop_zero,List.drop_succ_cons,List.take_succ_cons,List.take_zero,List.getElem?_cons_zero,List.getElem?_cons_succ] at g0 g1;obtain ⟨tg,rfl,st⟩ := intT_in g0
       obtain ⟨ts,htr⟩ := rowP_in cellsTrT (by decide) Tryz.underlying78 (TrC n W) (fun r x hp => hp.len) g1 (liteT_struct Tryz.underlying80 hl2 (j := 1) rfl rfl) (fun n4 cs4 y4 hn4 ht4 hl4 => by
        obtain ⟨t,ht⟩ := ih n4 (by omega) cs4 y4 ht4 hl4
        exact ⟨t,ht.le (by omega)⟩)
       exact ⟨(tg,ts),d1,rfl,st,htr⟩)
    obtain ⟨r1,r2⟩ := rawRow hfr;exact ⟨⟨b0,b1,b2,es,fs⟩,c3,c4,rfl,s0,s1,s2,r2,r1,her⟩
theorem tree_in {r : Reach} {b0 : Nat} {v : Value} {d : DataW H} {p : List MemPlace} (hv : Value.okWide Tryz.prog W r b0 33 v) (h : DataW.Trod enc Tryz.prog W base spare held 33 v d p) (hl : LiteT 33 d) : ∃ n t,TrIn n W v t := by
 obtain ⟨cs,rfl,hsz⟩ := okWide_struct Tryz.underlying33 hv;obtain ⟨fuel,hf⟩ := h;obtain ⟨t,ht⟩ := treeC_in fuel fuel (Nat.le_refl _) _ _ hf hl;exact ⟨fuel,t,_,by simp [Value.cells],ht⟩
end
theorem bytes_any (a : Option Addr) (ns : List Nat) (cap N : Nat) (w : World) (hN : ns.length = N) (hl : N ≤ 140737488355328) (ha : a = none → ns = [] ∧ cap = 0) (hh : Holds w a ns) :
  Calls Tryz.prog 13 #[.slice a N cap] w fun e w' => ∃ r,e = .returned r ∧ w'.ownsRow w.heap.size 5 1 r N (byteCells ns) ∧ Below w.heap.size w w' := by
 have HH : Hid (Holds w a ns) := hh;have HA : Hid (a = none → ns = [] ∧ cap = 0) := ha;have HN : Hid (ns.length = N) := hN;clear hh ha hN
 go_enter Tryz.func13,Tryz.ntmps13
 go_wp2_with (first
  | (at_builtin; refine wpList_join rfl _ _ rfl w.heap.size (.slice none 0 0) 0 [] rfl (World.ownsRow_nil _ _ _ _) a ns _ _ rfl HN.out.symm HA.out HH.out ?c1 ?c2 ?_)
  | fail)
 case c1 => have := HN.out; simp; omega
 case c2 => exact Nat.le_refl _
 intro r w1 ho hg;have hb : Below w.heap.size w w1 := (Below.refl _ _).grown hg (Nat.le_refl _) (fun k hk => by cases hk)
 have HO : Hid (w1.ownsRow w.heap.size 5 1 r N (byteCells ns)) := by
  show World.ownsRow _ _ _ _ _ _ _
  try rw [List.nil_append] at ho
  rw [HN.out] at ho;exact ho
 clear hg ho;go_wp2_with fail;go_ret;exact ⟨_,rfl,HO.out,hb⟩
end
section
theorem dec_run {k : Nat} {s : ScS} {nm : ByteArray} {m : MsS} {l : List Fd} {st : Ds} (hm : msgOf s nm = some m) (ho : l.all okF = true) (h64 : ∀ r ∈ l,Is64 r.n) (hl : (flatN l).length ≤ 4096) (h : runD (decM k s) m.fields ⟨[],[]⟩ l = (st,0)) : decM (k + 1) s nm (flatN l) = (⟨3,0,⟨#[]⟩,st.es,sortF st.rest⟩,0) := by
 have hg := getL_put ho h64 hl;simp only [decM,hm,hg,h]
 simp
theorem run_none {M : ByteArray → List Nat → Tr × Int} : ∀ (l : List Fd) (st : Ds),runD M [] st l = (⟨st.es,st.rest ++ l⟩,0)
 | [],st => by simp [runD]
 | r :: l,st => by
  have e1 : oneD M [] st r = (⟨st.es,st.rest ++ [r]⟩,0) := by simp [oneD,fldOf]
  simp only [runD,e1];rw [if_neg (by simp),run_none l]
  simp
theorem dec_none {k : Nat} {s : ScS} {nm : ByteArray} {m : MsS} {l : List Fd} (hm : msgOf s nm = some m) (hf : m.fields = []) (ho : l.all okF = true) (h64 : ∀ r ∈ l,Is64 r.n) (hl : (flatN l).length ≤ 4096) : decM (k + 1) s nm (flatN l) = (⟨3,0,⟨#[]⟩,[],sortF l⟩,0) := by
 have h : runD (decM k s) m.fields ⟨[],[]⟩ l = (⟨[],l⟩,0) := by rw [hf,run_none]; rfl
 exact dec_run hm ho h64 hl h
end
section
open Go.ChangeShapes Go.WideShapes Go.ChangeAt Go.RowKit
theorem sc_one {w : World} {b : Nat} {name nm : ByteArray} {vf : Value} {fs : List FlS} (B : Blk w b #[.string nm,vf,.slice none 0 0] 50) (hf : RowG w vf 5 (flRows fs)) : ScIn w (.agg #[.string name,.slice (some ⟨b,0,none⟩) 1 1,.slice none 0 0,.slice none 0 0]) ⟨name,[⟨nm,fs,[]⟩],[],[]⟩ := by
 refine ⟨_,_,_,rfl,⟨[[.string nm,vf,.slice none 0 0]],RowG.blk B rfl (fun r hr => by simp at hr; subst hr; rfl) rfl (by decide),rfl,fun i m hm => ?_⟩,⟨[],RowG.nil _ _,rfl,fun i e he => by simp at he⟩,RowG.nil _ _⟩
 match i,hm with
 | 0,hm => simp at hm; subst hm; exact ⟨_,_,rfl,hf,RowG.nil _ _⟩
 | i + 1,hm => simp at hm
def s0A : ScS := ⟨⟨#[97]⟩,[⟨⟨#[109]⟩,[],[]⟩],[],[]⟩
theorem s0_few : FewL s0A := ⟨by decide,by decide,by decide,fun m hm => by simp [s0A] at hm; subst hm; simp,fun m hm => by simp [s0A] at hm⟩
theorem s0_w : ScW s0A := ⟨by decide,fun m hm => by simp [s0A] at hm; subst hm; exact ⟨(by decide : (ByteArray.mk #[109]).size ≤ 140737488351232),by simp,by simp⟩,fun m hm => by simp [s0A] at hm,fun m hm => by simp [s0A] at hm⟩
theorem s0_ok : checkA s0A = 0 := by decide +kernel
theorem s0_msg : msgOf s0A ⟨#[109]⟩ = some ⟨⟨#[109]⟩,[],[]⟩ := by simp [msgOf,s0A]
theorem s0_dec {l : List Fd} (ho : l.all okF = true) (h64 : ∀ r ∈ l,Is64 r.n) (hl : (flatN l).length ≤ 4096) : decA s0A ⟨#[109]⟩ (flatN l) = (⟨3,0,⟨#[]⟩,[],sortF l⟩,0) := by
 unfold decA;rw [s0_ok,if_neg (by simp)];exact dec_none s0_msg rfl ho h64 hl
theorem aw_flat : flatN [⟨1,0,5,⟨#[]⟩⟩] = [2,10] := by decide +kernel
theorem aw_ok : ([⟨1,0,5,⟨#[]⟩⟩] : List Fd).all okF = true := by decide +kernel
theorem aw_dec : decA s0A ⟨#[109]⟩ [2,10] = (⟨3,0,⟨#[]⟩,[],[⟨1,0,5,⟨#[]⟩⟩]⟩,0) := by
 have h := s0_dec (l := [⟨1,0,5,⟨#[]⟩⟩]) aw_ok (fun r hr => by simp at hr; subst hr; unfold Is64; simp) (by rw [aw_flat]; decide);rw [aw_flat] at h;rw [h]
 simp [sortF,sortFF,risesB]
theorem aw_can : canA s0A ⟨#[109]⟩ [2,10] = true := by
 have h : encA 11 ⟨3,0,⟨#[]⟩,[],[⟨1,0,5,⟨#[]⟩⟩]⟩ = ([2,10],0) := by decide +kernel
 simp only [canA,aw_dec,h]
 decide
theorem conv_aw (W : World) (b : Nat) (hb : W.heap.size = b) : (convert 27 27 (.slice (some ⟨b,0,none⟩) 2 2)).run Tryz.prog (W.alloc (.cells #[.int .u8 2,.int .u8 10] 5)) = .ok (.slice (some ⟨b,0,none⟩) 2 2) (W.alloc (.cells #[.int .u8 2,.int .u8 10] 5 (2,3))) := by
 subst hb;exact Lib.run_convert_bytes_const (P := Tryz.prog) W 27 5 _ 2 2 Tryz.underlying27 Tryz.underlying5
theorem byS_aw (W : World) (b : Nat) (hb : W.heap.size = b) : ByS (W.alloc (.cells #[.int .u8 2,.int .u8 10] 5 (2,3))) (.slice (some ⟨b,0,none⟩) 2 2) [2,10] := by
 subst hb;refine ⟨_,2,rfl,Holds.of fun j hj => ?_,(by simp),(by simp),(by decide),.inr ⟨_,_,rfl⟩⟩;rw [Nat.zero_add,World.cell?_alloc_mark];have := byteCells_get [2,10] j hj
 simpa [byteCells] using this
theorem dcawake_any (w : World) : Calls Tryz.prog 10 #[] w fun e w' => e = .returned (.bool true) ∧ Below w.heap.size w w' := by
 obtain ⟨b0,hb0⟩ : ∃ z,w.heap.size = z := ⟨_,rfl⟩;have HBZ : Hid (w.heap.size = b0) := hb0;obtain ⟨BM,BS,hbw⟩ := dblk2r w #[.string ⟨#[109]⟩,.slice none 0 0,.slice none 0 0] #[.string ⟨#[97]⟩,.slice (some ⟨b0,0,none⟩) 1 1,.slice none 0 0,.slice none 0 0] 50 26
 have hz : ((w.alloc (Obj.cells #[.string ⟨#[109]⟩,.slice none 0 0,.slice none 0 0] 50)).alloc (Obj.cells #[.string ⟨#[97]⟩,.slice (some ⟨b0,0,none⟩) 1 1,.slice none 0 0,.slice none 0 0] 26)).heap.size = b0 + 1 + 1 := by simp [hb0]
 have kc1 := conv_aw _ _ hz;have BB := byS_aw _ _ hz;have al : Below ((w.alloc (Obj.cells #[.string ⟨#[109]⟩,.slice none 0 0,.slice none 0 0] 50)).alloc (Obj.cells #[.string ⟨#[97]⟩,.slice (some ⟨b0,0,none⟩) 1 1,.slice none 0 0,.slice none 0 0] 26)).heap.size ((w.alloc (Obj.cells #[.string ⟨#[109]⟩,.slice none 0 0,.slice none 0 0] 50)).alloc (Obj.cells #[.string ⟨#[97]⟩,.slice (some ⟨b0,0,none⟩) 1 1,.slice none 0 0,.slice none 0 0] 26)) (((w.alloc (Obj.cells #[.string ⟨#[109]⟩,.slice none 0 0,.slice none 0 0] 50)).alloc (Obj.cells #[.string ⟨#[97]⟩,.slice (some ⟨b0,0,none⟩) 1 1,.slice none 0 0,.slice none 0 0] 26)).alloc (.cells #[.int .u8 2,.int .u8 10] 5 (2,3))) := bra _;rw [hb0] at BM BS;have HSC : Hid (∀ W,Below w.heap.size (((w.alloc (Obj.cells #[.string ⟨#[109]⟩,.slice none 0 0,.slice none 0 0] 50)).alloc (Obj.cells #[.string ⟨#[97]⟩,.slice (some ⟨b0,0,none⟩) 1 1,.slice none 0 0,.slice none 0 0] 26)).alloc (.cells #[.int .u8 2,.int .u8 10] 5 (2,3))) W → True) := fun _ _ => trivial
 clear HSC;have HSI : Hid (ScIn (((w.alloc (Obj.cells #[.string ⟨#[109]⟩,.slice none 0 0,.slice none 0 0] 50)).alloc (Obj.cells #[.string ⟨#[97]⟩,.slice (some ⟨b0,0,none⟩) 1 1,.slice none 0 0,.slice none 0 0] 26)).alloc (.cells #[.int .u8 2,.int .u8 10] 5 (2,3))) (.agg #[.string ⟨#[97]⟩,.slice (some ⟨b0,0,none⟩) 1 1,.slice none 0 0,.slice none 0 0]) s0A) := sc_one (BM.below al) (RowG.nil _ _)
 have HDE : Hid (Calls Tryz.prog 11 #[.agg #[.string ⟨#[97]⟩,.slice (some ⟨b0,0,none⟩) 1 1,.slice none 0 0,.slice none 0 0],.string ⟨#[109]⟩,.slice (some ⟨b0 + 1 + 1,0,none⟩) 2 2] (((w.alloc (Obj.cells #[.string ⟨#[109]⟩,.slice none 0 0,.slice none 0 0] 50)).alloc (Obj.cells #[.string ⟨#[97]⟩,.slice (some ⟨b0,0,none⟩) 1 1,.slice none 0 0,.slice none 0 0] 26)).alloc (.cells #[.int .u8 2,.int .u8 10] 5 (2,3))) (DtrP 11 (⟨3,0,⟨#[]⟩,[],[⟨1,0,5,⟨#[]⟩⟩]⟩,0) (((w.alloc (Obj.cells #[.string ⟨#[109]⟩,.slice none 0 0,.slice none 0 0] 50)).alloc (Obj.cells #[.string ⟨#[97]⟩,.slice (some ⟨b0,0,none⟩) 1 1,.slice none 0 0,.slice none 0 0] 26)).alloc (.cells #[.int .u8 2,.int .u8 10] 5 (2,3))))) := (by
  have h1 := decode_any HSI.out s0_w s0_few BB (nm := ⟨#[109]⟩);rw [aw_dec] at h1
  exact h1 : Calls Tryz.prog _ _ _ _)
 have BS1 := BS.below al;have HSI1 : Hid (Below w.heap.size w (((w.alloc (Obj.cells #[.string ⟨#[109]⟩,.slice none 0 0,.slice none 0 0] 50)).alloc (Obj.cells #[.string ⟨#[97]⟩,.slice (some ⟨b0,0,none⟩) 1 1,.slice none 0 0,.slice none 0 0] 26)).alloc (.cells #[.int .u8 2,.int .u8 10] 5 (2,3)))) := hbw.trans (al.mono hbw.size);clear BM BS hbw hz BB al
 go_enter Tryz.func10,Tryz.ntmps10
 go_wp2_with fail;refine HDE.out.mono ?_;rintro e w2 ⟨r,bs,rfl,ht,hap,hb2⟩;have hbw2 : Below w.heap.size w w2 := HSI1.out.trans (hb2.mono HSI1.out.size);have BS2 := BS1.below hb2;have hb2' := hb2;obtain ⟨ve,vr,rows,bss,rfl, -, -, -, -,hown,hro, -⟩ := ht;simp only [List.length_singleton] at hown;obtain ⟨ra,rc,rfl, -,hrb,hrc1,hrc2,hrh⟩ := own_openR hown;obtain ⟨ea,ec,rfl⟩ := own_form hro.own
 obtain ⟨g,rfl,hg1,hg2⟩ : ∃ g,ra = some ⟨g,0,none⟩ ∧ (w.alloc (Obj.cells #[] 0)).heap.size ≤ g + w.heap.size + 1 ∧ g < w2.heap.size := by
  rcases hrb with ⟨_,h,_⟩ | ⟨g,h1,h2,h3⟩
  ·simp at h
  ·exact ⟨g,h1,by simp,h3⟩
 obtain ⟨c0,c1,c2,c3⟩ := hrh.at (i := 0) rfl;simp only [Nat.zero_mul,Nat.add_zero,List.length_nil,List.length_singleton] at c0 c1 c2 c3 ⊢;clear hown hro hrb hrh hb2 HDE kc1 BS1;have al3 : Below w2.heap.size w2 (w2.alloc (Obj.cells #[.int .i64 3,.int .i64 0,.string ⟨#[]⟩,.slice ea 0 ec,.slice (some ⟨g,0,none⟩) 1 rc] 33)) := bra _;have al4 : Below w2.heap.size w2 ((w2.alloc (Obj.cells #[.int .i64 3,.int .i64 0,.string ⟨#[]⟩,.slice ea 0 ec,.slice (some ⟨g,0,none⟩) 1 rc] 33)).alloc (.cells #[.int .u8 2,.int .u8 10] 5 (2,3))) := al3.alloc (by simp) _
 have hz3 : (w2.alloc (Obj.cells #[.int .i64 3,.int .i64 0,.string ⟨#[]⟩,.slice ea 0 ec,.slice (some ⟨g,0,none⟩) 1 rc] 33)).heap.size = w2.heap.size + 1 := by simp
 have kc2 := conv_aw (w2.alloc (Obj.cells #[.int .i64 3,.int .i64 0,.string ⟨#[]⟩,.slice ea 0 ec,.slice (some ⟨g,0,none⟩) 1 rc] 33)) _ hz3;have BB2 := byS_aw (w2.alloc (Obj.cells #[.int .i64 3,.int .i64 0,.string ⟨#[]⟩,.slice ea 0 ec,.slice (some ⟨g,0,none⟩) 1 rc] 33)) _ hz3;have hbw4 : Below w.heap.size w ((w2.alloc (Obj.cells #[.int .i64 3,.int .i64 0,.string ⟨#[]⟩,.slice ea 0 ec,.slice (some ⟨g,0,none⟩) 1 rc] 33)).alloc (.cells #[.int .u8 2,.int .u8 10] 5 (2,3))) := hbw2.trans (al4.mono hbw2.size)
 have HCA : Hid (Calls Tryz.prog 16 #[.agg #[.string ⟨#[97]⟩,.slice (some ⟨b0,0,none⟩) 1 1,.slice none 0 0,.slice none 0 0],.string ⟨#[109]⟩,.slice (some ⟨w2.heap.size + 1,0,none⟩) 2 2] ((w2.alloc (Obj.cells #[.int .i64 3,.int .i64 0,.string ⟨#[]⟩,.slice ea 0 ec,.slice (some ⟨g,0,none⟩) 1 rc] 33)).alloc (.cells #[.int .u8 2,.int .u8 10] 5 (2,3))) fun e w' => e = .returned (.bool true) ∧ Below ((w2.alloc (Obj.cells #[.int .i64 3,.int .i64 0,.string ⟨#[]⟩,.slice ea 0 ec,.slice (some ⟨g,0,none⟩) 1 rc] 33)).alloc (.cells #[.int .u8 2,.int .u8 10] 5 (2,3))).heap.size ((w2.alloc (Obj.cells #[.int .i64 3,.int .i64 0,.string ⟨#[]⟩,.slice ea 0 ec,.slice (some ⟨g,0,none⟩) 1 rc] 33)).alloc (.cells #[.int .u8 2,.int .u8 10] 5 (2,3))) w') := (by
  have h1 := canonical_any ((HSI.out.below hb2').below al4) s0_w s0_few BB2 (nm := ⟨#[109]⟩);rw [aw_can] at h1
  exact h1 : Calls Tryz.prog _ _ _ _)
 obtain ⟨s0,s1,s2,s3⟩ := cl4 BS2;have ltS := BS2.lt;clear BS2 BB2 hz3 al3 al4;go_wp2_with fail;refine HCA.out.mono ?_;rintro e w5 ⟨rfl,hb5⟩;have hbw5 : Below w.heap.size w w5 := hbw4.trans (hb5.mono hbw4.size);clear HCA hb5 c0 c1 c2 c3 s0 s1 s2 s3 ltS;go_wp2_with fail;go_ret;exact ⟨rfl,hbw5⟩
end
section
section
variable {P : Program} {md : Region.Mode} {ops : Array Oper} {Q : Exit → Act → World → Prop} {T : World → Prop} {m : Nat}
theorem M_forkAA {o1 o2 : Oper} {fuel : Nat} {listed : Array Bool} {a : Act} {w : World} (i j d1 d2 : Nat) (v1 v2 : Value) (w1 w2 : World) (h1 : ops[i]? = some o1) (h2 : ops[j]? = some o2) (hd1 : o1.dst = some d1) (hd2 : o2.dst = some d2)
  (hr : Region.ready md ops listed = [i,j]) (hw1 : Region.wanted o1 (yielded ops a.tmps) = true) (hw2 : Region.wanted o2 (yielded ops a.tmps) = true)
  (hx1 : (execOp a.eval o1).run P w = .ok (.value v1) w1) (hx2 : (execOp a.eval o2).run P w = .ok (.value v2) w2)
  (hT1 : T w1) (hA : wpAnyM P md ops Q T m fuel (listed.setIfInBounds i true) { a with tmps := a.tmps.setIfInBounds d1 v1 } w1)
  (hT2 : T w2) (hB : wpAnyM P md ops Q T m fuel (listed.setIfInBounds j true) { a with tmps := a.tmps.setIfInBounds d2 v2 } w2) : wpAnyM P md ops Q T m (fuel + 1) listed a w := by
 refine ⟨fun h0 => (by rw [hr] at h0; cases h0),fun k hk => ?_⟩;rw [hr] at hk;simp only [List.mem_cons,List.not_mem_nil,or_false] at hk
 rcases hk with rfl | rfl
 ·unfold wpOp;simp only [h1];rw [if_pos hw1];refine .inl ?_;unfold Oper.wp;rw [hx1,Oper.upon_value,hd1];exact ⟨fun _ => hT1,hA⟩
 ·unfold wpOp;simp only [h2];rw [if_pos hw2];refine .inl ?_;unfold Oper.wp;rw [hx2,Oper.upon_value,hd2];exact ⟨fun _ => hT2,hB⟩
end
end
section
open Go.ChangeShapes Go.WideShapes Go.ChangeAt Go.RowKit
theorem blk_new2 (w : World) (o : Obj) (cs : Array Value) (t : TypeId) : Blk ((w.alloc o).alloc (.cells cs t)) (w.heap.size + 1) cs t := by
 have := Blk.new (w.alloc o) cs t
 rwa [show (w.alloc o).heap.size = w.heap.size + 1 from by simp] at this
def SamT (a b : Tr) (e : Ending) : Prop := ∃ R : Bool,e = .returned (.bool R) ∧ (R = true ↔ a = b)
theorem sam_no {a b : Tr} (h : a ≠ b) : SamT a b (.returned (.bool false)) := ⟨false,rfl,by simp [h]⟩
theorem sam_yes {a b : Tr} (h : a = b) : SamT a b (.returned (.bool true)) := ⟨true,rfl,by simp [h]⟩
theorem tr_ext {a b : Tr} (h1 : a.kind = b.kind) (h2 : a.n = b.n) (h3 : a.s = b.s) (h4 : a.es = b.es) (h5 : a.rest = b.rest) : a = b := by
 cases a; cases b; simp_all
theorem list_ext {α : Type} {l m : List α} (h : l.length = m.length) (hj : ∀ j,j < l.length → l[j]? = m[j]?) : l = m := by
 refine List.ext_getElem? fun i => ?_
 by_cases hi : i < l.length
 ·exact hj i hi
 ·rw [List.getElem?_eq_none (by omega),List.getElem?_eq_none (by omega)]
theorem two_set {w0 w : World} {g k : Nat} {a b c d : Value} {t : TypeId} (h1 : Blk w g #[a,b] t) (h2 : Blk w k #[c,d] t) (hn : g ≠ k) (hS : Below w0.heap.size w0 w) (l1 : w0.heap.size ≤ g) (l2 : w0.heap.size ≤ k) (a' b' c' d' : Value) : Below w0.heap.size w0 ((w.setCell ⟨g,0,none⟩ a').setCell ⟨g,1,none⟩ b') ∧
  Blk ((((w.setCell ⟨g,0,none⟩ a').setCell ⟨g,1,none⟩ b').setCell ⟨k,0,none⟩ c').setCell ⟨k,1,none⟩ d') g #[a',b'] t ∧ Blk ((((w.setCell ⟨g,0,none⟩ a').setCell ⟨g,1,none⟩ b').setCell ⟨k,0,none⟩ c').setCell ⟨k,1,none⟩ d') k #[c',d'] t ∧ Below w0.heap.size w0 ((((w.setCell ⟨g,0,none⟩ a').setCell ⟨g,1,none⟩ b').setCell ⟨k,0,none⟩ c').setCell ⟨k,1,none⟩ d') := by
 have hS3 : Below w0.heap.size w0 ((w.setCell ⟨g,0,none⟩ a').setCell ⟨g,1,none⟩ b') := (hS.setCell (p := ⟨g,0,none⟩) l1 _).setCell (p := ⟨g,1,none⟩) l1 _;refine ⟨hS3,?_,?_,(hS3.setCell (p := ⟨k,0,none⟩) l2 _).setCell (p := ⟨k,1,none⟩) l2 _⟩
 ·have q1 := h1.set 0 a' rfl;have q2 := q1.set 1 b' rfl;exact (q2.other (a := ⟨k,0,none⟩) hn _).other (a := ⟨k,1,none⟩) hn _
 ·have q1 := (h2.other (a := ⟨g,0,none⟩) hn.symm a').other (a := ⟨g,1,none⟩) hn.symm b';have q2 := q1.set 0 c' rfl;exact q2.set 1 d' rfl
theorem rsame_step (n m : Nat) (IH : ∀ m' a b va vb w,TrIn n w va a → TrIn m' w vb b → Calls Tryz.prog 15 #[va,vb] w fun e w' => SamT a b e ∧ Below w.heap.size w w') (a b : Tr) (va vb : Value) (w : World) (ha : TrIn (n + 1) w va a) (hb : TrIn m w vb b) :
  Calls Tryz.prog 15 #[va,vb] w fun e w' => SamT a b e ∧ Below w.heap.size w w' := by
 obtain ⟨n',ve,vr,e0,rfl,ka,na,sa,fa,ra,ea⟩ := ha.open
 obtain rfl : n' = n := by omega
 obtain ⟨m',ve2,vr2,rfl,rfl,kb,nb,sb,fb,rb,eb⟩ := hb.open;obtain ⟨pe,ce,rfl,u1,u2,u3,u4,u5⟩ := ea.open;obtain ⟨pe2,ce2,rfl,v1,v2,v3,v4,v5⟩ := eb.open;obtain ⟨pr,cr,rfl,x1,x2,x3,x4,x5⟩ := rest_holds ra;obtain ⟨pr2,cr2,rfl,y1,y2,y3,y4,y5⟩ := rest_holds rb;clear u5 v5 x5 y5 ha hb e0;unfold maxLen at u2 v2 x2 y2;obtain ⟨Ke,hKe⟩ : ∃ K,a.es.length = K := ⟨_,rfl⟩;obtain ⟨Ke2,hKe2⟩ : ∃ K,b.es.length = K := ⟨_,rfl⟩;obtain ⟨Kr,hKr⟩ : ∃ K,a.rest.length = K := ⟨_,rfl⟩;obtain ⟨Kr2,hKr2⟩ : ∃ K,b.rest.length = K := ⟨_,rfl⟩;rw [hKe] at u1 ⊢;rw [hKe2] at v1 ⊢;rw [hKr] at x1 ⊢;rw [hKr2] at y1 ⊢;have EA : Hid (EnsIn n' w (.slice pe Ke ce) a.es) := hid (by rw [← hKe]; exact ea);have EB : Hid (EnsIn m' w (.slice pe2 Ke2 ce2) b.es) := hid (by rw [← hKe2]; exact eb);have RA : Hid (RowG w (.slice pr Kr cr) 4 (fdRows a.rest)) := hid (by rw [← hKr]; exact ra);have RB : Hid (RowG w (.slice pr2 Kr2 cr2) 4 (fdRows b.rest)) := hid (by rw [← hKr2]; exact rb);clear ea eb ra rb u4 v4 x4 y4 sa sb fa fb u3 v3 x3 y3;have HKe : Hid (a.es.length = Ke) := hKe;have HKe2 : Hid (b.es.length = Ke2) := hKe2;have HKr : Hid (a.rest.length = Kr) := hKr;have HKr2 : Hid (b.rest.length = Kr2) := hKr2;clear hKe hKe2 hKr hKr2
 by_cases hk : a.kind = b.kind
 ·by_cases hn : a.n = b.n
  ·by_cases hs : a.s = b.s
   ·by_cases he : Ke = Ke2
    ·by_cases hr : Kr = Kr2
     ·subst he hr;rw [← hk,← hn,← hs];have HK : Hid (a.kind = b.kind ∧ a.n = b.n ∧ a.s = b.s) := ⟨hk,hn,hs⟩;clear hk hn hs;obtain ⟨K,hK⟩ : ∃ K,a.kind = K := ⟨_,rfl⟩;obtain ⟨N,hN⟩ : ∃ K,a.n = K := ⟨_,rfl⟩;obtain ⟨S,hS⟩ : ∃ K,a.s = K := ⟨_,rfl⟩;rw [hK,hN,hS];clear hK hN hS ka na kb nb
      go_enter Tryz.func15,Tryz.ntmps15
      go_wp2_with fail
      go_loopw [5] (fun iv wr => ∃ i : Nat,iv = .int .i64 (i : Int) ∧ i ≤ Kr ∧ Hid (∀ j,j < i → a.rest[j]? = b.rest[j]?) ∧ Below w.heap.size w wr ∧ Hid (Blk wr w.heap.size #[.int .i64 K,.int .i64 N,.string S,.slice pe Ke ce,.slice pr Kr cr] 33) ∧ Hid (Blk wr (w.heap.size + 1) #[.int .i64 K,.int .i64 N,.string S,.slice pe2 Ke ce2,.slice pr2 Kr cr2] 33)) (fun iv _ => Kr - (intOf iv).toNat)
      case atStart => exact ⟨0,rfl,by omega,(fun j hj => absurd hj (by omega) : ∀ j,j < 0 → a.rest[j]? = b.rest[j]?),(bra _).alloc (by simp) _,(Blk.new w _ _).below (bra _),blk_new2 w _ _ _⟩
      case round =>
       obtain ⟨i,rfl,hi,HJ,hbel,HB1,HB2⟩ := hrel;have q14 := HB1.out.cell 4;have q24 := HB2.out.cell 4;have q13 := HB1.out.cell 3;have q23 := HB2.out.cell 3
       simp at q14 q24 q13 q23
       by_cases hlt : i < Kr
       ·obtain ⟨r,hr⟩ : ∃ r,a.rest[i]? = some r := ⟨_,List.getElem?_eq_getElem (by rw [HKr.out]; exact hlt)⟩;obtain ⟨s,hs⟩ : ∃ r,b.rest[i]? = some r := ⟨_,List.getElem?_eq_getElem (by rw [HKr2.out]; exact hlt)⟩;obtain ⟨g,off,rfl,c1⟩ := (RA.out.below hbel).get (show (fdRows a.rest)[i]? = some r.cells by simp [fdRows,hr]);obtain ⟨g2,off2,rfl,c2⟩ := (RB.out.below hbel).get (show (fdRows b.rest)[i]? = some s.cells by simp [fdRows,hs]);have p0 := c1 0 _ rfl;have p1 := c1 1 _ rfl;have p2 := c1 2 _ rfl;have p3 := c1 3 _ rfl;have o0 := c2 0 _ rfl;have o1 := c2 1 _ rfl;have o2 := c2 2 _ rfl;have o3 := c2 3 _ rfl;simp only [Nat.add_zero] at p0 o0;have HR : Hid (a.rest[i]? = some r) := hr;have HS : Hid (b.rest[i]? = some s) := hs;clear c1 c2 hr hs q13 q23
        by_cases hrs : r = s
        ·subst hrs;obtain ⟨t1,t2,t3,t4⟩ := r;simp only at p0 p1 p2 p3 o0 o1 o2 o3;go_wp2_with fail
         go_quiet (fail)
         have hbn := below_drewN nq hbel;clear p0 p1 p2 p3 o0 o1 o2 o3 q14 q24;go_wp2_with fail
         go_roundw
         case rel => exact ⟨i + 1,by go_num,by omega,(fun j hj => by
          rcases Nat.lt_or_eq_of_le (Nat.le_of_lt_succ hj) with h | h
          ·exact HJ.out j h
          ·subst h; rw [HR.out,HS.out] : ∀ j,j < i + 1 → a.rest[j]? = b.rest[j]?),hbn,HB1.out.below (below_drewN nq (Below.refl _ _)),HB2.out.below (below_drewN nq (Below.refl _ _))⟩
         case measure => simp [intOf]; omega
        ·obtain ⟨t1,t2,t3,t4⟩ := r;obtain ⟨s1,s2,s3,s4⟩ := s;simp only at p0 p1 p2 p3 o0 o1 o2 o3;have hne : a ≠ b := fun e => hrs (by have := HR.out; rw [e,HS.out] at this; exact (Option.some.inj this).symm)
         have hx := fd_neq t1 t2 t3 s1 s2 s3 t4 s4 hrs;clear hrs;go_wp2_with fail
         go_quiet (fail)
         have hbn := below_drewN nq hbel;clear p0 p1 p2 p3 o0 o1 o2 o3 q14 q24 hx;go_wp2_with fail;go_ret;exact ⟨sam_no hne,hbn⟩
       ·have hje : a.rest = b.rest := list_ext (by rw [HKr.out,HKr2.out]) (fun j hj => HJ.out j (by rw [HKr.out] at hj; omega));have HJE : Hid (a.rest = b.rest) := hje;clear hje HJ RA RB HKr HKr2 q13 q23;go_wp2_with fail
        go_loopw [6] (fun iv wr => ∃ i : Nat,iv = .int .i64 (i : Int) ∧ i ≤ Ke ∧ Hid (∀ j,j < i → a.es[j]? = b.es[j]?) ∧ Below w.heap.size w wr ∧ Hid (Blk wr w.heap.size #[.int .i64 K,.int .i64 N,.string S,.slice pe Ke ce,.slice pr Kr cr] 33) ∧ Hid (Blk wr (w.heap.size + 1) #[.int .i64 K,.int .i64 N,.string S,.slice pe2 Ke ce2,.slice pr2 Kr cr2] 33)) (fun iv _ => Ke - (intOf iv).toNat)
        case atStart => exact ⟨0,rfl,by omega,(fun j hj => absurd hj (by omega) : ∀ j,j < 0 → a.es[j]? = b.es[j]?),hbel,HB1,HB2⟩
        case round =>
         clear hi hbel HB1 HB2 hlt q14 q24;obtain ⟨i,rfl,hi,HJ,hbel,HB1,HB2⟩ := hrel;have q13 := HB1.out.cell 3;have q23 := HB2.out.cell 3
         simp at q13 q23
         by_cases hlt : i < Ke
         ·obtain ⟨x,hx⟩ : ∃ r,a.es[i]? = some r := ⟨_,List.getElem?_eq_getElem (by rw [HKe.out]; exact hlt)⟩;obtain ⟨y,hy⟩ : ∃ r,b.es[i]? = some r := ⟨_,List.getElem?_eq_getElem (by rw [HKe2.out]; exact hlt)⟩;obtain ⟨g,off,rfl,c1⟩ := (EA.out.belowE hbel).get hx;obtain ⟨g2,off2,rfl,c2⟩ := (EB.out.belowE hbel).get hy;obtain ⟨vt,p0,p1,p2,p3⟩ := ens_at c1;obtain ⟨vt2,o0,o1,o2,o3⟩ := ens_at c2;obtain ⟨pt,ct,rfl,t1,t2,t3,t4,t5⟩ := p3.open;obtain ⟨pt2,ct2,rfl,s1,s2,s3,s4,s5⟩ := o3.open;unfold maxLen at t2 s2;have HX : Hid (a.es[i]? = some x) := hx;have HY : Hid (b.es[i]? = some y) := hy;clear t3 t4 t5 s3 s4 s5 hx hy c1 c2 p2 o2;obtain ⟨xt,xl⟩ := x;obtain ⟨yt,yl⟩ := y;simp only at p0 p1 o0 o1 t1 s1 p3 o3;obtain ⟨Kt,hKt⟩ : ∃ K,xl.length = K := ⟨_,rfl⟩;obtain ⟨Kt2,hKt2⟩ : ∃ K,yl.length = K := ⟨_,rfl⟩;rw [hKt] at p1 t1;rw [hKt2] at o1 s1;have T1 : Hid (TrsIn n' wr (.slice pt Kt ct) xl) := hid (by rw [← hKt]; exact p3);have T2 : Hid (TrsIn m' wr (.slice pt2 Kt2 ct2) yl) := hid (by rw [← hKt2]; exact o3);clear p3 o3;have HKt : Hid (xl.length = Kt) := hKt;have HKt2 : Hid (yl.length = Kt2) := hKt2;clear hKt hKt2;have hz1 := HB1.out.lt;have hz2 := HB2.out.lt;have hz3 : g < wr.heap.size := World.block_lt_of_cell? _ _ p0;have hz4 : g2 < wr.heap.size := World.block_lt_of_cell? _ _ o0
          have HCE : Hid (∀ W,Below wr.heap.size wr W → Blk W w.heap.size #[.int .i64 K,.int .i64 N,.string S,.slice (some ⟨g,off,none⟩) Ke ce,.slice pr Kr cr] 33 ∧ Blk W (w.heap.size + 1) #[.int .i64 K,.int .i64 N,.string S,.slice (some ⟨g2,off2,none⟩) Ke ce2,.slice pr2 Kr cr2] 33 ∧ W.cell? ⟨g,off + i * 2,none⟩ = some (.int .i64 xt) ∧ W.cell? ⟨g,off + i * 2 + 1,none⟩ = some (.slice pt Kt ct) ∧ W.cell? ⟨g2,off2 + i * 2,none⟩ = some (.int .i64 yt) ∧ W.cell? ⟨g2,off2 + i * 2 + 1,none⟩ = some (.slice pt2 Kt2 ct2)) := fun W hW => by
           have cc : ∀ p u,wr.cell? p = some u → W.cell? p = some u := fun p u h => (hW.cell (World.block_lt_of_cell? _ _ h)).trans h
           exact ⟨HB1.out.below hW,HB2.out.below hW,cc _ _ p0,cc _ _ p1,cc _ _ o0,cc _ _ o1⟩
          clear p0 p1 o0 o1
          go_upto_region 11 with fail
          clear q13 q23
          go_cut [7,8] from 72 to 81 (fun pv qv wx => ∃ GX GY : Nat,pv = .pointer (some ⟨GX,0,none⟩) ∧ qv = .pointer (some ⟨GY,0,none⟩) ∧ Hid (Blk wx GX #[.int .i64 xt,.slice pt Kt ct] 80 ∧ Blk wx GY #[.int .i64 yt,.slice pt2 Kt2 ct2] 80 ∧ Below wr.heap.size wr wx))
          case first =>
           refine M_region (T := fun W => Below wr.heap.size wr W) (m := 13) (by kernel_rfl) ?_;have hS : Below wr.heap.size wr wr.drew := (Below.refl _ _).drew;refine M_tk 0 72 (.pointer (some ⟨w.heap.size,3,none⟩)) (fun w' hw' => ?_) hS (bts 14 1) ?_
           ·go_simp
           refine M_tk 1 73 (.slice (some ⟨g,off,none⟩) Ke ce) (fun w' hw' => ?_) hS (bts 14 3) ?_
           ·obtain ⟨B1,B2,c0,c1,c2,c3⟩ := HCE.out _ hw'; have f3 := (B1.cell 3).trans rfl; go_simp
           refine M_tk 2 74 (.int .i64 (i : Int)) (fun w' hw' => ?_) hS (bts 14 7) ?_
           ·go_simp
           refine M_tk 3 75 (.pointer (some ⟨g,off + i * 2,none⟩)) (fun w' hw' => ?_) hS (bts 14 15) ?_
           ·go_simp
           refine M_tk 4 76 (.agg #[.int .i64 xt,.slice pt Kt ct]) (fun w' hw' => ?_) hS (bts 14 31) ?_
           ·obtain ⟨B1,B2,c0,c1,c2,c3⟩ := HCE.out _ hw'; go_simp
           refine M_tk 5 77 (.pointer (some ⟨w.heap.size + 1,3,none⟩)) (fun w' hw' => ?_) hS (bts 14 63) ?_
           ·go_simp
           refine M_tk 6 78 (.slice (some ⟨g2,off2,none⟩) Ke ce2) (fun w' hw' => ?_) hS (bts 14 127) ?_
           ·obtain ⟨B1,B2,c0,c1,c2,c3⟩ := HCE.out _ hw'; have f3 := (B2.cell 3).trans rfl; go_simp
           refine M_tk 7 79 (.int .i64 (i : Int)) (fun w' hw' => ?_) hS (bts 14 255) ?_
           ·go_simp
           refine M_tk 8 80 (.pointer (some ⟨g2,off2 + i * 2,none⟩)) (fun w' hw' => ?_) hS (bts 14 511) ?_
           ·go_simp
           refine M_tk 9 81 (.agg #[.int .i64 yt,.slice pt2 Kt2 ct2]) (fun w' hw' => ?_) hS (bts 14 1023) ?_
           ·obtain ⟨B1,B2,c0,c1,c2,c3⟩ := HCE.out _ hw'; go_simp
           generalize wr.drew = U0 at *;clear HCE;refine M_forkAA 10 11 7 8 (.pointer (some ⟨U0.heap.size,0,none⟩)) (.pointer (some ⟨U0.heap.size,0,none⟩)) (U0.alloc (Obj.cells #[.int .i64 0,.slice none 0 0] 80)) (U0.alloc (Obj.cells #[.int .i64 0,.slice none 0 0] 80)) rfl rfl rfl rfl (by kernel_rfl) (by rfl) (by rfl) (by go_simp) (by go_simp) (hS.trans ((bra _).mono hS.size)) ?_ (hS.trans ((bra _).mono hS.size)) ?_
           ·skip
            obtain ⟨GX,hGX⟩ : ∃ z,U0.heap.size = z := ⟨_,rfl⟩
            have BGX : Blk (U0.alloc (Obj.cells #[.int .i64 0,.slice none 0 0] 80)) GX #[.int .i64 0,.slice none 0 0] 80 := by rw [← hGX]; exact Blk.new U0 _ _
            have LGX : wr.heap.size ≤ GX := by rw [← hGX]; exact hS.size
            have hS1 : Below wr.heap.size wr (U0.alloc (Obj.cells #[.int .i64 0,.slice none 0 0] 80)) := (hS.trans ((bra _).mono hS.size));simp only [zsA,zsZ,zsS]
            try simp only [hGX]
            clear hGX hS;generalize (U0.alloc (Obj.cells #[.int .i64 0,.slice none 0 0] 80)) = U1 at *;have hS := hS1;clear hS1;refine M_rn 11 8 (.pointer (some ⟨U1.heap.size,0,none⟩)) (U1.alloc (Obj.cells #[.int .i64 0,.slice none 0 0] 80)) (bts 14 4095) rfl (by go_simp) (hS.trans ((bra _).mono hS.size)) ?_;obtain ⟨GY,hGY⟩ : ∃ z,U1.heap.size = z := ⟨_,rfl⟩
            have BGY : Blk (U1.alloc (Obj.cells #[.int .i64 0,.slice none 0 0] 80)) GY #[.int .i64 0,.slice none 0 0] 80 := by rw [← hGY]; exact Blk.new U1 _ _
            have LGY : wr.heap.size ≤ GY := by rw [← hGY]; exact hS.size
            have NE : GX < GY := by rw [← hGY]; exact BGX.lt
            replace BGX := BGX.below ((Below.refl _ _).alloc (Nat.le_refl _) (Obj.cells #[.int .i64 0,.slice none 0 0] 80))
            have hS1 : Below wr.heap.size wr (U1.alloc (Obj.cells #[.int .i64 0,.slice none 0 0] 80)) := (hS.trans ((bra _).mono hS.size));simp only [zsA,zsZ,zsS]
            try simp only [hGY]
            clear hGY hS;generalize (U1.alloc (Obj.cells #[.int .i64 0,.slice none 0 0] 80)) = U2 at *;obtain ⟨cx0,cx1⟩ := cl2 BGX;obtain ⟨cy0,cy1⟩ := cl2 BGY;have zx0 := BGX.froz 0;have zx1 := BGX.froz 1;have zy0 := BGY.froz 0;have zy1 := BGY.froz 1
            have ne1 : GX ≠ GY := by omega
            have ne2 : GY ≠ GX := by omega
            obtain ⟨hS3,hfi⟩ := two_set BGX BGY ne1 hS1 LGX LGY (.int .i64 xt) (.slice pt Kt ct) (.int .i64 yt) (.slice pt2 Kt2 ct2);have HFI : Hid _ := hfi;clear hfi;refine M_sT 12 ((U2.setCell ⟨GX,0,none⟩ (.int .i64 xt)).setCell ⟨GX,1,none⟩ (.slice pt Kt ct)) (bts 14 8191) rfl (by go_simp) hS3 ?_;refine M_st 13 ((((U2.setCell ⟨GX,0,none⟩ (.int .i64 xt)).setCell ⟨GX,1,none⟩ (.slice pt Kt ct)).setCell ⟨GY,0,none⟩ (.int .i64 yt)).setCell ⟨GY,1,none⟩ (.slice pt2 Kt2 ct2)) (bts 14 16383) rfl (by go_simp) ?_;clear cx0 cx1 cy0 cy1 zx0 zx1 zy0 zy1 BGX BGY hS3 hS1 LGX LGY;generalize ((((U2.setCell ⟨GX,0,none⟩ (.int .i64 xt)).setCell ⟨GX,1,none⟩ (.slice pt Kt ct)).setCell ⟨GY,0,none⟩ (.int .i64 yt)).setCell ⟨GY,1,none⟩ (.slice pt2 Kt2 ct2)) = W9 at *;refine M_done (by kernel_rfl) ?_ _;go_wp2_with fail
            go_meet
            exact ⟨GX,GY,rfl,rfl,HFI⟩
           ·skip
            obtain ⟨GY,hGY⟩ : ∃ z,U0.heap.size = z := ⟨_,rfl⟩
            have BGY : Blk (U0.alloc (Obj.cells #[.int .i64 0,.slice none 0 0] 80)) GY #[.int .i64 0,.slice none 0 0] 80 := by rw [← hGY]; exact Blk.new U0 _ _
            have LGY : wr.heap.size ≤ GY := by rw [← hGY]; exact hS.size
            have hS1 : Below wr.heap.size wr (U0.alloc (Obj.cells #[.int .i64 0,.slice none 0 0] 80)) := (hS.trans ((bra _).mono hS.size));simp only [zsA,zsZ,zsS]
            try simp only [hGY]
            clear hGY hS;generalize (U0.alloc (Obj.cells #[.int .i64 0,.slice none 0 0] 80)) = U1 at *;have hS := hS1;clear hS1;refine M_rn 10 7 (.pointer (some ⟨U1.heap.size,0,none⟩)) (U1.alloc (Obj.cells #[.int .i64 0,.slice none 0 0] 80)) (bts 14 4095) rfl (by go_simp) (hS.trans ((bra _).mono hS.size)) ?_;obtain ⟨GX,hGX⟩ : ∃ z,U1.heap.size = z := ⟨_,rfl⟩
            have BGX : Blk (U1.alloc (Obj.cells #[.int .i64 0,.slice none 0 0] 80)) GX #[.int .i64 0,.slice none 0 0] 80 := by rw [← hGX]; exact Blk.new U1 _ _
            have LGX : wr.heap.size ≤ GX := by rw [← hGX]; exact hS.size
            have NE : GY < GX := by rw [← hGX]; exact BGY.lt
            replace BGY := BGY.below ((Below.refl _ _).alloc (Nat.le_refl _) (Obj.cells #[.int .i64 0,.slice none 0 0] 80))
            have hS1 : Below wr.heap.size wr (U1.alloc (Obj.cells #[.int .i64 0,.slice none 0 0] 80)) := (hS.trans ((bra _).mono hS.size));simp only [zsA,zsZ,zsS]
            try simp only [hGX]
            clear hGX hS;generalize (U1.alloc (Obj.cells #[.int .i64 0,.slice none 0 0] 80)) = U2 at *;obtain ⟨cx0,cx1⟩ := cl2 BGX;obtain ⟨cy0,cy1⟩ := cl2 BGY;have zx0 := BGX.froz 0;have zx1 := BGX.froz 1;have zy0 := BGY.froz 0;have zy1 := BGY.froz 1
            have ne1 : GX ≠ GY := by omega
            have ne2 : GY ≠ GX := by omega
            obtain ⟨hS3,hfi⟩ := two_set BGX BGY ne1 hS1 LGX LGY (.int .i64 xt) (.slice pt Kt ct) (.int .i64 yt) (.slice pt2 Kt2 ct2);have HFI : Hid _ := hfi;clear hfi;refine M_sT 12 ((U2.setCell ⟨GX,0,none⟩ (.int .i64 xt)).setCell ⟨GX,1,none⟩ (.slice pt Kt ct)) (bts 14 8191) rfl (by go_simp) hS3 ?_;refine M_st 13 ((((U2.setCell ⟨GX,0,none⟩ (.int .i64 xt)).setCell ⟨GX,1,none⟩ (.slice pt Kt ct)).setCell ⟨GY,0,none⟩ (.int .i64 yt)).setCell ⟨GY,1,none⟩ (.slice pt2 Kt2 ct2)) (bts 14 16383) rfl (by go_simp) ?_;clear cx0 cx1 cy0 cy1 zx0 zx1 zy0 zy1 BGX BGY hS3 hS1 LGX LGY;generalize ((((U2.setCell ⟨GX,0,none⟩ (.int .i64 xt)).setCell ⟨GX,1,none⟩ (.slice pt Kt ct)).setCell ⟨GY,0,none⟩ (.int .i64 yt)).setCell ⟨GY,1,none⟩ (.slice pt2 Kt2 ct2)) = W9 at *;refine M_done (by kernel_rfl) ?_ _;go_wp2_with fail
            go_meet
            exact ⟨GX,GY,rfl,rfl,HFI⟩
          case rest =>
           obtain ⟨GX,GY,rfl,rfl,HXY0⟩ := hcut;have hbB : Below wr.heap.size wr wc := HXY0.out.2.2;have hbA : Below w.heap.size w wc := hbel.trans (hbB.mono hbel.size);have hX1 := HXY0.out.1;have hX2 := HXY0.out.2.1;generalize wc = W at *;have HY1 : Hid (Blk W w.heap.size #[.int .i64 K,.int .i64 N,.string S,.slice (some ⟨g,off,none⟩) Ke ce,.slice pr Kr cr] 33) := HB1.out.below hbB;have HY2 : Hid (Blk W (w.heap.size + 1) #[.int .i64 K,.int .i64 N,.string S,.slice (some ⟨g2,off2,none⟩) Ke ce2,.slice pr2 Kr cr2] 33) := HB2.out.below hbB;have HT1 : Hid (TrsIn n' W (.slice pt Kt ct) xl) := T1.out.belowT hbB;have HT2 : Hid (TrsIn m' W (.slice pt2 Kt2 ct2) yl) := T2.out.belowT hbB;clear hbB HB1 HB2 T1 T2 hz1 hz2 hz3 hz4 hbel HXY0;have a0 := hX1.cell 0;have a1 := hX1.cell 1;have b0 := hX2.cell 0;have b1 := hX2.cell 1
           simp at a0 a1 b0 b1
           by_cases ht : xt = yt
           ·subst ht
            by_cases hk : Kt = Kt2
            ·subst hk;have HZ1 : Hid (Blk W GX #[Value.int IntKind.i64 xt,Value.slice pt Kt ct] 80) := hX1;have HZ2 : Hid (Blk W GY #[Value.int IntKind.i64 xt,Value.slice pt2 Kt ct2] 80) := hX2;clear hX1 hX2;go_wp2_with fail;clear a0 a1 b0 b1
             go_loopw [9] (fun iv wz => ∃ j : Nat,iv = .int .i64 (j : Int) ∧ j ≤ Kt ∧ Hid (∀ l,l < j → xl[l]? = yl[l]?) ∧ Below w.heap.size w wz ∧ Below W.heap.size W wz) (fun iv _ => Kt - (intOf iv).toNat)
             case atStart => exact ⟨0,rfl,by omega,(fun j hj => absurd hj (by omega) : ∀ l,l < 0 → xl[l]? = yl[l]?),hbA,Below.refl _ _⟩
             case round =>
              obtain ⟨j,rfl,hj,HL,hbel,hbW⟩ := hrel;have a1 := (HZ1.out.below hbW).cell 1;have b1 := (HZ2.out.below hbW).cell 1
              simp at a1 b1
              by_cases hlt2 : j < Kt
              ·obtain ⟨x,hx⟩ : ∃ r,xl[j]? = some r := ⟨_,List.getElem?_eq_getElem (by rw [HKt.out]; exact hlt2)⟩;obtain ⟨y,hy⟩ : ∃ r,yl[j]? = some r := ⟨_,List.getElem?_eq_getElem (by rw [HKt2.out]; exact hlt2)⟩;obtain ⟨g3,off3,rfl,c1⟩ := (HT1.out.belowT hbW).get hx;obtain ⟨g4,off4,rfl,c2⟩ := (HT2.out.belowT hbW).get hy;obtain ⟨z1,n1,d1,z2,n2,d2,p0,p1,p2,p3,p4,p5⟩ := trs_get c1;obtain ⟨z3,n3,d3,z4,n4,d4,o0,o1,o2,o3,o4,o5⟩ := trs_get c2;have HX2 : Hid (xl[j]? = some x) := hx;have HY2 : Hid (yl[j]? = some y) := hy;clear c1 c2 hx hy
               have HC : Hid (∀ W1,Below wr.heap.size wr W1 → Calls Tryz.prog 15 #[.agg #[.int .i64 x.kind,.int .i64 x.n,.string x.s,.slice z1 n1 d1,.slice z2 n2 d2],.agg #[.int .i64 y.kind,.int .i64 y.n,.string y.s,.slice z3 n3 d3,.slice z4 n4 d4]] W1 fun e W' => SamT x y e ∧ Below wr.heap.size wr W') := fun W1 hW1 => (by
                refine (IH m' x y _ _ W1 (p5.below hW1) (o5.below hW1)).mono ?_;rintro e W' ⟨hR,hb⟩
                exact ⟨hR,hW1.trans (hb.mono hW1.size)⟩ : Calls Tryz.prog _ _ W1 _)
               have HKC : Hid (∀ W1,Below wr.heap.size wr W1 → W1.cell? ⟨GX,1,none⟩ = some (.slice (some ⟨g3,off3,none⟩) Kt ct) ∧ W1.cell? ⟨GY,1,none⟩ = some (.slice (some ⟨g4,off4,none⟩) Kt ct2) ∧ W1.cell? ⟨g3,off3 + j * 5,none⟩ = some (.int .i64 x.kind) ∧ W1.cell? ⟨g3,off3 + j * 5 + 1,none⟩ = some (.int .i64 x.n) ∧ W1.cell? ⟨g3,off3 + j * 5 + 2,none⟩ = some (.string x.s) ∧ W1.cell? ⟨g3,off3 + j * 5 + 3,none⟩ = some (.slice z1 n1 d1) ∧ W1.cell? ⟨g3,off3 + j * 5 + 4,none⟩ = some (.slice z2 n2 d2) ∧ W1.cell? ⟨g4,off4 + j * 5,none⟩ = some (.int .i64 y.kind) ∧ W1.cell? ⟨g4,off4 + j * 5 + 1,none⟩ = some (.int .i64 y.n) ∧ W1.cell? ⟨g4,off4 + j * 5 + 2,none⟩ = some (.string y.s) ∧ W1.cell? ⟨g4,off4 + j * 5 + 3,none⟩ = some (.slice z3 n3 d3) ∧ W1.cell? ⟨g4,off4 + j * 5 + 4,none⟩ = some (.slice z4 n4 d4)) := fun W1 hW => by
                have cc : ∀ p u,wr.cell? p = some u → W1.cell? p = some u := fun p u h => (hW.cell (World.block_lt_of_cell? _ _ h)).trans h
                exact ⟨cc _ _ a1,cc _ _ b1,cc _ _ p0,cc _ _ p1,cc _ _ p2,cc _ _ p3,cc _ _ p4,cc _ _ o0,cc _ _ o1,cc _ _ o2,cc _ _ o3,cc _ _ o4⟩
               clear p0 p1 p2 p3 p4 p5 o0 o1 o2 o3 o4 o5;go_wp2_with fail;clear a1 b1;have hS : Below wr.heap.size wr wr.drew := (Below.refl _ _).drew;refine wp_region_held_drew (S := fun w' => Below wr.heap.size wr w') (by kernel_rfl) hS (fun hS => ?_);refine rg_tk 0 103 (.pointer (some ⟨GX,1,none⟩)) (fun w' hw' => ?_) hS (bts 12 1) ?_
               ·go_simp
               refine rg_tk 1 104 (.slice (some ⟨g3,off3,none⟩) Kt ct) (fun w' hw' => ?_) hS (bts 12 3) ?_
               ·obtain ⟨k1,k2,k3,k4,k5,k6,k7,k8,k9,k10,k11,k12⟩ := HKC.out _ hw'; go_simp
               refine rg_tk 2 105 (.int .i64 (j : Int)) (fun w' hw' => ?_) hS (bts 12 7) ?_
               ·go_simp
               refine rg_tk 3 106 (.pointer (some ⟨g3,off3 + j * 5,none⟩)) (fun w' hw' => ?_) hS (bts 12 15) ?_
               ·go_simp
               refine rg_tk 4 107 (.agg #[.int .i64 x.kind,.int .i64 x.n,.string x.s,.slice z1 n1 d1,.slice z2 n2 d2]) (fun w' hw' => ?_) hS (bts 12 31) ?_
               ·obtain ⟨k1,k2,k3,k4,k5,k6,k7,k8,k9,k10,k11,k12⟩ := HKC.out _ hw'; go_simp
               refine rg_tk 5 108 (.pointer (some ⟨GY,1,none⟩)) (fun w' hw' => ?_) hS (bts 12 63) ?_
               ·go_simp
               refine rg_tk 6 109 (.slice (some ⟨g4,off4,none⟩) Kt ct2) (fun w' hw' => ?_) hS (bts 12 127) ?_
               ·obtain ⟨k1,k2,k3,k4,k5,k6,k7,k8,k9,k10,k11,k12⟩ := HKC.out _ hw'; go_simp
               refine rg_tk 7 110 (.int .i64 (j : Int)) (fun w' hw' => ?_) hS (bts 12 255) ?_
               ·go_simp
               refine rg_tk 8 111 (.pointer (some ⟨g4,off4 + j * 5,none⟩)) (fun w' hw' => ?_) hS (bts 12 511) ?_
               ·go_simp
               refine rg_tk 9 112 (.agg #[.int .i64 y.kind,.int .i64 y.n,.string y.s,.slice z3 n3 d3,.slice z4 n4 d4]) (fun w' hw' => ?_) hS (bts 12 1023) ?_
               ·obtain ⟨k1,k2,k3,k4,k5,k6,k7,k8,k9,k10,k11,k12⟩ := HKC.out _ hw'; go_simp
               refine rg_cl 10 113 15 #[.agg #[.int .i64 x.kind,.int .i64 x.n,.string x.s,.slice z1 n1 d1,.slice z2 n2 d2],.agg #[.int .i64 y.kind,.int .i64 y.n,.string y.s,.slice z3 n3 d3,.slice z4 n4 d4]] (bts 12 2047) rfl (fun W => by go_simp) ?_;refine (HC.out _ hS).mono ?_;rintro e W1 ⟨⟨RB,rfl,hRB⟩,hW1⟩;have HRB : Hid (RB = true ↔ x = y) := hRB;have hS : Below wr.heap.size wr W1 := hW1;clear hRB;refine ⟨_,rfl,hS,?_⟩;simp only [zsA,zsZ,zsS];refine rg_tk 11 114 (.bool (!RB)) (fun w' hw' => ?_) hS (bts 12 4095) ?_
               ·go_simp
               refine wpAnyH_done (by kernel_rfl) ?_ _;have hb1 := hbel.trans (hS.mono hbel.size);have hb2 := hbW.trans (hS.mono hbW.size);clear HKC HC hS hW1 hbel hbW
               cases RB with
               | true =>
                have HXY : Hid (x = y) := HRB.out.1 rfl;go_wp2_with fail
                go_roundw
                case rel => exact ⟨j + 1,by go_num,by omega,(fun l hl => by
                 rcases Nat.lt_or_eq_of_le (Nat.le_of_lt_succ hl) with h | h
                 ·exact HL.out l h
                 ·subst h; rw [HX2.out,HY2.out,HXY.out] : ∀ l,l < j + 1 → xl[l]? = yl[l]?),hb1,hb2⟩
                case measure => simp [intOf]; omega
               | false =>
                have HNE : Hid (a ≠ b) := hid (fun e => absurd (HRB.out.2 (by
                 have h1 := HX.out;rw [e,HY.out] at h1;have h2 := (Prod.mk.inj (Option.some.inj h1)).2;have h3 := HX2.out;rw [← h2,HY2.out] at h3
                 exact (Option.some.inj h3).symm)) (by decide))
                go_wp2_with fail;go_ret;exact ⟨sam_no HNE.out,hb1⟩
              ·have hle : xl = yl := list_ext (by rw [HKt.out,HKt2.out]) (fun l hl => HL.out l (by rw [HKt.out] at hl; omega));have HLE : Hid (xl = yl) := hle;clear hle HL;go_wp2_with fail;clear a1 b1
               go_roundw
               case rel => exact ⟨i + 1,by go_num,by omega,(fun l hl => by
                 rcases Nat.lt_or_eq_of_le (Nat.le_of_lt_succ hl) with h | h
                 ·exact HJ.out l h
                 ·subst h; rw [HX.out,HY.out,HLE.out] : ∀ l,l < i + 1 → a.es[l]? = b.es[l]?),hbel,HY1.out.below hbW,HY2.out.below hbW⟩
               case measure => simp [intOf]; omega
            ·have hne : a ≠ b := fun e => hk (by
              have h1 := HX.out;rw [e,HY.out] at h1;have h2 := (Prod.mk.inj (Option.some.inj h1)).2
              rw [← HKt.out,← HKt2.out,h2])
             have hd : ((Kt : Int) != (Kt2 : Int)) = true := by simp; omega
             clear hX1 hX2 HX HY HKt HKt2;go_wp2_with fail;go_ret;exact ⟨sam_no hne,hbA⟩
           ·have hne : a ≠ b := fun e => ht (by
             have h1 := HX.out;rw [e,HY.out] at h1
             exact (Prod.mk.inj (Option.some.inj h1)).1.symm)
            have hd : (xt != yt) = true := by simpa using ht
            clear hX1 hX2 HX HY HKt HKt2;go_wp2_with fail;go_ret;exact ⟨sam_no hne,hbA⟩
         ·have hje : a.es = b.es := list_ext (by rw [HKe.out,HKe2.out]) (fun j hj => HJ.out j (by rw [HKe.out] at hj; omega));have hab : a = b := tr_ext HK.out.1 HK.out.2.1 HK.out.2.2 hje HJE.out;clear hje HJ HB1 HB2 HJE;have HAB : Hid (a = b) := hab;clear hab;go_wp2_with fail;go_ret;exact ⟨sam_yes HAB.out,hbel⟩
     ·have hne : a ≠ b := fun e => hr (by rw [← HKr.out,← HKr2.out,e])
      have hd : ((Kr : Int) != (Kr2 : Int)) = true := by simp; omega
      subst he;rw [← hk,← hn,← hs];clear hk hn hs hr;obtain ⟨K,hK⟩ : ∃ K,a.kind = K := ⟨_,rfl⟩;obtain ⟨N,hN⟩ : ∃ K,a.n = K := ⟨_,rfl⟩;obtain ⟨S,hS⟩ : ∃ K,a.s = K := ⟨_,rfl⟩;rw [hK,hN,hS];clear hK hN hS
      go_enter Tryz.func15,Tryz.ntmps15
      go_wp2_with fail;go_ret;exact ⟨sam_no hne,(bra _).alloc (by simp) _⟩
    ·have hne : a ≠ b := fun e => he (by rw [← HKe.out,← HKe2.out,e])
     have hd : ((Ke : Int) != (Ke2 : Int)) = true := by simp; omega
     rw [← hk,← hn,← hs];clear hk hn hs he;obtain ⟨K,hK⟩ : ∃ K,a.kind = K := ⟨_,rfl⟩;obtain ⟨N,hN⟩ : ∃ K,a.n = K := ⟨_,rfl⟩;obtain ⟨S,hS⟩ : ∃ K,a.s = K := ⟨_,rfl⟩;rw [hK,hN,hS];clear hK hN hS
     go_enter Tryz.func15,Tryz.ntmps15
     go_wp2_with fail;go_ret;exact ⟨sam_no hne,(bra _).alloc (by simp) _⟩
   ·have hne : a ≠ b := fun e => hs (by rw [e])
    have hd : (a.s.toList == b.s.toList) = false := by simpa using fun h => hs (toList_ext h)
    rw [← hk,← hn];clear hk hn hs;obtain ⟨K,hK⟩ : ∃ K,a.kind = K := ⟨_,rfl⟩;obtain ⟨N,hN⟩ : ∃ K,a.n = K := ⟨_,rfl⟩;obtain ⟨S,hS⟩ : ∃ K,a.s = K := ⟨_,rfl⟩;obtain ⟨S2,hS2⟩ : ∃ K,b.s = K := ⟨_,rfl⟩;rw [hS,hS2] at hd;rw [hK,hN,hS,hS2];clear hK hN hS hS2
    go_enter Tryz.func15,Tryz.ntmps15
    go_wp2_with fail;go_ret;exact ⟨sam_no hne,(bra _).alloc (by simp) _⟩
  ·have hne : a ≠ b := fun e => hn (by rw [e])
   have hd : (a.n != b.n) = true := by simpa using hn
   rw [← hk];clear hk hn;obtain ⟨K,hK⟩ : ∃ K,a.kind = K := ⟨_,rfl⟩;obtain ⟨N,hN⟩ : ∃ K,a.n = K := ⟨_,rfl⟩;obtain ⟨N2,hN2⟩ : ∃ K,b.n = K := ⟨_,rfl⟩;rw [hN,hN2] at hd;rw [hK,hN,hN2];clear hK hN hN2
   go_enter Tryz.func15,Tryz.ntmps15
   go_wp2_with fail;go_ret;exact ⟨sam_no hne,(bra _).alloc (by simp) _⟩
 ·have hne : a ≠ b := fun e => hk (by rw [e])
  obtain ⟨K,hK⟩ : ∃ K,a.kind = K := ⟨_,rfl⟩;obtain ⟨K2,hK2⟩ : ∃ K,b.kind = K := ⟨_,rfl⟩;rw [hK,hK2] at hk ⊢
  have h1 : (K != K2) = true := by simpa using hk
  clear hK hK2 hk
  go_enter Tryz.func15,Tryz.ntmps15
  go_wp2_with fail;go_ret;exact ⟨sam_no hne,(bra _).alloc (by simp) _⟩
theorem rsame_any : ∀ (n m : Nat) (a b : Tr) (va vb : Value) (w : World),TrIn n w va a → TrIn m w vb b → Calls Tryz.prog 15 #[va,vb] w fun e w' => SamT a b e ∧ Below w.heap.size w w'
 | 0,_,a,_,_,_,_,ha,_ => by obtain ⟨r,_,h⟩ := ha; exact h.elim
 | n + 1,m,a,b,va,vb,w,ha,hb => rsame_step n m (fun m' a b va vb w ha hb => rsame_any n m' a b va vb w ha hb) a b va vb w ha hb
theorem TrO.trIn {n B : Nat} {w : World} {r : List Value} {t : Tr} {bs : List Nat} (h : TrO n B w r t bs) : TrIn n w (.agg r.toArray) t := ⟨r,rfl,h.trC⟩
theorem rsame_eq {n m : Nat} {t : Tr} {va vb : Value} {w : World} (ha : TrIn n w va t) (hb : TrIn m w vb t) : Calls Tryz.prog 15 #[va,vb] w fun e w' => e = .returned (.bool true) ∧ Below w.heap.size w w' := by
 refine (rsame_any n m t t va vb w ha hb).mono ?_;rintro e w' ⟨⟨R,rfl,h⟩,hb⟩;have : R = true := h.2 rfl;subst this;exact ⟨rfl,hb⟩
theorem encA_le (n : Nat) (t : Tr) : (encA n t).1.length ≤ 4096 := by
 unfold encA ofR
 split
 ·simp
 ·unfold putL
  split
  ·split
   ·assumption
   ·simp
  ·simp
theorem mtr_lenD (ms : List MtS) : ∀ r ∈ mtRows ms,r.length = 3 := fun r hr => by
 simp only [mtRows,List.mem_map] at hr;obtain ⟨_,_,rfl⟩ := hr
 rfl
theorem schemaD_any {w : World} {v : Value} {s : ScS} (hr : ScIn w v s) (hf : FewL s) : Calls Tryz.prog 12 #[v] w fun e w' => ∃ r,e = .returned r ∧ ScIn w' r s ∧ Below w.heap.size w w' :=
 (schema_any hr hf).mono fun e w' ⟨vm,ve,vt,pm,pe,h1,h2,h3,h4,h5⟩ => ⟨_,h1,⟨vm,ve,vt,rfl,h2.to_in,h3.to_in,(RowG.own (mtr_lenD _) (by decide) h4).1⟩,h5⟩
theorem decodeTrees_walk (v : Value) (s : ScS) (nm : ByteArray) (vt : Value) (n : Nat) (t : Tr) (w : World) (hr : ScIn w v s) (hw : ScW s) (hnm : nm.size ≤ 140737488351232) (h : TrIn n w vt t) :
  Calls Tryz.prog 4 #[v,.string nm,vt] w fun e w' => e = .returned (.bool true) ∧ Below w.heap.size w w' := by
 have HSL : Hid (∀ W,Below w.heap.size w W → Calls Tryz.prog 18 #[vt] W fun e w' => SmallP t vt W e ∧ Below W.heap.size W w') := fun W hW => small_any n t vt W (h.below hW)
 obtain ⟨m,ve,vr, -,rfl, -, -, -, -,ra,ea'⟩ := h.open;obtain ⟨pe,ce,rfl,e1,e2, -⟩ := ea'.open;obtain ⟨pr,cr,rfl,e3,e4, -⟩ := rest_holds ra;clear ea' ra h e1 e2 e3 e4;obtain ⟨K,hK⟩ : ∃ z,t.kind = z := ⟨_,rfl⟩;obtain ⟨N,hN⟩ : ∃ z,t.n = z := ⟨_,rfl⟩;obtain ⟨S,hS⟩ : ∃ z,t.s = z := ⟨_,rfl⟩;obtain ⟨Ke,hKe⟩ : ∃ z,t.es.length = z := ⟨_,rfl⟩;obtain ⟨Kr,hKr⟩ : ∃ z,t.rest.length = z := ⟨_,rfl⟩;rw [hKe,hKr,hK,hN,hS] at HSL ⊢;clear hK hN hS hKe hKr;have hs' := hr;obtain ⟨vm,ve,vt,rfl,hms,hen,hmt⟩ := hr;obtain ⟨ma,mc,rfl, -⟩ := hms.open;obtain ⟨ea,ec,rfl, -⟩ := hen.open;obtain ⟨ta,tn,tc,rfl⟩ := row_sliceD hmt;generalize s.msgs.length = mn at *;generalize s.enums.length = en at *;obtain ⟨sn,hsn⟩ : ∃ z,s.name = z := ⟨_,rfl⟩;rw [hsn] at hs' ⊢;have HSC : Hid (ScIn w (.agg #[.string sn,.slice ma mn mc,.slice ea en ec,.slice ta tn tc]) s) := hs';have HSW : Hid (ScW s) := hw;obtain ⟨BS,BT,al⟩ := dblk2r w #[.string sn,.slice ma mn mc,.slice ea en ec,.slice ta tn tc] #[.int .i64 K,.int .i64 N,.string S,.slice pe Ke ce,.slice pr Kr cr] 26 33;have HFW : Hid (Calls Tryz.prog 9 #[.agg #[.string sn,.slice ma mn mc,.slice ea en ec,.slice ta tn tc]] ((w.alloc (Obj.cells #[.string sn,.slice ma mn mc,.slice ea en ec,.slice ta tn tc] 26)).alloc (Obj.cells #[.int .i64 K,.int .i64 N,.string S,.slice pe Ke ce,.slice pr Kr cr] 33)) fun e w' => FewP s e ∧ Below ((w.alloc (Obj.cells #[.string sn,.slice ma mn mc,.slice ea en ec,.slice ta tn tc] 26)).alloc (Obj.cells #[.int .i64 K,.int .i64 N,.string S,.slice pe Ke ce,.slice pr Kr cr] 33)).heap.size ((w.alloc (Obj.cells #[.string sn,.slice ma mn mc,.slice ea en ec,.slice ta tn tc] 26)).alloc (Obj.cells #[.int .i64 K,.int .i64 N,.string S,.slice pe Ke ce,.slice pr Kr cr] 33)) w') := few_any (hs'.below al) hw;clear hs' hms hen hmt hsn hw hnm
 go_enter Tryz.func4,Tryz.ntmps4
 go_wp2_with fail;obtain ⟨b0,hb0⟩ : ∃ z,w.heap.size = z := ⟨_,rfl⟩;have HBZ : Hid (w.heap.size = b0) := hb0;generalize ((w.alloc (Obj.cells #[.string sn,.slice ma mn mc,.slice ea en ec,.slice ta tn tc] 26)).alloc (Obj.cells #[.int .i64 K,.int .i64 N,.string S,.slice pe Ke ce,.slice pr Kr cr] 33)) = WA at *;rw [hb0] at BS BT
 try simp only [hb0]
 clear hb0;obtain ⟨s0,s1,s2,s3⟩ := cl4 BS;have HBB : Hid (Blk WA b0 #[.string sn,.slice ma mn mc,.slice ea en ec,.slice ta tn tc] 26 ∧ Blk WA (b0 + 1) #[.int .i64 K,.int .i64 N,.string S,.slice pe Ke ce,.slice pr Kr cr] 33) := ⟨BS,BT⟩;have HWA : Hid (Below w.heap.size w WA) := al;clear BS BT
 try go_wp2_with fail
 refine HFW.out.mono ?_;rintro e w2 ⟨hfw,hb2⟩;have hbw2 : Below w.heap.size w w2 := al.trans (hb2.mono al.size);have hA2 : Below WA.heap.size WA w2 := hb2;clear hb2 al HFW s0 s1 s2 s3
 rcases hfw with rfl | ⟨rfl,hfs⟩
 ·skip
  go_wp2_with fail;refine (dcawake_any _).mono ?_;rintro e wz ⟨rfl,hbz⟩;have hbwz : Below w.heap.size w wz := hbw2.trans (hbz.mono hbw2.size);clear hbz;go_wp2_with fail;go_ret;exact ⟨rfl,hbwz⟩
 have HFS : Hid (FewS s) := hfs;have BT2 := HBB.out.2.below hA2;obtain ⟨q0,q1,q2,q3,q4⟩ := cl5 BT2;clear BT2 hfs;go_wp2_with fail;refine (HSL.out _ hbw2).mono ?_;rintro e w3 ⟨⟨R,rfl,hR⟩,hb3⟩;have hbw3 : Below w.heap.size w w3 := hbw2.trans (hb3.mono hbw2.size);have hA3 : Below WA.heap.size WA w3 := hA2.trans (hb3.mono hA2.size);have HRR : Hid (R = true → SmN 14 t ∧ cntN 14 t ≤ 200 ∧ TrIn 14 w3 (.agg #[.int .i64 K,.int .i64 N,.string S,.slice pe Ke ce,.slice pr Kr cr]) t) := fun hr => ⟨(hR hr).1,(hR hr).2.1,(hR hr).2.2.below hb3⟩
 clear hR hb3 HSL q0 q1 q2 q3 q4 hA2
 cases R with
 | false =>
  go_wp2_with fail;refine (dcawake_any _).mono ?_;rintro e wz ⟨rfl,hbz⟩;have hbwz : Below w.heap.size w wz := hbw3.trans (hbz.mono hbw3.size);clear hbz;go_wp2_with fail;go_ret;exact ⟨rfl,hbwz⟩
 | true =>
  obtain ⟨s1',s2',s3'⟩ := HRR.out rfl;have HS1 : Hid (SmN 14 t ∧ cntN 14 t ≤ 200) := ⟨s1',s2'⟩;have HC : Hid (Calls Tryz.prog 20 #[.agg #[.int .i64 K,.int .i64 N,.string S,.slice pe Ke ce,.slice pr Kr cr]] w3 (CopyP 14 t w3)) := copy_any 14 t _ w3 s3' s1';have BT3 := HBB.out.2.below hA3;obtain ⟨q0,q1,q2,q3,q4⟩ := cl5 BT3;clear s1' s2' s3' HRR BT3;go_wp2_with fail;refine HC.out.mono ?_;rintro e w4 ⟨xv,bs,rfl,hX,hb4⟩;have hbw4 : Below w.heap.size w w4 := hbw3.trans (hb4.mono hbw3.size);have hA4 : Below WA.heap.size WA w4 := hA3.trans (hb4.mono hA3.size);have HEC : Hid (Calls Tryz.prog 19 #[xv] w4 (EncP (encA 14 t) w4)) := encode_any hX.trW (by omega) (by have := HS1.out.2; omega) HS1.out.1;have HLE : Hid ((encA 14 t).1.length ≤ 4096 ∧ ∀ k ∈ (encA 14 t).1,k < 256) := ⟨encA_le 14 t,encA_bytes 14 t⟩;clear hX hb4 HC hA3 q0 q1 q2 q3 q4;generalize encA 14 t = Y at *;go_wp2_with fail;refine Calls.mono HEC.out ?_;rintro e w5 ⟨ro,rfl,ho,hb5⟩;have hbw5 : Below w.heap.size w w5 := hbw4.trans (hb5.mono hbw4.size);have hA5 : Below WA.heap.size WA w5 := hA4.trans (hb5.mono hA4.size);obtain ⟨Yn,Ye⟩ := Y;simp only at ho HLE ⊢;have HBY : Hid (ByS w5 ro Yn) := ByS.own ho HLE.out.2;obtain ⟨ya,yc,rfl, -,hdj,hcl,hcm,hch⟩ := own_open ho
  have hyd : ya = none → Yn = [] ∧ yc = 0 := fun e => by
   rcases hdj with h | ⟨g,h,_⟩
   ·exact ⟨h.2.1,h.2.2⟩
   ·rw [e] at h; cases h
  have HYD : Hid ((ya = none → Yn = [] ∧ yc = 0) ∧ Holds w5 ya Yn) := ⟨hyd,hch⟩;clear hyd;obtain ⟨YL,hYL⟩ : ∃ z,Yn.length = z := ⟨_,rfl⟩;have HYL : Hid (Yn.length = YL) := hYL
  have hY4 : YL ≤ 4096 := by rw [← hYL]; exact HLE.out.1
  rw [hYL] at HBY ⊢;clear hYL HEC ho hb5 hdj hcl hcm hch hbw4 hA4
  by_cases hYe : Ye = 0
  rotate_left
  ·have d : ((Ye : Int) != 0) = true := by simp; omega
   clear hYe;go_wp2_with fail;refine (dcawake_any _).mono ?_;rintro e wz ⟨rfl,hbz⟩;have hbwz : Below w.heap.size w wz := hbw5.trans (hbz.mono hbw5.size);clear hbz;go_wp2_with fail;go_ret;exact ⟨rfl,hbwz⟩
  subst hYe;simp only [show ((0 : Nat) : Int) = 0 from rfl];have HCS : Hid (∀ W,Below w.heap.size w W → Calls Tryz.prog 12 #[.agg #[.string sn,.slice ma mn mc,.slice ea en ec,.slice ta tn tc]] W fun e w' => ∃ r,e = .returned r ∧ ScIn w' r s ∧ Below W.heap.size W w') := fun W hW => schemaD_any (HSC.out.below hW) HFS.out.few
  have BS5 := HBB.out.1.below hA5;obtain ⟨s0,s1,s2,s3⟩ := cl4 BS5;go_wp2_with fail;refine (HCS.out w5 hbw5).mono ?_;rintro e w6 ⟨sv,rfl,hsv,hb6⟩;have hbw6 : Below w.heap.size w w6 := hbw5.trans (hb6.mono hbw5.size);have hA6 : Below WA.heap.size WA w6 := hA5.trans (hb6.mono hA5.size);have hY6 : Below w5.heap.size w5 w6 := hb6;have HSV : Hid (ScIn w6 sv s) := hsv;have HBYC : Hid (Calls Tryz.prog 13 #[.slice ya YL yc] w6 fun e w' => ∃ r,e = .returned r ∧ w'.ownsRow w6.heap.size 5 1 r YL (byteCells Yn) ∧ Below w6.heap.size w6 w') := bytes_any ya Yn yc YL w6 HYL.out (by omega) HYD.out.1 (HYD.out.2.below hY6);clear hsv hb6 BS5 s0 s1 s2 s3;go_wp2_with fail;refine HBYC.out.mono ?_;rintro e w7 ⟨rb,rfl,hob,hb7⟩;have hbw7 : Below w.heap.size w w7 := hbw6.trans (hb7.mono hbw6.size);have hA7 : Below WA.heap.size WA w7 := hA6.trans (hb7.mono hA6.size);have hY7 : Below w5.heap.size w5 w7 := hY6.trans (hb7.mono hY6.size);obtain ⟨R,hR⟩ : ∃ R,decA s nm Yn = R := ⟨_,rfl⟩;have HRR : Hid (decA s nm Yn = R) := hR
  have HDE : Hid (Calls Tryz.prog 11 #[sv,.string nm,rb] w7 (DtrP 11 R w7)) := (by
   have h1 := decode_any (HSV.out.below hb7) HSW.out HFS.out.few (ByS.own hob HLE.out.2) (nm := nm);rw [hR] at h1
   exact h1 : Calls Tryz.prog _ _ _ _)
  clear hR hob hb7 HSV hbw6 HBYC hA6 hY6;go_wp2_with fail;refine HDE.out.mono ?_;rintro e w8 ⟨r8,bs8,rfl,ht8,hap8,hb8⟩;have hbw8 : Below w.heap.size w w8 := hbw7.trans (hb8.mono hbw7.size);have hA8 : Below WA.heap.size WA w8 := hA7.trans (hb8.mono hA7.size);have hY8 : Below w5.heap.size w5 w8 := hY7.trans (hb8.mono hY7.size);have hTI8 := ht8.trIn;obtain ⟨a1,n1,c1,a2,n2,c2,rfl⟩ := ht8.open;clear HDE ht8 hap8 hb8 hbw7 hA7 hY7;obtain ⟨T,E0⟩ := R;simp only at hTI8 ⊢;obtain ⟨K2,hK2⟩ : ∃ z,T.kind = z := ⟨_,rfl⟩;obtain ⟨N2,hN2⟩ : ∃ z,T.n = z := ⟨_,rfl⟩;obtain ⟨S2,hS2⟩ : ∃ z,T.s = z := ⟨_,rfl⟩;have HKS : Hid (T.kind = K2 ∧ T.n = N2 ∧ T.s = S2) := ⟨hK2,hN2,hS2⟩;rw [hK2,hN2,hS2] at hTI8 ⊢;clear hK2 hN2 hS2;have al9 : Below w8.heap.size w8 (w8.alloc (Obj.cells #[.int .i64 K2,.int .i64 N2,.string S2,.slice a1 n1 c1,.slice a2 n2 c2] 33)) := bra _;have hbw9 : Below w.heap.size w (w8.alloc (Obj.cells #[.int .i64 K2,.int .i64 N2,.string S2,.slice a1 n1 c1,.slice a2 n2 c2] 33)) := hbw8.trans (al9.mono hbw8.size);have hY9 : Below w5.heap.size w5 (w8.alloc (Obj.cells #[.int .i64 K2,.int .i64 N2,.string S2,.slice a1 n1 c1,.slice a2 n2 c2] 33)) := hY8.trans (al9.mono hY8.size);have BT9 : Blk (w8.alloc (Obj.cells #[.int .i64 K2,.int .i64 N2,.string S2,.slice a1 n1 c1,.slice a2 n2 c2] 33)) w8.heap.size #[.int .i64 K2,.int .i64 N2,.string S2,.slice a1 n1 c1,.slice a2 n2 c2] 33 := Blk.new w8 _ _;have HTI9 : Hid (TrIn 11 (w8.alloc (Obj.cells #[.int .i64 K2,.int .i64 N2,.string S2,.slice a1 n1 c1,.slice a2 n2 c2] 33)) (.agg #[.int .i64 K2,.int .i64 N2,.string S2,.slice a1 n1 c1,.slice a2 n2 c2]) T) := hTI8.below al9
  have HRD : Hid (Calls Tryz.prog 14 #[.agg #[.string sn,.slice ma mn mc,.slice ea en ec,.slice ta tn tc],.string nm,.slice ya YL yc] (w8.alloc (Obj.cells #[.int .i64 K2,.int .i64 N2,.string S2,.slice a1 n1 c1,.slice a2 n2 c2] 33)) (DtrP 11 (T,E0) (w8.alloc (Obj.cells #[.int .i64 K2,.int .i64 N2,.string S2,.slice a1 n1 c1,.slice a2 n2 c2] 33)))) := (by
   have h1 := r12decode_any (HSC.out.below hbw9) HFS.out (HBY.out.below hY9) (nm := nm);rw [HRR.out] at h1
   exact h1 : Calls Tryz.prog _ _ _ _)
  have BS8 := HBB.out.1.below hA8;have ltS := BS8.lt;obtain ⟨s0,s1,s2,s3⟩ := cl4 BS8;clear hTI8 BS8 al9 hbw8 hA8 hY8 hY9;go_wp2_with fail;refine HRD.out.mono ?_;rintro e w10 ⟨r10,bs10,rfl,ht10,hap10,hb10⟩;have hbw10 : Below w.heap.size w w10 := hbw9.trans (hb10.mono hbw9.size);have hTI10 := ht10.trIn;obtain ⟨y1,m1,d1,y2,m2,d2,rfl⟩ := ht10.open;have BT10 := BT9.below hb10;have HTX : Hid (TrIn 11 w10 (.agg #[.int .i64 K2,.int .i64 N2,.string S2,.slice a1 n1 c1,.slice a2 n2 c2]) T) := HTI9.out.below hb10;clear HRD ht10 hap10 hb10 BT9 HTI9 hbw9 s0 s1 s2 s3 ltS;simp only at hTI10 ⊢;rw [HKS.out.1,HKS.out.2.1,HKS.out.2.2] at hTI10 ⊢;have al11 : Below w10.heap.size w10 (w10.alloc (Obj.cells #[.int .i64 K2,.int .i64 N2,.string S2,.slice y1 m1 d1,.slice y2 m2 d2] 33)) := bra _;have hbw11 : Below w.heap.size w (w10.alloc (Obj.cells #[.int .i64 K2,.int .i64 N2,.string S2,.slice y1 m1 d1,.slice y2 m2 d2] 33)) := hbw10.trans (al11.mono hbw10.size);have BU11 : Blk (w10.alloc (Obj.cells #[.int .i64 K2,.int .i64 N2,.string S2,.slice y1 m1 d1,.slice y2 m2 d2] 33)) w10.heap.size #[.int .i64 K2,.int .i64 N2,.string S2,.slice y1 m1 d1,.slice y2 m2 d2] 33 := Blk.new w10 _ _;have BT11 := BT10.below al11;have ltT := BT10.lt;have HSM : Hid (Calls Tryz.prog 15 #[.agg #[.int .i64 K2,.int .i64 N2,.string S2,.slice a1 n1 c1,.slice a2 n2 c2],.agg #[.int .i64 K2,.int .i64 N2,.string S2,.slice y1 m1 d1,.slice y2 m2 d2]] (w10.alloc (Obj.cells #[.int .i64 K2,.int .i64 N2,.string S2,.slice y1 m1 d1,.slice y2 m2 d2] 33)) fun e w' => e = .returned (.bool true) ∧ Below (w10.alloc (Obj.cells #[.int .i64 K2,.int .i64 N2,.string S2,.slice y1 m1 d1,.slice y2 m2 d2] 33)).heap.size (w10.alloc (Obj.cells #[.int .i64 K2,.int .i64 N2,.string S2,.slice y1 m1 d1,.slice y2 m2 d2] 33)) w') := rsame_eq (HTX.out.below al11) (hTI10.below al11);obtain ⟨q0,q1,q2,q3,q4⟩ := cl5 BT10;clear hTI10 HTX al11 BT10 hbw10 BU11 BT11;go_wp2_with fail;refine HSM.out.mono ?_;rintro e w12 ⟨rfl,hb12⟩;have hbw12 : Below w.heap.size w w12 := hbw11.trans (hb12.mono hbw11.size);clear HSM hb12 q0 q1 q2 q3 q4 ltT;go_wp2_with fail;refine (dcawake_any _).mono ?_;rintro e wz ⟨rfl,hbz⟩;have hbwz : Below w.heap.size w wz := hbw12.trans (hbz.mono hbw12.size);clear hbz;go_wp2_with fail;go_ret;exact ⟨rfl,hbwz⟩
end
end Go.Proofs.YtiajaocckkghgaaGreat
