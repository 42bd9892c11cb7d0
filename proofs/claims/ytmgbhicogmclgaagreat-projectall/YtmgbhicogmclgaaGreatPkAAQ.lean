/- Part 17 of what the proof stands on. -/
import Derived.Test.YtmgbhicogmclgaaGreatPkAAP
import Derived.SizedLaws
import Derived.Deep.Slices
import Derived.Deep.Strs
import Derived.Lib.SmallJoins
import Derived.ChangeArms
import Derived.RegionTactic
import Derived.ChangeAlike
namespace Go.Proofs.YtmgbhicogmclgaaGreat
set_option maxHeartbeats 8000000
set_option linter.unusedVariables false
set_option linter.unusedSimpArgs false
set_option maxRecDepth 20000
section
open Go.ChangeShapes Go.WideShapes Go.ChangeAt Go.RowKit
def Lite {H : Type} (t : TypeId) (d : DataW H) : Prop := ∀ n ∈ d.weights Tryz.prog t,n ≤ 140737488351232
theorem lite_all {H : Type} {e : TypeId} : ∀ {l : List (DataW H)} {d : DataW H},d ∈ l → ∀ n ∈ d.weights Tryz.prog e,n ∈ DataW.weightsAll Tryz.prog e l
 | x :: l,d,h,n,hn => by
  simp only [DataW.weightsAll,List.mem_append]
  rcases List.mem_cons.1 h with rfl | h
  ·exact .inl hn
  ·exact .inr (lite_all h n hn)
theorem lite_each {H : Type} {ts : List TypeId} {ds : List (DataW H)} (h : ∀ n ∈ DataW.weightsEach Tryz.prog ts ds,n ≤ 140737488351232) {j : Nat} {t : TypeId} {d : DataW H} (ht : ts[j]? = some t) (hd : ds[j]? = some d) : Lite t d :=
 fun n hn => h n (DataW.weights_mem_each ht hd n hn)
theorem lite_str {H : Type} {t : TypeId} {l : List UInt8} (h : Lite t (.lit (.string l) : DataW H)) : l.length ≤ 140737488351232 := h _ (by simp [DataW.weights])
section
variable {H : Type} {enc : TypeId × Value → H} {W : World} {base : Nat} {spare : Nat → Bool} {held : Bool}
theorem lite_struct {t : TypeId} {fs : Array Field} {ds : List (DataW H)} (hu : Tryz.prog.underlying t = some (.struct fs)) (h : Lite t (.agg ds : DataW H)) {j : Nat} {u : TypeId} {d : DataW H} (ht : (fs.toList.map (·.type))[j]? = some u) (hd : ds[j]? = some d) : Lite u d := by
 refine lite_each (ts := fs.toList.map (·.type)) (ds := ds) (fun n hn => h n ?_) ht hd;simp only [DataW.weights,hu];exact hn
theorem row_in {α : Type} {t e : TypeId} {size : Nat} (hc : Tryz.prog.cellsOf e = size) (hpos : 0 < size) (ht : Tryz.prog.underlying t = some (.slice e)) (cells : α → List Value) (hcl : ∀ r,(cells r).length = size) (P : α → Prop) (dflt : α)
  {fuel : Nat} {a : Option Addr} {len cap : Nat} {x : DataW H × List MemPlace} (h : DataW.trod enc Tryz.prog W base spare held fuel t [.slice a len cap] = some x) (hl : Lite t x.1)
  (one : ∀ n cs' y,DataW.trod enc Tryz.prog W base spare held n e cs' = some y → Lite e y.1 → ∃ r,cs' = cells r ∧ P r) :
  ∃ rs : List α,rs.length = len ∧ RowG W (.slice a len cap) size (rs.map cells) ∧ ∀ r ∈ rs,P r := by
 rcases Deep.open_slice ht h with ⟨hcs, -⟩ | ⟨ad,len',cap',m,n,D,Pl,hcs, -,hle,hm,hmm,hx0,hx⟩
 ·simp only [List.cons.injEq,Value.slice.injEq,and_true] at hcs;obtain ⟨rfl,rfl,rfl⟩ := hcs;exact ⟨[],rfl,RowG.nil _ _,by simp⟩
 ·simp only [List.cons.injEq,Value.slice.injEq,and_true] at hcs;obtain ⟨rfl,rfl,rfl⟩ := hcs;subst hx0
  have hml : len ≤ m := by rw [hmm]; split <;> omega
  rw [hc] at hx
  have each : ∀ i,i < len → ∃ r : α,W.cells? base (ad.add (i * size)) size = some (cells r) ∧ P r := fun i hi => by
   obtain ⟨cs',h1,h2⟩ := hx i (by omega)
   obtain ⟨r,rfl,hp⟩ := one n cs' _ h2 (fun k hk => hl k (by
    simp only [DataW.weights,ht,List.mem_cons,List.mem_append]
    exact .inr (.inl (lite_all (List.mem_map.2 ⟨i,List.mem_range.2 hi,rfl⟩) k hk))))
   exact ⟨r,h1,hp⟩
  obtain ⟨f,hf⟩ : ∃ f : Nat → α,∀ i,i < len → W.cells? base (ad.add (i * size)) size = some (cells (f i)) ∧ P (f i) :=
   ⟨fun i => if h : i < len then Classical.choose (each i h) else dflt,fun i hi => by simp only [dif_pos hi]; exact Classical.choose_spec (each i hi)⟩
  refine ⟨(List.range len).map f,by simp,?_,?_⟩
  ·refine ⟨some ad,cap,by simp,by simpa using hle,hm,(fun e => by cases e),fun hne => ?_⟩
   have hlen : 0 < len := by
    rcases Nat.eq_zero_or_pos len with h0 | h0
    ·subst h0; simp at hne
    ·exact h0
   have hcell : ∀ i,i < len → ∀ c,c < size → W.cell? ((ad.add (i * size)).add c) = (cells (f i))[c]? := fun i hi => (World.cells?_some (hf i hi).1).2.2
   obtain ⟨g,off,spot⟩ := ad
   have hspot : spot = none := by
    have h1 := hcell 0 hlen 0 hpos;obtain ⟨u,hu⟩ : ∃ u,(cells (f 0))[0]? = some u := ⟨_,List.getElem?_eq_getElem (by rw [hcl]; exact hpos)⟩;rw [hu] at h1
    simpa [Addr.add] using World.cell?_spot h1
   subst hspot;refine ⟨g,off,rfl,fun i c u j hi hj => ?_⟩;simp only [List.map_map,List.getElem?_map,Option.map_eq_some_iff,Function.comp_apply] at hi;obtain ⟨i',hi',rfl⟩ := hi;obtain ⟨hil,hie⟩ := List.getElem?_eq_some_iff.1 hi'
   simp at hie
   subst hie;simp only [List.length_range] at hil
   have hjs : j < size := by rw [← hcl (f i)]; exact (List.getElem?_eq_some_iff.1 hj).1
   have h2 := hcell i hil j hjs;rw [hj,Deep.add_add,Addr.add_lit] at h2;rw [Nat.add_assoc];exact h2
  ·intro r hr;simp only [List.mem_map,List.mem_range] at hr;obtain ⟨i,hi,rfl⟩ := hr;exact (hf i hi).2
theorem i64_ofS {n : Int} (h : (Lit.int .i64 n).wf = true) : I64 n := bounds_i64 h
theorem cellsIn : Tryz.prog.cellsOf 3 = 1 := by kernel_rfl
theorem cellsSt : Tryz.prog.cellsOf 9 = 1 := by kernel_rfl
theorem cellsTy : Tryz.prog.cellsOf 54 = 2 := by kernel_rfl
theorem cellsFl : Tryz.prog.cellsOf 56 = 5 := by kernel_rfl
theorem cellsNm : Tryz.prog.cellsOf 61 = 2 := by kernel_rfl
theorem cellsMt : Tryz.prog.cellsOf 63 = 3 := by kernel_rfl
theorem cellsMs : Tryz.prog.cellsOf 52 = 3 := by kernel_rfl
theorem cellsEn : Tryz.prog.cellsOf 59 = 2 := by kernel_rfl
theorem cellsSc : Tryz.prog.cellsOf 26 = 4 := by kernel_rfl
theorem cellsSl : Tryz.prog.cellsOf 49 = 1 ∧ Tryz.prog.cellsOf 50 = 1 ∧ Tryz.prog.cellsOf 57 = 1 ∧ Tryz.prog.cellsOf 22 = 1 ∧ Tryz.prog.cellsOf 23 = 1 ∧ Tryz.prog.cellsOf 24 = 1 := ⟨by kernel_rfl,by kernel_rfl,by kernel_rfl,by kernel_rfl,by kernel_rfl,by kernel_rfl⟩
theorem str_in {n : Nat} {c : Value} {y : DataW H × List MemPlace} (h : DataW.trod enc Tryz.prog W base spare held n 9 [c] = some y) (hl : Lite 9 y.1) : ∃ b : ByteArray,c = .string b ∧ b.size ≤ 140737488351232 := by
 obtain ⟨b,e,hy,w⟩ := DataW.trod_string Tryz.underlying9 h;simp only [List.cons.injEq,and_true] at e;subst e hy;exact ⟨b,rfl,lite_str hl⟩
theorem int_in {n : Nat} {c : Value} {y : DataW H × List MemPlace} (h : DataW.trod enc Tryz.prog W base spare held n 3 [c] = some y) : ∃ b : Int,c = .int .i64 b ∧ I64 b := by
 obtain ⟨b,e,hy,w⟩ := DataW.trod_int Tryz.underlying3 h;simp only [List.cons.injEq,and_true] at e;subst e;exact ⟨b,rfl,i64_ofS w⟩
theorem sfield_in : ∀ n cs' y,DataW.trod enc Tryz.prog W base spare held n 56 cs' = some y → Lite 56 y.1 → ∃ r : FlS,cs' = r.cells ∧ FlW r := by
 intro n cs y h hl;obtain ⟨y0,y1,y2,y3,m,hy,hc,h0,h1,h2,h3⟩ := _root_.Go.Joins.trod_struct4 Tryz.underlying56 h;rw [cellsFl] at hc
 match cs,hc with
 | [c0,c1,c2,c3,c4],_ =>
  rw [cellsIn] at h1 h2;rw [cellsSt] at h0;rw [cellsTy] at h3;simp only [List.drop_zero,List.drop_succ_cons,List.take_succ_cons,List.take_zero] at h0 h1 h2 h3;subst hy;obtain ⟨z0,z1,k,hz,hcz,g0,g1⟩ := trod_struct2 Tryz.underlying54 h3;rw [cellsIn] at g0;rw [cellsSt] at g1;simp only [List.drop_zero,List.drop_succ_cons,List.take_succ_cons,List.take_zero] at g0 g1;have l3 : Lite 54 y3.1 := lite_struct Tryz.underlying56 hl (j := 3) rfl rfl;subst hz;obtain ⟨b0,rfl,s0⟩ := str_in h0 (lite_struct Tryz.underlying56 hl (j := 0) rfl rfl);obtain ⟨b1,rfl,s1⟩ := int_in h1;obtain ⟨b2,rfl,s2⟩ := int_in h2;obtain ⟨b3,rfl,s3⟩ := int_in g0;obtain ⟨b4,rfl,s4⟩ := str_in g1 (lite_struct Tryz.underlying54 l3 (j := 1) rfl rfl);exact ⟨⟨b0,b1,b2,b3,b4⟩,rfl,s0,s4,s1,s2,s3⟩
theorem named_in : ∀ n cs' y,DataW.trod enc Tryz.prog W base spare held n 61 cs' = some y → Lite 61 y.1 → ∃ r : NmS,cs' = r.cells ∧ NmW r := by
 intro n cs y h hl;obtain ⟨y0,y1,m,hy,hc,h0,h1⟩ := trod_struct2 Tryz.underlying61 h;rw [cellsNm] at hc
 match cs,hc with
 | [c0,c1],_ =>
  rw [cellsIn] at h1;rw [cellsSt] at h0;simp only [List.drop_zero,List.drop_succ_cons,List.take_succ_cons,List.take_zero] at h0 h1;subst hy;obtain ⟨b0,rfl,s0⟩ := str_in h0 (lite_struct Tryz.underlying61 hl (j := 0) rfl rfl);obtain ⟨b1,rfl,s1⟩ := int_in h1;exact ⟨⟨b0,b1⟩,rfl,s0,s1⟩
theorem method_in : ∀ n cs' y,DataW.trod enc Tryz.prog W base spare held n 63 cs' = some y → Lite 63 y.1 → ∃ r : MtS,cs' = r.cells ∧ MtW r := by
 intro n cs y h hl;obtain ⟨y0,y1,y2,m,hy,hc,h0,h1,h2⟩ := Deep.trod_struct3 Tryz.underlying63 h;rw [cellsMt] at hc
 match cs,hc with
 | [c0,c1,c2],_ =>
  rw [cellsSt] at h0 h1 h2;simp only [List.drop_zero,List.drop_succ_cons,List.take_succ_cons,List.take_zero] at h0 h1 h2;subst hy;obtain ⟨b0,rfl,s0⟩ := str_in h0 (lite_struct Tryz.underlying63 hl (j := 0) rfl rfl);obtain ⟨b1,rfl,s1⟩ := str_in h1 (lite_struct Tryz.underlying63 hl (j := 1) rfl rfl);obtain ⟨b2,rfl,s2⟩ := str_in h2 (lite_struct Tryz.underlying63 hl (j := 2) rfl rfl);exact ⟨⟨b0,b1,b2⟩,rfl,s0,s1,s2⟩
theorem slice_form {t e : TypeId} {n : Nat} {c : Value} {y : DataW H × List MemPlace} (ht : Tryz.prog.underlying t = some (.slice e)) (h : DataW.trod enc Tryz.prog W base spare held n t [c] = some y) : ∃ a len cap,c = .slice a len cap := by
 rcases Deep.open_slice ht h with ⟨hcs, -⟩ | ⟨ad,len',cap',m,n,D,Pl,hcs, -⟩
 ·simp only [List.cons.injEq,and_true] at hcs; exact ⟨_,_,_,hcs⟩
 ·simp only [List.cons.injEq,and_true] at hcs; exact ⟨_,_,_,hcs⟩
theorem ints_in {n : Nat} {c : Value} {y : DataW H × List MemPlace} (h : DataW.trod enc Tryz.prog W base spare held n 50 [c] = some y) (hl : Lite 50 y.1) : ∃ ns : List Int,RowG W c 1 (inRows ns) ∧ ∀ x ∈ ns,I64 x := by
 obtain ⟨a,len,cap,rfl⟩ := slice_form Tryz.underlying50 h
 obtain ⟨rs,h1,h2,h3⟩ := row_in cellsIn (by decide) Tryz.underlying50 (fun x : Int => [.int .i64 x]) (fun _ => rfl) I64 0 h hl (fun n cs' y h _ => by
  obtain ⟨b,e,_,w⟩ := DataW.trod_int Tryz.underlying3 h
  exact ⟨b,e,i64_ofS w⟩)
 exact ⟨rs,h2,h3⟩
def msC (p : MsS × Value × Value) : List Value := [.string p.1.name,p.2.1,p.2.2]
def msP (W : World) (p : MsS × Value × Value) : Prop := RowG W p.2.1 5 (flRows p.1.fields) ∧ RowG W p.2.2 1 (inRows p.1.reserved) ∧ MsW p.1
theorem message_in : ∀ n cs' y,DataW.trod enc Tryz.prog W base spare held n 52 cs' = some y → Lite 52 y.1 → ∃ r : MsS × Value × Value,cs' = msC r ∧ msP W r := by
 intro n cs y h hl;obtain ⟨y0,y1,y2,m,hy,hc,h0,h1,h2⟩ := Deep.trod_struct3 Tryz.underlying52 h;rw [cellsMs] at hc
 match cs,hc with
 | [c0,c1,c2],_ =>
  rw [cellsSt] at h0;rw [cellsSl.1] at h1;rw [cellsSl.2.1] at h2;simp only [List.drop_zero,List.drop_succ_cons,List.take_succ_cons,List.take_zero] at h0 h1 h2;subst hy;obtain ⟨b0,rfl,s0⟩ := str_in h0 (lite_struct Tryz.underlying52 hl (j := 0) rfl rfl);obtain ⟨a,len,cap,rfl⟩ := slice_form Tryz.underlying49 h1;obtain ⟨fs, -,f2,f3⟩ := row_in cellsFl (by decide) Tryz.underlying49 FlS.cells (fun _ => rfl) FlW ⟨⟨#[]⟩,0,0,0,⟨#[]⟩⟩ h1 (lite_struct Tryz.underlying52 hl (j := 1) rfl rfl) sfield_in;obtain ⟨ns,n2,n3⟩ := ints_in h2 (lite_struct Tryz.underlying52 hl (j := 2) rfl rfl);exact ⟨(⟨b0,fs,ns⟩,_,_),rfl,f2,n2,s0,f3,n3⟩
def enC (p : EnS × Value) : List Value := [.string p.1.name,p.2]
def enP (W : World) (p : EnS × Value) : Prop := RowG W p.2 2 (nmRows p.1.values) ∧ EnW p.1
theorem enumer_in : ∀ n cs' y,DataW.trod enc Tryz.prog W base spare held n 59 cs' = some y → Lite 59 y.1 → ∃ r : EnS × Value,cs' = enC r ∧ enP W r := by
 intro n cs y h hl;obtain ⟨y0,y1,m,hy,hc,h0,h1⟩ := trod_struct2 Tryz.underlying59 h;rw [cellsEn] at hc
 match cs,hc with
 | [c0,c1],_ =>
  rw [cellsSt] at h0;rw [cellsSl.2.2.1] at h1;simp only [List.drop_zero,List.drop_succ_cons,List.take_succ_cons,List.take_zero] at h0 h1;subst hy;obtain ⟨b0,rfl,s0⟩ := str_in h0 (lite_struct Tryz.underlying59 hl (j := 0) rfl rfl);obtain ⟨a,len,cap,rfl⟩ := slice_form Tryz.underlying57 h1;obtain ⟨fs, -,f2,f3⟩ := row_in cellsNm (by decide) Tryz.underlying57 NmS.cells (fun _ => rfl) NmW ⟨⟨#[]⟩,0⟩ h1 (lite_struct Tryz.underlying59 hl (j := 1) rfl rfl) named_in;exact ⟨(⟨b0,fs⟩,_),rfl,f2,s0,f3⟩
theorem schema_in {r : Reach} {b0 : Nat} {v : Value} {d : DataW H} {p : List MemPlace} (hv : Value.okWide Tryz.prog W r b0 26 v) (h : DataW.Trod enc Tryz.prog W base spare held 26 v d p) (hl : Lite 26 d) : ∃ s : ScS,ScIn W v s ∧ ScW s := by
 obtain ⟨cs,rfl,hsz⟩ := okWide_struct Tryz.underlying26 hv;obtain ⟨fuel,hf⟩ := h;obtain ⟨y0,y1,y2,y3,m,hy,hc,h0,h1,h2,h3⟩ := _root_.Go.Joins.trod_struct4 Tryz.underlying26 hf;rw [cellsSc] at hc;obtain ⟨l⟩ := cs;simp only [Value.cells] at h0 h1 h2 h3 hc
 match l,hc with
 | [c0,c1,c2,c3],_ =>
  rw [cellsSt] at h0;rw [cellsSl.2.2.2.1] at h1;rw [cellsSl.2.2.2.2.1] at h2;rw [cellsSl.2.2.2.2.2] at h3;simp only [List.drop_zero,List.drop_succ_cons,List.take_succ_cons,List.take_zero] at h0 h1 h2 h3;have hd : d = .agg [y0.1,y1.1,y2.1,y3.1] := congrArg Prod.fst hy;subst hd;obtain ⟨b0,rfl,s0⟩ := str_in h0 (lite_struct Tryz.underlying26 hl (j := 0) rfl rfl);obtain ⟨a1,len1,cap1,rfl⟩ := slice_form Tryz.underlying22 h1;obtain ⟨a2,len2,cap2,rfl⟩ := slice_form Tryz.underlying23 h2;obtain ⟨a3,len3,cap3,rfl⟩ := slice_form Tryz.underlying24 h3;obtain ⟨ms,m1,m2,m3⟩ := row_in cellsMs (by decide) Tryz.underlying22 msC (fun _ => rfl) (msP W) (⟨⟨#[]⟩,[],[]⟩,.bool false,.bool false) h1 (lite_struct Tryz.underlying26 hl (j := 1) rfl rfl) message_in;obtain ⟨es,e1,e2,e3⟩ := row_in cellsEn (by decide) Tryz.underlying23 enC (fun _ => rfl) (enP W) (⟨⟨#[]⟩,[]⟩,.bool false) h2 (lite_struct Tryz.underlying26 hl (j := 2) rfl rfl) enumer_in;obtain ⟨ts,t1,t2,t3⟩ := row_in cellsMt (by decide) Tryz.underlying24 MtS.cells (fun _ => rfl) MtW ⟨⟨#[]⟩,⟨#[]⟩,⟨#[]⟩⟩ h3 (lite_struct Tryz.underlying26 hl (j := 3) rfl rfl) method_in;refine ⟨⟨b0,ms.map (·.1),es.map (·.1),ts⟩,⟨_,_,_,rfl,⟨ms.map msC,m2,by simp,fun i m hm => ?_⟩,⟨es.map enC,e2,by simp,fun i m hm => ?_⟩,t2⟩,s0,fun m hm => ?_,fun m hm => ?_,t3⟩
  ·simp only [List.getElem?_map,Option.map_eq_some_iff] at hm;obtain ⟨q,hq,rfl⟩ := hm;obtain ⟨g1,g2,_⟩ := m3 q (List.mem_of_getElem? hq);exact ⟨q.2.1,q.2.2,by simp [hq,msC],g1,g2⟩
  ·simp only [List.getElem?_map,Option.map_eq_some_iff] at hm;obtain ⟨q,hq,rfl⟩ := hm;obtain ⟨g1,_⟩ := e3 q (List.mem_of_getElem? hq);exact ⟨q.2,by simp [hq,enC],g1⟩
  ·obtain ⟨q,hq,rfl⟩ := List.mem_map.1 hm;exact (m3 q hq).2.2
  ·obtain ⟨q,hq,rfl⟩ := List.mem_map.1 hm;exact (e3 q hq).2
end
def LiteT {H : Type} (t : TypeId) (d : DataW H) : Prop := ∀ n ∈ d.weights Tryz.prog t,n ≤ 140737488351232
theorem liteT_all {H : Type} {e : TypeId} : ∀ {l : List (DataW H)} {d : DataW H},d ∈ l → ∀ n ∈ d.weights Tryz.prog e,n ∈ DataW.weightsAll Tryz.prog e l
 | x :: l,d,h,n,hn => by
  simp only [DataW.weightsAll,List.mem_append]
  rcases List.mem_cons.1 h with rfl | h
  ·exact .inl hn
  ·exact .inr (liteT_all h n hn)
theorem liteT_each {H : Type} {ts : List TypeId} {ds : List (DataW H)} (h : ∀ n ∈ DataW.weightsEach Tryz.prog ts ds,n ≤ 140737488351232) {j : Nat} {t : TypeId} {d : DataW H} (ht : ts[j]? = some t) (hd : ds[j]? = some d) : LiteT t d :=
 fun n hn => h n (DataW.weights_mem_each ht hd n hn)
section
variable {H : Type} {enc : TypeId × Value → H} {W : World} {base : Nat} {spare : Nat → Bool} {held : Bool}
theorem liteT_struct {t : TypeId} {fs : Array Field} {ds : List (DataW H)} (hu : Tryz.prog.underlying t = some (.struct fs)) (h : LiteT t (.agg ds : DataW H)) {j : Nat} {u : TypeId} {d : DataW H} (ht : (fs.toList.map (·.type))[j]? = some u) (hd : ds[j]? = some d) : LiteT u d := by
 refine liteT_each (ts := fs.toList.map (·.type)) (ds := ds) (fun n hn => h n ?_) ht hd;simp only [DataW.weights,hu];exact hn
theorem rowP_in {α : Type} [Inhabited α] {t e : TypeId} {size : Nat} (hc : Tryz.prog.cellsOf e = size) (hpos : 0 < size) (ht : Tryz.prog.underlying t = some (.slice e)) (P : List Value → α → Prop) (hw : ∀ r x,P r x → r.length = size)
  {fuel : Nat} {c : Value} {x : DataW H × List MemPlace} (h : DataW.trod enc Tryz.prog W base spare held fuel t [c] = some x) (hl : LiteT t x.1)
  (one : ∀ n cs' y,n < fuel → DataW.trod enc Tryz.prog W base spare held n e cs' = some y → LiteT e y.1 → ∃ r,P cs' r) : ∃ rs : List α,RowP P W size c rs := by
 rcases DataW.trod_slice ht h with ⟨hcs, -⟩ | ⟨ad,len,cap,elems,rest,n,hfu,hcs,hx,hb,hle,hm,hlen,hel, -, -⟩
 ·obtain rfl : c = .slice none 0 0 := by simpa using hcs
  exact ⟨[],RowP.nil P W size⟩
 ·obtain rfl : c = .slice (some ad) len cap := by simpa using hcs
  rw [hc] at hel
  have each : ∀ i,i < len → ∃ (cs' : List Value) (r : α),W.cells? base (ad.add (i * size)) size = some cs' ∧ P cs' r := fun i hi => by
   have h1 := hel i hi;rw [List.getElem?_eq_getElem (by omega)] at h1;obtain ⟨cs',h2,h3⟩ := Option.bind_eq_some_iff.1 h1
   obtain ⟨r,hp⟩ := one n cs' _ (by omega) h3 (fun k hk => hl k (by
    rw [hx];simp only [DataW.weights,ht,List.mem_cons,List.mem_append]
    exact .inr (.inl (liteT_all (List.mem_map.2 ⟨_,List.getElem_mem (by omega),rfl⟩) k hk))))
   exact ⟨cs',r,h2,hp⟩
  obtain ⟨f,hf⟩ : ∃ f : Nat → List Value × α,∀ i,i < len → W.cells? base (ad.add (i * size)) size = some (f i).1 ∧ P (f i).1 (f i).2 :=
   ⟨fun i => if h : i < len then (Classical.choose (each i h),Classical.choose (Classical.choose_spec (each i h))) else ([],default),fun i hi => by simp only [dif_pos hi]; exact Classical.choose_spec (Classical.choose_spec (each i hi))⟩
  refine ⟨(List.range len).map fun i => (f i).2,(List.range len).map fun i => (f i).1,⟨some ad,cap,by simp,by simpa using hle,hm,(fun e => by cases e),fun hne => ?_⟩,by simp,fun i y hy => ?_⟩
  ·have hlp : 0 < len := by
    rcases Nat.eq_zero_or_pos len with h0 | h0
    ·subst h0; simp at hne
    ·exact h0
   have hcell : ∀ i,i < len → ∀ k,k < size → W.cell? ((ad.add (i * size)).add k) = (f i).1[k]? := fun i hi => (World.cells?_some (hf i hi).1).2.2
   obtain ⟨g,off,spot⟩ := ad
   have hspot : spot = none := by
    have h1 := hcell 0 hlp 0 hpos;obtain ⟨u,hu⟩ : ∃ u,(f 0).1[0]? = some u := ⟨_,List.getElem?_eq_getElem (by rw [hw _ _ (hf 0 hlp).2]; exact hpos)⟩;rw [hu] at h1
    simpa [Addr.add] using World.cell?_spot h1
   subst hspot;refine ⟨g,off,rfl,fun i c u j hi hj => ?_⟩;simp only [List.getElem?_map,Option.map_eq_some_iff] at hi;obtain ⟨i',hi',rfl⟩ := hi;obtain ⟨hil,hie⟩ := List.getElem?_eq_some_iff.1 hi'
   simp at hie
   subst hie;simp only [List.length_range] at hil
   have hjs : j < size := by rw [← hw _ _ (hf i hil).2]; exact (List.getElem?_eq_some_iff.1 hj).1
   have h2 := hcell i hil j hjs;rw [hj,Deep.add_add,Addr.add_lit] at h2;rw [Nat.add_assoc];exact h2
  ·simp only [List.getElem?_map,Option.map_eq_some_iff] at hy;obtain ⟨i',hi',rfl⟩ := hy;obtain ⟨hil,hie⟩ := List.getElem?_eq_some_iff.1 hi'
   simp at hie
   subst hie;simp only [List.length_range] at hil;exact ⟨(f i).1,by simp [hil],(hf i hil).2⟩
theorem cellsRwT : Tryz.prog.cellsOf 79 = 4 := by kernel_rfl
theorem cellsTrT : Tryz.prog.cellsOf 30 = 5 := by kernel_rfl
theorem cellsEnT : Tryz.prog.cellsOf 69 = 2 := by kernel_rfl
theorem cellsOneT : Tryz.prog.cellsOf 3 = 1 ∧ Tryz.prog.cellsOf 9 = 1 ∧ Tryz.prog.cellsOf 28 = 1 ∧ Tryz.prog.cellsOf 67 = 1 ∧ Tryz.prog.cellsOf 27 = 1 := ⟨by kernel_rfl,by kernel_rfl,by kernel_rfl,by kernel_rfl,by kernel_rfl⟩
theorem intT_in {n : Nat} {c : Value} {y : DataW H × List MemPlace} (h : DataW.trod enc Tryz.prog W base spare held n 3 [c] = some y) : ∃ b : Int,c = .int .i64 b ∧ Is64 b := by
 obtain ⟨b,e,hy,w⟩ := DataW.trod_int Tryz.underlying3 h;simp only [List.cons.injEq,and_true] at e;subst e;exact ⟨b,rfl,bounds_i64 w⟩
theorem strT_in {n : Nat} {c : Value} {y : DataW H × List MemPlace} (h : DataW.trod enc Tryz.prog W base spare held n 9 [c] = some y) (hl : LiteT 9 y.1) : ∃ b : ByteArray,c = .string b ∧ b.size ≤ 140737488351232 := by
 obtain ⟨b,e,hy,w⟩ := DataW.trod_string Tryz.underlying9 h;simp only [List.cons.injEq,and_true] at e;subst e hy;refine ⟨b,rfl,?_⟩;have := hl b.data.toList.length (by simp [DataW.weights])
 simpa using this
def RawC (r : List Value) (f : Fd) : Prop := r = f.cells ∧ Is64 f.tag ∧ Is64 f.wire ∧ Is64 f.n ∧ f.b.size ≤ 140737488351232
theorem rawT_in : ∀ n cs' y,DataW.trod enc Tryz.prog W base spare held n 79 cs' = some y → LiteT 79 y.1 → ∃ f : Fd,RawC cs' f := by
 intro n cs y h hl;obtain ⟨y0,y1,y2,y3,m,hy,hc,h0,h1,h2,h3⟩ := _root_.Go.Joins.trod_struct4 Tryz.underlying79 h;rw [cellsRwT] at hc
 match cs,hc with
 | [c0,c1,c2,c3],_ =>
  rw [cellsOneT.1] at h0 h1 h2;rw [cellsOneT.2.1] at h3;simp only [List.drop_zero,List.drop_succ_cons,List.take_succ_cons,List.take_zero] at h0 h1 h2 h3;subst hy;obtain ⟨b0,rfl,s0⟩ := intT_in h0;obtain ⟨b1,rfl,s1⟩ := intT_in h1;obtain ⟨b2,rfl,s2⟩ := intT_in h2;obtain ⟨b3,rfl,s3⟩ := strT_in h3 (liteT_struct Tryz.underlying79 hl (j := 3) rfl rfl);exact ⟨⟨b0,b1,b2,b3⟩,rfl,s0,s1,s2,s3⟩
theorem rawRow {w : World} {v : Value} {l : List Fd} (h : RowP RawC w 4 v l) : RowG w v 4 (fdRows l) ∧ ∀ f ∈ l,Is64 f.tag ∧ Is64 f.wire ∧ Is64 f.n ∧ f.b.size ≤ 140737488351232 := by
 obtain ⟨rows,h1,h2,h3⟩ := h
 have hr : rows = fdRows l := by
  refine List.ext_getElem? fun i => ?_
  by_cases hi : i < l.length
  ·obtain ⟨r,e,hp⟩ := h3 i _ (List.getElem?_eq_getElem hi);rw [e,hp.1]
   simp [fdRows,hi]
  ·rw [List.getElem?_eq_none (by omega),List.getElem?_eq_none (by simp [fdRows]; omega)]
 rw [hr] at h1;refine ⟨h1,fun f hf => ?_⟩;obtain ⟨i,hi,e⟩ := List.getElem_of_mem hf;obtain ⟨r,_,hp⟩ := h3 i f (by rw [List.getElem?_eq_getElem hi,e]);exact hp.2
theorem TrC.le {n m : Nat} (h : n ≤ m) {w : World} {r : List Value} {t : Tr} (hc : TrC n w r t) : TrC m w r t := by
 induction h with
 | refl => exact hc
 | step _ ih => exact ih.more
theorem TrC.len {n : Nat} {w : World} {r : List Value} {t : Tr} (h : TrC n w r t) : r.length = 5 := by
 cases n with
 | zero => exact h.elim
 | succ n => obtain ⟨ve,vr,rfl,_⟩ := h; rfl
theorem treeC_in (N : Nat) : ∀ fuel,fuel ≤ N → ∀ cs' y,DataW.trod enc Tryz.prog W base spare held fuel 30 cs' = some y → LiteT 30 y.1 → ∃ t : Tr,TrC fuel W cs' t := by
 induction N with
 | zero =>
  intro fuel hf cs y h hl
  obtain rfl : fuel = 0 := by omega
  simp [DataW.trod] at h
 | succ N ih =>
  intro fuel hf cs y h hl;obtain ⟨xs,n,rfl,rfl,hc,hlen,hfs⟩ := DataW.trod_struct Tryz.underlying30 h;rw [cellsTrT] at hc
  match xs,hlen with
  | [y0,y1,y2,y3,y4],_ =>
   match cs,hc with
   | [c0,c1,c2,c3,c4],_ =>
    have h0 := hfs 0 _ rfl;have h1 := hfs 1 _ rfl;have h2 := hfs 2 _ rfl;have h3 := hfs 3 _ rfl;have h4 := hfs 4 _ rfl;simp only [cellsOneT.1,cellsOneT.2.1,cellsOneT.2.2.1,cellsOneT.2.2.2.2,List.drop_zero,List.drop_succ_cons,List.take_succ_cons,List.take_zero,List.getElem?_cons_zero,List.getElem?_cons_succ] at h0 h1 h2 h3 h4;obtain ⟨b0,rfl,s0⟩ := intT_in h0;obtain ⟨b1,rfl,s1⟩ := intT_in h1;obtain ⟨b2,rfl,s2⟩ := strT_in h2 (liteT_struct Tryz.underlying30 hl (j := 2) rfl rfl)
    haveI : Inhabited Fd := ⟨fd0⟩
    haveI : Inhabited Tr := ⟨tr0⟩
    obtain ⟨fs,hfr⟩ := rowP_in cellsRwT (by decide) Tryz.underlying28 RawC (fun r x hp => by rw [hp.1]; rfl) h4 (liteT_struct Tryz.underlying30 hl (j := 4) rfl rfl) (fun n cs' y _ => rawT_in n cs' y)
    obtain ⟨es,her⟩ := rowP_in cellsEnT (by decide) Tryz.underlying27 (EnC (TrC n W) W) (fun r x hp => by obtain ⟨vt,rfl,_⟩ := hp; rfl) h3 (liteT_struct Tryz.underlying30 hl (j := 3) rfl rfl) (fun n2 cs2 y2 hn2 ht2 hl2 => by
     obtain ⟨xs2,n3,rfl,rfl,hc2,hlen2,hfs2⟩ := DataW.trod_struct Tryz.underlying69 ht2;rw [cellsEnT] at hc2
     match xs2,hlen2 with
     | [z0,z1],_ =>
      match cs2,hc2 with
      | [d0,d1],_ =>
       have g0 := hfs2 0 _ rfl;have g1 := hfs2 1 _ rfl;simp only [cellsOneT.1,cellsOneT.2.2.2.1,List.drop_zero,List.drop_succ_cons,List.take_succ_cons,List.take_zero,List.getElem?_cons_zero,List.getElem?_cons_succ] at g0 g1;obtain ⟨tg,rfl,st⟩ := intT_in g0
       obtain ⟨ts,htr⟩ := rowP_in cellsTrT (by decide) Tryz.underlying67 (TrC n W) (fun r x hp => hp.len) g1 (liteT_struct Tryz.underlying69 hl2 (j := 1) rfl rfl) (fun n4 cs4 y4 hn4 ht4 hl4 => by
        obtain ⟨t,ht⟩ := ih n4 (by omega) cs4 y4 ht4 hl4
        exact ⟨t,ht.le (by omega)⟩)
       exact ⟨(tg,ts),d1,rfl,st,htr⟩)
    obtain ⟨r1,r2⟩ := rawRow hfr;exact ⟨⟨b0,b1,b2,es,fs⟩,c3,c4,rfl,s0,s1,s2,r2,r1,her⟩
theorem tree_in {r : Reach} {b0 : Nat} {v : Value} {d : DataW H} {p : List MemPlace} (hv : Value.okWide Tryz.prog W r b0 30 v) (h : DataW.Trod enc Tryz.prog W base spare held 30 v d p) (hl : LiteT 30 d) : ∃ n t,TrIn n W v t := by
 obtain ⟨cs,rfl,hsz⟩ := okWide_struct Tryz.underlying30 hv;obtain ⟨fuel,hf⟩ := h;obtain ⟨t,ht⟩ := treeC_in fuel fuel (Nat.le_refl _) _ _ hf hl;exact ⟨fuel,t,_,by simp [Value.cells],ht⟩
end
end
section
section
variable {P : Program} {md : Region.Mode} {ops : Array Oper} {Q : Exit → Act → World → Prop} {T : World → Prop} {m : Nat}
theorem M_forkAA {o1 o2 : Oper} {fuel : Nat} {listed : Array Bool} {a : Act} {w : World} (i j d1 d2 : Nat) (v1 v2 : Value) (w1 w2 : World) (h1 : ops[i]? = some o1) (h2 : ops[j]? = some o2) (hd1 : o1.dst = some d1) (hd2 : o2.dst = some d2)
  (hr : Region.ready md ops listed = [i,j]) (hw1 : Region.wanted o1 (yielded ops a.tmps) = true) (hw2 : Region.wanted o2 (yielded ops a.tmps) = true)
  (hx1 : (execOp a.eval o1).run P w = .ok (.value v1) w1) (hx2 : (execOp a.eval o2).run P w = .ok (.value v2) w2)
  (hT1 : T w1) (hA : wpAnyM P md ops Q T m fuel (listed.setIfInBounds i true) { a with tmps := a.tmps.setIfInBounds d1 v1 } w1)
  (hT2 : T w2) (hB : wpAnyM P md ops Q T m fuel (listed.setIfInBounds j true) { a with tmps := a.tmps.setIfInBounds d2 v2 } w2) : wpAnyM P md ops Q T m (fuel + 1) listed a w := by
 refine ⟨fun h0 => (by rw [hr] at h0; cases h0),fun k hk => ?_⟩;rw [hr] at hk;simp only [List.mem_cons,List.not_mem_nil,or_false] at hk
 rcases hk with rfl | rfl
 ·unfold wpOp;simp only [h1];rw [if_pos hw1];refine .inl ?_;unfold Oper.wp;rw [hx1,Oper.upon_value,hd1];exact ⟨fun _ => hT1,hA⟩
 ·unfold wpOp;simp only [h2];rw [if_pos hw2];refine .inl ?_;unfold Oper.wp;rw [hx2,Oper.upon_value,hd2];exact ⟨fun _ => hT2,hB⟩
end
end
section
open Go.ChangeShapes Go.WideShapes Go.ChangeAt Go.RowKit
theorem blk_new2 (w : World) (o : Obj) (cs : Array Value) (t : TypeId) : Blk ((w.alloc o).alloc (.cells cs t)) (w.heap.size + 1) cs t := by
 have := Blk.new (w.alloc o) cs t
 rwa [show (w.alloc o).heap.size = w.heap.size + 1 from by simp] at this
def SamT (a b : Tr) (e : Ending) : Prop := ∃ R : Bool,e = .returned (.bool R) ∧ (R = true ↔ a = b)
theorem sam_no {a b : Tr} (h : a ≠ b) : SamT a b (.returned (.bool false)) := ⟨false,rfl,by simp [h]⟩
theorem sam_yes {a b : Tr} (h : a = b) : SamT a b (.returned (.bool true)) := ⟨true,rfl,by simp [h]⟩
theorem tr_ext {a b : Tr} (h1 : a.kind = b.kind) (h2 : a.n = b.n) (h3 : a.s = b.s) (h4 : a.es = b.es) (h5 : a.rest = b.rest) : a = b := by
 cases a; cases b; simp_all
theorem list_ext {α : Type} {l m : List α} (h : l.length = m.length) (hj : ∀ j,j < l.length → l[j]? = m[j]?) : l = m := by
 refine List.ext_getElem? fun i => ?_
 by_cases hi : i < l.length
 ·exact hj i hi
 ·rw [List.getElem?_eq_none (by omega),List.getElem?_eq_none (by omega)]
theorem two_set {w0 w : World} {g k : Nat} {a b c d : Value} {t : TypeId} (h1 : Blk w g #[a,b] t) (h2 : Blk w k #[c,d] t) (hn : g ≠ k) (hS : Below w0.heap.size w0 w) (l1 : w0.heap.size ≤ g) (l2 : w0.heap.size ≤ k) (a' b' c' d' : Value) : Below w0.heap.size w0 ((w.setCell ⟨g,0,none⟩ a').setCell ⟨g,1,none⟩ b') ∧
  Blk ((((w.setCell ⟨g,0,none⟩ a').setCell ⟨g,1,none⟩ b').setCell ⟨k,0,none⟩ c').setCell ⟨k,1,none⟩ d') g #[a',b'] t ∧ Blk ((((w.setCell ⟨g,0,none⟩ a').setCell ⟨g,1,none⟩ b').setCell ⟨k,0,none⟩ c').setCell ⟨k,1,none⟩ d') k #[c',d'] t ∧ Below w0.heap.size w0 ((((w.setCell ⟨g,0,none⟩ a').setCell ⟨g,1,none⟩ b').setCell ⟨k,0,none⟩ c').setCell ⟨k,1,none⟩ d') := by
 have hS3 : Below w0.heap.size w0 ((w.setCell ⟨g,0,none⟩ a').setCell ⟨g,1,none⟩ b') := (hS.setCell (p := ⟨g,0,none⟩) l1 _).setCell (p := ⟨g,1,none⟩) l1 _;refine ⟨hS3,?_,?_,(hS3.setCell (p := ⟨k,0,none⟩) l2 _).setCell (p := ⟨k,1,none⟩) l2 _⟩
 ·have q1 := h1.set 0 a' rfl;have q2 := q1.set 1 b' rfl;exact (q2.other (a := ⟨k,0,none⟩) hn _).other (a := ⟨k,1,none⟩) hn _
 ·have q1 := (h2.other (a := ⟨g,0,none⟩) hn.symm a').other (a := ⟨g,1,none⟩) hn.symm b';have q2 := q1.set 0 c' rfl;exact q2.set 1 d' rfl
theorem rsame_step (n m : Nat) (IH : ∀ m' a b va vb w,TrIn n w va a → TrIn m' w vb b → Calls Tryz.prog 12 #[va,vb] w fun e w' => SamT a b e ∧ Below w.heap.size w w') (a b : Tr) (va vb : Value) (w : World) (ha : TrIn (n + 1) w va a) (hb : TrIn m w vb b) :
  Calls Tryz.prog 12 #[va,vb] w fun e w' => SamT a b e ∧ Below w.heap.size w w' := by
 obtain ⟨n',ve,vr,e0,rfl,ka,na,sa,fa,ra,ea⟩ := ha.open
 obtain rfl : n' = n := by omega
 obtain ⟨m',ve2,vr2,rfl,rfl,kb,nb,sb,fb,rb,eb⟩ := hb.open;obtain ⟨pe,ce,rfl,u1,u2,u3,u4,u5⟩ := ea.open;obtain ⟨pe2,ce2,rfl,v1,v2,v3,v4,v5⟩ := eb.open;obtain ⟨pr,cr,rfl,x1,x2,x3,x4,x5⟩ := rest_holds ra;obtain ⟨pr2,cr2,rfl,y1,y2,y3,y4,y5⟩ := rest_holds rb;clear u5 v5 x5 y5 ha hb e0;unfold maxLen at u2 v2 x2 y2;obtain ⟨Ke,hKe⟩ : ∃ K,a.es.length = K := ⟨_,rfl⟩;obtain ⟨Ke2,hKe2⟩ : ∃ K,b.es.length = K := ⟨_,rfl⟩;obtain ⟨Kr,hKr⟩ : ∃ K,a.rest.length = K := ⟨_,rfl⟩;obtain ⟨Kr2,hKr2⟩ : ∃ K,b.rest.length = K := ⟨_,rfl⟩;rw [hKe] at u1 ⊢;rw [hKe2] at v1 ⊢;rw [hKr] at x1 ⊢;rw [hKr2] at y1 ⊢;have EA : Hid (EnsIn n' w (.slice pe Ke ce) a.es) := (by rw [← hKe]; exact ea : EnsIn n' w (.slice pe Ke ce) a.es);have EB : Hid (EnsIn m' w (.slice pe2 Ke2 ce2) b.es) := (by rw [← hKe2]; exact eb : EnsIn m' w (.slice pe2 Ke2 ce2) b.es);have RA : Hid (RowG w (.slice pr Kr cr) 4 (fdRows a.rest)) := (by rw [← hKr]; exact ra : RowG w (.slice pr Kr cr) 4 (fdRows a.rest));have RB : Hid (RowG w (.slice pr2 Kr2 cr2) 4 (fdRows b.rest)) := (by rw [← hKr2]; exact rb : RowG w (.slice pr2 Kr2 cr2) 4 (fdRows b.rest));clear ea eb ra rb u4 v4 x4 y4 sa sb fa fb u3 v3 x3 y3;have HKe : Hid (a.es.length = Ke) := hKe;have HKe2 : Hid (b.es.length = Ke2) := hKe2;have HKr : Hid (a.rest.length = Kr) := hKr;have HKr2 : Hid (b.rest.length = Kr2) := hKr2;clear hKe hKe2 hKr hKr2
 by_cases hk : a.kind = b.kind
 ·by_cases hn : a.n = b.n
  ·by_cases hs : a.s = b.s
   ·by_cases he : Ke = Ke2
    ·by_cases hr : Kr = Kr2
     ·subst he hr;rw [← hk,← hn,← hs];have HK : Hid (a.kind = b.kind ∧ a.n = b.n ∧ a.s = b.s) := ⟨hk,hn,hs⟩;clear hk hn hs;obtain ⟨K,hK⟩ : ∃ K,a.kind = K := ⟨_,rfl⟩;obtain ⟨N,hN⟩ : ∃ K,a.n = K := ⟨_,rfl⟩;obtain ⟨S,hS⟩ : ∃ K,a.s = K := ⟨_,rfl⟩;rw [hK,hN,hS];clear hK hN hS ka na kb nb
      go_enter Tryz.func12,Tryz.ntmps12
      go_wp2_with fail
      go_loopw [5] (fun iv wr => ∃ i : Nat,iv = .int .i64 (i : Int) ∧ i ≤ Kr ∧ Hid (∀ j,j < i → a.rest[j]? = b.rest[j]?) ∧ Below w.heap.size w wr ∧ Hid (Blk wr w.heap.size #[.int .i64 K,.int .i64 N,.string S,.slice pe Ke ce,.slice pr Kr cr] 30) ∧ Hid (Blk wr (w.heap.size + 1) #[.int .i64 K,.int .i64 N,.string S,.slice pe2 Ke ce2,.slice pr2 Kr cr2] 30)) (fun iv _ => Kr - (intOf iv).toNat)
      case atStart => exact ⟨0,rfl,by omega,(fun j hj => absurd hj (by omega) : ∀ j,j < 0 → a.rest[j]? = b.rest[j]?),((Below.refl _ _).alloc (Nat.le_refl _) _).alloc (by simp) _,(Blk.new w _ _).below ((Below.refl _ _).alloc (Nat.le_refl _) _),blk_new2 w _ _ _⟩
      case round =>
       obtain ⟨i,rfl,hi,HJ,hbel,HB1,HB2⟩ := hrel;have q14 := HB1.out.cell 4;have q24 := HB2.out.cell 4;have q13 := HB1.out.cell 3;have q23 := HB2.out.cell 3
       simp at q14 q24 q13 q23
       by_cases hlt : i < Kr
       ·obtain ⟨r,hr⟩ : ∃ r,a.rest[i]? = some r := ⟨_,List.getElem?_eq_getElem (by rw [HKr.out]; exact hlt)⟩;obtain ⟨s,hs⟩ : ∃ r,b.rest[i]? = some r := ⟨_,List.getElem?_eq_getElem (by rw [HKr2.out]; exact hlt)⟩;obtain ⟨g,off,rfl,c1⟩ := (RA.out.below hbel).get (show (fdRows a.rest)[i]? = some r.cells by simp [fdRows,hr]);obtain ⟨g2,off2,rfl,c2⟩ := (RB.out.below hbel).get (show (fdRows b.rest)[i]? = some s.cells by simp [fdRows,hs]);have p0 := c1 0 _ rfl;have p1 := c1 1 _ rfl;have p2 := c1 2 _ rfl;have p3 := c1 3 _ rfl;have o0 := c2 0 _ rfl;have o1 := c2 1 _ rfl;have o2 := c2 2 _ rfl;have o3 := c2 3 _ rfl;simp only [Nat.add_zero] at p0 o0;have HR : Hid (a.rest[i]? = some r) := hr;have HS : Hid (b.rest[i]? = some s) := hs;clear c1 c2 hr hs q13 q23
        by_cases hrs : r = s
        ·subst hrs;obtain ⟨t1,t2,t3,t4⟩ := r;simp only at p0 p1 p2 p3 o0 o1 o2 o3;go_wp2_with fail
         go_quiet (fail)
         have hbn := below_drewN nq hbel;clear p0 p1 p2 p3 o0 o1 o2 o3 q14 q24;go_wp2_with fail
         go_roundw
         case rel => exact ⟨i + 1,by go_num,by omega,(fun j hj => by
          rcases Nat.lt_or_eq_of_le (Nat.le_of_lt_succ hj) with h | h
          ·exact HJ.out j h
          ·subst h; rw [HR.out,HS.out] : ∀ j,j < i + 1 → a.rest[j]? = b.rest[j]?),hbn,HB1.out.below (below_drewN nq (Below.refl _ _)),HB2.out.below (below_drewN nq (Below.refl _ _))⟩
         case measure => simp [intOf]; omega
        ·obtain ⟨t1,t2,t3,t4⟩ := r;obtain ⟨s1,s2,s3,s4⟩ := s;simp only at p0 p1 p2 p3 o0 o1 o2 o3;have hne : a ≠ b := fun e => hrs (by have := HR.out; rw [e,HS.out] at this; exact (Option.some.inj this).symm)
         have hx := fd_neq t1 t2 t3 s1 s2 s3 t4 s4 hrs;clear hrs;go_wp2_with fail
         go_quiet (fail)
         have hbn := below_drewN nq hbel;clear p0 p1 p2 p3 o0 o1 o2 o3 q14 q24 hx;go_wp2_with fail;go_ret;exact ⟨sam_no hne,hbn⟩
       ·have hje : a.rest = b.rest := list_ext (by rw [HKr.out,HKr2.out]) (fun j hj => HJ.out j (by rw [HKr.out] at hj; omega));have HJE : Hid (a.rest = b.rest) := hje;clear hje HJ RA RB HKr HKr2 q13 q23;go_wp2_with fail
        go_loopw [6] (fun iv wr => ∃ i : Nat,iv = .int .i64 (i : Int) ∧ i ≤ Ke ∧ Hid (∀ j,j < i → a.es[j]? = b.es[j]?) ∧ Below w.heap.size w wr ∧ Hid (Blk wr w.heap.size #[.int .i64 K,.int .i64 N,.string S,.slice pe Ke ce,.slice pr Kr cr] 30) ∧ Hid (Blk wr (w.heap.size + 1) #[.int .i64 K,.int .i64 N,.string S,.slice pe2 Ke ce2,.slice pr2 Kr cr2] 30)) (fun iv _ => Ke - (intOf iv).toNat)
        case atStart => exact ⟨0,rfl,by omega,(fun j hj => absurd hj (by omega) : ∀ j,j < 0 → a.es[j]? = b.es[j]?),hbel,HB1,HB2⟩
        case round =>
         clear hi hbel HB1 HB2 hlt q14 q24;obtain ⟨i,rfl,hi,HJ,hbel,HB1,HB2⟩ := hrel;have q13 := HB1.out.cell 3;have q23 := HB2.out.cell 3
         simp at q13 q23
         by_cases hlt : i < Ke
         ·obtain ⟨x,hx⟩ : ∃ r,a.es[i]? = some r := ⟨_,List.getElem?_eq_getElem (by rw [HKe.out]; exact hlt)⟩;obtain ⟨y,hy⟩ : ∃ r,b.es[i]? = some r := ⟨_,List.getElem?_eq_getElem (by rw [HKe2.out]; exact hlt)⟩;obtain ⟨g,off,rfl,c1⟩ := (EA.out.belowE hbel).get hx;obtain ⟨g2,off2,rfl,c2⟩ := (EB.out.belowE hbel).get hy;obtain ⟨vt,p0,p1,p2,p3⟩ := ens_at c1;obtain ⟨vt2,o0,o1,o2,o3⟩ := ens_at c2;obtain ⟨pt,ct,rfl,t1,t2,t3,t4,t5⟩ := p3.open;obtain ⟨pt2,ct2,rfl,s1,s2,s3,s4,s5⟩ := o3.open;unfold maxLen at t2 s2;have HX : Hid (a.es[i]? = some x) := hx;have HY : Hid (b.es[i]? = some y) := hy;clear t3 t4 t5 s3 s4 s5 hx hy c1 c2 p2 o2;obtain ⟨xt,xl⟩ := x;obtain ⟨yt,yl⟩ := y;simp only at p0 p1 o0 o1 t1 s1 p3 o3;obtain ⟨Kt,hKt⟩ : ∃ K,xl.length = K := ⟨_,rfl⟩;obtain ⟨Kt2,hKt2⟩ : ∃ K,yl.length = K := ⟨_,rfl⟩;rw [hKt] at p1 t1;rw [hKt2] at o1 s1;have T1 : Hid (TrsIn n' wr (.slice pt Kt ct) xl) := (by rw [← hKt]; exact p3 : TrsIn n' wr (.slice pt Kt ct) xl);have T2 : Hid (TrsIn m' wr (.slice pt2 Kt2 ct2) yl) := (by rw [← hKt2]; exact o3 : TrsIn m' wr (.slice pt2 Kt2 ct2) yl);clear p3 o3;have HKt : Hid (xl.length = Kt) := hKt;have HKt2 : Hid (yl.length = Kt2) := hKt2;clear hKt hKt2;have hz1 := HB1.out.lt;have hz2 := HB2.out.lt;have hz3 : g < wr.heap.size := World.block_lt_of_cell? _ _ p0;have hz4 : g2 < wr.heap.size := World.block_lt_of_cell? _ _ o0
          have HCE : Hid (∀ W,Below wr.heap.size wr W → Blk W w.heap.size #[.int .i64 K,.int .i64 N,.string S,.slice (some ⟨g,off,none⟩) Ke ce,.slice pr Kr cr] 30 ∧ Blk W (w.heap.size + 1) #[.int .i64 K,.int .i64 N,.string S,.slice (some ⟨g2,off2,none⟩) Ke ce2,.slice pr2 Kr cr2] 30 ∧ W.cell? ⟨g,off + i * 2,none⟩ = some (.int .i64 xt) ∧ W.cell? ⟨g,off + i * 2 + 1,none⟩ = some (.slice pt Kt ct) ∧ W.cell? ⟨g2,off2 + i * 2,none⟩ = some (.int .i64 yt) ∧ W.cell? ⟨g2,off2 + i * 2 + 1,none⟩ = some (.slice pt2 Kt2 ct2)) := fun W hW => by
           have cc : ∀ p u,wr.cell? p = some u → W.cell? p = some u := fun p u h => (hW.cell (World.block_lt_of_cell? _ _ h)).trans h
           exact ⟨HB1.out.below hW,HB2.out.below hW,cc _ _ p0,cc _ _ p1,cc _ _ o0,cc _ _ o1⟩
          clear p0 p1 o0 o1
          go_upto_region 11 with fail
          clear q13 q23
          go_cut [7,8] from 72 to 81 (fun pv qv wx => ∃ GX GY : Nat,pv = .pointer (some ⟨GX,0,none⟩) ∧ qv = .pointer (some ⟨GY,0,none⟩) ∧ Hid (Blk wx GX #[.int .i64 xt,.slice pt Kt ct] 69 ∧ Blk wx GY #[.int .i64 yt,.slice pt2 Kt2 ct2] 69 ∧ Below wr.heap.size wr wx))
          case first =>
           refine M_region (T := fun W => Below wr.heap.size wr W) (m := 13) (by kernel_rfl) ?_;have hS : Below wr.heap.size wr wr.drew := (Below.refl _ _).drew;refine M_take 0 72 (.pointer (some ⟨w.heap.size,3,none⟩)) _ rfl rfl (by kernel_rfl) (by kernel_rfl) (by kernel_rfl) (by kernel_rfl) (by kernel_rfl) (fun _ _ _ h => h) (by rfl) (fun w' hw' => ?_) hS (listed' := bts 14 1) (by kernel_rfl) rfl ?_
           ·go_simp
           simp only [zsA,zsZ,zsS];refine M_take 1 73 (.slice (some ⟨g,off,none⟩) Ke ce) _ rfl rfl (by kernel_rfl) (by kernel_rfl) (by kernel_rfl) (by kernel_rfl) (by kernel_rfl) (fun _ _ _ h => h) (by rfl) (fun w' hw' => ?_) hS (listed' := bts 14 3) (by kernel_rfl) rfl ?_
           ·obtain ⟨B1,B2,c0,c1,c2,c3⟩ := HCE.out _ hw'; have f3 := (B1.cell 3).trans rfl; go_simp
           simp only [zsA,zsZ,zsS];refine M_take 2 74 (.int .i64 (i : Int)) _ rfl rfl (by kernel_rfl) (by kernel_rfl) (by kernel_rfl) (by kernel_rfl) (by kernel_rfl) (fun _ _ _ h => h) (by rfl) (fun w' hw' => ?_) hS (listed' := bts 14 7) (by kernel_rfl) rfl ?_
           ·go_simp
           simp only [zsA,zsZ,zsS];refine M_take 3 75 (.pointer (some ⟨g,off + i * 2,none⟩)) _ rfl rfl (by kernel_rfl) (by kernel_rfl) (by kernel_rfl) (by kernel_rfl) (by kernel_rfl) (fun _ _ _ h => h) (by rfl) (fun w' hw' => ?_) hS (listed' := bts 14 15) (by kernel_rfl) rfl ?_
           ·go_simp
           simp only [zsA,zsZ,zsS];refine M_take 4 76 (.agg #[.int .i64 xt,.slice pt Kt ct]) _ rfl rfl (by kernel_rfl) (by kernel_rfl) (by kernel_rfl) (by kernel_rfl) (by kernel_rfl) (fun _ _ _ h => h) (by rfl) (fun w' hw' => ?_) hS (listed' := bts 14 31) (by kernel_rfl) rfl ?_
           ·obtain ⟨B1,B2,c0,c1,c2,c3⟩ := HCE.out _ hw'; go_simp
           simp only [zsA,zsZ,zsS];refine M_take 5 77 (.pointer (some ⟨w.heap.size + 1,3,none⟩)) _ rfl rfl (by kernel_rfl) (by kernel_rfl) (by kernel_rfl) (by kernel_rfl) (by kernel_rfl) (fun _ _ _ h => h) (by rfl) (fun w' hw' => ?_) hS (listed' := bts 14 63) (by kernel_rfl) rfl ?_
           ·go_simp
           simp only [zsA,zsZ,zsS];refine M_take 6 78 (.slice (some ⟨g2,off2,none⟩) Ke ce2) _ rfl rfl (by kernel_rfl) (by kernel_rfl) (by kernel_rfl) (by kernel_rfl) (by kernel_rfl) (fun _ _ _ h => h) (by rfl) (fun w' hw' => ?_) hS (listed' := bts 14 127) (by kernel_rfl) rfl ?_
           ·obtain ⟨B1,B2,c0,c1,c2,c3⟩ := HCE.out _ hw'; have f3 := (B2.cell 3).trans rfl; go_simp
           simp only [zsA,zsZ,zsS];refine M_take 7 79 (.int .i64 (i : Int)) _ rfl rfl (by kernel_rfl) (by kernel_rfl) (by kernel_rfl) (by kernel_rfl) (by kernel_rfl) (fun _ _ _ h => h) (by rfl) (fun w' hw' => ?_) hS (listed' := bts 14 255) (by kernel_rfl) rfl ?_
           ·go_simp
           simp only [zsA,zsZ,zsS];refine M_take 8 80 (.pointer (some ⟨g2,off2 + i * 2,none⟩)) _ rfl rfl (by kernel_rfl) (by kernel_rfl) (by kernel_rfl) (by kernel_rfl) (by kernel_rfl) (fun _ _ _ h => h) (by rfl) (fun w' hw' => ?_) hS (listed' := bts 14 511) (by kernel_rfl) rfl ?_
           ·go_simp
           simp only [zsA,zsZ,zsS];refine M_take 9 81 (.agg #[.int .i64 yt,.slice pt2 Kt2 ct2]) _ rfl rfl (by kernel_rfl) (by kernel_rfl) (by kernel_rfl) (by kernel_rfl) (by kernel_rfl) (fun _ _ _ h => h) (by rfl) (fun w' hw' => ?_) hS (listed' := bts 14 1023) (by kernel_rfl) rfl ?_
           ·obtain ⟨B1,B2,c0,c1,c2,c3⟩ := HCE.out _ hw'; go_simp
           simp only [zsA,zsZ,zsS];generalize wr.drew = U0 at *;clear HCE;refine M_forkAA 10 11 7 8 (.pointer (some ⟨U0.heap.size,0,none⟩)) (.pointer (some ⟨U0.heap.size,0,none⟩)) (U0.alloc (Obj.cells #[.int .i64 0,.slice none 0 0] 69)) (U0.alloc (Obj.cells #[.int .i64 0,.slice none 0 0] 69)) rfl rfl rfl rfl (by kernel_rfl) (by rfl) (by rfl) (by go_simp) (by go_simp) (hS.trans (((Below.refl _ _).alloc (Nat.le_refl _) _).mono hS.size)) ?_ (hS.trans (((Below.refl _ _).alloc (Nat.le_refl _) _).mono hS.size)) ?_
           ·skip
            obtain ⟨GX,hGX⟩ : ∃ z,U0.heap.size = z := ⟨_,rfl⟩
            have BGX : Blk (U0.alloc (Obj.cells #[.int .i64 0,.slice none 0 0] 69)) GX #[.int .i64 0,.slice none 0 0] 69 := by rw [← hGX]; exact Blk.new U0 _ _
            have LGX : wr.heap.size ≤ GX := by rw [← hGX]; exact hS.size
            have hS1 : Below wr.heap.size wr (U0.alloc (Obj.cells #[.int .i64 0,.slice none 0 0] 69)) := (hS.trans (((Below.refl _ _).alloc (Nat.le_refl _) _).mono hS.size));simp only [zsA,zsZ,zsS]
            try simp only [hGX]
            clear hGX hS;generalize (U0.alloc (Obj.cells #[.int .i64 0,.slice none 0 0] 69)) = U1 at *;have hS := hS1;clear hS1;refine M_run 11 8 (.pointer (some ⟨U1.heap.size,0,none⟩)) (U1.alloc (Obj.cells #[.int .i64 0,.slice none 0 0] 69)) rfl rfl (by kernel_rfl) (by rfl) (listed' := bts 14 4095) (by kernel_rfl) (by go_simp) (hS.trans (((Below.refl _ _).alloc (Nat.le_refl _) _).mono hS.size)) ?_;obtain ⟨GY,hGY⟩ : ∃ z,U1.heap.size = z := ⟨_,rfl⟩
            have BGY : Blk (U1.alloc (Obj.cells #[.int .i64 0,.slice none 0 0] 69)) GY #[.int .i64 0,.slice none 0 0] 69 := by rw [← hGY]; exact Blk.new U1 _ _
            have LGY : wr.heap.size ≤ GY := by rw [← hGY]; exact hS.size
            have NE : GX < GY := by rw [← hGY]; exact BGX.lt
            replace BGX := BGX.below ((Below.refl _ _).alloc (Nat.le_refl _) (Obj.cells #[.int .i64 0,.slice none 0 0] 69))
            have hS1 : Below wr.heap.size wr (U1.alloc (Obj.cells #[.int .i64 0,.slice none 0 0] 69)) := (hS.trans (((Below.refl _ _).alloc (Nat.le_refl _) _).mono hS.size));simp only [zsA,zsZ,zsS]
            try simp only [hGY]
            clear hGY hS;generalize (U1.alloc (Obj.cells #[.int .i64 0,.slice none 0 0] 69)) = U2 at *;have cx0 := (BGX.cell 0).trans rfl;have cx1 := (BGX.cell 1).trans rfl;have cy0 := (BGY.cell 0).trans rfl;have cy1 := (BGY.cell 1).trans rfl;have zx0 := BGX.froz 0;have zx1 := BGX.froz 1;have zy0 := BGY.froz 0;have zy1 := BGY.froz 1
            have ne1 : GX ≠ GY := by omega
            have ne2 : GY ≠ GX := by omega
            obtain ⟨hS3,hfi⟩ := two_set BGX BGY ne1 hS1 LGX LGY (.int .i64 xt) (.slice pt Kt ct) (.int .i64 yt) (.slice pt2 Kt2 ct2);have HFI : Hid _ := hfi;clear hfi;refine M_storeT 12 ((U2.setCell ⟨GX,0,none⟩ (.int .i64 xt)).setCell ⟨GX,1,none⟩ (.slice pt Kt ct)) rfl rfl (by kernel_rfl) (by rfl) (listed' := bts 14 8191) (by kernel_rfl) (by go_simp) hS3 ?_;refine M_store 13 ((((U2.setCell ⟨GX,0,none⟩ (.int .i64 xt)).setCell ⟨GX,1,none⟩ (.slice pt Kt ct)).setCell ⟨GY,0,none⟩ (.int .i64 yt)).setCell ⟨GY,1,none⟩ (.slice pt2 Kt2 ct2)) rfl rfl (by kernel_rfl) (by rfl) (listed' := bts 14 16383) (by kernel_rfl) (by go_simp) (by kernel_rfl) ?_;clear cx0 cx1 cy0 cy1 zx0 zx1 zy0 zy1 BGX BGY hS3 hS1 LGX LGY;generalize ((((U2.setCell ⟨GX,0,none⟩ (.int .i64 xt)).setCell ⟨GX,1,none⟩ (.slice pt Kt ct)).setCell ⟨GY,0,none⟩ (.int .i64 yt)).setCell ⟨GY,1,none⟩ (.slice pt2 Kt2 ct2)) = W9 at *;refine M_done (by kernel_rfl) ?_ _;go_wp2_with fail
            go_meet
            exact ⟨GX,GY,rfl,rfl,HFI⟩
           ·skip
            obtain ⟨GY,hGY⟩ : ∃ z,U0.heap.size = z := ⟨_,rfl⟩
            have BGY : Blk (U0.alloc (Obj.cells #[.int .i64 0,.slice none 0 0] 69)) GY #[.int .i64 0,.slice none 0 0] 69 := by rw [← hGY]; exact Blk.new U0 _ _
            have LGY : wr.heap.size ≤ GY := by rw [← hGY]; exact hS.size
            have hS1 : Below wr.heap.size wr (U0.alloc (Obj.cells #[.int .i64 0,.slice none 0 0] 69)) := (hS.trans (((Below.refl _ _).alloc (Nat.le_refl _) _).mono hS.size));simp only [zsA,zsZ,zsS]
            try simp only [hGY]
            clear hGY hS;generalize (U0.alloc (Obj.cells #[.int .i64 0,.slice none 0 0] 69)) = U1 at *;have hS := hS1;clear hS1;refine M_run 10 7 (.pointer (some ⟨U1.heap.size,0,none⟩)) (U1.alloc (Obj.cells #[.int .i64 0,.slice none 0 0] 69)) rfl rfl (by kernel_rfl) (by rfl) (listed' := bts 14 4095) (by kernel_rfl) (by go_simp) (hS.trans (((Below.refl _ _).alloc (Nat.le_refl _) _).mono hS.size)) ?_;obtain ⟨GX,hGX⟩ : ∃ z,U1.heap.size = z := ⟨_,rfl⟩
            have BGX : Blk (U1.alloc (Obj.cells #[.int .i64 0,.slice none 0 0] 69)) GX #[.int .i64 0,.slice none 0 0] 69 := by rw [← hGX]; exact Blk.new U1 _ _
            have LGX : wr.heap.size ≤ GX := by rw [← hGX]; exact hS.size
            have NE : GY < GX := by rw [← hGX]; exact BGY.lt
            replace BGY := BGY.below ((Below.refl _ _).alloc (Nat.le_refl _) (Obj.cells #[.int .i64 0,.slice none 0 0] 69))
            have hS1 : Below wr.heap.size wr (U1.alloc (Obj.cells #[.int .i64 0,.slice none 0 0] 69)) := (hS.trans (((Below.refl _ _).alloc (Nat.le_refl _) _).mono hS.size));simp only [zsA,zsZ,zsS]
            try simp only [hGX]
            clear hGX hS;generalize (U1.alloc (Obj.cells #[.int .i64 0,.slice none 0 0] 69)) = U2 at *;have cx0 := (BGX.cell 0).trans rfl;have cx1 := (BGX.cell 1).trans rfl;have cy0 := (BGY.cell 0).trans rfl;have cy1 := (BGY.cell 1).trans rfl;have zx0 := BGX.froz 0;have zx1 := BGX.froz 1;have zy0 := BGY.froz 0;have zy1 := BGY.froz 1
            have ne1 : GX ≠ GY := by omega
            have ne2 : GY ≠ GX := by omega
            obtain ⟨hS3,hfi⟩ := two_set BGX BGY ne1 hS1 LGX LGY (.int .i64 xt) (.slice pt Kt ct) (.int .i64 yt) (.slice pt2 Kt2 ct2);have HFI : Hid _ := hfi;clear hfi;refine M_storeT 12 ((U2.setCell ⟨GX,0,none⟩ (.int .i64 xt)).setCell ⟨GX,1,none⟩ (.slice pt Kt ct)) rfl rfl (by kernel_rfl) (by rfl) (listed' := bts 14 8191) (by kernel_rfl) (by go_simp) hS3 ?_;refine M_store 13 ((((U2.setCell ⟨GX,0,none⟩ (.int .i64 xt)).setCell ⟨GX,1,none⟩ (.slice pt Kt ct)).setCell ⟨GY,0,none⟩ (.int .i64 yt)).setCell ⟨GY,1,none⟩ (.slice pt2 Kt2 ct2)) rfl rfl (by kernel_rfl) (by rfl) (listed' := bts 14 16383) (by kernel_rfl) (by go_simp) (by kernel_rfl) ?_;clear cx0 cx1 cy0 cy1 zx0 zx1 zy0 zy1 BGX BGY hS3 hS1 LGX LGY;generalize ((((U2.setCell ⟨GX,0,none⟩ (.int .i64 xt)).setCell ⟨GX,1,none⟩ (.slice pt Kt ct)).setCell ⟨GY,0,none⟩ (.int .i64 yt)).setCell ⟨GY,1,none⟩ (.slice pt2 Kt2 ct2)) = W9 at *;refine M_done (by kernel_rfl) ?_ _;go_wp2_with fail
            go_meet
            exact ⟨GX,GY,rfl,rfl,HFI⟩
          case rest =>
           obtain ⟨GX,GY,rfl,rfl,HXY0⟩ := hcut;have hbB : Below wr.heap.size wr wc := HXY0.out.2.2;have hbA : Below w.heap.size w wc := hbel.trans (hbB.mono hbel.size);have hX1 := HXY0.out.1;have hX2 := HXY0.out.2.1;generalize wc = W at *;have HY1 : Hid (Blk W w.heap.size #[.int .i64 K,.int .i64 N,.string S,.slice (some ⟨g,off,none⟩) Ke ce,.slice pr Kr cr] 30) := HB1.out.below hbB;have HY2 : Hid (Blk W (w.heap.size + 1) #[.int .i64 K,.int .i64 N,.string S,.slice (some ⟨g2,off2,none⟩) Ke ce2,.slice pr2 Kr cr2] 30) := HB2.out.below hbB;have HT1 : Hid (TrsIn n' W (.slice pt Kt ct) xl) := T1.out.belowT hbB;have HT2 : Hid (TrsIn m' W (.slice pt2 Kt2 ct2) yl) := T2.out.belowT hbB;clear hbB HB1 HB2 T1 T2 hz1 hz2 hz3 hz4 hbel HXY0;have a0 := hX1.cell 0;have a1 := hX1.cell 1;have b0 := hX2.cell 0;have b1 := hX2.cell 1
           simp at a0 a1 b0 b1
           by_cases ht : xt = yt
           ·subst ht
            by_cases hk : Kt = Kt2
            ·subst hk;have HZ1 : Hid (Blk W GX #[Value.int IntKind.i64 xt,Value.slice pt Kt ct] 69) := hX1;have HZ2 : Hid (Blk W GY #[Value.int IntKind.i64 xt,Value.slice pt2 Kt ct2] 69) := hX2;clear hX1 hX2;go_wp2_with fail;clear a0 a1 b0 b1
             go_loopw [9] (fun iv wz => ∃ j : Nat,iv = .int .i64 (j : Int) ∧ j ≤ Kt ∧ Hid (∀ l,l < j → xl[l]? = yl[l]?) ∧ Below w.heap.size w wz ∧ Below W.heap.size W wz) (fun iv _ => Kt - (intOf iv).toNat)
             case atStart => exact ⟨0,rfl,by omega,(fun j hj => absurd hj (by omega) : ∀ l,l < 0 → xl[l]? = yl[l]?),hbA,Below.refl _ _⟩
             case round =>
              obtain ⟨j,rfl,hj,HL,hbel,hbW⟩ := hrel;have a1 := (HZ1.out.below hbW).cell 1;have b1 := (HZ2.out.below hbW).cell 1
              simp at a1 b1
              by_cases hlt2 : j < Kt
              ·obtain ⟨x,hx⟩ : ∃ r,xl[j]? = some r := ⟨_,List.getElem?_eq_getElem (by rw [HKt.out]; exact hlt2)⟩;obtain ⟨y,hy⟩ : ∃ r,yl[j]? = some r := ⟨_,List.getElem?_eq_getElem (by rw [HKt2.out]; exact hlt2)⟩;obtain ⟨g3,off3,rfl,c1⟩ := (HT1.out.belowT hbW).get hx;obtain ⟨g4,off4,rfl,c2⟩ := (HT2.out.belowT hbW).get hy;obtain ⟨z1,n1,d1,z2,n2,d2,p0,p1,p2,p3,p4,p5⟩ := trs_get c1;obtain ⟨z3,n3,d3,z4,n4,d4,o0,o1,o2,o3,o4,o5⟩ := trs_get c2;have HX2 : Hid (xl[j]? = some x) := hx;have HY2 : Hid (yl[j]? = some y) := hy;clear c1 c2 hx hy
               have HC : Hid (∀ W1,Below wr.heap.size wr W1 → Calls Tryz.prog 12 #[.agg #[.int .i64 x.kind,.int .i64 x.n,.string x.s,.slice z1 n1 d1,.slice z2 n2 d2],.agg #[.int .i64 y.kind,.int .i64 y.n,.string y.s,.slice z3 n3 d3,.slice z4 n4 d4]] W1 fun e W' => SamT x y e ∧ Below wr.heap.size wr W') := fun W1 hW1 => (by
                refine (IH m' x y _ _ W1 (p5.below hW1) (o5.below hW1)).mono ?_;rintro e W' ⟨hR,hb⟩
                exact ⟨hR,hW1.trans (hb.mono hW1.size)⟩ : Calls Tryz.prog _ _ W1 _)
               have HKC : Hid (∀ W1,Below wr.heap.size wr W1 → W1.cell? ⟨GX,1,none⟩ = some (.slice (some ⟨g3,off3,none⟩) Kt ct) ∧ W1.cell? ⟨GY,1,none⟩ = some (.slice (some ⟨g4,off4,none⟩) Kt ct2) ∧ W1.cell? ⟨g3,off3 + j * 5,none⟩ = some (.int .i64 x.kind) ∧ W1.cell? ⟨g3,off3 + j * 5 + 1,none⟩ = some (.int .i64 x.n) ∧ W1.cell? ⟨g3,off3 + j * 5 + 2,none⟩ = some (.string x.s) ∧ W1.cell? ⟨g3,off3 + j * 5 + 3,none⟩ = some (.slice z1 n1 d1) ∧ W1.cell? ⟨g3,off3 + j * 5 + 4,none⟩ = some (.slice z2 n2 d2) ∧ W1.cell? ⟨g4,off4 + j * 5,none⟩ = some (.int .i64 y.kind) ∧ W1.cell? ⟨g4,off4 + j * 5 + 1,none⟩ = some (.int .i64 y.n) ∧ W1.cell? ⟨g4,off4 + j * 5 + 2,none⟩ = some (.string y.s) ∧ W1.cell? ⟨g4,off4 + j * 5 + 3,none⟩ = some (.slice z3 n3 d3) ∧ W1.cell? ⟨g4,off4 + j * 5 + 4,none⟩ = some (.slice z4 n4 d4)) := fun W1 hW => by
                have cc : ∀ p u,wr.cell? p = some u → W1.cell? p = some u := fun p u h => (hW.cell (World.block_lt_of_cell? _ _ h)).trans h
                exact ⟨cc _ _ a1,cc _ _ b1,cc _ _ p0,cc _ _ p1,cc _ _ p2,cc _ _ p3,cc _ _ p4,cc _ _ o0,cc _ _ o1,cc _ _ o2,cc _ _ o3,cc _ _ o4⟩
               clear p0 p1 p2 p3 p4 p5 o0 o1 o2 o3 o4 o5;go_wp2_with fail;clear a1 b1;have hS : Below wr.heap.size wr wr.drew := (Below.refl _ _).drew;refine wp_region_held_drew (S := fun w' => Below wr.heap.size wr w') (by kernel_rfl) hS (fun hS => ?_);refine rg_take 0 103 (.pointer (some ⟨GX,1,none⟩)) _ rfl rfl (by kernel_rfl) (by kernel_rfl) (by kernel_rfl) (fun _ _ _ h => h) (by rfl) (fun w' hw' => ?_) hS (listed' := bts 12 1) (by kernel_rfl) rfl ?_
               ·go_simp
               simp only [zsA,zsZ,zsS];refine rg_take 1 104 (.slice (some ⟨g3,off3,none⟩) Kt ct) _ rfl rfl (by kernel_rfl) (by kernel_rfl) (by kernel_rfl) (fun _ _ _ h => h) (by rfl) (fun w' hw' => ?_) hS (listed' := bts 12 3) (by kernel_rfl) rfl ?_
               ·obtain ⟨k1,k2,k3,k4,k5,k6,k7,k8,k9,k10,k11,k12⟩ := HKC.out _ hw'; go_simp
               simp only [zsA,zsZ,zsS];refine rg_take 2 105 (.int .i64 (j : Int)) _ rfl rfl (by kernel_rfl) (by kernel_rfl) (by kernel_rfl) (fun _ _ _ h => h) (by rfl) (fun w' hw' => ?_) hS (listed' := bts 12 7) (by kernel_rfl) rfl ?_
               ·go_simp
               simp only [zsA,zsZ,zsS];refine rg_take 3 106 (.pointer (some ⟨g3,off3 + j * 5,none⟩)) _ rfl rfl (by kernel_rfl) (by kernel_rfl) (by kernel_rfl) (fun _ _ _ h => h) (by rfl) (fun w' hw' => ?_) hS (listed' := bts 12 15) (by kernel_rfl) rfl ?_
               ·go_simp
               simp only [zsA,zsZ,zsS];refine rg_take 4 107 (.agg #[.int .i64 x.kind,.int .i64 x.n,.string x.s,.slice z1 n1 d1,.slice z2 n2 d2]) _ rfl rfl (by kernel_rfl) (by kernel_rfl) (by kernel_rfl) (fun _ _ _ h => h) (by rfl) (fun w' hw' => ?_) hS (listed' := bts 12 31) (by kernel_rfl) rfl ?_
               ·obtain ⟨k1,k2,k3,k4,k5,k6,k7,k8,k9,k10,k11,k12⟩ := HKC.out _ hw'; go_simp
               simp only [zsA,zsZ,zsS];refine rg_take 5 108 (.pointer (some ⟨GY,1,none⟩)) _ rfl rfl (by kernel_rfl) (by kernel_rfl) (by kernel_rfl) (fun _ _ _ h => h) (by rfl) (fun w' hw' => ?_) hS (listed' := bts 12 63) (by kernel_rfl) rfl ?_
               ·go_simp
               simp only [zsA,zsZ,zsS];refine rg_take 6 109 (.slice (some ⟨g4,off4,none⟩) Kt ct2) _ rfl rfl (by kernel_rfl) (by kernel_rfl) (by kernel_rfl) (fun _ _ _ h => h) (by rfl) (fun w' hw' => ?_) hS (listed' := bts 12 127) (by kernel_rfl) rfl ?_
               ·obtain ⟨k1,k2,k3,k4,k5,k6,k7,k8,k9,k10,k11,k12⟩ := HKC.out _ hw'; go_simp
               simp only [zsA,zsZ,zsS];refine rg_take 7 110 (.int .i64 (j : Int)) _ rfl rfl (by kernel_rfl) (by kernel_rfl) (by kernel_rfl) (fun _ _ _ h => h) (by rfl) (fun w' hw' => ?_) hS (listed' := bts 12 255) (by kernel_rfl) rfl ?_
               ·go_simp
               simp only [zsA,zsZ,zsS];refine rg_take 8 111 (.pointer (some ⟨g4,off4 + j * 5,none⟩)) _ rfl rfl (by kernel_rfl) (by kernel_rfl) (by kernel_rfl) (fun _ _ _ h => h) (by rfl) (fun w' hw' => ?_) hS (listed' := bts 12 511) (by kernel_rfl) rfl ?_
               ·go_simp
               simp only [zsA,zsZ,zsS];refine rg_take 9 112 (.agg #[.int .i64 y.kind,.int .i64 y.n,.string y.s,.slice z3 n3 d3,.slice z4 n4 d4]) _ rfl rfl (by kernel_rfl) (by kernel_rfl) (by kernel_rfl) (fun _ _ _ h => h) (by rfl) (fun w' hw' => ?_) hS (listed' := bts 12 1023) (by kernel_rfl) rfl ?_
               ·obtain ⟨k1,k2,k3,k4,k5,k6,k7,k8,k9,k10,k11,k12⟩ := HKC.out _ hw'; go_simp
               simp only [zsA,zsZ,zsS];refine rg_call 10 113 12 #[.agg #[.int .i64 x.kind,.int .i64 x.n,.string x.s,.slice z1 n1 d1,.slice z2 n2 d2],.agg #[.int .i64 y.kind,.int .i64 y.n,.string y.s,.slice z3 n3 d3,.slice z4 n4 d4]] rfl rfl (by kernel_rfl) (by rfl) (listed' := bts 12 2047) (by kernel_rfl) (fun W => by go_simp) ?_;refine (HC.out _ hS).mono ?_;rintro e W1 ⟨⟨RB,rfl,hRB⟩,hW1⟩;have HRB : Hid (RB = true ↔ x = y) := hRB;have hS : Below wr.heap.size wr W1 := hW1;clear hRB;refine ⟨_,rfl,hS,?_⟩;simp only [zsA,zsZ,zsS];refine rg_take 11 114 (.bool (!RB)) _ rfl rfl (by kernel_rfl) (by kernel_rfl) (by kernel_rfl) (fun _ _ _ h => h) (by rfl) (fun w' hw' => ?_) hS (listed' := bts 12 4095) (by kernel_rfl) rfl ?_
               ·go_simp
               simp only [zsA,zsZ,zsS];refine wpAnyH_done (by kernel_rfl) ?_ _;have hb1 := hbel.trans (hS.mono hbel.size);have hb2 := hbW.trans (hS.mono hbW.size);clear HKC HC hS hW1 hbel hbW
               cases RB with
               | true =>
                have HXY : Hid (x = y) := HRB.out.1 rfl;go_wp2_with fail
                go_roundw
                case rel => exact ⟨j + 1,by go_num,by omega,(fun l hl => by
                 rcases Nat.lt_or_eq_of_le (Nat.le_of_lt_succ hl) with h | h
                 ·exact HL.out l h
                 ·subst h; rw [HX2.out,HY2.out,HXY.out] : ∀ l,l < j + 1 → xl[l]? = yl[l]?),hb1,hb2⟩
                case measure => simp [intOf]; omega
               | false =>
                have HNE : Hid (a ≠ b) := (fun e => absurd (HRB.out.2 (by
                 have h1 := HX.out;rw [e,HY.out] at h1;have h2 := (Prod.mk.inj (Option.some.inj h1)).2;have h3 := HX2.out;rw [← h2,HY2.out] at h3
                 exact (Option.some.inj h3).symm)) (by decide) : a ≠ b)
                go_wp2_with fail;go_ret;exact ⟨sam_no HNE.out,hb1⟩
              ·have hle : xl = yl := list_ext (by rw [HKt.out,HKt2.out]) (fun l hl => HL.out l (by rw [HKt.out] at hl; omega));have HLE : Hid (xl = yl) := hle;clear hle HL;go_wp2_with fail;clear a1 b1
               go_roundw
               case rel => exact ⟨i + 1,by go_num,by omega,(fun l hl => by
                 rcases Nat.lt_or_eq_of_le (Nat.le_of_lt_succ hl) with h | h
                 ·exact HJ.out l h
                 ·subst h; rw [HX.out,HY.out,HLE.out] : ∀ l,l < i + 1 → a.es[l]? = b.es[l]?),hbel,HY1.out.below hbW,HY2.out.below hbW⟩
               case measure => simp [intOf]; omega
            ·have hne : a ≠ b := fun e => hk (by
              have h1 := HX.out;rw [e,HY.out] at h1;have h2 := (Prod.mk.inj (Option.some.inj h1)).2
              rw [← HKt.out,← HKt2.out,h2])
             have hd : ((Kt : Int) != (Kt2 : Int)) = true := by simp; omega
             clear hX1 hX2 HX HY HKt HKt2;go_wp2_with fail;go_ret;exact ⟨sam_no hne,hbA⟩
           ·have hne : a ≠ b := fun e => ht (by
             have h1 := HX.out;rw [e,HY.out] at h1
             exact (Prod.mk.inj (Option.some.inj h1)).1.symm)
            have hd : (xt != yt) = true := by simpa using ht
            clear hX1 hX2 HX HY HKt HKt2;go_wp2_with fail;go_ret;exact ⟨sam_no hne,hbA⟩
         ·have hje : a.es = b.es := list_ext (by rw [HKe.out,HKe2.out]) (fun j hj => HJ.out j (by rw [HKe.out] at hj; omega));have hab : a = b := tr_ext HK.out.1 HK.out.2.1 HK.out.2.2 hje HJE.out;clear hje HJ HB1 HB2 HJE;have HAB : Hid (a = b) := hab;clear hab;go_wp2_with fail;go_ret;exact ⟨sam_yes HAB.out,hbel⟩
     ·have hne : a ≠ b := fun e => hr (by rw [← HKr.out,← HKr2.out,e])
      have hd : ((Kr : Int) != (Kr2 : Int)) = true := by simp; omega
      subst he;rw [← hk,← hn,← hs];clear hk hn hs hr;obtain ⟨K,hK⟩ : ∃ K,a.kind = K := ⟨_,rfl⟩;obtain ⟨N,hN⟩ : ∃ K,a.n = K := ⟨_,rfl⟩;obtain ⟨S,hS⟩ : ∃ K,a.s = K := ⟨_,rfl⟩;rw [hK,hN,hS];clear hK hN hS
      go_enter Tryz.func12,Tryz.ntmps12
      go_wp2_with fail;go_ret;exact ⟨sam_no hne,((Below.refl _ _).alloc (Nat.le_refl _) _).alloc (by simp) _⟩
    ·have hne : a ≠ b := fun e => he (by rw [← HKe.out,← HKe2.out,e])
     have hd : ((Ke : Int) != (Ke2 : Int)) = true := by simp; omega
     rw [← hk,← hn,← hs];clear hk hn hs he;obtain ⟨K,hK⟩ : ∃ K,a.kind = K := ⟨_,rfl⟩;obtain ⟨N,hN⟩ : ∃ K,a.n = K := ⟨_,rfl⟩;obtain ⟨S,hS⟩ : ∃ K,a.s = K := ⟨_,rfl⟩;rw [hK,hN,hS];clear hK hN hS
     go_enter Tryz.func12,Tryz.ntmps12
     go_wp2_with fail;go_ret;exact ⟨sam_no hne,((Below.refl _ _).alloc (Nat.le_refl _) _).alloc (by simp) _⟩
   ·have hne : a ≠ b := fun e => hs (by rw [e])
    have hd : (a.s.toList == b.s.toList) = false := by simpa using fun h => hs (toList_ext h)
    rw [← hk,← hn];clear hk hn hs;obtain ⟨K,hK⟩ : ∃ K,a.kind = K := ⟨_,rfl⟩;obtain ⟨N,hN⟩ : ∃ K,a.n = K := ⟨_,rfl⟩;obtain ⟨S,hS⟩ : ∃ K,a.s = K := ⟨_,rfl⟩;obtain ⟨S2,hS2⟩ : ∃ K,b.s = K := ⟨_,rfl⟩;rw [hS,hS2] at hd;rw [hK,hN,hS,hS2];clear hK hN hS hS2
    go_enter Tryz.func12,Tryz.ntmps12
    go_wp2_with fail;go_ret;exact ⟨sam_no hne,((Below.refl _ _).alloc (Nat.le_refl _) _).alloc (by simp) _⟩
  ·have hne : a ≠ b := fun e => hn (by rw [e])
   have hd : (a.n != b.n) = true := by simpa using hn
   rw [← hk];clear hk hn;obtain ⟨K,hK⟩ : ∃ K,a.kind = K := ⟨_,rfl⟩;obtain ⟨N,hN⟩ : ∃ K,a.n = K := ⟨_,rfl⟩;obtain ⟨N2,hN2⟩ : ∃ K,b.n = K := ⟨_,rfl⟩;rw [hN,hN2] at hd;rw [hK,hN,hN2];clear hK hN hN2
   go_enter Tryz.func12,Tryz.ntmps12
   go_wp2_with fail;go_ret;exact ⟨sam_no hne,((Below.refl _ _).alloc (Nat.le_refl _) _).alloc (by simp) _⟩
 ·have hne : a ≠ b := fun e => hk (by rw [e])
  obtain ⟨K,hK⟩ : ∃ K,a.kind = K := ⟨_,rfl⟩;obtain ⟨K2,hK2⟩ : ∃ K,b.kind = K := ⟨_,rfl⟩;rw [hK,hK2] at hk ⊢
  have h1 : (K != K2) = true := by simpa using hk
  clear hK hK2 hk
  go_enter Tryz.func12,Tryz.ntmps12
  go_wp2_with fail;go_ret;exact ⟨sam_no hne,((Below.refl _ _).alloc (Nat.le_refl _) _).alloc (by simp) _⟩
theorem rsame_any : ∀ (n m : Nat) (a b : Tr) (va vb : Value) (w : World),TrIn n w va a → TrIn m w vb b → Calls Tryz.prog 12 #[va,vb] w fun e w' => SamT a b e ∧ Below w.heap.size w w'
 | 0,_,a,_,_,_,_,ha,_ => by obtain ⟨r,_,h⟩ := ha; exact h.elim
 | n + 1,m,a,b,va,vb,w,ha,hb => rsame_step n m (fun m' a b va vb w ha hb => rsame_any n m' a b va vb w ha hb) a b va vb w ha hb
theorem rsame_eq {n m : Nat} {t : Tr} {va vb : Value} {w : World} (ha : TrIn n w va t) (hb : TrIn m w vb t) : Calls Tryz.prog 12 #[va,vb] w fun e w' => e = .returned (.bool true) ∧ Below w.heap.size w w' := by
 refine (rsame_any n m t t va vb w ha hb).mono ?_;rintro e w' ⟨⟨R,rfl,h⟩,hb⟩;have : R = true := h.2 rfl;subst this;exact ⟨rfl,hb⟩
end
end Go.Proofs.YtmgbhicogmclgaaGreat
