/- Part 23 of what the proof stands on. -/
import Derived.Test.YtiajaocckkghgaaGreatPkEAV
import Derived.SizedLaws
import Derived.Deep.Slices
import Derived.Deep.Strs
import Derived.Lib.SmallJoins
import Derived.Lib.SlBytesConst
namespace Go.Proofs.YtiajaocckkghgaaGreat
set_option maxHeartbeats 8000000
set_option linter.unusedVariables false
set_option linter.unusedSimpArgs false
set_option maxRecDepth 20000
section
open Go.ChangeShapes Go.WideShapes Go.ChangeAt Go.RowKit
def Lite {H : Type} (t : TypeId) (d : DataW H) : Prop := ∀ n ∈ d.weights Tryz.prog t,n ≤ 140737488351232
theorem lite_all {H : Type} {e : TypeId} : ∀ {l : List (DataW H)} {d : DataW H},d ∈ l → ∀ n ∈ d.weights Tryz.prog e,n ∈ DataW.weightsAll Tryz.prog e l
 | x :: l,d,h,n,hn => by
  simp only [DataW.weightsAll,List.mem_append]
  rcases List.mem_cons.1 h with rfl | h
  ·exact .inl hn
  ·exact .inr (lite_all h n hn)
theorem lite_each {H : Type} {ts : List TypeId} {ds : List (DataW H)} (h : ∀ n ∈ DataW.weightsEach Tryz.prog ts ds,n ≤ 140737488351232) {j : Nat} {t : TypeId} {d : DataW H} (ht : ts[j]? = some t) (hd : ds[j]? = some d) : Lite t d :=
 fun n hn => h n (DataW.weights_mem_each ht hd n hn)
theorem lite_str {H : Type} {t : TypeId} {l : List UInt8} (h : Lite t (.lit (.string l) : DataW H)) : l.length ≤ 140737488351232 := h _ (by simp [DataW.weights])
section
variable {H : Type} {enc : TypeId × Value → H} {W : World} {base : Nat} {spare : Nat → Bool} {held : Bool}
theorem lite_struct {t : TypeId} {fs : Array Field} {ds : List (DataW H)} (hu : Tryz.prog.underlying t = some (.struct fs)) (h : Lite t (.agg ds : DataW H)) {j : Nat} {u : TypeId} {d : DataW H} (ht : (fs.toList.map (·.type))[j]? = some u) (hd : ds[j]? = some d) : Lite u d := by
 refine lite_each (ts := fs.toList.map (·.type)) (ds := ds) (fun n hn => h n ?_) ht hd;simp only [DataW.weights,hu];exact hn
theorem row_in {α : Type} {t e : TypeId} {size : Nat} (hc : Tryz.prog.cellsOf e = size) (hpos : 0 < size) (ht : Tryz.prog.underlying t = some (.slice e)) (cells : α → List Value) (hcl : ∀ r,(cells r).length = size) (P : α → Prop) (dflt : α)
  {fuel : Nat} {a : Option Addr} {len cap : Nat} {x : DataW H × List MemPlace} (h : DataW.trod enc Tryz.prog W base spare held fuel t [.slice a len cap] = some x) (hl : Lite t x.1)
  (one : ∀ n cs' y,DataW.trod enc Tryz.prog W base spare held n e cs' = some y → Lite e y.1 → ∃ r,cs' = cells r ∧ P r) :
  ∃ rs : List α,rs.length = len ∧ RowG W (.slice a len cap) size (rs.map cells) ∧ ∀ r ∈ rs,P r := by
 rcases Deep.open_slice ht h with ⟨hcs, -⟩ | ⟨ad,len',cap',m,n,D,Pl,hcs, -,hle,hm,hmm,hx0,hx⟩
 ·simp only [List.cons.injEq,Value.slice.injEq,and_true] at hcs;obtain ⟨rfl,rfl,rfl⟩ := hcs;exact ⟨[],rfl,RowG.nil _ _,by simp⟩
 ·simp only [List.cons.injEq,Value.slice.injEq,and_true] at hcs;obtain ⟨rfl,rfl,rfl⟩ := hcs;subst hx0
  have hml : len ≤ m := by rw [hmm]; split <;> omega
  rw [hc] at hx
  have each : ∀ i,i < len → ∃ r : α,W.cells? base (ad.add (i * size)) size = some (cells r) ∧ P r := fun i hi => by
   obtain ⟨cs',h1,h2⟩ := hx i (by omega)
   obtain ⟨r,rfl,hp⟩ := one n cs' _ h2 (fun k hk => hl k (by
    simp only [DataW.weights,ht,List.mem_cons,List.mem_append]
    exact .inr (.inl (lite_all (List.mem_map.2 ⟨i,List.mem_range.2 hi,rfl⟩) k hk))))
   exact ⟨r,h1,hp⟩
  obtain ⟨f,hf⟩ : ∃ f : Nat → α,∀ i,i < len → W.cells? base (ad.add (i * size)) size = some (cells (f i)) ∧ P (f i) :=
   ⟨fun i => if h : i < len then Classical.choose (each i h) else dflt,fun i hi => by simp only [dif_pos hi]; exact Classical.choose_spec (each i hi)⟩
  refine ⟨(List.range len).map f,by simp,?_,?_⟩
  ·refine ⟨some ad,cap,by simp,by simpa using hle,hm,(fun e => by cases e),fun hne => ?_⟩
   have hlen : 0 < len := by
    rcases Nat.eq_zero_or_pos len with h0 | h0
    ·subst h0; simp at hne
    ·exact h0
   have hcell : ∀ i,i < len → ∀ c,c < size → W.cell? ((ad.add (i * size)).add c) = (cells (f i))[c]? := fun i hi => (World.cells?_some (hf i hi).1).2.2
   obtain ⟨g,off,spot⟩ := ad
   have hspot : spot = none := by
    have h1 := hcell 0 hlen 0 hpos;obtain ⟨u,hu⟩ : ∃ u,(cells (f 0))[0]? = some u := ⟨_,List.getElem?_eq_getElem (by rw [hcl]; exact hpos)⟩;rw [hu] at h1
    simpa [Addr.add] using World.cell?_spot h1
   subst hspot;refine ⟨g,off,rfl,fun i c u j hi hj => ?_⟩;simp only [List.map_map,List.getElem?_map,Option.map_eq_some_iff,Function.comp_apply] at hi;obtain ⟨i',hi',rfl⟩ := hi;obtain ⟨hil,hie⟩ := List.getElem?_eq_some_iff.1 hi'
   simp at hie
   subst hie;simp only [List.length_range] at hil
   have hjs : j < size := by rw [← hcl (f i)]; exact (List.getElem?_eq_some_iff.1 hj).1
   have h2 := hcell i hil j hjs;rw [hj,Deep.add_add,Addr.add_lit] at h2;rw [Nat.add_assoc];exact h2
  ·intro r hr;simp only [List.mem_map,List.mem_range] at hr;obtain ⟨i,hi,rfl⟩ := hr;exact (hf i hi).2
theorem i64_ofS {n : Int} (h : (Lit.int .i64 n).wf = true) : I64 n := bounds_i64 h
theorem cellsIn : Tryz.prog.cellsOf 3 = 1 := by kernel_rfl
theorem cellsSt : Tryz.prog.cellsOf 9 = 1 := by kernel_rfl
theorem cellsTy : Tryz.prog.cellsOf 56 = 2 := by kernel_rfl
theorem cellsFl : Tryz.prog.cellsOf 58 = 5 := by kernel_rfl
theorem cellsNm : Tryz.prog.cellsOf 70 = 2 := by kernel_rfl
theorem cellsMt : Tryz.prog.cellsOf 72 = 3 := by kernel_rfl
theorem cellsMs : Tryz.prog.cellsOf 50 = 3 := by kernel_rfl
theorem cellsEn : Tryz.prog.cellsOf 68 = 2 := by kernel_rfl
theorem cellsSc : Tryz.prog.cellsOf 26 = 4 := by kernel_rfl
theorem cellsSl : Tryz.prog.cellsOf 48 = 1 ∧ Tryz.prog.cellsOf 46 = 1 ∧ Tryz.prog.cellsOf 66 = 1 ∧ Tryz.prog.cellsOf 22 = 1 ∧ Tryz.prog.cellsOf 23 = 1 ∧ Tryz.prog.cellsOf 24 = 1 := ⟨by kernel_rfl,by kernel_rfl,by kernel_rfl,by kernel_rfl,by kernel_rfl,by kernel_rfl⟩
theorem str_in {n : Nat} {c : Value} {y : DataW H × List MemPlace} (h : DataW.trod enc Tryz.prog W base spare held n 9 [c] = some y) (hl : Lite 9 y.1) : ∃ b : ByteArray,c = .string b ∧ b.size ≤ 140737488351232 := by
 obtain ⟨b,e,hy,w⟩ := DataW.trod_string Tryz.underlying9 h;simp only [List.cons.injEq,and_true] at e;subst e hy;exact ⟨b,rfl,lite_str hl⟩
theorem int_in {n : Nat} {c : Value} {y : DataW H × List MemPlace} (h : DataW.trod enc Tryz.prog W base spare held n 3 [c] = some y) : ∃ b : Int,c = .int .i64 b ∧ I64 b := by
 obtain ⟨b,e,hy,w⟩ := DataW.trod_int Tryz.underlying3 h;simp only [List.cons.injEq,and_true] at e;subst e;exact ⟨b,rfl,i64_ofS w⟩
theorem sfield_in : ∀ n cs' y,DataW.trod enc Tryz.prog W base spare held n 58 cs' = some y → Lite 58 y.1 → ∃ r : FlS,cs' = r.cells ∧ FlW r := by
 intro n cs y h hl;obtain ⟨y0,y1,y2,y3,m,hy,hc,h0,h1,h2,h3⟩ := _root_.Go.Joins.trod_struct4 Tryz.underlying58 h;rw [cellsFl] at hc
 match cs,hc with
 | [c0,c1,c2,c3,c4],_ =>
  rw [cellsIn] at h1 h2;rw [cellsSt] at h0;rw [cellsTy] at h3;simp only [List.drop_zero,List.drop_succ_cons,List.take_succ_cons,List.take_zero] at h0 h1 h2 h3;subst hy;obtain ⟨z0,z1,k,hz,hcz,g0,g1⟩ := trod_struct2 Tryz.underlying56 h3;rw [cellsIn] at g0;rw [cellsSt] at g1;simp only [List.drop_zero,List.drop_succ_cons,List.take_succ_cons,List.take_zero] at g0 g1;have l3 : Lite 56 y3.1 := lite_struct Tryz.underlying58 hl (j := 3) rfl rfl;subst hz;obtain ⟨b0,rfl,s0⟩ := str_in h0 (lite_struct Tryz.underlying58 hl (j := 0) rfl rfl);obtain ⟨b1,rfl,s1⟩ := int_in h1;obtain ⟨b2,rfl,s2⟩ := int_in h2;obtain ⟨b3,rfl,s3⟩ := int_in g0;obtain ⟨b4,rfl,s4⟩ := str_in g1 (lite_struct Tryz.underlying56 l3 (j := 1) rfl rfl);exact ⟨⟨b0,b1,b2,b3,b4⟩,rfl,s0,s4,s1,s2,s3⟩
theorem named_in : ∀ n cs' y,DataW.trod enc Tryz.prog W base spare held n 70 cs' = some y → Lite 70 y.1 → ∃ r : NmS,cs' = r.cells ∧ NmW r := by
 intro n cs y h hl;obtain ⟨y0,y1,m,hy,hc,h0,h1⟩ := trod_struct2 Tryz.underlying70 h;rw [cellsNm] at hc
 match cs,hc with
 | [c0,c1],_ =>
  rw [cellsIn] at h1;rw [cellsSt] at h0;simp only [List.drop_zero,List.drop_succ_cons,List.take_succ_cons,List.take_zero] at h0 h1;subst hy;obtain ⟨b0,rfl,s0⟩ := str_in h0 (lite_struct Tryz.underlying70 hl (j := 0) rfl rfl);obtain ⟨b1,rfl,s1⟩ := int_in h1;exact ⟨⟨b0,b1⟩,rfl,s0,s1⟩
theorem method_in : ∀ n cs' y,DataW.trod enc Tryz.prog W base spare held n 72 cs' = some y → Lite 72 y.1 → ∃ r : MtS,cs' = r.cells ∧ MtW r := by
 intro n cs y h hl;obtain ⟨y0,y1,y2,m,hy,hc,h0,h1,h2⟩ := Deep.trod_struct3 Tryz.underlying72 h;rw [cellsMt] at hc
 match cs,hc with
 | [c0,c1,c2],_ =>
  rw [cellsSt] at h0 h1 h2;simp only [List.drop_zero,List.drop_succ_cons,List.take_succ_cons,List.take_zero] at h0 h1 h2;subst hy;obtain ⟨b0,rfl,s0⟩ := str_in h0 (lite_struct Tryz.underlying72 hl (j := 0) rfl rfl);obtain ⟨b1,rfl,s1⟩ := str_in h1 (lite_struct Tryz.underlying72 hl (j := 1) rfl rfl);obtain ⟨b2,rfl,s2⟩ := str_in h2 (lite_struct Tryz.underlying72 hl (j := 2) rfl rfl);exact ⟨⟨b0,b1,b2⟩,rfl,s0,s1,s2⟩
theorem slice_form {t e : TypeId} {n : Nat} {c : Value} {y : DataW H × List MemPlace} (ht : Tryz.prog.underlying t = some (.slice e)) (h : DataW.trod enc Tryz.prog W base spare held n t [c] = some y) : ∃ a len cap,c = .slice a len cap := by
 rcases Deep.open_slice ht h with ⟨hcs, -⟩ | ⟨ad,len',cap',m,n,D,Pl,hcs, -⟩
 ·simp only [List.cons.injEq,and_true] at hcs; exact ⟨_,_,_,hcs⟩
 ·simp only [List.cons.injEq,and_true] at hcs; exact ⟨_,_,_,hcs⟩
theorem ints_in {n : Nat} {c : Value} {y : DataW H × List MemPlace} (h : DataW.trod enc Tryz.prog W base spare held n 46 [c] = some y) (hl : Lite 46 y.1) : ∃ ns : List Int,RowG W c 1 (inRows ns) ∧ ∀ x ∈ ns,I64 x := by
 obtain ⟨a,len,cap,rfl⟩ := slice_form Tryz.underlying46 h
 obtain ⟨rs,h1,h2,h3⟩ := row_in cellsIn (by decide) Tryz.underlying46 (fun x : Int => [.int .i64 x]) (fun _ => rfl) I64 0 h hl (fun n cs' y h _ => by
  obtain ⟨b,e,_,w⟩ := DataW.trod_int Tryz.underlying3 h
  exact ⟨b,e,i64_ofS w⟩)
 exact ⟨rs,h2,h3⟩
def msC (p : MsS × Value × Value) : List Value := [.string p.1.name,p.2.1,p.2.2]
def msP (W : World) (p : MsS × Value × Value) : Prop := RowG W p.2.1 5 (flRows p.1.fields) ∧ RowG W p.2.2 1 (inRows p.1.reserved) ∧ MsW p.1
theorem message_in : ∀ n cs' y,DataW.trod enc Tryz.prog W base spare held n 50 cs' = some y → Lite 50 y.1 → ∃ r : MsS × Value × Value,cs' = msC r ∧ msP W r := by
 intro n cs y h hl;obtain ⟨y0,y1,y2,m,hy,hc,h0,h1,h2⟩ := Deep.trod_struct3 Tryz.underlying50 h;rw [cellsMs] at hc
 match cs,hc with
 | [c0,c1,c2],_ =>
  rw [cellsSt] at h0;rw [cellsSl.1] at h1;rw [cellsSl.2.1] at h2;simp only [List.drop_zero,List.drop_succ_cons,List.take_succ_cons,List.take_zero] at h0 h1 h2;subst hy;obtain ⟨b0,rfl,s0⟩ := str_in h0 (lite_struct Tryz.underlying50 hl (j := 0) rfl rfl);obtain ⟨a,len,cap,rfl⟩ := slice_form Tryz.underlying48 h1;obtain ⟨fs, -,f2,f3⟩ := row_in cellsFl (by decide) Tryz.underlying48 FlS.cells (fun _ => rfl) FlW ⟨⟨#[]⟩,0,0,0,⟨#[]⟩⟩ h1 (lite_struct Tryz.underlying50 hl (j := 1) rfl rfl) sfield_in;obtain ⟨ns,n2,n3⟩ := ints_in h2 (lite_struct Tryz.underlying50 hl (j := 2) rfl rfl);exact ⟨(⟨b0,fs,ns⟩,_,_),rfl,f2,n2,s0,f3,n3⟩
def enC (p : EnS × Value) : List Value := [.string p.1.name,p.2]
def enP (W : World) (p : EnS × Value) : Prop := RowG W p.2 2 (nmRows p.1.values) ∧ EnW p.1
theorem enumer_in : ∀ n cs' y,DataW.trod enc Tryz.prog W base spare held n 68 cs' = some y → Lite 68 y.1 → ∃ r : EnS × Value,cs' = enC r ∧ enP W r := by
 intro n cs y h hl;obtain ⟨y0,y1,m,hy,hc,h0,h1⟩ := trod_struct2 Tryz.underlying68 h;rw [cellsEn] at hc
 match cs,hc with
 | [c0,c1],_ =>
  rw [cellsSt] at h0;rw [cellsSl.2.2.1] at h1;simp only [List.drop_zero,List.drop_succ_cons,List.take_succ_cons,List.take_zero] at h0 h1;subst hy;obtain ⟨b0,rfl,s0⟩ := str_in h0 (lite_struct Tryz.underlying68 hl (j := 0) rfl rfl);obtain ⟨a,len,cap,rfl⟩ := slice_form Tryz.underlying66 h1;obtain ⟨fs, -,f2,f3⟩ := row_in cellsNm (by decide) Tryz.underlying66 NmS.cells (fun _ => rfl) NmW ⟨⟨#[]⟩,0⟩ h1 (lite_struct Tryz.underlying68 hl (j := 1) rfl rfl) named_in;exact ⟨(⟨b0,fs⟩,_),rfl,f2,s0,f3⟩
theorem schema_in {r : Reach} {b0 : Nat} {v : Value} {d : DataW H} {p : List MemPlace} (hv : Value.okWide Tryz.prog W r b0 26 v) (h : DataW.Trod enc Tryz.prog W base spare held 26 v d p) (hl : Lite 26 d) : ∃ s : ScS,ScIn W v s ∧ ScW s := by
 obtain ⟨cs,rfl,hsz⟩ := okWide_struct Tryz.underlying26 hv;obtain ⟨fuel,hf⟩ := h;obtain ⟨y0,y1,y2,y3,m,hy,hc,h0,h1,h2,h3⟩ := _root_.Go.Joins.trod_struct4 Tryz.underlying26 hf;rw [cellsSc] at hc;obtain ⟨l⟩ := cs;simp only [Value.cells] at h0 h1 h2 h3 hc
 match l,hc with
 | [c0,c1,c2,c3],_ =>
  rw [cellsSt] at h0;rw [cellsSl.2.2.2.1] at h1;rw [cellsSl.2.2.2.2.1] at h2;rw [cellsSl.2.2.2.2.2] at h3;simp only [List.drop_zero,List.drop_succ_cons,List.take_succ_cons,List.take_zero] at h0 h1 h2 h3;have hd : d = .agg [y0.1,y1.1,y2.1,y3.1] := congrArg Prod.fst hy;subst hd;obtain ⟨b0,rfl,s0⟩ := str_in h0 (lite_struct Tryz.underlying26 hl (j := 0) rfl rfl);obtain ⟨a1,len1,cap1,rfl⟩ := slice_form Tryz.underlying22 h1;obtain ⟨a2,len2,cap2,rfl⟩ := slice_form Tryz.underlying23 h2;obtain ⟨a3,len3,cap3,rfl⟩ := slice_form Tryz.underlying24 h3;obtain ⟨ms,m1,m2,m3⟩ := row_in cellsMs (by decide) Tryz.underlying22 msC (fun _ => rfl) (msP W) (⟨⟨#[]⟩,[],[]⟩,.bool false,.bool false) h1 (lite_struct Tryz.underlying26 hl (j := 1) rfl rfl) message_in;obtain ⟨es,e1,e2,e3⟩ := row_in cellsEn (by decide) Tryz.underlying23 enC (fun _ => rfl) (enP W) (⟨⟨#[]⟩,[]⟩,.bool false) h2 (lite_struct Tryz.underlying26 hl (j := 2) rfl rfl) enumer_in;obtain ⟨ts,t1,t2,t3⟩ := row_in cellsMt (by decide) Tryz.underlying24 MtS.cells (fun _ => rfl) MtW ⟨⟨#[]⟩,⟨#[]⟩,⟨#[]⟩⟩ h3 (lite_struct Tryz.underlying26 hl (j := 3) rfl rfl) method_in;refine ⟨⟨b0,ms.map (·.1),es.map (·.1),ts⟩,⟨_,_,_,rfl,⟨ms.map msC,m2,by simp,fun i m hm => ?_⟩,⟨es.map enC,e2,by simp,fun i m hm => ?_⟩,t2⟩,s0,fun m hm => ?_,fun m hm => ?_,t3⟩
  ·simp only [List.getElem?_map,Option.map_eq_some_iff] at hm;obtain ⟨q,hq,rfl⟩ := hm;obtain ⟨g1,g2,_⟩ := m3 q (List.mem_of_getElem? hq);exact ⟨q.2.1,q.2.2,by simp [hq,msC],g1,g2⟩
  ·simp only [List.getElem?_map,Option.map_eq_some_iff] at hm;obtain ⟨q,hq,rfl⟩ := hm;obtain ⟨g1,_⟩ := e3 q (List.mem_of_getElem? hq);exact ⟨q.2,by simp [hq,enC],g1⟩
  ·obtain ⟨q,hq,rfl⟩ := List.mem_map.1 hm;exact (m3 q hq).2.2
  ·obtain ⟨q,hq,rfl⟩ := List.mem_map.1 hm;exact (e3 q hq).2
end
theorem bytes_any (a : Option Addr) (ns : List Nat) (cap N : Nat) (w : World) (hN : ns.length = N) (hl : N ≤ 140737488355328) (ha : a = none → ns = [] ∧ cap = 0) (hh : Holds w a ns) :
  Calls Tryz.prog 13 #[.slice a N cap] w fun e w' => ∃ r,e = .returned r ∧ w'.ownsRow w.heap.size 5 1 r N (byteCells ns) ∧ Below w.heap.size w w' := by
 have HH : Hid (Holds w a ns) := hh;have HA : Hid (a = none → ns = [] ∧ cap = 0) := ha;have HN : Hid (ns.length = N) := hN;clear hh ha hN
 go_enter Tryz.func13,Tryz.ntmps13
 go_wp2_with (first
  | (at_builtin; refine wpList_join rfl _ _ rfl w.heap.size (.slice none 0 0) 0 [] rfl (World.ownsRow_nil _ _ _ _) a ns _ _ rfl HN.out.symm HA.out HH.out ?c1 ?c2 ?_)
  | fail)
 case c1 => have := HN.out; simp; omega
 case c2 => exact Nat.le_refl _
 intro r w1 ho hg;have hb : Below w.heap.size w w1 := (Below.refl _ _).grown hg (Nat.le_refl _) (fun k hk => by cases hk)
 have HO : Hid (w1.ownsRow w.heap.size 5 1 r N (byteCells ns)) := by
  show World.ownsRow _ _ _ _ _ _ _
  try rw [List.nil_append] at ho
  rw [HN.out] at ho;exact ho
 clear hg ho;go_wp2_with fail;go_ret;exact ⟨_,rfl,HO.out,hb⟩
end
section
theorem dec_run {k : Nat} {s : ScS} {nm : ByteArray} {m : MsS} {l : List Fd} {st : Ds} (hm : msgOf s nm = some m) (ho : l.all okF = true) (h64 : ∀ r ∈ l,Is64 r.n) (hl : (flatN l).length ≤ 4096) (h : runD (decM k s) m.fields ⟨[],[]⟩ l = (st,0)) : decM (k + 1) s nm (flatN l) = (⟨3,0,⟨#[]⟩,st.es,sortF st.rest⟩,0) := by
 have hg := getL_put ho h64 hl;simp only [decM,hm,hg,h]
 simp
theorem run_none {M : ByteArray → List Nat → Tr × Int} : ∀ (l : List Fd) (st : Ds),runD M [] st l = (⟨st.es,st.rest ++ l⟩,0)
 | [],st => by simp [runD]
 | r :: l,st => by
  have e1 : oneD M [] st r = (⟨st.es,st.rest ++ [r]⟩,0) := by simp [oneD,fldOf]
  simp only [runD,e1];rw [if_neg (by simp),run_none l]
  simp
theorem dec_none {k : Nat} {s : ScS} {nm : ByteArray} {m : MsS} {l : List Fd} (hm : msgOf s nm = some m) (hf : m.fields = []) (ho : l.all okF = true) (h64 : ∀ r ∈ l,Is64 r.n) (hl : (flatN l).length ≤ 4096) : decM (k + 1) s nm (flatN l) = (⟨3,0,⟨#[]⟩,[],sortF l⟩,0) := by
 have h : runD (decM k s) m.fields ⟨[],[]⟩ l = (⟨[],l⟩,0) := by rw [hf,run_none]; rfl
 exact dec_run hm ho h64 hl h
end
section
open Go.ChangeShapes Go.WideShapes Go.ChangeAt Go.RowKit
theorem sc_one {w : World} {b : Nat} {name nm : ByteArray} {vf : Value} {fs : List FlS} (B : Blk w b #[.string nm,vf,.slice none 0 0] 50) (hf : RowG w vf 5 (flRows fs)) : ScIn w (.agg #[.string name,.slice (some ⟨b,0,none⟩) 1 1,.slice none 0 0,.slice none 0 0]) ⟨name,[⟨nm,fs,[]⟩],[],[]⟩ := by
 refine ⟨_,_,_,rfl,⟨[[.string nm,vf,.slice none 0 0]],RowG.blk B rfl (fun r hr => by simp at hr; subst hr; rfl) rfl (by decide),rfl,fun i m hm => ?_⟩,⟨[],RowG.nil _ _,rfl,fun i e he => by simp at he⟩,RowG.nil _ _⟩
 match i,hm with
 | 0,hm => simp at hm; subst hm; exact ⟨_,_,rfl,hf,RowG.nil _ _⟩
 | i + 1,hm => simp at hm
def s0A : ScS := ⟨⟨#[97]⟩,[⟨⟨#[109]⟩,[],[]⟩],[],[]⟩
theorem s0_few : FewL s0A := ⟨by decide,by decide,by decide,fun m hm => by simp [s0A] at hm; subst hm; simp,fun m hm => by simp [s0A] at hm⟩
theorem s0_w : ScW s0A := ⟨by decide,fun m hm => by simp [s0A] at hm; subst hm; exact ⟨(by decide : (ByteArray.mk #[109]).size ≤ 140737488351232),by simp,by simp⟩,fun m hm => by simp [s0A] at hm,fun m hm => by simp [s0A] at hm⟩
theorem s0_ok : checkA s0A = 0 := by decide +kernel
theorem s0_msg : msgOf s0A ⟨#[109]⟩ = some ⟨⟨#[109]⟩,[],[]⟩ := by simp [msgOf,s0A]
theorem s0_dec {l : List Fd} (ho : l.all okF = true) (h64 : ∀ r ∈ l,Is64 r.n) (hl : (flatN l).length ≤ 4096) : decA s0A ⟨#[109]⟩ (flatN l) = (⟨3,0,⟨#[]⟩,[],sortF l⟩,0) := by
 unfold decA;rw [s0_ok,if_neg (by simp)];exact dec_none s0_msg rfl ho h64 hl
theorem aw_flat : flatN [⟨1,0,5,⟨#[]⟩⟩] = [2,10] := by decide +kernel
theorem aw_ok : ([⟨1,0,5,⟨#[]⟩⟩] : List Fd).all okF = true := by decide +kernel
theorem aw_dec : decA s0A ⟨#[109]⟩ [2,10] = (⟨3,0,⟨#[]⟩,[],[⟨1,0,5,⟨#[]⟩⟩]⟩,0) := by
 have h := s0_dec (l := [⟨1,0,5,⟨#[]⟩⟩]) aw_ok (fun r hr => by simp at hr; subst hr; unfold Is64; simp) (by rw [aw_flat]; decide);rw [aw_flat] at h;rw [h]
 simp [sortF,sortFF,risesB]
theorem aw_can : canA s0A ⟨#[109]⟩ [2,10] = true := by
 have h : encA 11 ⟨3,0,⟨#[]⟩,[],[⟨1,0,5,⟨#[]⟩⟩]⟩ = ([2,10],0) := by decide +kernel
 simp only [canA,aw_dec,h]
 decide
theorem conv_aw (W : World) (b : Nat) (hb : W.heap.size = b) : (convert 27 27 (.slice (some ⟨b,0,none⟩) 2 2)).run Tryz.prog (W.alloc (.cells #[.int .u8 2,.int .u8 10] 5)) = .ok (.slice (some ⟨b,0,none⟩) 2 2) (W.alloc (.cells #[.int .u8 2,.int .u8 10] 5 (2,3))) := by
 subst hb;exact Lib.run_convert_bytes_const (P := Tryz.prog) W 27 5 _ 2 2 Tryz.underlying27 Tryz.underlying5
theorem byS_aw (W : World) (b : Nat) (hb : W.heap.size = b) : ByS (W.alloc (.cells #[.int .u8 2,.int .u8 10] 5 (2,3))) (.slice (some ⟨b,0,none⟩) 2 2) [2,10] := by
 subst hb;refine ⟨_,2,rfl,Holds.of fun j hj => ?_,(by simp),(by simp),(by decide),.inr ⟨_,_,rfl⟩⟩;rw [Nat.zero_add,World.cell?_alloc_mark];have := byteCells_get [2,10] j hj
 simpa [byteCells] using this
theorem dcawake_any (w : World) : Calls Tryz.prog 10 #[] w fun e w' => e = .returned (.bool true) ∧ Below w.heap.size w w' := by
 obtain ⟨b0,hb0⟩ : ∃ z,w.heap.size = z := ⟨_,rfl⟩;have HBZ : Hid (w.heap.size = b0) := hb0;obtain ⟨BM,BS,hbw⟩ := dblk2r w #[.string ⟨#[109]⟩,.slice none 0 0,.slice none 0 0] #[.string ⟨#[97]⟩,.slice (some ⟨b0,0,none⟩) 1 1,.slice none 0 0,.slice none 0 0] 50 26
 have hz : ((w.alloc (Obj.cells #[.string ⟨#[109]⟩,.slice none 0 0,.slice none 0 0] 50)).alloc (Obj.cells #[.string ⟨#[97]⟩,.slice (some ⟨b0,0,none⟩) 1 1,.slice none 0 0,.slice none 0 0] 26)).heap.size = b0 + 1 + 1 := by simp [hb0]
 have kc1 := conv_aw _ _ hz;have BB := byS_aw _ _ hz;have al : Below ((w.alloc (Obj.cells #[.string ⟨#[109]⟩,.slice none 0 0,.slice none 0 0] 50)).alloc (Obj.cells #[.string ⟨#[97]⟩,.slice (some ⟨b0,0,none⟩) 1 1,.slice none 0 0,.slice none 0 0] 26)).heap.size ((w.alloc (Obj.cells #[.string ⟨#[109]⟩,.slice none 0 0,.slice none 0 0] 50)).alloc (Obj.cells #[.string ⟨#[97]⟩,.slice (some ⟨b0,0,none⟩) 1 1,.slice none 0 0,.slice none 0 0] 26)) (((w.alloc (Obj.cells #[.string ⟨#[109]⟩,.slice none 0 0,.slice none 0 0] 50)).alloc (Obj.cells #[.string ⟨#[97]⟩,.slice (some ⟨b0,0,none⟩) 1 1,.slice none 0 0,.slice none 0 0] 26)).alloc (.cells #[.int .u8 2,.int .u8 10] 5 (2,3))) := bra _;rw [hb0] at BM BS;have HSC : Hid (∀ W,Below w.heap.size (((w.alloc (Obj.cells #[.string ⟨#[109]⟩,.slice none 0 0,.slice none 0 0] 50)).alloc (Obj.cells #[.string ⟨#[97]⟩,.slice (some ⟨b0,0,none⟩) 1 1,.slice none 0 0,.slice none 0 0] 26)).alloc (.cells #[.int .u8 2,.int .u8 10] 5 (2,3))) W → True) := fun _ _ => trivial
 clear HSC;have HSI : Hid (ScIn (((w.alloc (Obj.cells #[.string ⟨#[109]⟩,.slice none 0 0,.slice none 0 0] 50)).alloc (Obj.cells #[.string ⟨#[97]⟩,.slice (some ⟨b0,0,none⟩) 1 1,.slice none 0 0,.slice none 0 0] 26)).alloc (.cells #[.int .u8 2,.int .u8 10] 5 (2,3))) (.agg #[.string ⟨#[97]⟩,.slice (some ⟨b0,0,none⟩) 1 1,.slice none 0 0,.slice none 0 0]) s0A) := sc_one (BM.below al) (RowG.nil _ _)
 have HDE : Hid (Calls Tryz.prog 11 #[.agg #[.string ⟨#[97]⟩,.slice (some ⟨b0,0,none⟩) 1 1,.slice none 0 0,.slice none 0 0],.string ⟨#[109]⟩,.slice (some ⟨b0 + 1 + 1,0,none⟩) 2 2] (((w.alloc (Obj.cells #[.string ⟨#[109]⟩,.slice none 0 0,.slice none 0 0] 50)).alloc (Obj.cells #[.string ⟨#[97]⟩,.slice (some ⟨b0,0,none⟩) 1 1,.slice none 0 0,.slice none 0 0] 26)).alloc (.cells #[.int .u8 2,.int .u8 10] 5 (2,3))) (DtrP 11 (⟨3,0,⟨#[]⟩,[],[⟨1,0,5,⟨#[]⟩⟩]⟩,0) (((w.alloc (Obj.cells #[.string ⟨#[109]⟩,.slice none 0 0,.slice none 0 0] 50)).alloc (Obj.cells #[.string ⟨#[97]⟩,.slice (some ⟨b0,0,none⟩) 1 1,.slice none 0 0,.slice none 0 0] 26)).alloc (.cells #[.int .u8 2,.int .u8 10] 5 (2,3))))) := (by
  have h1 := decode_any HSI.out s0_w s0_few BB (nm := ⟨#[109]⟩);rw [aw_dec] at h1
  exact h1 : Calls Tryz.prog _ _ _ _)
 have BS1 := BS.below al;have HSI1 : Hid (Below w.heap.size w (((w.alloc (Obj.cells #[.string ⟨#[109]⟩,.slice none 0 0,.slice none 0 0] 50)).alloc (Obj.cells #[.string ⟨#[97]⟩,.slice (some ⟨b0,0,none⟩) 1 1,.slice none 0 0,.slice none 0 0] 26)).alloc (.cells #[.int .u8 2,.int .u8 10] 5 (2,3)))) := hbw.trans (al.mono hbw.size);clear BM BS hbw hz BB al
 go_enter Tryz.func10,Tryz.ntmps10
 go_wp2_with fail;refine HDE.out.mono ?_;rintro e w2 ⟨r,bs,rfl,ht,hap,hb2⟩;have hbw2 : Below w.heap.size w w2 := HSI1.out.trans (hb2.mono HSI1.out.size);have BS2 := BS1.below hb2;have hb2' := hb2;obtain ⟨ve,vr,rows,bss,rfl, -, -, -, -,hown,hro, -⟩ := ht;simp only [List.length_singleton] at hown;obtain ⟨ra,rc,rfl, -,hrb,hrc1,hrc2,hrh⟩ := own_openR hown;obtain ⟨ea,ec,rfl⟩ := own_form hro.own
 obtain ⟨g,rfl,hg1,hg2⟩ : ∃ g,ra = some ⟨g,0,none⟩ ∧ (w.alloc (Obj.cells #[] 0)).heap.size ≤ g + w.heap.size + 1 ∧ g < w2.heap.size := by
  rcases hrb with ⟨_,h,_⟩ | ⟨g,h1,h2,h3⟩
  ·simp at h
  ·exact ⟨g,h1,by simp,h3⟩
 obtain ⟨c0,c1,c2,c3⟩ := hrh.at (i := 0) rfl;simp only [Nat.zero_mul,Nat.add_zero,List.length_nil,List.length_singleton] at c0 c1 c2 c3 ⊢;clear hown hro hrb hrh hb2 HDE kc1 BS1;have al3 : Below w2.heap.size w2 (w2.alloc (Obj.cells #[.int .i64 3,.int .i64 0,.string ⟨#[]⟩,.slice ea 0 ec,.slice (some ⟨g,0,none⟩) 1 rc] 33)) := bra _;have al4 : Below w2.heap.size w2 ((w2.alloc (Obj.cells #[.int .i64 3,.int .i64 0,.string ⟨#[]⟩,.slice ea 0 ec,.slice (some ⟨g,0,none⟩) 1 rc] 33)).alloc (.cells #[.int .u8 2,.int .u8 10] 5 (2,3))) := al3.alloc (by simp) _
 have hz3 : (w2.alloc (Obj.cells #[.int .i64 3,.int .i64 0,.string ⟨#[]⟩,.slice ea 0 ec,.slice (some ⟨g,0,none⟩) 1 rc] 33)).heap.size = w2.heap.size + 1 := by simp
 have kc2 := conv_aw (w2.alloc (Obj.cells #[.int .i64 3,.int .i64 0,.string ⟨#[]⟩,.slice ea 0 ec,.slice (some ⟨g,0,none⟩) 1 rc] 33)) _ hz3;have BB2 := byS_aw (w2.alloc (Obj.cells #[.int .i64 3,.int .i64 0,.string ⟨#[]⟩,.slice ea 0 ec,.slice (some ⟨g,0,none⟩) 1 rc] 33)) _ hz3;have hbw4 : Below w.heap.size w ((w2.alloc (Obj.cells #[.int .i64 3,.int .i64 0,.string ⟨#[]⟩,.slice ea 0 ec,.slice (some ⟨g,0,none⟩) 1 rc] 33)).alloc (.cells #[.int .u8 2,.int .u8 10] 5 (2,3))) := hbw2.trans (al4.mono hbw2.size)
 have HCA : Hid (Calls Tryz.prog 16 #[.agg #[.string ⟨#[97]⟩,.slice (some ⟨b0,0,none⟩) 1 1,.slice none 0 0,.slice none 0 0],.string ⟨#[109]⟩,.slice (some ⟨w2.heap.size + 1,0,none⟩) 2 2] ((w2.alloc (Obj.cells #[.int .i64 3,.int .i64 0,.string ⟨#[]⟩,.slice ea 0 ec,.slice (some ⟨g,0,none⟩) 1 rc] 33)).alloc (.cells #[.int .u8 2,.int .u8 10] 5 (2,3))) fun e w' => e = .returned (.bool true) ∧ Below ((w2.alloc (Obj.cells #[.int .i64 3,.int .i64 0,.string ⟨#[]⟩,.slice ea 0 ec,.slice (some ⟨g,0,none⟩) 1 rc] 33)).alloc (.cells #[.int .u8 2,.int .u8 10] 5 (2,3))).heap.size ((w2.alloc (Obj.cells #[.int .i64 3,.int .i64 0,.string ⟨#[]⟩,.slice ea 0 ec,.slice (some ⟨g,0,none⟩) 1 rc] 33)).alloc (.cells #[.int .u8 2,.int .u8 10] 5 (2,3))) w') := (by
  have h1 := canonical_any ((HSI.out.below hb2').below al4) s0_w s0_few BB2 (nm := ⟨#[109]⟩);rw [aw_can] at h1
  exact h1 : Calls Tryz.prog _ _ _ _)
 obtain ⟨s0,s1,s2,s3⟩ := cl4 BS2;have ltS := BS2.lt;clear BS2 BB2 hz3 al3 al4;go_wp2_with fail;refine HCA.out.mono ?_;rintro e w5 ⟨rfl,hb5⟩;have hbw5 : Below w.heap.size w w5 := hbw4.trans (hb5.mono hbw4.size);clear HCA hb5 c0 c1 c2 c3 s0 s1 s2 s3 ltS;go_wp2_with fail;go_ret;exact ⟨rfl,hbw5⟩
end
section
section
variable {P : Program} {md : Region.Mode} {ops : Array Oper} {Q : Exit → Act → World → Prop} {T : World → Prop} {m : Nat}
theorem M_forkAA {o1 o2 : Oper} {fuel : Nat} {listed : Array Bool} {a : Act} {w : World} (i j d1 d2 : Nat) (v1 v2 : Value) (w1 w2 : World) (h1 : ops[i]? = some o1) (h2 : ops[j]? = some o2) (hd1 : o1.dst = some d1) (hd2 : o2.dst = some d2)
  (hr : Region.ready md ops listed = [i,j]) (hw1 : Region.wanted o1 (yielded ops a.tmps) = true) (hw2 : Region.wanted o2 (yielded ops a.tmps) = true)
  (hx1 : (execOp a.eval o1).run P w = .ok (.value v1) w1) (hx2 : (execOp a.eval o2).run P w = .ok (.value v2) w2)
  (hT1 : T w1) (hA : wpAnyM P md ops Q T m fuel (listed.setIfInBounds i true) { a with tmps := a.tmps.setIfInBounds d1 v1 } w1)
  (hT2 : T w2) (hB : wpAnyM P md ops Q T m fuel (listed.setIfInBounds j true) { a with tmps := a.tmps.setIfInBounds d2 v2 } w2) : wpAnyM P md ops Q T m (fuel + 1) listed a w := by
 refine ⟨fun h0 => (by rw [hr] at h0; cases h0),fun k hk => ?_⟩;rw [hr] at hk;simp only [List.mem_cons,List.not_mem_nil,or_false] at hk
 rcases hk with rfl | rfl
 ·unfold wpOp;simp only [h1];rw [if_pos hw1];refine .inl ?_;unfold Oper.wp;rw [hx1,Oper.upon_value,hd1];exact ⟨fun _ => hT1,hA⟩
 ·unfold wpOp;simp only [h2];rw [if_pos hw2];refine .inl ?_;unfold Oper.wp;rw [hx2,Oper.upon_value,hd2];exact ⟨fun _ => hT2,hB⟩
end
end
section
open Go.ChangeShapes Go.WideShapes Go.ChangeAt Go.RowKit
theorem blk_new2 (w : World) (o : Obj) (cs : Array Value) (t : TypeId) : Blk ((w.alloc o).alloc (.cells cs t)) (w.heap.size + 1) cs t := by
 have := Blk.new (w.alloc o) cs t
 rwa [show (w.alloc o).heap.size = w.heap.size + 1 from by simp] at this
def SamT (a b : Tr) (e : Ending) : Prop := ∃ R : Bool,e = .returned (.bool R) ∧ (R = true ↔ a = b)
theorem sam_no {a b : Tr} (h : a ≠ b) : SamT a b (.returned (.bool false)) := ⟨false,rfl,by simp [h]⟩
theorem sam_yes {a b : Tr} (h : a = b) : SamT a b (.returned (.bool true)) := ⟨true,rfl,by simp [h]⟩
theorem tr_ext {a b : Tr} (h1 : a.kind = b.kind) (h2 : a.n = b.n) (h3 : a.s = b.s) (h4 : a.es = b.es) (h5 : a.rest = b.rest) : a = b := by
 cases a; cases b; simp_all
theorem list_ext {α : Type} {l m : List α} (h : l.length = m.length) (hj : ∀ j,j < l.length → l[j]? = m[j]?) : l = m := by
 refine List.ext_getElem? fun i => ?_
 by_cases hi : i < l.length
 ·exact hj i hi
 ·rw [List.getElem?_eq_none (by omega),List.getElem?_eq_none (by omega)]
theorem two_set {w0 w : World} {g k : Nat} {a b c d : Value} {t : TypeId} (h1 : Blk w g #[a,b] t) (h2 : Blk w k #[c,d] t) (hn : g ≠ k) (hS : Below w0.heap.size w0 w) (l1 : w0.heap.size ≤ g) (l2 : w0.heap.size ≤ k) (a' b' c' d' : Value) : Below w0.heap.size w0 ((w.setCell ⟨g,0,none⟩ a').setCell ⟨g,1,none⟩ b') ∧
  Blk ((((w.setCell ⟨g,0,none⟩ a').setCell ⟨g,1,none⟩ b').setCell ⟨k,0,none⟩ c').setCell ⟨k,1,none⟩ d') g #[a',b'] t ∧ Blk ((((w.setCell ⟨g,0,none⟩ a').setCell ⟨g,1,none⟩ b').setCell ⟨k,0,none⟩ c').setCell ⟨k,1,none⟩ d') k #[c',d'] t ∧ Below w0.heap.size w0 ((((w.setCell ⟨g,0,none⟩ a').setCell ⟨g,1,none⟩ b').setCell ⟨k,0,none⟩ c').setCell ⟨k,1,none⟩ d') := by
 have hS3 : Below w0.heap.size w0 ((w.setCell ⟨g,0,none⟩ a').setCell ⟨g,1,none⟩ b') := (hS.setCell (p := ⟨g,0,none⟩) l1 _).setCell (p := ⟨g,1,none⟩) l1 _;refine ⟨hS3,?_,?_,(hS3.setCell (p := ⟨k,0,none⟩) l2 _).setCell (p := ⟨k,1,none⟩) l2 _⟩
 ·have q1 := h1.set 0 a' rfl;have q2 := q1.set 1 b' rfl;exact (q2.other (a := ⟨k,0,none⟩) hn _).other (a := ⟨k,1,none⟩) hn _
 ·have q1 := (h2.other (a := ⟨g,0,none⟩) hn.symm a').other (a := ⟨g,1,none⟩) hn.symm b';have q2 := q1.set 0 c' rfl;exact q2.set 1 d' rfl
theorem rsame_step (n m : Nat) (IH : ∀ m' a b va vb w,TrIn n w va a → TrIn m' w vb b → Calls Tryz.prog 15 #[va,vb] w fun e w' => SamT a b e ∧ Below w.heap.size w w') (a b : Tr) (va vb : Value) (w : World) (ha : TrIn (n + 1) w va a) (hb : TrIn m w vb b) :
  Calls Tryz.prog 15 #[va,vb] w fun e w' => SamT a b e ∧ Below w.heap.size w w' := by
 obtain ⟨n',ve,vr,e0,rfl,ka,na,sa,fa,ra,ea⟩ := ha.open
 obtain rfl : n' = n := by omega
 obtain ⟨m',ve2,vr2,rfl,rfl,kb,nb,sb,fb,rb,eb⟩ := hb.open;obtain ⟨pe,ce,rfl,u1,u2,u3,u4,u5⟩ := ea.open;obtain ⟨pe2,ce2,rfl,v1,v2,v3,v4,v5⟩ := eb.open;obtain ⟨pr,cr,rfl,x1,x2,x3,x4,x5⟩ := rest_holds ra;obtain ⟨pr2,cr2,rfl,y1,y2,y3,y4,y5⟩ := rest_holds rb;clear u5 v5 x5 y5 ha hb e0;unfold maxLen at u2 v2 x2 y2;obtain ⟨Ke,hKe⟩ : ∃ K,a.es.length = K := ⟨_,rfl⟩;obtain ⟨Ke2,hKe2⟩ : ∃ K,b.es.length = K := ⟨_,rfl⟩;obtain ⟨Kr,hKr⟩ : ∃ K,a.rest.length = K := ⟨_,rfl⟩;obtain ⟨Kr2,hKr2⟩ : ∃ K,b.rest.length = K := ⟨_,rfl⟩;rw [hKe] at u1 ⊢;rw [hKe2] at v1 ⊢;rw [hKr] at x1 ⊢;rw [hKr2] at y1 ⊢;have EA : Hid (EnsIn n' w (.slice pe Ke ce) a.es) := hid (by rw [← hKe]; exact ea);have EB : Hid (EnsIn m' w (.slice pe2 Ke2 ce2) b.es) := hid (by rw [← hKe2]; exact eb);have RA : Hid (RowG w (.slice pr Kr cr) 4 (fdRows a.rest)) := hid (by rw [← hKr]; exact ra);have RB : Hid (RowG w (.slice pr2 Kr2 cr2) 4 (fdRows b.rest)) := hid (by rw [← hKr2]; exact rb);clear ea eb ra rb u4 v4 x4 y4 sa sb fa fb u3 v3 x3 y3;have HKe : Hid (a.es.length = Ke) := hKe;have HKe2 : Hid (b.es.length = Ke2) := hKe2;have HKr : Hid (a.rest.length = Kr) := hKr;have HKr2 : Hid (b.rest.length = Kr2) := hKr2;clear hKe hKe2 hKr hKr2
 by_cases hk : a.kind = b.kind
 ·by_cases hn : a.n = b.n
  ·by_cases hs : a.s = b.s
   ·by_cases he : Ke = Ke2
    ·by_cases hr : Kr = Kr2
     ·subst he hr;rw [← hk,← hn,← hs];have HK : Hid (a.kind = b.kind ∧ a.n = b.n ∧ a.s = b.s) := ⟨hk,hn,hs⟩;clear hk hn hs;obtain ⟨K,hK⟩ : ∃ K,a.kind = K := ⟨_,rfl⟩;obtain ⟨N,hN⟩ : ∃ K,a.n = K := ⟨_,rfl⟩;obtain ⟨S,hS⟩ : ∃ K,a.s = K := ⟨_,rfl⟩;rw [hK,hN,hS];clear hK hN hS ka na kb nb
      go_enter Tryz.func15,Tryz.ntmps15
      go_wp2_with fail
      go_loopw [5] (fun iv wr => ∃ i : Nat,iv = .int .i64 (i : Int) ∧ i ≤ Kr ∧ Hid (∀ j,j < i → a.rest[j]? = b.rest[j]?) ∧ Below w.heap.size w wr ∧ Hid (Blk wr w.heap.size #[.int .i64 K,.int .i64 N,.string S,.slice pe Ke ce,.slice pr Kr cr] 33) ∧ Hid (Blk wr (w.heap.size + 1) #[.int .i64 K,.int .i64 N,.string S,.slice pe2 Ke ce2,.slice pr2 Kr cr2] 33)) (fun iv _ => Kr - (intOf iv).toNat)
      case atStart => exact ⟨0,rfl,by omega,(fun j hj => absurd hj (by omega) : ∀ j,j < 0 → a.rest[j]? = b.rest[j]?),(bra _).alloc (by simp) _,(Blk.new w _ _).below (bra _),blk_new2 w _ _ _⟩
      case round =>
       obtain ⟨i,rfl,hi,HJ,hbel,HB1,HB2⟩ := hrel;have q14 := HB1.out.cell 4;have q24 := HB2.out.cell 4;have q13 := HB1.out.cell 3;have q23 := HB2.out.cell 3
       simp at q14 q24 q13 q23
       by_cases hlt : i < Kr
       ·obtain ⟨r,hr⟩ : ∃ r,a.rest[i]? = some r := ⟨_,List.getElem?_eq_getElem (by rw [HKr.out]; exact hlt)⟩;obtain ⟨s,hs⟩ : ∃ r,b.rest[i]? = some r := ⟨_,List.getElem?_eq_getElem (by rw [HKr2.out]; exact hlt)⟩;obtain ⟨g,off,rfl,c1⟩ := (RA.out.below hbel).get (show (fdRows a.rest)[i]? = some r.cells by simp [fdRows,hr]);obtain ⟨g2,off2,rfl,c2⟩ := (RB.out.below hbel).get (show (fdRows b.rest)[i]? = some s.cells by simp [fdRows,hs]);have p0 := c1 0 _ rfl;have p1 := c1 1 _ rfl;have p2 := c1 2 _ rfl;have p3 := c1 3 _ rfl;have o0 := c2 0 _ rfl;have o1 := c2 1 _ rfl;have o2 := c2 2 _ rfl;have o3 := c2 3 _ rfl;simp only [Nat.add_zero] at p0 o0;have HR : Hid (a.rest[i]? = some r) := hr;have HS : Hid (b.rest[i]? = some s) := hs;clear c1 c2 hr hs q13 q23
        by_cases hrs : r = s
        ·subst hrs;obtain ⟨t1,t2,t3,t4⟩ := r;simp only at p0 p1 p2 p3 o0 o1 o2 o3;go_wp2_with fail
         go_quiet (fail)
         have hbn := below_drewN nq hbel;clear p0 p1 p2 p3 o0 o1 o2 o3 q14 q24;go_wp2_with fail
         go_roundw
         case rel => exact ⟨i + 1,by go_num,by omega,(fun j hj => by
          rcases Nat.lt_or_eq_of_le (Nat.le_of_lt_succ hj) with h | h
          ·exact HJ.out j h
          ·subst h; rw [HR.out,HS.out] : ∀ j,j < i + 1 → a.rest[j]? = b.rest[j]?),hbn,HB1.out.below (below_drewN nq (Below.refl _ _)),HB2.out.below (below_drewN nq (Below.refl _ _))⟩
         case measure => simp [intOf]; omega
        ·obtain ⟨t1,t2,t3,t4⟩ := r;obtain ⟨s1,s2,s3,s4⟩ := s;simp only at p0 p1 p2 p3 o0 o1 o2 o3;have hne : a ≠ b := fun e => hrs (by have := HR.out; rw [e,HS.out] at this; exact (Option.some.inj this).symm)
         have hx := fd_neq t1 t2 t3 s1 s2 s3 t4 s4 hrs;clear hrs;go_wp2_with fail
         go_quiet (fail)
         have hbn := below_drewN nq hbel;clear p0 p1 p2 p3 o0 o1 o2 o3 q14 q24 hx;go_wp2_with fail;go_ret;exact ⟨sam_no hne,hbn⟩
       ·have hje : a.rest = b.rest := list_ext (by rw [HKr.out,HKr2.out]) (fun j hj => HJ.out j (by rw [HKr.out] at hj; omega));have HJE : Hid (a.rest = b.rest) := hje;clear hje HJ RA RB HKr HKr2 q13 q23;go_wp2_with fail
        go_loopw [6] (fun iv wr => ∃ i : Nat,iv = .int .i64 (i : Int) ∧ i ≤ Ke ∧ Hid (∀ j,j < i → a.es[j]? = b.es[j]?) ∧ Below w.heap.size w wr ∧ Hid (Blk wr w.heap.size #[.int .i64 K,.int .i64 N,.string S,.slice pe Ke ce,.slice pr Kr cr] 33) ∧ Hid (Blk wr (w.heap.size + 1) #[.int .i64 K,.int .i64 N,.string S,.slice pe2 Ke ce2,.slice pr2 Kr cr2] 33)) (fun iv _ => Ke - (intOf iv).toNat)
        case atStart => exact ⟨0,rfl,by omega,(fun j hj => absurd hj (by omega) : ∀ j,j < 0 → a.es[j]? = b.es[j]?),hbel,HB1,HB2⟩
        case round =>
         clear hi hbel HB1 HB2 hlt q14 q24;obtain ⟨i,rfl,hi,HJ,hbel,HB1,HB2⟩ := hrel;have q13 := HB1.out.cell 3;have q23 := HB2.out.cell 3
         simp at q13 q23
         by_cases hlt : i < Ke
         ·obtain ⟨x,hx⟩ : ∃ r,a.es[i]? = some r := ⟨_,List.getElem?_eq_getElem (by rw [HKe.out]; exact hlt)⟩;obtain ⟨y,hy⟩ : ∃ r,b.es[i]? = some r := ⟨_,List.getElem?_eq_getElem (by rw [HKe2.out]; exact hlt)⟩;obtain ⟨g,off,rfl,c1⟩ := (EA.out.belowE hbel).get hx;obtain ⟨g2,off2,rfl,c2⟩ := (EB.out.belowE hbel).get hy;obtain ⟨vt,p0,p1,p2,p3⟩ := ens_at c1;obtain ⟨vt2,o0,o1,o2,o3⟩ := ens_at c2;obtain ⟨pt,ct,rfl,t1,t2,t3,t4,t5⟩ := p3.open;obtain ⟨pt2,ct2,rfl,s1,s2,s3,s4,s5⟩ := o3.open;unfold maxLen at t2 s2;have HX : Hid (a.es[i]? = some x) := hx;have HY : Hid (b.es[i]? = some y) := hy;clear t3 t4 t5 s3 s4 s5 hx hy c1 c2 p2 o2;obtain ⟨xt,xl⟩ := x;obtain ⟨yt,yl⟩ := y;simp only at p0 p1 o0 o1 t1 s1 p3 o3;obtain ⟨Kt,hKt⟩ : ∃ K,xl.length = K := ⟨_,rfl⟩;obtain ⟨Kt2,hKt2⟩ : ∃ K,yl.length = K := ⟨_,rfl⟩;rw [hKt] at p1 t1;rw [hKt2] at o1 s1;have T1 : Hid (TrsIn n' wr (.slice pt Kt ct) xl) := hid (by rw [← hKt]; exact p3);have T2 : Hid (TrsIn m' wr (.slice pt2 Kt2 ct2) yl) := hid (by rw [← hKt2]; exact o3);clear p3 o3;have HKt : Hid (xl.length = Kt) := hKt;have HKt2 : Hid (yl.length = Kt2) := hKt2;clear hKt hKt2;have hz1 := HB1.out.lt;have hz2 := HB2.out.lt;have hz3 : g < wr.heap.size := World.block_lt_of_cell? _ _ p0;have hz4 : g2 < wr.heap.size := World.block_lt_of_cell? _ _ o0
          have HCE : Hid (∀ W,Below wr.heap.size wr W → Blk W w.heap.size #[.int .i64 K,.int .i64 N,.string S,.slice (some ⟨g,off,none⟩) Ke ce,.slice pr Kr cr] 33 ∧ Blk W (w.heap.size + 1) #[.int .i64 K,.int .i64 N,.string S,.slice (some ⟨g2,off2,none⟩) Ke ce2,.slice pr2 Kr cr2] 33 ∧ W.cell? ⟨g,off + i * 2,none⟩ = some (.int .i64 xt) ∧ W.cell? ⟨g,off + i * 2 + 1,none⟩ = some (.slice pt Kt ct) ∧ W.cell? ⟨g2,off2 + i * 2,none⟩ = some (.int .i64 yt) ∧ W.cell? ⟨g2,off2 + i * 2 + 1,none⟩ = some (.slice pt2 Kt2 ct2)) := fun W hW => by
           have cc : ∀ p u,wr.cell? p = some u → W.cell? p = some u := fun p u h => (hW.cell (World.block_lt_of_cell? _ _ h)).trans h
           exact ⟨HB1.out.below hW,HB2.out.below hW,cc _ _ p0,cc _ _ p1,cc _ _ o0,cc _ _ o1⟩
          clear p0 p1 o0 o1
          go_upto_region 11 with fail
          clear q13 q23
          go_cut [7,8] from 72 to 81 (fun pv qv wx => ∃ GX GY : Nat,pv = .pointer (some ⟨GX,0,none⟩) ∧ qv = .pointer (some ⟨GY,0,none⟩) ∧ Hid (Blk wx GX #[.int .i64 xt,.slice pt Kt ct] 80 ∧ Blk wx GY #[.int .i64 yt,.slice pt2 Kt2 ct2] 80 ∧ Below wr.heap.size wr wx))
          case first =>
           refine M_region (T := fun W => Below wr.heap.size wr W) (m := 13) (by kernel_rfl) ?_;have hS : Below wr.heap.size wr wr.drew := (Below.refl _ _).drew;refine M_tk 0 72 (.pointer (some ⟨w.heap.size,3,none⟩)) (fun w' hw' => ?_) hS (bts 14 1) ?_
           ·go_simp
           refine M_tk 1 73 (.slice (some ⟨g,off,none⟩) Ke ce) (fun w' hw' => ?_) hS (bts 14 3) ?_
           ·obtain ⟨B1,B2,c0,c1,c2,c3⟩ := HCE.out _ hw'; have f3 := (B1.cell 3).trans rfl; go_simp
           refine M_tk 2 74 (.int .i64 (i : Int)) (fun w' hw' => ?_) hS (bts 14 7) ?_
           ·go_simp
           refine M_tk 3 75 (.pointer (some ⟨g,off + i * 2,none⟩)) (fun w' hw' => ?_) hS (bts 14 15) ?_
           ·go_simp
           refine M_tk 4 76 (.agg #[.int .i64 xt,.slice pt Kt ct]) (fun w' hw' => ?_) hS (bts 14 31) ?_
           ·obtain ⟨B1,B2,c0,c1,c2,c3⟩ := HCE.out _ hw'; go_simp
           refine M_tk 5 77 (.pointer (some ⟨w.heap.size + 1,3,none⟩)) (fun w' hw' => ?_) hS (bts 14 63) ?_
           ·go_simp
           refine M_tk 6 78 (.slice (some ⟨g2,off2,none⟩) Ke ce2) (fun w' hw' => ?_) hS (bts 14 127) ?_
           ·obtain ⟨B1,B2,c0,c1,c2,c3⟩ := HCE.out _ hw'; have f3 := (B2.cell 3).trans rfl; go_simp
           refine M_tk 7 79 (.int .i64 (i : Int)) (fun w' hw' => ?_) hS (bts 14 255) ?_
           ·go_simp
           refine M_tk 8 80 (.pointer (some ⟨g2,off2 + i * 2,none⟩)) (fun w' hw' => ?_) hS (bts 14 511) ?_
           ·go_simp
           refine M_tk 9 81 (.agg #[.int .i64 yt,.slice pt2 Kt2 ct2]) (fun w' hw' => ?_) hS (bts 14 1023) ?_
           ·obtain ⟨B1,B2,c0,c1,c2,c3⟩ := HCE.out _ hw'; go_simp
           generalize wr.drew = U0 at *;clear HCE;refine M_forkAA 10 11 7 8 (.pointer (some ⟨U0.heap.size,0,none⟩)) (.pointer (some ⟨U0.heap.size,0,none⟩)) (U0.alloc (Obj.cells #[.int .i64 0,.slice none 0 0] 80)) (U0.alloc (Obj.cells #[.int .i64 0,.slice none 0 0] 80)) rfl rfl rfl rfl (by kernel_rfl) (by rfl) (by rfl) (by go_simp) (by go_simp) (hS.trans ((bra _).mono hS.size)) ?_ (hS.trans ((bra _).mono hS.size)) ?_
           ·skip
            obtain ⟨GX,hGX⟩ : ∃ z,U0.heap.size = z := ⟨_,rfl⟩
            have BGX : Blk (U0.alloc (Obj.cells #[.int .i64 0,.slice none 0 0] 80)) GX #[.int .i64 0,.slice none 0 0] 80 := by rw [← hGX]; exact Blk.new U0 _ _
            have LGX : wr.heap.size ≤ GX := by rw [← hGX]; exact hS.size
            have hS1 : Below wr.heap.size wr (U0.alloc (Obj.cells #[.int .i64 0,.slice none 0 0] 80)) := (hS.trans ((bra _).mono hS.size));simp only [zsA,zsZ,zsS]
            try simp only [hGX]
            clear hGX hS;generalize (U0.alloc (Obj.cells #[.int .i64 0,.slice none 0 0] 80)) = U1 at *;have hS := hS1;clear hS1;refine M_rn 11 8 (.pointer (some ⟨U1.heap.size,0,none⟩)) (U1.alloc (Obj.cells #[.int .i64 0,.slice none 0 0] 80)) (bts 14 4095) rfl (by go_simp) (hS.trans ((bra _).mono hS.size)) ?_;obtain ⟨GY,hGY⟩ : ∃ z,U1.heap.size = z := ⟨_,rfl⟩
            have BGY : Blk (U1.alloc (Obj.cells #[.int .i64 0,.slice none 0 0] 80)) GY #[.int .i64 0,.slice none 0 0] 80 := by rw [← hGY]; exact Blk.new U1 _ _
            have LGY : wr.heap.size ≤ GY := by rw [← hGY]; exact hS.size
            have NE : GX < GY := by rw [← hGY]; exact BGX.lt
            replace BGX := BGX.below ((Below.refl _ _).alloc (Nat.le_refl _) (Obj.cells #[.int .i64 0,.slice none 0 0] 80))
            have hS1 : Below wr.heap.size wr (U1.alloc (Obj.cells #[.int .i64 0,.slice none 0 0] 80)) := (hS.trans ((bra _).mono hS.size));simp only [zsA,zsZ,zsS]
            try simp only [hGY]
            clear hGY hS;generalize (U1.alloc (Obj.cells #[.int .i64 0,.slice none 0 0] 80)) = U2 at *;obtain ⟨cx0,cx1⟩ := cl2 BGX;obtain ⟨cy0,cy1⟩ := cl2 BGY;have zx0 := BGX.froz 0;have zx1 := BGX.froz 1;have zy0 := BGY.froz 0;have zy1 := BGY.froz 1
            have ne1 : GX ≠ GY := by omega
            have ne2 : GY ≠ GX := by omega
            obtain ⟨hS3,hfi⟩ := two_set BGX BGY ne1 hS1 LGX LGY (.int .i64 xt) (.slice pt Kt ct) (.int .i64 yt) (.slice pt2 Kt2 ct2);have HFI : Hid _ := hfi;clear hfi;refine M_sT 12 ((U2.setCell ⟨GX,0,none⟩ (.int .i64 xt)).setCell ⟨GX,1,none⟩ (.slice pt Kt ct)) (bts 14 8191) rfl (by go_simp) hS3 ?_;refine M_st 13 ((((U2.setCell ⟨GX,0,none⟩ (.int .i64 xt)).setCell ⟨GX,1,none⟩ (.slice pt Kt ct)).setCell ⟨GY,0,none⟩ (.int .i64 yt)).setCell ⟨GY,1,none⟩ (.slice pt2 Kt2 ct2)) (bts 14 16383) rfl (by go_simp) ?_;clear cx0 cx1 cy0 cy1 zx0 zx1 zy0 zy1 BGX BGY hS3 hS1 LGX LGY;generalize ((((U2.setCell ⟨GX,0,none⟩ (.int .i64 xt)).setCell ⟨GX,1,none⟩ (.slice pt Kt ct)).setCell ⟨GY,0,none⟩ (.int .i64 yt)).setCell ⟨GY,1,none⟩ (.slice pt2 Kt2 ct2)) = W9 at *;refine M_done (by kernel_rfl) ?_ _;go_wp2_with fail
            go_meet
            exact ⟨GX,GY,rfl,rfl,HFI⟩
           ·skip
            obtain ⟨GY,hGY⟩ : ∃ z,U0.heap.size = z := ⟨_,rfl⟩
            have BGY : Blk (U0.alloc (Obj.cells #[.int .i64 0,.slice none 0 0] 80)) GY #[.int .i64 0,.slice none 0 0] 80 := by rw [← hGY]; exact Blk.new U0 _ _
            have LGY : wr.heap.size ≤ GY := by rw [← hGY]; exact hS.size
            have hS1 : Below wr.heap.size wr (U0.alloc (Obj.cells #[.int .i64 0,.slice none 0 0] 80)) := (hS.trans ((bra _).mono hS.size));simp only [zsA,zsZ,zsS]
            try simp only [hGY]
            clear hGY hS;generalize (U0.alloc (Obj.cells #[.int .i64 0,.slice none 0 0] 80)) = U1 at *;have hS := hS1;clear hS1;refine M_rn 10 7 (.pointer (some ⟨U1.heap.size,0,none⟩)) (U1.alloc (Obj.cells #[.int .i64 0,.slice none 0 0] 80)) (bts 14 4095) rfl (by go_simp) (hS.trans ((bra _).mono hS.size)) ?_;obtain ⟨GX,hGX⟩ : ∃ z,U1.heap.size = z := ⟨_,rfl⟩
            have BGX : Blk (U1.alloc (Obj.cells #[.int .i64 0,.slice none 0 0] 80)) GX #[.int .i64 0,.slice none 0 0] 80 := by rw [← hGX]; exact Blk.new U1 _ _
            have LGX : wr.heap.size ≤ GX := by rw [← hGX]; exact hS.size
            have NE : GY < GX := by rw [← hGX]; exact BGY.lt
            replace BGY := BGY.below ((Below.refl _ _).alloc (Nat.le_refl _) (Obj.cells #[.int .i64 0,.slice none 0 0] 80))
            have hS1 : Below wr.heap.size wr (U1.alloc (Obj.cells #[.int .i64 0,.slice none 0 0] 80)) := (hS.trans ((bra _).mono hS.size));simp only [zsA,zsZ,zsS]
            try simp only [hGX]
            clear hGX hS;generalize (U1.alloc (Obj.cells #[.int .i64 0,.slice none 0 0] 80)) = U2 at *;obtain ⟨cx0,cx1⟩ := cl2 BGX;obtain ⟨cy0,cy1⟩ := cl2 BGY;have zx0 := BGX.froz 0;have zx1 := BGX.froz 1;have zy0 := BGY.froz 0;have zy1 := BGY.froz 1
            have ne1 : GX ≠ GY := by omega
            have ne2 : GY ≠ GX := by omega
            obtain ⟨hS3,hfi⟩ := two_set BGX BGY ne1 hS1 LGX LGY (.int .i64 xt) (.slice pt Kt ct) (.int .i64 yt) (.slice pt2 Kt2 ct2);have HFI : Hid _ := hfi;clear hfi;refine M_sT 12 ((U2.setCell ⟨GX,0,none⟩ (.int .i64 xt)).setCell ⟨GX,1,none⟩ (.slice pt Kt ct)) (bts 14 8191) rfl (by go_simp) hS3 ?_;refine M_st 13 ((((U2.setCell ⟨GX,0,none⟩ (.int .i64 xt)).setCell ⟨GX,1,none⟩ (.slice pt Kt ct)).setCell ⟨GY,0,none⟩ (.int .i64 yt)).setCell ⟨GY,1,none⟩ (.slice pt2 Kt2 ct2)) (bts 14 16383) rfl (by go_simp) ?_;clear cx0 cx1 cy0 cy1 zx0 zx1 zy0 zy1 BGX BGY hS3 hS1 LGX LGY;generalize ((((U2.setCell ⟨GX,0,none⟩ (.int .i64 xt)).setCell ⟨GX,1,none⟩ (.slice pt Kt ct)).setCell ⟨GY,0,none⟩ (.int .i64 yt)).setCell ⟨GY,1,none⟩ (.slice pt2 Kt2 ct2)) = W9 at *;refine M_done (by kernel_rfl) ?_ _;go_wp2_with fail
            go_meet
            exact ⟨GX,GY,rfl,rfl,HFI⟩
          case rest =>
           obtain ⟨GX,GY,rfl,rfl,HXY0⟩ := hcut;have hbB : Below wr.heap.size wr wc := HXY0.out.2.2;have hbA : Below w.heap.size w wc := hbel.trans (hbB.mono hbel.size);have hX1 := HXY0.out.1;have hX2 := HXY0.out.2.1;generalize wc = W at *;have HY1 : Hid (Blk W w.heap.size #[.int .i64 K,.int .i64 N,.string S,.slice (some ⟨g,off,none⟩) Ke ce,.slice pr Kr cr] 33) := HB1.out.below hbB;have HY2 : Hid (Blk W (w.heap.size + 1) #[.int .i64 K,.int .i64 N,.string S,.slice (some ⟨g2,off2,none⟩) Ke ce2,.slice pr2 Kr cr2] 33) := HB2.out.below hbB;have HT1 : Hid (TrsIn n' W (.slice pt Kt ct) xl) := T1.out.belowT hbB;have HT2 : Hid (TrsIn m' W (.slice pt2 Kt2 ct2) yl) := T2.out.belowT hbB;clear hbB HB1 HB2 T1 T2 hz1 hz2 hz3 hz4 hbel HXY0;have a0 := hX1.cell 0;have a1 := hX1.cell 1;have b0 := hX2.cell 0;have b1 := hX2.cell 1
           simp at a0 a1 b0 b1
           by_cases ht : xt = yt
           ·subst ht
            by_cases hk : Kt = Kt2
            ·subst hk;have HZ1 : Hid (Blk W GX #[Value.int IntKind.i64 xt,Value.slice pt Kt ct] 80) := hX1;have HZ2 : Hid (Blk W GY #[Value.int IntKind.i64 xt,Value.slice pt2 Kt ct2] 80) := hX2;clear hX1 hX2;go_wp2_with fail;clear a0 a1 b0 b1
             go_loopw [9] (fun iv wz => ∃ j : Nat,iv = .int .i64 (j : Int) ∧ j ≤ Kt ∧ Hid (∀ l,l < j → xl[l]? = yl[l]?) ∧ Below w.heap.size w wz ∧ Below W.heap.size W wz) (fun iv _ => Kt - (intOf iv).toNat)
             case atStart => exact ⟨0,rfl,by omega,(fun j hj => absurd hj (by omega) : ∀ l,l < 0 → xl[l]? = yl[l]?),hbA,Below.refl _ _⟩
             case round =>
              obtain ⟨j,rfl,hj,HL,hbel,hbW⟩ := hrel;have a1 := (HZ1.out.below hbW).cell 1;have b1 := (HZ2.out.below hbW).cell 1
              simp at a1 b1
              by_cases hlt2 : j < Kt
              ·obtain ⟨x,hx⟩ : ∃ r,xl[j]? = some r := ⟨_,List.getElem?_eq_getElem (by rw [HKt.out]; exact hlt2)⟩;obtain ⟨y,hy⟩ : ∃ r,yl[j]? = some r := ⟨_,List.getElem?_eq_getElem (by rw [HKt2.out]; exact hlt2)⟩;obtain ⟨g3,off3,rfl,c1⟩ := (HT1.out.belowT hbW).get hx;obtain ⟨g4,off4,rfl,c2⟩ := (HT2.out.belowT hbW).get hy;obtain ⟨z1,n1,d1,z2,n2,d2,p0,p1,p2,p3,p4,p5⟩ := trs_get c1;obtain ⟨z3,n3,d3,z4,n4,d4,o0,o1,o2,o3,o4,o5⟩ := trs_get c2;have HX2 : Hid (xl[j]? = some x) := hx;have HY2 : Hid (yl[j]? = some y) := hy;clear c1 c2 hx hy
               have HC : Hid (∀ W1,Below wr.heap.size wr W1 → Calls Tryz.prog 15 #[.agg #[.int .i64 x.kind,.int .i64 x.n,.string x.s,.slice z1 n1 d1,.slice z2 n2 d2],.agg #[.int .i64 y.kind,.int .i64 y.n,.string y.s,.slice z3 n3 d3,.slice z4 n4 d4]] W1 fun e W' => SamT x y e ∧ Below wr.heap.size wr W') := fun W1 hW1 => (by
                refine (IH m' x y _ _ W1 (p5.below hW1) (o5.below hW1)).mono ?_;rintro e W' ⟨hR,hb⟩
                exact ⟨hR,hW1.trans (hb.mono hW1.size)⟩ : Calls Tryz.prog _ _ W1 _)
               have HKC : Hid (∀ W1,Below wr.heap.size wr W1 → W1.cell? ⟨GX,1,none⟩ = some (.slice (some ⟨g3,off3,none⟩) Kt ct) ∧ W1.cell? ⟨GY,1,none⟩ = some (.slice (some ⟨g4,off4,none⟩) Kt ct2) ∧ W1.cell? ⟨g3,off3 + j * 5,none⟩ = some (.int .i64 x.kind) ∧ W1.cell? ⟨g3,off3 + j * 5 + 1,none⟩ = some (.int .i64 x.n) ∧ W1.cell? ⟨g3,off3 + j * 5 + 2,none⟩ = some (.string x.s) ∧ W1.cell? ⟨g3,off3 + j * 5 + 3,none⟩ = some (.slice z1 n1 d1) ∧ W1.cell? ⟨g3,off3 + j * 5 + 4,none⟩ = some (.slice z2 n2 d2) ∧ W1.cell? ⟨g4,off4 + j * 5,none⟩ = some (.int .i64 y.kind) ∧ W1.cell? ⟨g4,off4 + j * 5 + 1,none⟩ = some (.int .i64 y.n) ∧ W1.cell? ⟨g4,off4 + j * 5 + 2,none⟩ = some (.string y.s) ∧ W1.cell? ⟨g4,off4 + j * 5 + 3,none⟩ = some (.slice z3 n3 d3) ∧ W1.cell? ⟨g4,off4 + j * 5 + 4,none⟩ = some (.slice z4 n4 d4)) := fun W1 hW => by
                have cc : ∀ p u,wr.cell? p = some u → W1.cell? p = some u := fun p u h => (hW.cell (World.block_lt_of_cell? _ _ h)).trans h
                exact ⟨cc _ _ a1,cc _ _ b1,cc _ _ p0,cc _ _ p1,cc _ _ p2,cc _ _ p3,cc _ _ p4,cc _ _ o0,cc _ _ o1,cc _ _ o2,cc _ _ o3,cc _ _ o4⟩
               clear p0 p1 p2 p3 p4 p5 o0 o1 o2 o3 o4 o5;go_wp2_with fail;clear a1 b1;have hS : Below wr.heap.size wr wr.drew := (Below.refl _ _).drew;refine wp_region_held_drew (S := fun w' => Below wr.heap.size wr w') (by kernel_rfl) hS (fun hS => ?_);refine rg_tk 0 103 (.pointer (some ⟨GX,1,none⟩)) (fun w' hw' => ?_) hS (bts 12 1) ?_
               ·go_simp
               refine rg_tk 1 104 (.slice (some ⟨g3,off3,none⟩) Kt ct) (fun w' hw' => ?_) hS (bts 12 3) ?_
               ·obtain ⟨k1,k2,k3,k4,k5,k6,k7,k8,k9,k10,k11,k12⟩ := HKC.out _ hw'; go_simp
               refine rg_tk 2 105 (.int .i64 (j : Int)) (fun w' hw' => ?_) hS (bts 12 7) ?_
               ·go_simp
               refine rg_tk 3 106 (.pointer (some ⟨g3,off3 + j * 5,none⟩)) (fun w' hw' => ?_) hS (bts 12 15) ?_
               ·go_simp
               refine rg_tk 4 107 (.agg #[.int .i64 x.kind,.int .i64 x.n,.string x.s,.slice z1 n1 d1,.slice z2 n2 d2]) (fun w' hw' => ?_) hS (bts 12 31) ?_
               ·obtain ⟨k1,k2,k3,k4,k5,k6,k7,k8,k9,k10,k11,k12⟩ := HKC.out _ hw'; go_simp
               refine rg_tk 5 108 (.pointer (some ⟨GY,1,none⟩)) (fun w' hw' => ?_) hS (bts 12 63) ?_
               ·go_simp
               refine rg_tk 6 109 (.slice (some ⟨g4,off4,none⟩) Kt ct2) (fun w' hw' => ?_) hS (bts 12 127) ?_
               ·obtain ⟨k1,k2,k3,k4,k5,k6,k7,k8,k9,k10,k11,k12⟩ := HKC.out _ hw'; go_simp
               refine rg_tk 7 110 (.int .i64 (j : Int)) (fun w' hw' => ?_) hS (bts 12 255) ?_
               ·go_simp
               refine rg_tk 8 111 (.pointer (some ⟨g4,off4 + j * 5,none⟩)) (fun w' hw' => ?_) hS (bts 12 511) ?_
               ·go_simp
               refine rg_tk 9 112 (.agg #[.int .i64 y.kind,.int .i64 y.n,.string y.s,.slice z3 n3 d3,.slice z4 n4 d4]) (fun w' hw' => ?_) hS (bts 12 1023) ?_
               ·obtain ⟨k1,k2,k3,k4,k5,k6,k7,k8,k9,k10,k11,k12⟩ := HKC.out _ hw'; go_simp
               refine rg_cl 10 113 15 #[.agg #[.int .i64 x.kind,.int .i64 x.n,.string x.s,.slice z1 n1 d1,.slice z2 n2 d2],.agg #[.int .i64 y.kind,.int .i64 y.n,.string y.s,.slice z3 n3 d3,.slice z4 n4 d4]] (bts 12 2047) rfl (fun W => by go_simp) ?_;refine (HC.out _ hS).mono ?_;rintro e W1 ⟨⟨RB,rfl,hRB⟩,hW1⟩;have HRB : Hid (RB = true ↔ x = y) := hRB;have hS : Below wr.heap.size wr W1 := hW1;clear hRB;refine ⟨_,rfl,hS,?_⟩;simp only [zsA,zsZ,zsS];refine rg_tk 11 114 (.bool (!RB)) (fun w' hw' => ?_) hS (bts 12 4095) ?_
               ·go_simp
               refine wpAnyH_done (by kernel_rfl) ?_ _;have hb1 := hbel.trans (hS.mono hbel.size);have hb2 := hbW.trans (hS.mono hbW.size);clear HKC HC hS hW1 hbel hbW
               cases RB with
               | true =>
                have HXY : Hid (x = y) := HRB.out.1 rfl;go_wp2_with fail
                go_roundw
                case rel => exact ⟨j + 1,by go_num,by omega,(fun l hl => by
                 rcases Nat.lt_or_eq_of_le (Nat.le_of_lt_succ hl) with h | h
                 ·exact HL.out l h
                 ·subst h; rw [HX2.out,HY2.out,HXY.out] : ∀ l,l < j + 1 → xl[l]? = yl[l]?),hb1,hb2⟩
                case measure => simp [intOf]; omega
               | false =>
                have HNE : Hid (a ≠ b) := hid (fun e => absurd (HRB.out.2 (by
                 have h1 := HX.out;rw [e,HY.out] at h1;have h2 := (Prod.mk.inj (Option.some.inj h1)).2;have h3 := HX2.out;rw [← h2,HY2.out] at h3
                 exact (Option.some.inj h3).symm)) (by decide))
                go_wp2_with fail;go_ret;exact ⟨sam_no HNE.out,hb1⟩
              ·have hle : xl = yl := list_ext (by rw [HKt.out,HKt2.out]) (fun l hl => HL.out l (by rw [HKt.out] at hl; omega));have HLE : Hid (xl = yl) := hle;clear hle HL;go_wp2_with fail;clear a1 b1
               go_roundw
               case rel => exact ⟨i + 1,by go_num,by omega,(fun l hl => by
                 rcases Nat.lt_or_eq_of_le (Nat.le_of_lt_succ hl) with h | h
                 ·exact HJ.out l h
                 ·subst h; rw [HX.out,HY.out,HLE.out] : ∀ l,l < i + 1 → a.es[l]? = b.es[l]?),hbel,HY1.out.below hbW,HY2.out.below hbW⟩
               case measure => simp [intOf]; omega
            ·have hne : a ≠ b := fun e => hk (by
              have h1 := HX.out;rw [e,HY.out] at h1;have h2 := (Prod.mk.inj (Option.some.inj h1)).2
              rw [← HKt.out,← HKt2.out,h2])
             have hd : ((Kt : Int) != (Kt2 : Int)) = true := by simp; omega
             clear hX1 hX2 HX HY HKt HKt2;go_wp2_with fail;go_ret;exact ⟨sam_no hne,hbA⟩
           ·have hne : a ≠ b := fun e => ht (by
             have h1 := HX.out;rw [e,HY.out] at h1
             exact (Prod.mk.inj (Option.some.inj h1)).1.symm)
            have hd : (xt != yt) = true := by simpa using ht
            clear hX1 hX2 HX HY HKt HKt2;go_wp2_with fail;go_ret;exact ⟨sam_no hne,hbA⟩
         ·have hje : a.es = b.es := list_ext (by rw [HKe.out,HKe2.out]) (fun j hj => HJ.out j (by rw [HKe.out] at hj; omega));have hab : a = b := tr_ext HK.out.1 HK.out.2.1 HK.out.2.2 hje HJE.out;clear hje HJ HB1 HB2 HJE;have HAB : Hid (a = b) := hab;clear hab;go_wp2_with fail;go_ret;exact ⟨sam_yes HAB.out,hbel⟩
     ·have hne : a ≠ b := fun e => hr (by rw [← HKr.out,← HKr2.out,e])
      have hd : ((Kr : Int) != (Kr2 : Int)) = true := by simp; omega
      subst he;rw [← hk,← hn,← hs];clear hk hn hs hr;obtain ⟨K,hK⟩ : ∃ K,a.kind = K := ⟨_,rfl⟩;obtain ⟨N,hN⟩ : ∃ K,a.n = K := ⟨_,rfl⟩;obtain ⟨S,hS⟩ : ∃ K,a.s = K := ⟨_,rfl⟩;rw [hK,hN,hS];clear hK hN hS
      go_enter Tryz.func15,Tryz.ntmps15
      go_wp2_with fail;go_ret;exact ⟨sam_no hne,(bra _).alloc (by simp) _⟩
    ·have hne : a ≠ b := fun e => he (by rw [← HKe.out,← HKe2.out,e])
     have hd : ((Ke : Int) != (Ke2 : Int)) = true := by simp; omega
     rw [← hk,← hn,← hs];clear hk hn hs he;obtain ⟨K,hK⟩ : ∃ K,a.kind = K := ⟨_,rfl⟩;obtain ⟨N,hN⟩ : ∃ K,a.n = K := ⟨_,rfl⟩;obtain ⟨S,hS⟩ : ∃ K,a.s = K := ⟨_,rfl⟩;rw [hK,hN,hS];clear hK hN hS
     go_enter Tryz.func15,Tryz.ntmps15
     go_wp2_with fail;go_ret;exact ⟨sam_no hne,(bra _).alloc (by simp) _⟩
   ·have hne : a ≠ b := fun e => hs (by rw [e])
    have hd : (a.s.toList == b.s.toList) = false := by simpa using fun h => hs (toList_ext h)
    rw [← hk,← hn];clear hk hn hs;obtain ⟨K,hK⟩ : ∃ K,a.kind = K := ⟨_,rfl⟩;obtain ⟨N,hN⟩ : ∃ K,a.n = K := ⟨_,rfl⟩;obtain ⟨S,hS⟩ : ∃ K,a.s = K := ⟨_,rfl⟩;obtain ⟨S2,hS2⟩ : ∃ K,b.s = K := ⟨_,rfl⟩;rw [hS,hS2] at hd;rw [hK,hN,hS,hS2];clear hK hN hS hS2
    go_enter Tryz.func15,Tryz.ntmps15
    go_wp2_with fail;go_ret;exact ⟨sam_no hne,(bra _).alloc (by simp) _⟩
  ·have hne : a ≠ b := fun e => hn (by rw [e])
   have hd : (a.n != b.n) = true := by simpa using hn
   rw [← hk];clear hk hn;obtain ⟨K,hK⟩ : ∃ K,a.kind = K := ⟨_,rfl⟩;obtain ⟨N,hN⟩ : ∃ K,a.n = K := ⟨_,rfl⟩;obtain ⟨N2,hN2⟩ : ∃ K,b.n = K := ⟨_,rfl⟩;rw [hN,hN2] at hd;rw [hK,hN,hN2];clear hK hN hN2
   go_enter Tryz.func15,Tryz.ntmps15
   go_wp2_with fail;go_ret;exact ⟨sam_no hne,(bra _).alloc (by simp) _⟩
 ·have hne : a ≠ b := fun e => hk (by rw [e])
  obtain ⟨K,hK⟩ : ∃ K,a.kind = K := ⟨_,rfl⟩;obtain ⟨K2,hK2⟩ : ∃ K,b.kind = K := ⟨_,rfl⟩;rw [hK,hK2] at hk ⊢
  have h1 : (K != K2) = true := by simpa using hk
  clear hK hK2 hk
  go_enter Tryz.func15,Tryz.ntmps15
  go_wp2_with fail;go_ret;exact ⟨sam_no hne,(bra _).alloc (by simp) _⟩
theorem rsame_any : ∀ (n m : Nat) (a b : Tr) (va vb : Value) (w : World),TrIn n w va a → TrIn m w vb b → Calls Tryz.prog 15 #[va,vb] w fun e w' => SamT a b e ∧ Below w.heap.size w w'
 | 0,_,a,_,_,_,_,ha,_ => by obtain ⟨r,_,h⟩ := ha; exact h.elim
 | n + 1,m,a,b,va,vb,w,ha,hb => rsame_step n m (fun m' a b va vb w ha hb => rsame_any n m' a b va vb w ha hb) a b va vb w ha hb
theorem TrO.trIn {n B : Nat} {w : World} {r : List Value} {t : Tr} {bs : List Nat} (h : TrO n B w r t bs) : TrIn n w (.agg r.toArray) t := ⟨r,rfl,h.trC⟩
theorem rsame_eq {n m : Nat} {t : Tr} {va vb : Value} {w : World} (ha : TrIn n w va t) (hb : TrIn m w vb t) : Calls Tryz.prog 15 #[va,vb] w fun e w' => e = .returned (.bool true) ∧ Below w.heap.size w w' := by
 refine (rsame_any n m t t va vb w ha hb).mono ?_;rintro e w' ⟨⟨R,rfl,h⟩,hb⟩;have : R = true := h.2 rfl;subst this;exact ⟨rfl,hb⟩
theorem mtr_lenD (ms : List MtS) : ∀ r ∈ mtRows ms,r.length = 3 := fun r hr => by
 simp only [mtRows,List.mem_map] at hr;obtain ⟨_,_,rfl⟩ := hr
 rfl
theorem schemaD_any {w : World} {v : Value} {s : ScS} (hr : ScIn w v s) (hf : FewL s) : Calls Tryz.prog 12 #[v] w fun e w' => ∃ r,e = .returned r ∧ ScIn w' r s ∧ Below w.heap.size w w' :=
 (schema_any hr hf).mono fun e w' ⟨vm,ve,vt,pm,pe,h1,h2,h3,h4,h5⟩ => ⟨_,h1,⟨vm,ve,vt,rfl,h2.to_in,h3.to_in,(RowG.own (mtr_lenD _) (by decide) h4).1⟩,h5⟩
theorem decodeAll_walk (v : Value) (s : ScS) (nm : ByteArray) (ba : Option Addr) (BL bc : Nat) (zs : List Int) (w : World) (hr : ScIn w v s) (hw : ScW s) (hnm : nm.size ≤ 140737488351232) (hI : IsRow .u8 w ba BL bc zs) (hcap : bc * Tryz.prog.bytesOf 5 ≤ 140737488351232) :
  Calls Tryz.prog 3 #[v,.string nm,.slice ba BL bc] w fun e w' => e = .returned (.bool true) ∧ Below w.heap.size w w' := by
 obtain ⟨ns,hnl,hnh,hnb,hbl,hbc,hbn⟩ := row_holds hI hcap
 have hadr : ns = [] ∨ ∃ g off,ba = some ⟨g,off,none⟩ := by
  rcases hI with ⟨h1,h2,h3,h4⟩ | ⟨x,h1,h2,h3,h4,h5,h6⟩
  ·exact .inl (List.eq_nil_of_length_eq_zero (by omega))
  ·by_cases h0 : BL = 0
   ·exact .inl (List.eq_nil_of_length_eq_zero (by omega))
   ·obtain ⟨g,off,hq,_⟩ := ints_at h5 (by omega);exact .inr ⟨g,off,by rw [h1,hq]⟩
 have HNB : Hid (ns.length = BL ∧ Holds w ba ns ∧ (∀ k ∈ ns,k < 256) ∧ (ba = none → ns = [] ∧ bc = 0)) := ⟨hnl,hnh,hnb,hbn⟩;have HBS : Hid (ByS w (.slice ba BL bc) ns) := ⟨ba,bc,by rw [hnl],hnh,hnb,by omega,by unfold maxLen; omega,hadr⟩;have hs' := hr;obtain ⟨vm,ve,vt,rfl,hms,hen,hmt⟩ := hr;obtain ⟨ma,mc,rfl, -⟩ := hms.open;obtain ⟨ea,ec,rfl, -⟩ := hen.open;obtain ⟨ta,tn,tc,rfl⟩ := row_sliceD hmt;generalize s.msgs.length = mn at *;generalize s.enums.length = en at *;obtain ⟨sn,hsn⟩ : ∃ z,s.name = z := ⟨_,rfl⟩;rw [hsn] at hs' ⊢;have HSC : Hid (ScIn w (.agg #[.string sn,.slice ma mn mc,.slice ea en ec,.slice ta tn tc]) s) := hs';have HSW : Hid (ScW s) := hw;have al : Below w.heap.size w (w.alloc (Obj.cells #[.string sn,.slice ma mn mc,.slice ea en ec,.slice ta tn tc] 26)) := bra _;have BS : Blk (w.alloc (Obj.cells #[.string sn,.slice ma mn mc,.slice ea en ec,.slice ta tn tc] 26)) w.heap.size #[.string sn,.slice ma mn mc,.slice ea en ec,.slice ta tn tc] 26 := Blk.new w _ _;have HFW : Hid (Calls Tryz.prog 9 #[.agg #[.string sn,.slice ma mn mc,.slice ea en ec,.slice ta tn tc]] (w.alloc (Obj.cells #[.string sn,.slice ma mn mc,.slice ea en ec,.slice ta tn tc] 26)) fun e w' => FewP s e ∧ Below (w.alloc (Obj.cells #[.string sn,.slice ma mn mc,.slice ea en ec,.slice ta tn tc] 26)).heap.size (w.alloc (Obj.cells #[.string sn,.slice ma mn mc,.slice ea en ec,.slice ta tn tc] 26)) w') := few_any (hs'.below al) hw;clear hI hcap hs' hms hen hmt hsn hw hnl hnh hnb hbn hadr
 go_enter Tryz.func3,Tryz.ntmps3
 go_wp2_with fail;refine HFW.out.mono ?_;rintro e w2 ⟨hfw,hb2⟩;have hbw2 : Below w.heap.size w w2 := al.trans (hb2.mono al.size);have BS2 := BS.below hb2;clear hb2 al BS HFW
 rcases hfw with rfl | ⟨rfl,hfs⟩
 ·clear BS2;go_wp2_with fail;refine (dcawake_any _).mono ?_;rintro e wz ⟨rfl,hbz⟩;have hbwz : Below w.heap.size w wz := hbw2.trans (hbz.mono hbw2.size);clear hbz;go_wp2_with fail;go_ret;exact ⟨rfl,hbwz⟩
 have HFS : Hid (FewS s) := hfs;have HCS : Hid (∀ W,Below w.heap.size w W → Calls Tryz.prog 12 #[.agg #[.string sn,.slice ma mn mc,.slice ea en ec,.slice ta tn tc]] W fun e w' => ∃ r,e = .returned r ∧ ScIn w' r s ∧ Below W.heap.size W w') := fun W hW => schemaD_any (HSC.out.below hW) hfs.few
 have HBB : Hid (∀ W,Below w.heap.size w W → Calls Tryz.prog 13 #[.slice ba BL bc] W fun e w' => ∃ r,e = .returned r ∧ w'.ownsRow W.heap.size 5 1 r BL (byteCells ns) ∧ Below W.heap.size W w') := fun W hW => bytes_any ba ns bc BL W HNB.out.1 (by omega) HNB.out.2.2.2 (HNB.out.2.1.below hW)
 obtain ⟨s0,s1,s2,s3⟩ := cl4 BS2;clear hfs;go_wp2_with fail;refine (HCS.out w2 hbw2).mono ?_;rintro e w3 ⟨sv,rfl,hsv,hb3⟩;have hbw3 : Below w.heap.size w w3 := hbw2.trans (hb3.mono hbw2.size);have HSV : Hid (ScIn w3 sv s) := hsv;have BS3 := BS2.below hb3;clear hb3 hsv BS2 s0 s1 s2 s3;go_wp2_with fail;refine (HBB.out w3 hbw3).mono ?_;rintro e w4 ⟨rb,rfl,hob,hb4⟩;have hbw4 : Below w.heap.size w w4 := hbw3.trans (hb4.mono hbw3.size);obtain ⟨R,hR⟩ : ∃ R,decA s nm ns = R := ⟨_,rfl⟩;have HRR : Hid (decA s nm ns = R) := hR
 have HDE : Hid (Calls Tryz.prog 11 #[sv,.string nm,rb] w4 (DtrP 11 R w4)) := (by
  have h1 := decode_any (HSV.out.below hb4) HSW.out HFS.out.few (ByS.own hob HNB.out.2.2.1) (nm := nm);rw [hR] at h1
  exact h1 : Calls Tryz.prog _ _ _ _)
 have BS4 := BS3.below hb4;clear hR hob hb4 BS3 HSV hbw3;go_wp2_with fail;refine HDE.out.mono ?_;rintro e w5 ⟨r5,bs5,rfl,ht5,hap5,hb5⟩;have hbw5 : Below w.heap.size w w5 := hbw4.trans (hb5.mono hbw4.size);have BS5 := BS4.below hb5;have hTI5 := ht5.trIn;obtain ⟨a1,n1,c1,a2,n2,c2,rfl⟩ := ht5.open;clear HDE ht5 hap5 hb5 BS4 hbw4;obtain ⟨T,E0⟩ := R;simp only at hTI5 ⊢;obtain ⟨K2,hK2⟩ : ∃ z,T.kind = z := ⟨_,rfl⟩;obtain ⟨N2,hN2⟩ : ∃ z,T.n = z := ⟨_,rfl⟩;obtain ⟨S2,hS2⟩ : ∃ z,T.s = z := ⟨_,rfl⟩;have HKS : Hid (T.kind = K2 ∧ T.n = N2 ∧ T.s = S2) := ⟨hK2,hN2,hS2⟩;rw [hK2,hN2,hS2] at hTI5 ⊢;clear hK2 hN2 hS2;have al6 : Below w5.heap.size w5 (w5.alloc (Obj.cells #[.int .i64 K2,.int .i64 N2,.string S2,.slice a1 n1 c1,.slice a2 n2 c2] 33)) := bra _;have hbw6 : Below w.heap.size w (w5.alloc (Obj.cells #[.int .i64 K2,.int .i64 N2,.string S2,.slice a1 n1 c1,.slice a2 n2 c2] 33)) := hbw5.trans (al6.mono hbw5.size);have BT6 : Blk (w5.alloc (Obj.cells #[.int .i64 K2,.int .i64 N2,.string S2,.slice a1 n1 c1,.slice a2 n2 c2] 33)) w5.heap.size #[.int .i64 K2,.int .i64 N2,.string S2,.slice a1 n1 c1,.slice a2 n2 c2] 33 := Blk.new w5 _ _;have BS6 := BS5.below al6;have HTI6 : Hid (TrIn 11 (w5.alloc (Obj.cells #[.int .i64 K2,.int .i64 N2,.string S2,.slice a1 n1 c1,.slice a2 n2 c2] 33)) (.agg #[.int .i64 K2,.int .i64 N2,.string S2,.slice a1 n1 c1,.slice a2 n2 c2]) T) := hTI5.below al6
 have HRD : Hid (Calls Tryz.prog 14 #[.agg #[.string sn,.slice ma mn mc,.slice ea en ec,.slice ta tn tc],.string nm,.slice ba BL bc] (w5.alloc (Obj.cells #[.int .i64 K2,.int .i64 N2,.string S2,.slice a1 n1 c1,.slice a2 n2 c2] 33)) (DtrP 11 (T,E0) (w5.alloc (Obj.cells #[.int .i64 K2,.int .i64 N2,.string S2,.slice a1 n1 c1,.slice a2 n2 c2] 33)))) := (by
  have h1 := r12decode_any (HSC.out.below hbw6) HFS.out (HBS.out.below hbw6) (nm := nm);rw [HRR.out] at h1
  exact h1 : Calls Tryz.prog _ _ _ _)
 have ltS := BS5.lt;obtain ⟨s0,s1,s2,s3⟩ := cl4 BS5;clear hTI5 BS5 al6 hbw5;go_wp2_with fail;refine HRD.out.mono ?_;rintro e w7 ⟨r7,bs7,rfl,ht7,hap7,hb7⟩;have hbw7 : Below w.heap.size w w7 := hbw6.trans (hb7.mono hbw6.size);have hTI7 := ht7.trIn;obtain ⟨y1,m1,d1,y2,m2,d2,rfl⟩ := ht7.open;have BT7 := BT6.below hb7;have BS7 := BS6.below hb7;have HTX : Hid (TrIn 11 w7 (.agg #[.int .i64 K2,.int .i64 N2,.string S2,.slice a1 n1 c1,.slice a2 n2 c2]) T) := HTI6.out.below hb7;clear HRD ht7 hap7 hb7 BT6 BS6 HTI6 hbw6 s0 s1 s2 s3 ltS;simp only at hTI7 ⊢;rw [HKS.out.1,HKS.out.2.1,HKS.out.2.2] at hTI7 ⊢;have al8 : Below w7.heap.size w7 (w7.alloc (Obj.cells #[.int .i64 K2,.int .i64 N2,.string S2,.slice y1 m1 d1,.slice y2 m2 d2] 33)) := bra _;have hbw8 : Below w.heap.size w (w7.alloc (Obj.cells #[.int .i64 K2,.int .i64 N2,.string S2,.slice y1 m1 d1,.slice y2 m2 d2] 33)) := hbw7.trans (al8.mono hbw7.size);have BU8 : Blk (w7.alloc (Obj.cells #[.int .i64 K2,.int .i64 N2,.string S2,.slice y1 m1 d1,.slice y2 m2 d2] 33)) w7.heap.size #[.int .i64 K2,.int .i64 N2,.string S2,.slice y1 m1 d1,.slice y2 m2 d2] 33 := Blk.new w7 _ _;have BT8 := BT7.below al8;have BS8 := BS7.below al8;have HTT : Hid (TrIn 11 (w7.alloc (Obj.cells #[.int .i64 K2,.int .i64 N2,.string S2,.slice y1 m1 d1,.slice y2 m2 d2] 33)) (.agg #[.int .i64 K2,.int .i64 N2,.string S2,.slice a1 n1 c1,.slice a2 n2 c2]) T ∧ TrIn 11 (w7.alloc (Obj.cells #[.int .i64 K2,.int .i64 N2,.string S2,.slice y1 m1 d1,.slice y2 m2 d2] 33)) (.agg #[.int .i64 K2,.int .i64 N2,.string S2,.slice y1 m1 d1,.slice y2 m2 d2]) T) := ⟨HTX.out.below al8,hTI7.below al8⟩;clear hTI7 HTX al8 BT7 BS7 hbw7;go_wp2_with fail;obtain ⟨b0,hb0⟩ : ∃ z,w.heap.size = z := ⟨_,rfl⟩;have HBZ : Hid (w.heap.size = b0) := hb0;obtain ⟨b5,hb5⟩ : ∃ z,w5.heap.size = z := ⟨_,rfl⟩;obtain ⟨b7,hb7⟩ : ∃ z,w7.heap.size = z := ⟨_,rfl⟩;rw [hb7] at BU8;rw [hb5] at BT8;rw [hb0] at BS8
 try simp only [hb7]
 try simp only [hb5]
 try simp only [hb0]
 clear hb7 hb5 hb0;generalize (w7.alloc (Obj.cells #[.int .i64 K2,.int .i64 N2,.string S2,.slice y1 m1 d1,.slice y2 m2 d2] 33)) = W8 at *;have HB8 : Hid (Blk W8 b5 #[.int .i64 K2,.int .i64 N2,.string S2,.slice a1 n1 c1,.slice a2 n2 c2] 33 ∧ Blk W8 b7 #[.int .i64 K2,.int .i64 N2,.string S2,.slice y1 m1 d1,.slice y2 m2 d2] 33 ∧ Blk W8 b0 #[.string sn,.slice ma mn mc,.slice ea en ec,.slice ta tn tc] 26) := ⟨BT8,BU8,BS8⟩;have HW8 : Hid (Below w.heap.size w W8) := hbw8;have HSM : Hid (∀ W,Below W8.heap.size W8 W → Calls Tryz.prog 15 #[.agg #[.int .i64 K2,.int .i64 N2,.string S2,.slice a1 n1 c1,.slice a2 n2 c2],.agg #[.int .i64 K2,.int .i64 N2,.string S2,.slice y1 m1 d1,.slice y2 m2 d2]] W fun e w' => e = .returned (.bool true) ∧ Below W.heap.size W w') := fun W hW => rsame_eq (HTT.out.1.below hW) (HTT.out.2.below hW)
 obtain ⟨C,hC⟩ : ∃ z,canA s nm ns = z := ⟨_,rfl⟩;have HCC : Hid (canA s nm ns = C) := hC
 have HRC : Hid (∀ W,Below W8.heap.size W8 W → Calls Tryz.prog 17 #[.agg #[.string sn,.slice ma mn mc,.slice ea en ec,.slice ta tn tc],.string nm,.slice ba BL bc] W fun e w' => e = .returned (.bool C) ∧ Below W.heap.size W w') := fun W hW => by
  have hb := HW8.out.trans (hW.mono HW8.out.size);have h1 := r12canonical_any (HSC.out.below hb) HFS.out (HBS.out.below hb) (nm := nm);rw [HCC.out] at h1;exact h1
 clear BT8 BU8 BS8 hbw8 hC HTT;refine M_region (T := fun W => Below W8.heap.size W8 W) (m := 24) (by kernel_rfl) ?_;have hS : Below W8.heap.size W8 W8.drew := (Below.refl _ _).drew;refine M_tk 0 31 (.agg #[.int .i64 K2,.int .i64 N2,.string S2,.slice a1 n1 c1,.slice a2 n2 c2]) (fun w' hw' => ?_) hS (bts 25 1) ?_
 ·have HB := (HB8.out.1).below hw'; obtain ⟨f0,f1,f2,f3,f4⟩ := cl5 HB; go_simp
 refine M_tk 1 32 (.agg #[.int .i64 K2,.int .i64 N2,.string S2,.slice y1 m1 d1,.slice y2 m2 d2]) (fun w' hw' => ?_) hS (bts 25 3) ?_
 ·have HB := (HB8.out.2.1).below hw'; obtain ⟨f0,f1,f2,f3,f4⟩ := cl5 HB; go_simp
 refine M_cl 2 33 15 #[.agg #[.int .i64 K2,.int .i64 N2,.string S2,.slice a1 n1 c1,.slice a2 n2 c2],.agg #[.int .i64 K2,.int .i64 N2,.string S2,.slice y1 m1 d1,.slice y2 m2 d2]] (bts 25 7) rfl (fun W => by go_simp) ?_;refine (HSM.out _ hS).mono ?_;rintro e W1 ⟨rfl,hb9⟩;have hS0 := hS;have hS : Below W8.heap.size W8 W1 := hS0.trans (hb9.mono hS0.size);clear hS0 hb9;refine ⟨_,rfl,hS,?_⟩;simp only [zsA,zsZ,zsS];refine M_tk 3 34 (.bool true) (fun w' hw' => ?_) hS (bts 25 15) ?_
 ·go_simp
 refine M_tk 4 35 (.int .i64 E0) (fun w' hw' => ?_) hS (bts 25 31) ?_
 ·go_simp
 refine M_tk 5 36 (.int .i64 E0) (fun w' hw' => ?_) hS (bts 25 63) ?_
 ·go_simp
 refine M_tk 6 37 (.bool true) (fun w' hw' => ?_) hS (bts 25 127) ?_
 ·go_simp
 refine M_tk 7 38 (.bool true) (fun w' hw' => ?_) hS (bts 25 255) ?_
 ·go_simp
 refine M_tk 8 39 (.bool true) (fun w' hw' => ?_) hS (bts 25 511) ?_
 ·go_simp
 refine M_tk 9 40 (.agg #[.string sn,.slice ma mn mc,.slice ea en ec,.slice ta tn tc]) (fun w' hw' => ?_) hS (bts 25 1023) ?_
 ·have HB := (HB8.out.2.2).below hw'; obtain ⟨f0,f1,f2,f3⟩ := cl4 HB; go_simp
 refine M_tk 11 42 (.string nm) (fun w' hw' => ?_) hS (bts 25 3071) ?_
 ·go_simp
 refine M_tk 12 43 (.slice ba BL bc) (fun w' hw' => ?_) hS (bts 25 7167) ?_
 ·go_simp
 refine M_tk 15 46 (.agg #[.string sn,.slice ma mn mc,.slice ea en ec,.slice ta tn tc]) (fun w' hw' => ?_) hS (bts 25 39935) ?_
 ·have HB := (HB8.out.2.2).below hw'; obtain ⟨f0,f1,f2,f3⟩ := cl4 HB; go_simp
 refine M_tk 16 47 (.string nm) (fun w' hw' => ?_) hS (bts 25 105471) ?_
 ·go_simp
 refine M_tk 17 48 (.slice ba BL bc) (fun w' hw' => ?_) hS (bts 25 236543) ?_
 ·go_simp
 refine M_cl 10 41 12 #[.agg #[.string sn,.slice ma mn mc,.slice ea en ec,.slice ta tn tc]] (bts 25 237567) rfl (fun W => by go_simp) ?_;refine (HCS.out _ (HW8.out.trans (hS.mono HW8.out.size))).mono ?_;rintro e W2 ⟨sv2,rfl,hsv2,hb9⟩;have HSV2 : Hid (ScIn W2 sv2 s) := hsv2;have hS0 := hS;have hS : Below W8.heap.size W8 W2 := hS0.trans (hb9.mono hS0.size);clear hS0 hb9 hsv2;refine ⟨_,rfl,hS,?_⟩;simp only [zsA,zsZ,zsS];refine M_cl 13 44 13 #[.slice ba BL bc] (bts 25 245759) rfl (fun W => by go_simp) ?_;refine (HBB.out _ (HW8.out.trans (hS.mono HW8.out.size))).mono ?_;rintro e W3 ⟨rb2,rfl,hob2,hb9⟩
 have HCA : Hid (Calls Tryz.prog 16 #[sv2,.string nm,rb2] W3 fun e w' => e = .returned (.bool C) ∧ Below W3.heap.size W3 w') := (by
  have h1 := canonical_any (HSV2.out.below hb9) HSW.out HFS.out.few (ByS.own hob2 HNB.out.2.2.1) (nm := nm);rw [HCC.out] at h1
  exact h1 : Calls Tryz.prog _ _ _ _)
 have hS0 := hS;have hS : Below W8.heap.size W8 W3 := hS0.trans (hb9.mono hS0.size);clear hS0 hb9 hob2 HSV2;refine ⟨_,rfl,hS,?_⟩;simp only [zsA,zsZ,zsS];refine M_cl 14 45 16 #[sv2,.string nm,rb2] (bts 25 262143) rfl (fun W => by go_simp) ?_;refine HCA.out.mono ?_;rintro e W4 ⟨rfl,hb9⟩;have hS0 := hS;have hS : Below W8.heap.size W8 W4 := hS0.trans (hb9.mono hS0.size);clear hS0 hb9 HCA;refine ⟨_,rfl,hS,?_⟩;simp only [zsA,zsZ,zsS];refine M_cl 18 49 17 #[.agg #[.string sn,.slice ma mn mc,.slice ea en ec,.slice ta tn tc],.string nm,.slice ba BL bc] (bts 25 524287) rfl (fun W => by go_simp) ?_;refine (HRC.out _ hS).mono ?_;rintro e W5 ⟨rfl,hb9⟩;have hS0 := hS;have hS : Below W8.heap.size W8 W5 := hS0.trans (hb9.mono hS0.size);clear hS0 hb9;refine ⟨_,rfl,hS,?_⟩;simp only [zsA,zsZ,zsS];refine M_tk 19 50 (.bool true) (fun w' hw' => ?_) hS (bts 25 1048575) ?_
 ·go_simp
 refine M_tk 20 51 (.bool true) (fun w' hw' => ?_) hS (bts 25 2097151) ?_
 ·go_simp
 refine M_tk 21 52 (.bool true) (fun w' hw' => ?_) hS (bts 25 4194303) ?_
 ·go_simp
 refine M_cl 22 53 10 #[] (bts 25 8388607) rfl (fun W => by go_simp) ?_;refine (dcawake_any _).mono ?_;rintro e W6 ⟨rfl,hb9⟩;have hS0 := hS;have hS : Below W8.heap.size W8 W6 := hS0.trans (hb9.mono hS0.size);clear hS0 hb9;refine ⟨_,rfl,hS,?_⟩;simp only [zsA,zsZ,zsS];refine M_tk 23 54 (.bool true) (fun w' hw' => ?_) hS (bts 25 16777215) ?_
 ·go_simp
 refine M_rA 24 6 (.bool true) W6 (bts 25 33554431) rfl (by go_simp) ?_;simp only [zsA,zsZ,zsS];refine M_done (by kernel_rfl) ?_ _;have hbe : Below w.heap.size w W6 := HW8.out.trans (hS.mono HW8.out.size);clear hS HSM HRC;go_wp2_with fail;go_ret;exact ⟨rfl,hbe⟩
end
end Go.Proofs.YtiajaocckkghgaaGreat
