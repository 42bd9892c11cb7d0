/- Part 5 of what the proof stands on. -/
import Derived.Test.YtdkolhfpfimeoaaPkFAD
import Derived.Shelf.SortM.Plain
import Derived.Shelf.SortM.SortNone
import Derived.Ground.SlgmProg
import Derived.Sort.OwnSortedInts
import Derived.Deep.CutRange
import Derived.WalkMore
namespace Go.Proofs.Ytdkolhfpfimeoaa
set_option maxHeartbeats 8000000
set_option linter.unusedVariables false
set_option linter.unusedSimpArgs false
set_option maxRecDepth 20000
section
open Go.ChangeShapes Go.WideShapes Go.ChangeAt Go.RowKit Go.Maps
def MKeepP (S1 S2 : List Value) (W0 : World) (b mb : Nat) (vp : Value) (l : List Pr) (o : Option (Option Pr)) (w : World) (e : Ending) (w' : World) : Prop := e = .returned (.bool o.isSome) ∧ ∃ vp',Meet S1 S2 W0 w' b mb vp' (addO l (o.getD none)) ∧ Kp (MeB b mb vp) w w'
theorem MKeepP.same {S1 S2 : List Value} {W0 : World} {b mb : Nat} {vp : Value} {l : List Pr} {o : Option (Option Pr)} {w w' : World} {r : Bool} (h : Meet S1 S2 W0 w b mb vp l) (hb : Below w.heap.size w w') (h1 : o.isSome = r) (h2 : o.getD none = none) : MKeepP S1 S2 W0 b mb vp l o w (.returned (.bool r)) w' :=
 ⟨by rw [h1],vp,by rw [h2]; exact h.bel hb,Kp.ofBelow hb⟩
theorem memI_iffE {x : Int} {l : List Int} : memI x l = true ↔ x ∈ l := by simp [memI]
theorem mkeeps_any {s t : ScS} {sn tn : ByteArray} {sa ea ta sa2 ea2 ta2 : Option Addr} {sl sc el ec tl tc sl2 sc2 el2 ec2 tl2 tc2 : Nat} {W0 w : World} {b mb : Nat} {vp : Value} {l : List Pr} (hs : SIn W0 (.agg #[.string sn,.slice sa sl sc,.slice ea el ec,.slice ta tl tc]) s) (ht : SIn W0 (.agg #[.string tn,.slice sa2 sl2 sc2,.slice ea2 el2 ec2,.slice ta2 tl2 tc2]) t)
  (h : Meet [.string sn,.slice sa sl sc,.slice ea el ec,.slice ta tl tc] [.string tn,.slice sa2 sl2 sc2,.slice ea2 el2 ec2,.slice ta2 tl2 tc2] W0 w b mb vp l) (hl : l.length ≤ 1000) {m n : MsS} {an bn : ByteArray} {vf vg vr : Value} {ra : Option Addr} {rl rc : Nat} (tag : Int) (hfa : RowG w vf 5 (flRows m.fields)) (hfb : RowG w vg 5 (flRows n.fields)) (hrb : RowG w vr 1 (inRows n.reserved))
  (hwa : ∀ f ∈ m.fields,f.tname.size ≤ 140737488351232) (hwb : ∀ f ∈ n.fields,f.tname.size ≤ 140737488351232) :
  Calls Try.prog 39 #[.pointer (some ⟨b,0,none⟩),.agg #[.string an,vf,.slice ra rl rc],.agg #[.string bn,vg,vr],.int .i64 tag] w (MKeepP [.string sn,.slice sa sl sc,.slice ea el ec,.slice ta tl tc] [.string tn,.slice sa2 sl2 sc2,.slice ea2 el2 ec2,.slice ta2 tl2 tc2] W0 b mb vp l (keepA s t m n tag) w) := by
 have HC1 : Hid (∀ W,Below w.heap.size w W → Calls Try.prog 63 #[.agg #[.string bn,vg,vr],.int .i64 tag] W fun e w' => e = .returned (.bool (memI tag n.reserved)) ∧ Below W.heap.size W w') := fun W hW => by
  obtain ⟨fb,gc,rfl, -, -⟩ := hfb.form2;exact creserved_any tag (hrb.below hW)
 have HC2 : Hid (∀ W,Below w.heap.size w W → Calls Try.prog 64 #[.agg #[.string an,vf,.slice ra rl rc],.int .i64 tag] W fun e w' => e = .returned (.tuple #[flV ((fldOf m.fields tag).getD zeroF),.bool (fldOf m.fields tag).isSome]) ∧ Below W.heap.size W w') := fun W hW => cfield_any (hfa.below hW)
 have HC3 : Hid (∀ W,Below w.heap.size w W → Calls Try.prog 64 #[.agg #[.string bn,vg,vr],.int .i64 tag] W fun e w' => e = .returned (.tuple #[flV ((fldOf n.fields tag).getD zeroF),.bool (fldOf n.fields tag).isSome]) ∧ Below W.heap.size W w') := fun W hW => by
  obtain ⟨rb,qc,rfl, -, -⟩ := hrb.form2;exact cfield_any (hfb.below hW)
 have HFT : Hid (∀ W k1 k2 n1 n2,Below W0.heap.size W0 W → Calls Try.prog 14 #[.agg #[.string sn,.slice sa sl sc,.slice ea el ec,.slice ta tl tc],.agg #[.string tn,.slice sa2 sl2 sc2,.slice ea2 el2 ec2,.slice ta2 tl2 tc2],.agg #[.int .i64 k1,.string n1],.agg #[.int .i64 k2,.string n2]] W fun e w' => e = .returned (.bool (fitsY s t k1 n1 k2 n2)) ∧ Below W.heap.size W w') := fun W k1 k2 n1 n2 hW => cfits_any s t _ _ k1 k2 n1 n2 W (hs.below hW) (ht.below hW)
 obtain ⟨X,hX⟩ : ∃ z,fldOf m.fields tag = z := ⟨_,rfl⟩;obtain ⟨Y,hY⟩ : ∃ z,fldOf n.fields tag = z := ⟨_,rfl⟩;obtain ⟨R,hR⟩ : ∃ z,memI tag n.reserved = z := ⟨_,rfl⟩;have HWX : Hid (∀ f,X = some f → f.tname.size ≤ 140737488351232) := fun f e => hwa f (fldP (hX.trans e)).2
 have HWY : Hid (∀ f,Y = some f → f.tname.size ≤ 140737488351232) := fun f e => hwb f (fldP (hY.trans e)).2
 have HKA : Hid (keepA s t m n tag = if R = true then some none else match X,Y with
  | some f,some g => if f.label = g.label ∧ fitsY s t f.kind f.tname g.kind g.tname = true then some (if f.kind = 7 then some (f.tname,g.tname) else none) else none
  | _,_ => none) := (by
  unfold keepA;rw [hX,hY]
  cases R with
  | true => rw [if_pos (memI_iffE.1 hR),if_pos rfl]
  | false =>
   refine (if_neg (fun e => by rw [memI_iffE.2 e] at hR; cases hR)).trans ?_
   cases X <;> cases Y <;> rfl : _ = _)
 rw [hX] at HC2;rw [hY] at HC3;rw [hR] at HC1;generalize keepA s t m n tag = KA at *;obtain ⟨fa,fc,rfl, -, -⟩ := hfa.form2;obtain ⟨fb,gc,rfl, -, -⟩ := hfb.form2;obtain ⟨rb,qc,rfl, -, -⟩ := hrb.form2;generalize (flRows m.fields).length = fl at *;generalize (flRows n.fields).length = gl at *;generalize (inRows n.reserved).length = ql at *;clear hfa hfb hrb hwa hwb hX hY hR;have HM : Hid (Meet [.string sn,.slice sa sl sc,.slice ea el ec,.slice ta tl tc] [.string tn,.slice sa2 sl2 sc2,.slice ea2 el2 ec2,.slice ta2 tl2 tc2] W0 w b mb vp l) := h;have HL : Hid (l.length ≤ 1000) := hl;obtain ⟨pa,pc,rfl⟩ := h.form;obtain ⟨K,hK⟩ : ∃ z,l.length = z := ⟨_,rfl⟩;rw [hK] at HM ⊢;have BB := h.blk;rw [hK] at BB;clear h hl hs ht hK;have hba : Below w.heap.size w ((w.alloc (Obj.cells #[.string an,.slice fa fl fc,.slice ra rl rc] 40)).alloc (Obj.cells #[.string bn,.slice fb gl gc,.slice rb ql qc] 40)) := ((Below.refl _ _).alloc (Nat.le_refl _) _).alloc (by simp) _;have BA : Blk ((w.alloc (Obj.cells #[.string an,.slice fa fl fc,.slice ra rl rc] 40)).alloc (Obj.cells #[.string bn,.slice fb gl gc,.slice rb ql qc] 40)) w.heap.size #[.string an,.slice fa fl fc,.slice ra rl rc] 40 := (Blk.new w _ _).below ((Below.refl _ _).alloc (Nat.le_refl _) _)
 have BE : Blk ((w.alloc (Obj.cells #[.string an,.slice fa fl fc,.slice ra rl rc] 40)).alloc (Obj.cells #[.string bn,.slice fb gl gc,.slice rb ql qc] 40)) (w.heap.size + 1) #[.string bn,.slice fb gl gc,.slice rb ql qc] 40 := by
  have := Blk.new (w.alloc (Obj.cells #[.string an,.slice fa fl fc,.slice ra rl rc] 40)) #[.string bn,.slice fb gl gc,.slice rb ql qc] 40
  rwa [show (w.alloc (Obj.cells #[.string an,.slice fa fl fc,.slice ra rl rc] 40)).heap.size = w.heap.size + 1 by simp] at this
 go_enter Try.func39,Try.ntmps39
 go_wp2_with fail;refine (HC1.out _ hba).mono ?_;rintro e w1 ⟨rfl,hb1⟩;have hbw1 := hba.trans (hb1.mono hba.size);have BA1 := BA.below hb1;have BE1 := BE.below hb1;clear hb1 hba BA BE HC1
 cases R with
 | true =>
  have HK2 : Hid (KA = some none) := (by rw [HKA.out]; rfl : _ = _);go_wp2_with fail;go_ret;exact MKeepP.same HM.out hbw1 (by rw [HK2.out]; rfl) (by rw [HK2.out]; rfl)
 | false =>
  obtain ⟨sz,hsz⟩ : ∃ z,w.heap.size = z := ⟨_,rfl⟩;have HSZ : Hid (w.heap.size = sz) := hsz;rw [hsz] at BA1 BE1;simp only [hsz];clear hsz;have a0 := (BA1.cell 0).trans rfl;have a1 := (BA1.cell 1).trans rfl;have a2 := (BA1.cell 2).trans rfl;have hl1 : sz < w1.heap.size := BA1.lt;go_wp2_with fail;refine Calls.mono (HC2.out _ hbw1) ?_;rintro e w2 ⟨rfl,hb2⟩;have hbw2 := hbw1.trans (hb2.mono hbw1.size);have BE2 := BE1.below hb2;clear hb2 hbw1 BE1 BA1 a0 a1 a2 hl1 HC2;obtain ⟨XF,hXF⟩ : ∃ z,X.getD zeroF = z := ⟨_,rfl⟩;obtain ⟨xb,hxb⟩ : ∃ z,X.isSome = z := ⟨_,rfl⟩;have HX : Hid (X.getD zeroF = XF ∧ X.isSome = xb) := ⟨hXF,hxb⟩;rw [hXF,hxb];clear hXF hxb;obtain ⟨x1,x2,x3,x4,x5⟩ := XF;simp only [flV];have al2 : Below w2.heap.size w2 (w2.alloc (Obj.cells #[.string x1,.int .i64 x2,.int .i64 x3,.int .i64 x4,.string x5] 42)) := (Below.refl _ _).alloc (Nat.le_refl _) _;have hbw3 := hbw2.trans (al2.mono hbw2.size);have BE3 := BE2.below al2;have BX3 := Blk.new w2 #[.string x1,.int .i64 x2,.int .i64 x3,.int .i64 x4,.string x5] 42;have hl2 : sz + 1 < w2.heap.size := BE2.lt;have c0 := (BE2.cell 0).trans rfl;have c1 := (BE2.cell 1).trans rfl;have c2 := (BE2.cell 2).trans rfl;go_wp2_with fail;refine Calls.mono (HC3.out _ hbw3) ?_;rintro e w3 ⟨rfl,hb3⟩;have hbw3 := hbw3.trans (hb3.mono hbw3.size);have BX3 := BX3.below hb3;clear hb3 BE2 BE3 c0 c1 c2 hl2 HC3 al2 hbw2;obtain ⟨bx,hbx⟩ : ∃ z,w2.heap.size = z := ⟨_,rfl⟩;rw [hbx] at BX3;simp only [hbx];clear hbx;obtain ⟨YF,hYF⟩ : ∃ z,Y.getD zeroF = z := ⟨_,rfl⟩;obtain ⟨yb,hyb⟩ : ∃ z,Y.isSome = z := ⟨_,rfl⟩;have HY : Hid (Y.getD zeroF = YF ∧ Y.isSome = yb) := ⟨hYF,hyb⟩;rw [hYF,hyb];clear hYF hyb;obtain ⟨y1,y2,y3,y4,y5⟩ := YF;simp only [flV];have al3 : Below w3.heap.size w3 (w3.alloc (Obj.cells #[.string y1,.int .i64 y2,.int .i64 y3,.int .i64 y4,.string y5] 42)) := (Below.refl _ _).alloc (Nat.le_refl _) _;have hbw4 := hbw3.trans (al3.mono hbw3.size);have BX4 := BX3.below al3;have BY4 := Blk.new w3 #[.string y1,.int .i64 y2,.int .i64 y3,.int .i64 y4,.string y5] 42
  go_upto_region 5 with fail
  obtain ⟨byy,hby⟩ : ∃ z,w3.heap.size = z := ⟨_,rfl⟩;rw [hby] at BY4;simp only [hby];clear hby al3 BX3 hbw3;generalize (w3.alloc (Obj.cells #[.string y1,.int .i64 y2,.int .i64 y3,.int .i64 y4,.string y5] 42)) = w4 at *
  cases xb with
  | false =>
   have HK2 : Hid (KA = none) := (by
    have h1 := HX.out.2
    cases X with
    | none => rw [HKA.out]; rfl
    | some f => simp at h1 : _ = _)
   go_quiet (fail)
   go_wp2_with fail;go_ret;exact MKeepP.same HM.out (below_drewN _ hbw4) (by rw [HK2.out]; rfl) (by rw [HK2.out]; rfl)
  | true =>
   obtain ⟨f,rfl⟩ : ∃ f,X = some f := Option.isSome_iff_exists.1 HX.out.2;have h1 := HX.out.1;simp only [Option.getD_some] at h1;subst h1
   cases yb with
   | false =>
    have HK2 : Hid (KA = none) := (by
     have h1 := HY.out.2
     cases Y with
     | none => rw [HKA.out]; rfl
     | some f => simp at h1 : _ = _)
    go_quiet (fail)
    go_wp2_with fail;go_ret;exact MKeepP.same HM.out (below_drewN _ hbw4) (by rw [HK2.out]; rfl) (by rw [HK2.out]; rfl)
   | true =>
    obtain ⟨g,rfl⟩ : ∃ f,Y = some f := Option.isSome_iff_exists.1 HY.out.2;have h1 := HY.out.1;simp only [Option.getD_some] at h1;subst h1;have HK1 : Hid (KA = if x3 = y3 ∧ fitsY s t x4 x5 y4 y5 = true then some (if x4 = 7 then some (x5,y5) else none) else none) := (by rw [HKA.out]; rfl : _ = _);have d3 := (BX4.cell 2).trans rfl;have e3 := (BY4.cell 2).trans rfl
    by_cases h3 : x3 = y3
    rotate_left
    ·have HK2 : Hid (KA = none) := (by rw [HK1.out,if_neg fun e => h3 e.1] : _ = _)
     have h4 : (x3 != y3) = true := by simpa using h3
     go_quiet (fail)
     go_wp2_with fail;go_ret;exact MKeepP.same HM.out (below_drewN _ hbw4) (by rw [HK2.out]; rfl) (by rw [HK2.out]; rfl)
    ·subst h3;have HK2 : Hid (KA = if fitsY s t x4 x5 y4 y5 = true then some (if x4 = 7 then some (x5,y5) else none) else none) := (by rw [HK1.out]; simp : _ = _);clear HK1 d3 e3;have BB4 : Blk w4 b #[.string sn,.slice sa sl sc,.slice ea el ec,.slice ta tl tc,.string tn,.slice sa2 sl2 sc2,.slice ea2 el2 ec2,.slice ta2 tl2 tc2,.slice pa K pc,.map (some mb)] 58 := BB.below hbw4;have HFF : Hid (∀ W,Below w4.heap.size w4 W → Calls Try.prog 14 #[.agg #[.string sn,.slice sa sl sc,.slice ea el ec,.slice ta tl tc],.agg #[.string tn,.slice sa2 sl2 sc2,.slice ea2 el2 ec2,.slice ta2 tl2 tc2],.agg #[.int .i64 x4,.string x5],.agg #[.int .i64 y4,.string y5]] W fun e w' => e = .returned (.bool (fitsY s t x4 x5 y4 y5)) ∧ Below W.heap.size W w') := fun W hW => HFT.out W x4 y4 x5 y5 (HM.out.below.trans ((hbw4.trans (hW.mono hbw4.size)).mono HM.out.below.size))
     clear HFT;generalize fitsY s t x4 x5 y4 y5 = F at *;have hS : Below w4.heap.size w4 w4.drew := (Below.refl _ _).drew;refine wp_region_held_drew (S := fun w' => Below w4.heap.size w4 w') (by kernel_rfl) hS (fun hS => ?_);refine rg_take 0 28 (.bool true) _ rfl rfl (by kernel_rfl) (by kernel_rfl) (by kernel_rfl) (fun _ _ _ h => h) (by rfl) (fun w' hw' => ?_) hS (listed' := bts 29 1) (by kernel_rfl) rfl ?_
     ·go_simp
     simp only [zsA,zsZ,zsS];refine rg_take 1 29 (.bool false) _ rfl rfl (by kernel_rfl) (by kernel_rfl) (by kernel_rfl) (fun _ _ _ h => h) (by rfl) (fun w' hw' => ?_) hS (listed' := bts 29 3) (by kernel_rfl) rfl ?_
     ·go_simp
     simp only [zsA,zsZ,zsS];refine rg_take 2 30 (.bool false) _ rfl rfl (by kernel_rfl) (by kernel_rfl) (by kernel_rfl) (fun _ _ _ h => h) (by rfl) (fun w' hw' => ?_) hS (listed' := bts 29 7) (by kernel_rfl) rfl ?_
     ·go_simp
     simp only [zsA,zsZ,zsS];refine rg_take 3 31 (.bool true) _ rfl rfl (by kernel_rfl) (by kernel_rfl) (by kernel_rfl) (fun _ _ _ h => h) (by rfl) (fun w' hw' => ?_) hS (listed' := bts 29 15) (by kernel_rfl) rfl ?_
     ·go_simp
     simp only [zsA,zsZ,zsS];refine rg_take 4 32 (.bool false) _ rfl rfl (by kernel_rfl) (by kernel_rfl) (by kernel_rfl) (fun _ _ _ h => h) (by rfl) (fun w' hw' => ?_) hS (listed' := bts 29 31) (by kernel_rfl) rfl ?_
     ·go_simp
     simp only [zsA,zsZ,zsS];refine rg_take 5 33 (.bool false) _ rfl rfl (by kernel_rfl) (by kernel_rfl) (by kernel_rfl) (fun _ _ _ h => h) (by rfl) (fun w' hw' => ?_) hS (listed' := bts 29 63) (by kernel_rfl) rfl ?_
     ·go_simp
     simp only [zsA,zsZ,zsS];refine rg_take 6 34 (.bool false) _ rfl rfl (by kernel_rfl) (by kernel_rfl) (by kernel_rfl) (fun _ _ _ h => h) (by rfl) (fun w' hw' => ?_) hS (listed' := bts 29 127) (by kernel_rfl) rfl ?_
     ·go_simp
     simp only [zsA,zsZ,zsS];refine rg_take 7 35 (.pointer (some ⟨bx,2,none⟩)) _ rfl rfl (by kernel_rfl) (by kernel_rfl) (by kernel_rfl) (fun _ _ _ h => h) (by rfl) (fun w' hw' => ?_) hS (listed' := bts 29 255) (by kernel_rfl) rfl ?_
     ·go_simp
     simp only [zsA,zsZ,zsS];refine rg_take 8 36 (.int .i64 x3) _ rfl rfl (by kernel_rfl) (by kernel_rfl) (by kernel_rfl) (fun _ _ _ h => h) (by rfl) (fun w' hw' => ?_) hS (listed' := bts 29 511) (by kernel_rfl) rfl ?_
     ·have f2 := ((BX4.below hw').cell 2).trans rfl; go_simp
     simp only [zsA,zsZ,zsS];refine rg_take 9 37 (.pointer (some ⟨byy,2,none⟩)) _ rfl rfl (by kernel_rfl) (by kernel_rfl) (by kernel_rfl) (fun _ _ _ h => h) (by rfl) (fun w' hw' => ?_) hS (listed' := bts 29 1023) (by kernel_rfl) rfl ?_
     ·go_simp
     simp only [zsA,zsZ,zsS];refine rg_take 10 38 (.int .i64 x3) _ rfl rfl (by kernel_rfl) (by kernel_rfl) (by kernel_rfl) (fun _ _ _ h => h) (by rfl) (fun w' hw' => ?_) hS (listed' := bts 29 2047) (by kernel_rfl) rfl ?_
     ·have f2 := ((BY4.below hw').cell 2).trans rfl; go_simp
     simp only [zsA,zsZ,zsS];refine rg_take 11 39 (.bool false) _ rfl rfl (by kernel_rfl) (by kernel_rfl) (by kernel_rfl) (fun _ _ _ h => h) (by rfl) (fun w' hw' => ?_) hS (listed' := bts 29 4095) (by kernel_rfl) rfl ?_
     ·go_simp
     simp only [zsA,zsZ,zsS];refine rg_take 12 40 (.bool false) _ rfl rfl (by kernel_rfl) (by kernel_rfl) (by kernel_rfl) (fun _ _ _ h => h) (by rfl) (fun w' hw' => ?_) hS (listed' := bts 29 8191) (by kernel_rfl) rfl ?_
     ·go_simp
     simp only [zsA,zsZ,zsS];refine rg_take 13 41 (.bool false) _ rfl rfl (by kernel_rfl) (by kernel_rfl) (by kernel_rfl) (fun _ _ _ h => h) (by rfl) (fun w' hw' => ?_) hS (listed' := bts 29 16383) (by kernel_rfl) rfl ?_
     ·go_simp
     simp only [zsA,zsZ,zsS];refine rg_take 14 42 (.pointer (some ⟨b,0,none⟩)) _ rfl rfl (by kernel_rfl) (by kernel_rfl) (by kernel_rfl) (fun _ _ _ h => h) (by rfl) (fun w' hw' => ?_) hS (listed' := bts 29 32767) (by kernel_rfl) rfl ?_
     ·go_simp
     simp only [zsA,zsZ,zsS];refine rg_take 15 43 (.pointer (some ⟨b,0,none⟩)) _ rfl rfl (by kernel_rfl) (by kernel_rfl) (by kernel_rfl) (fun _ _ _ h => h) (by rfl) (fun w' hw' => ?_) hS (listed' := bts 29 65535) (by kernel_rfl) rfl ?_
     ·go_simp
     simp only [zsA,zsZ,zsS];refine rg_take 16 44 (.pointer (some ⟨b,0,none⟩)) _ rfl rfl (by kernel_rfl) (by kernel_rfl) (by kernel_rfl) (fun _ _ _ h => h) (by rfl) (fun w' hw' => ?_) hS (listed' := bts 29 131071) (by kernel_rfl) rfl ?_
     ·go_simp
     simp only [zsA,zsZ,zsS];refine rg_take 17 45 (.agg #[.string sn,.slice sa sl sc,.slice ea el ec,.slice ta tl tc]) _ rfl rfl (by kernel_rfl) (by kernel_rfl) (by kernel_rfl) (fun _ _ _ h => h) (by rfl) (fun w' hw' => ?_) hS (listed' := bts 29 262143) (by kernel_rfl) rfl ?_
     ·have f0 := ((BB4.below hw').cell 0).trans rfl; have f1 := ((BB4.below hw').cell 1).trans rfl; have f2 := ((BB4.below hw').cell 2).trans rfl; have f3 := ((BB4.below hw').cell 3).trans rfl; go_simp
     simp only [zsA,zsZ,zsS];refine rg_take 18 46 (.pointer (some ⟨b,0,none⟩)) _ rfl rfl (by kernel_rfl) (by kernel_rfl) (by kernel_rfl) (fun _ _ _ h => h) (by rfl) (fun w' hw' => ?_) hS (listed' := bts 29 524287) (by kernel_rfl) rfl ?_
     ·go_simp
     simp only [zsA,zsZ,zsS];refine rg_take 19 47 (.pointer (some ⟨b,0,none⟩)) _ rfl rfl (by kernel_rfl) (by kernel_rfl) (by kernel_rfl) (fun _ _ _ h => h) (by rfl) (fun w' hw' => ?_) hS (listed' := bts 29 1048575) (by kernel_rfl) rfl ?_
     ·go_simp
     simp only [zsA,zsZ,zsS];refine rg_take 20 48 (.pointer (some ⟨b,4,none⟩)) _ rfl rfl (by kernel_rfl) (by kernel_rfl) (by kernel_rfl) (fun _ _ _ h => h) (by rfl) (fun w' hw' => ?_) hS (listed' := bts 29 2097151) (by kernel_rfl) rfl ?_
     ·go_simp
     simp only [zsA,zsZ,zsS];refine rg_take 21 49 (.agg #[.string tn,.slice sa2 sl2 sc2,.slice ea2 el2 ec2,.slice ta2 tl2 tc2]) _ rfl rfl (by kernel_rfl) (by kernel_rfl) (by kernel_rfl) (fun _ _ _ h => h) (by rfl) (fun w' hw' => ?_) hS (listed' := bts 29 4194303) (by kernel_rfl) rfl ?_
     ·have f4 := ((BB4.below hw').cell 4).trans rfl; have f5 := ((BB4.below hw').cell 5).trans rfl; have f6 := ((BB4.below hw').cell 6).trans rfl; have f7 := ((BB4.below hw').cell 7).trans rfl; go_simp
     simp only [zsA,zsZ,zsS];refine rg_take 22 50 (.pointer (some ⟨bx,3,none⟩)) _ rfl rfl (by kernel_rfl) (by kernel_rfl) (by kernel_rfl) (fun _ _ _ h => h) (by rfl) (fun w' hw' => ?_) hS (listed' := bts 29 8388607) (by kernel_rfl) rfl ?_
     ·go_simp
     simp only [zsA,zsZ,zsS];refine rg_take 23 51 (.agg #[.int .i64 x4,.string x5]) _ rfl rfl (by kernel_rfl) (by kernel_rfl) (by kernel_rfl) (fun _ _ _ h => h) (by rfl) (fun w' hw' => ?_) hS (listed' := bts 29 16777215) (by kernel_rfl) rfl ?_
     ·have f3 := ((BX4.below hw').cell 3).trans rfl; have f4 := ((BX4.below hw').cell 4).trans rfl; go_simp
     simp only [zsA,zsZ,zsS];refine rg_take 24 52 (.pointer (some ⟨byy,3,none⟩)) _ rfl rfl (by kernel_rfl) (by kernel_rfl) (by kernel_rfl) (fun _ _ _ h => h) (by rfl) (fun w' hw' => ?_) hS (listed' := bts 29 33554431) (by kernel_rfl) rfl ?_
     ·go_simp
     simp only [zsA,zsZ,zsS];refine rg_take 25 53 (.agg #[.int .i64 y4,.string y5]) _ rfl rfl (by kernel_rfl) (by kernel_rfl) (by kernel_rfl) (fun _ _ _ h => h) (by rfl) (fun w' hw' => ?_) hS (listed' := bts 29 67108863) (by kernel_rfl) rfl ?_
     ·have f3 := ((BY4.below hw').cell 3).trans rfl; have f4 := ((BY4.below hw').cell 4).trans rfl; go_simp
     simp only [zsA,zsZ,zsS];refine rg_call 26 54 14 #[.agg #[.string sn,.slice sa sl sc,.slice ea el ec,.slice ta tl tc],.agg #[.string tn,.slice sa2 sl2 sc2,.slice ea2 el2 ec2,.slice ta2 tl2 tc2],.agg #[.int .i64 x4,.string x5],.agg #[.int .i64 y4,.string y5]] rfl rfl (by kernel_rfl) (by rfl) (listed' := bts 29 134217727) (by kernel_rfl) (fun W => by go_simp) ?_;refine Calls.mono (HFF.out _ hS) ?_;rintro ee w5 ⟨rfl,hb5⟩;have hS0 := hS;have hS : Below w4.heap.size w4 w5 := hS0.trans (hb5.mono hS0.size);clear hS0 hb5;refine ⟨_,rfl,hS,?_⟩;simp only [zsA,zsZ,zsS];refine rg_take 27 55 (.bool (!F)) _ rfl rfl (by kernel_rfl) (by kernel_rfl) (by kernel_rfl) (fun _ _ _ h => h) (by rfl) (fun w' hw' => ?_) hS (listed' := bts 29 268435455) (by kernel_rfl) rfl ?_
     ·go_simp
     simp only [zsA,zsZ,zsS];refine rg_take 28 56 (.bool (!F)) _ rfl rfl (by kernel_rfl) (by kernel_rfl) (by kernel_rfl) (fun _ _ _ h => h) (by rfl) (fun w' hw' => ?_) hS (listed' := bts 29 536870911) (by kernel_rfl) rfl ?_
     ·go_simp
     simp only [zsA,zsZ,zsS];refine wpAnyH_done (by kernel_rfl) ?_ _;have hbw5 : Below w.heap.size w w5 := hbw4.trans (hS.mono hbw4.size);have BX5 := BX4.below hS;have BY5 := BY4.below hS;have HW5 : Hid (x5.size ≤ 140737488351232 ∧ y5.size ≤ 140737488351232) := ⟨HWX.out _ rfl,HWY.out _ rfl⟩;clear hS BX4 BY4 BB4 HFF HX HY hbw4 HKA HWX HWY
     cases F with
     | false =>
      have HK3 : Hid (KA = none) := (by rw [HK2.out]; rfl : _ = _);go_wp2_with fail;go_ret;exact MKeepP.same HM.out hbw5 (by rw [HK3.out]; rfl) (by rw [HK3.out]; rfl)
     | true =>
      have g3 := (BX5.cell 3).trans rfl;have g4 := (BX5.cell 4).trans rfl;have k4 := (BY5.cell 4).trans rfl
      by_cases h7 : x4 = 7
      ·subst h7;have HK3 : Hid (KA = some (some (x5,y5))) := (by rw [HK2.out]; rfl : _ = _);have hM5 := HM.out.bel hbw5;have HAD : Hid _ := madd_any hM5 (x5,y5) HW5.out.1 HW5.out.2 HL.out;simp only at HAD;clear hM5;go_wp2_with fail;refine Calls.mono HAD.out ?_;rintro ee w6 ⟨rfl,vp',hM6,hk6⟩;have HP6 : Hid (MKeepP [.string sn,.slice sa sl sc,.slice ea el ec,.slice ta tl tc] [.string tn,.slice sa2 sl2 sc2,.slice ea2 el2 ec2,.slice ta2 tl2 tc2] W0 b mb (.slice pa K pc) l (some (some (x5,y5))) w (.returned (.bool true)) w6) := ⟨rfl,vp',hM6,(Kp.ofBelow hbw5).trans hk6⟩;clear hM6 hk6 HAD;go_wp2_with fail;go_ret;rw [HK3.out];exact HP6.out
      ·have e7 : (x4 == 7) = false := by simpa using h7
       have HK3 : Hid (KA = some none) := (by rw [HK2.out,if_pos rfl,if_neg h7] : _ = _);go_wp2_with fail;go_ret;exact MKeepP.same HM.out hbw5 (by rw [HK3.out]; rfl) (by rw [HK3.out]; rfl)
end
section
open Go.ChangeShapes Go.WideShapes Go.ChangeAt Go.RowKit
def set3E (w : World) (g o : Nat) (a b c : Value) : World := ((w.setCell ⟨g,o,none⟩ a).setCell ⟨g,o + 1,none⟩ b).setCell ⟨g,o + 2,none⟩ c
theorem set3_kp (w : World) (g o : Nat) (a b c : Value) : Kp (fun q => q = g) w (set3E w g o a b c) := by
 unfold set3E;refine Kp.setCell ?_ (fun _ => by simp) _;refine Kp.setCell ?_ (fun _ => by simp) _;refine Kp.setCell ?_ (fun _ => by simp) _;exact Kp.refl _ _
theorem blk_set3 {w : World} {b : Nat} {c0 c1 c2 x0 x1 x2 : Value} {t : TypeId} (h : Blk w b #[c0,c1,c2] t) : Blk (set3E w b 0 x0 x1 x2) b #[x0,x1,x2] t := ((h.set 0 x0 rfl).set 1 x1 rfl).set 2 x2 rfl
theorem own_set3 {w : World} {b : Nat} {cs : Array Value} {t e : TypeId} {x0 x1 x2 v : Value} {B s n : Nat} {xs : List Value} (hB : Blk w b cs t) (h : w.ownsRow B e s v n xs) (hne : e ≠ t) : (set3E w b 0 x0 x1 x2).ownsRow B e s v n xs :=
 own_kpV h (set3_kp _ _ _ _ _ _) fun k e1 e2 => by
  obtain ⟨cs',h3⟩ := own_blkE h e1;rw [e2] at h3;have h4 := h3.symm.trans hB;simp only [Option.some.injEq,Obj.cells.injEq] at h4;exact hne h4.2.1
def MsB (w : World) (b B : Nat) (m : MsS) : Prop := ∃ fa fc ra rc,Blk w b #[.string m.name,.slice fa m.fields.length fc,.slice ra m.reserved.length rc] 40 ∧ w.ownsRow B 42 5 (.slice fa m.fields.length fc) m.fields.length (flRows m.fields).flatten ∧ w.ownsRow B 3 1 (.slice ra m.reserved.length rc) m.reserved.length (inRows m.reserved).flatten
theorem MsB.below {w w1 : World} {b B : Nat} {m : MsS} (h : MsB w b B m) (hb : Below w.heap.size w w1) : MsB w1 b B m := by
 obtain ⟨fa,fc,ra,rc,h1,h2,h3⟩ := h;exact ⟨fa,fc,ra,rc,h1.below hb,own_below h2 hb,own_below h3 hb⟩
theorem MsB.meet {S1 S2 : List Value} {W0 w w1 : World} {b mb : Nat} {vp : Value} {l : List Pr} {bm B : Nat} {m : MsS} (h : MsB w bm B m) (hM : Meet S1 S2 W0 w b mb vp l) (hk : Kp (MeB b mb vp) w w1) : MsB w1 bm B m := by
 obtain ⟨fa,fc,ra,rc,h1,h2,h3⟩ := h;exact ⟨fa,fc,ra,rc,h1.kp hk (hM.no h1 (by decide) (by decide)),hM.own hk h2 (by decide) (by decide),hM.own hk h3 (by decide) (by decide)⟩
section
variable {s t : ScS}
theorem loop_end {k i : Nat} {l : List Pr} (h : l[i]? = none) : loopE s t k i l = (⟨#[]⟩,0,true) := by
 cases k with
 | zero => rfl
 | succ k => unfold loopE; rw [h]
theorem loop_step {k i : Nat} {l l' : List Pr} {p : Pr} (h : l[i]? = some p) (hr : rowT s t (msG s p.1) (msG t p.2) (tagsM (msG s p.1)) l = (l',none)) (ht : TagOk (msG s p.1)) : loopE s t (k + 1) i l = loopE s t k (i + 1) l' := by
 conv => lhs; unfold loopE
 rw [h];simp only;rw [row_tags ht,hr]
theorem loop_brk {k i : Nat} {l l' : List Pr} {p : Pr} {tag : Int} (h : l[i]? = some p) (hr : rowT s t (msG s p.1) (msG t p.2) (tagsM (msG s p.1)) l = (l',some tag)) (ht : TagOk (msG s p.1)) : loopE s t (k + 1) i l = (p.1,tag,false) := by
 unfold loopE;rw [h];simp only;rw [row_tags ht,hr]
theorem addO_in (hs : OkS s) (ht : OkS t) {A B : ByteArray} {tag : Int} {l : List Pr} {o : Option Pr} (h : PrIn s t l) (ha : atE s t (msG s A) (msG t B) tag = some o) : PrIn s t (addO l o) :=
 ⟨addO_nodup h.1,addO_of h.2 fun q hq => by subst hq; exact at_pair hs ht ha⟩
theorem msG_name {A : ByteArray} (h : A ∈ s.mn) : (msG s A).name = A := by
 unfold msG
 cases hq : msgOf s A with
 | none =>
  obtain ⟨m,hm,rfl⟩ := List.mem_map.1 h;have := List.find?_eq_none.1 hq m hm
  simp at this
 | some m => simpa using List.find?_some hq
theorem msG_few (h : FewL s) (A : ByteArray) : (msG s A).fields.length ≤ 100 ∧ (msG s A).reserved.length ≤ 100 := by
 unfold msG
 cases hq : msgOf s A with
 | none => simp [zMs]
 | some m =>
  have h1 := h.flds m (List.mem_of_find?_eq_some hq);exact ⟨Nat.le_trans h1.1 (by decide),Nat.le_trans h1.2 (by decide)⟩
theorem msG_w (h : ScW s) (A : ByteArray) : ∀ f ∈ (msG s A).fields,f.tname.size ≤ 140737488351232 := by
 unfold msG
 cases hq : msgOf s A with
 | none => simp [zMs]
 | some m => exact fun f hf => ((h.msgs m (List.mem_of_find?_eq_some hq)).2.1 f hf).2.1
end
end
section
open Go.Shelf
def laysSort_ren : Go.Shelf.Ren := ⟨fun | 5 => 62 | 8 => 77 | 7 => 76 | 19 => 92 | 20 => 93 | 10 => 83 | 11 => 84 | 12 => 85 | 13 => 86 | 14 => 87 | 15 => 88 | 16 => 89 | 17 => 90 | 18 => 91 | 30 => 96 | 31 => 97 | 32 => 98 | 33 => 99 | 34 => 100 | 35 => 101 | 40 => 103 | n => n,fun | 23 => 38 | 25 => 3 | 3 => 3 | 32 => 125 | 22 => 38 | 0 => 0 | 44 => 139 | 46 => 141 | 4 => 4 | 36 => 131 | 35 => 130 | 41 => 136 | 5 => 5 | 9 => 9 | 53 => 144 | 57 => 148 | 63 => 150 | 64 => 151 | n => n,fun | n => n⟩
theorem laysSort : Go.Proofs.SlLaysM.n5 Try.prog laysSort_ren := {
 mixed := by kernel_rfl
 f5 := ⟨Try.f62.name,by decide,Try.func62.trans (congrArg some (by kernel_rfl))⟩
 f7 := ⟨Try.f76.name,by decide,Try.func76.trans (congrArg some (by kernel_rfl))⟩
 f8 := Try.func77.trans (congrArg some (by kernel_rfl))
 f10 := ⟨Try.f83.name,by decide,Try.func83.trans (congrArg some (by kernel_rfl))⟩
 f11 := ⟨Try.f84.name,by decide,Try.func84.trans (congrArg some (by kernel_rfl))⟩
 f12 := ⟨Try.f85.name,by decide,Try.func85.trans (congrArg some (by kernel_rfl))⟩
 f13 := ⟨Try.f86.name,by decide,Try.func86.trans (congrArg some (by kernel_rfl))⟩
 f14 := ⟨Try.f87.name,by decide,Try.func87.trans (congrArg some (by kernel_rfl))⟩
 f15 := ⟨Try.f88.name,by decide,Try.func88.trans (congrArg some (by kernel_rfl))⟩
 f16 := ⟨Try.f89.name,by decide,Try.func89.trans (congrArg some (by kernel_rfl))⟩
 f17 := ⟨Try.f90.name,by decide,Try.func90.trans (congrArg some (by kernel_rfl))⟩
 f18 := ⟨Try.f91.name,by decide,Try.func91.trans (congrArg some (by kernel_rfl))⟩
 f19 := Try.func92.trans (congrArg some (by kernel_rfl))
 f20 := Try.func93.trans (congrArg some (by kernel_rfl))
 f30 := ⟨Try.f96.name,by decide,Try.func96.trans (congrArg some (by kernel_rfl))⟩
 f31 := Try.func97.trans (congrArg some (by kernel_rfl))
 f32 := Try.func98.trans (congrArg some (by kernel_rfl))
 f33 := ⟨Try.f99.name,by decide,Try.func99.trans (congrArg some (by kernel_rfl))⟩
 f34 := ⟨Try.f100.name,by decide,Try.func100.trans (congrArg some (by kernel_rfl))⟩
 f35 := ⟨Try.f101.name,by decide,Try.func101.trans (congrArg some (by kernel_rfl))⟩
 f40 := ⟨Try.f103.name,by decide,Try.func103.trans (congrArg some (by kernel_rfl))⟩
 t0 := Try.underlying0
 a0 := Try.isAgg0
 z0 := Try.sizeOf0
 v0 := Try.zeroValue0
 t3 := Try.underlying3
 a3 := Try.isAgg3
 z3 := Try.sizeOf3
 v3 := Try.zeroValue3
 t4 := Try.underlying4
 a4 := Try.isAgg4
 z4 := Try.sizeOf4
 v4 := Try.zeroValue4
 t5 := Try.underlying5
 a5 := Try.isAgg5
 z5 := Try.sizeOf5
 v5 := Try.zeroValue5
 t9 := Try.underlying9
 a9 := Try.isAgg9
 z9 := Try.sizeOf9
 v9 := Try.zeroValue9
 t22 := Try.underlying38
 a22 := Try.isAgg38
 z22 := Try.sizeOf38
 v22 := Try.zeroValue38
 t23 := Try.underlying38
 a23 := Try.isAgg38
 z23 := Try.sizeOf38
 v23 := Try.zeroValue38
 t25 := Try.underlying3
 a25 := Try.isAgg3
 z25 := Try.sizeOf3
 v25 := Try.zeroValue3
 t32 := Try.underlying125
 a32 := Try.isAgg125
 z32 := Try.sizeOf125
 v32 := Try.zeroValue125
 t35 := Try.underlying130
 a35 := Try.isAgg130
 z35 := Try.sizeOf130
 v35 := Try.zeroValue130
 t36 := Try.underlying131
 a36 := Try.isAgg131
 z36 := Try.sizeOf131
 v36 := Try.zeroValue131
 t41 := Try.underlying136
 a41 := Try.isAgg136
 z41 := Try.sizeOf136
 v41 := Try.zeroValue136
 t44 := Try.underlying139
 a44 := Try.isAgg139
 z44 := Try.sizeOf139
 v44 := Try.zeroValue139
 t46 := Try.underlying141
 a46 := Try.isAgg141
 z46 := Try.sizeOf141
 v46 := Try.zeroValue141
 t53 := Try.underlying144
 a53 := Try.isAgg144
 z53 := Try.sizeOf144
 v53 := Try.zeroValue144
 t57 := Try.underlying148
 a57 := Try.isAgg148
 z57 := Try.sizeOf148
 v57 := Try.zeroValue148
 t63 := Try.underlying150
 a63 := Try.isAgg150
 z63 := Try.sizeOf150
 v63 := Try.zeroValue150
 t64 := Try.underlying151
 a64 := Try.isAgg151
 z64 := Try.sizeOf151
 v64 := Try.zeroValue151 }
end
section
open Go.ChangeShapes Go.WideShapes Go.ChangeAt Go.RowKit Go.Maps
theorem own_emptyI {w : World} {g B : Nat} {e : TypeId} {s : Nat} (h : Blk w g #[] e) (hB : B ≤ g) : w.ownsRow B e s (.slice (some ⟨g,0,none⟩) 0 0) 0 [] :=
 ⟨by simp,.inr ⟨g,0,#[],rfl,hB,h,Nat.le_refl _,by decide,by simp,by simp⟩⟩
theorem inr_flat (l : List Int) : (inRows l).flatten = l.map (Value.int .i64) := by
 unfold inRows
 induction l with
 | nil => rfl
 | cons x l ih => simp only [List.map_cons,List.flatten_cons,ih]; rfl
theorem iclone_any {w : World} {v : Value} {l : List Int} (hr : RowG w v 1 (inRows l)) (hl : l.length ≤ 5000) :
  Calls Try.prog 61 #[v] w fun e w' => ∃ r,e = .returned r ∧ w'.ownsRow w.heap.size 3 1 r l.length (l.map (Value.int .i64)) ∧ Below w.heap.size w w' := by
 obtain ⟨a,cap,rfl,h1,h2,h3,h4⟩ := hr.form
 have hN : (inRows l).length = l.length := by simp [inRows]
 rw [hN] at h1 hr ⊢
 cases a with
 | none =>
  have hl0 : l = [] := by
   have h5 := h3 rfl
   have : l.length = 0 := by omega
   exact List.length_eq_zero_iff.1 this
  subst hl0;have := h3 rfl;subst this
  have hq : ∀ W,(binOp .eql 38 (.slice none 0 0) (.slice none 0 0)).run Try.prog W = .ok (.bool true) W := fun W => by kernel_rfl
  simp only [List.length_nil]
  go_enter Try.func61,Try.ntmps61
  go_wp2_with fail;go_ret;exact ⟨_,rfl,World.ownsRow_nil _ _ _ _,Below.refl _ _⟩
 | some a =>
  have hal : Below w.heap.size w (w.alloc (Obj.cells #[] 3)) := (Below.refl _ _).alloc (Nat.le_refl _) _;obtain ⟨v',W4,r1,r2,r3⟩ := run_joinG (w := w.alloc (Obj.cells #[] 3)) 38 38 3 1 8 _ Try.underlying38 infoIn rfl (by decide) w.heap.size (.slice (some ⟨w.heap.size,0,none⟩) 0 0) 0 [] (own_emptyI (Blk.new w _ _) (Nat.le_refl _)) (.slice (some a) l.length cap) (inRows l) (hr.below hal) (inr_len l) (inr_one l) (by omega) (by decide) hal.size;have HRUN : Hid _ := r1;rw [List.nil_append,hN,Nat.zero_add,inr_flat] at r2;have hb4 : Below w.heap.size w W4 := hal.grown r3 hal.size (fun q hq => by simp [Value.ownBlock] at hq; omega);have HO : Hid (W4.ownsRow w.heap.size 3 1 v' l.length (l.map (Value.int .i64))) := r2;obtain ⟨na,nc,hv'⟩ := own_form r2;subst hv';clear r1 r2 r3 hr h3 h4 hN hal;generalize hLn : l.length = Ln at *;have HLn : Hid (l.length = Ln) := hLn;clear hLn
  have hq : ∀ W,(binOp .eql 38 (.slice (some a) Ln cap) (.slice none 0 0)).run Try.prog W = .ok (.bool false) W := fun W => by kernel_rfl
  go_enter Try.func61,Try.ntmps61
  go_wp2_with (first | (at_builtin; refine wpList_ran rfl (append_run rfl rfl rfl HRUN.out) ?_) | fail)
  go_ret;exact ⟨_,rfl,HO.out,hb4⟩
theorem isort_any {w : World} {B : Nat} {v : Value} {l : List Int} (hr : w.ownsRow B 3 1 v l.length (l.map (Value.int .i64))) (hl : l.length ≤ 5000) :
  Calls Try.prog 62 #[v] w fun e w' => e = .returned (.tuple #[]) ∧ w'.ownsRow B 3 1 v l.length ((l.mergeSort fun x y => decide (x ≤ y)).map (Value.int .i64)) ∧ Kp (fun q => v.ownBlock = some q) w w' := by
 rcases hr.2 with ⟨rfl,h0⟩ | ⟨g,cap,cur,rfl,h1,h2,h3,h4,h5,h6⟩
 ·have hl0 : l = [] := List.length_eq_zero_iff.1 h0;subst hl0;have h := AnyM.slices_Sort_int_none laysSort none 0 w;refine Calls.mono h ?_;rintro e w' ⟨rfl,rfl⟩;exact ⟨rfl,by simpa using hr,Kp.refl _ _⟩
 ·have hlt := (Array.getElem?_eq_some_iff.1 h2).1;have h := AnyM.slices_Sort_int laysSort g 0 cap l w (holds_of_blockI h2 (by rw [← h6]; simp)) hlt (by omega);refine Calls.mono h ?_;rintro e w' ⟨rfl,n,os,rfl⟩;refine ⟨rfl,ownsRow_sortedI (List.length_mergeSort _) h1 h2 h3 h4 (by omega),(Kp.refl _ _).grown (grownBy_sortedI _) fun k hk _ => ?_⟩
  cases hk
  rfl
theorem wpList_intE {w : World} {ops : Array Oper} {rest : List Oper} {o : Oper} {a : Act} {Q : Exit → Act → World → Prop} {B : Nat} {v : Value} {al al2 : List Int} {x : Int} {z : Nat} (hal2 : al ++ [x] = al2) (hz : w.heap.size = z) (hgd : o.guard = none) (s y : Operand)
  (ho : o.op = .call { callee := .builtin .append,args := #[s,y],argTypes := #[38,38] }) (hs : a.eval s = v) (hy : a.eval y = .slice (some ⟨z,0,none⟩) 1 1) (hown : w.ownsRow B 3 1 v al.length (al.map (Value.int .i64))) (hB : B ≤ w.heap.size) (hn : al.length ≤ 100000)
  (h : ∀ v' w',w'.ownsRow B 3 1 v' al2.length (al2.map (Value.int .i64)) → Below B w w' → wpList Try.prog ops Q rest (a.put o.dst v') w') : wpList Try.prog ops Q (o :: rest) a (w.alloc (.cells #[.int .i64 x] 3)) := by
 subst hz hal2;have hba : Below w.heap.size w (w.alloc (.cells #[.int .i64 x] 3)) := (Below.refl _ _).alloc (Nat.le_refl _) _;refine wpList_joinG hgd s y 38 3 1 8 _ ho Try.underlying38 infoIn rfl (by decide) B v al.length (al.map (Value.int .i64)) hs (own_below hown hba) (.slice (some ⟨w.heap.size,0,none⟩) 1 1) [[.int .i64 x]] hy (RowG.blk (Blk.new w _ _) rfl (by simp) rfl (by omega)) (by simp) (by simp [Value.oneCell']) (by simp; omega) (by decide) (Nat.le_trans hB hba.size) ?_;intro v' w' ho' hg;refine h v' w' (by simpa using ho' : World.ownsRow _ _ _ _ _ _ _) ?_;exact ((Below.refl B w).alloc hB _).grown hg (by have := hba.size; omega) (fun k hk => ((own_below hown hba).lt k hk).1)
theorem tags_any {w : World} {nm : ByteArray} {vf vr : Value} {m : MsS} (hf : RowG w vf 5 (flRows m.fields)) (hr : RowG w vr 1 (inRows m.reserved)) (hl : m.fields.length ≤ 100 ∧ m.reserved.length ≤ 100) :
  Calls Try.prog 38 #[.agg #[.string nm,vf,vr]] w fun e w' => ∃ r,e = .returned r ∧ w'.ownsRow w.heap.size 3 1 r (tagsM m).length ((tagsM m).map (Value.int .i64)) ∧ Below w.heap.size w w' := by
 obtain ⟨a,c,rfl,q1,q2⟩ := hf.form2
 have hN : (flRows m.fields).length = m.fields.length := by simp [flRows]
 rw [hN] at hf q1 ⊢;clear hN;obtain ⟨N,hN⟩ : ∃ N,m.fields.length = N := ⟨_,rfl⟩;rw [hN] at hf q1 hl ⊢;have HN : Hid (m.fields.length = N) := hN;have HF : Hid (RowG w (.slice a N c) 5 (flRows m.fields)) := hf;obtain ⟨a2,c2,rfl, -, -⟩ := hr.form2;have HC : Hid (∀ W,Below w.heap.size w W → Calls Try.prog 61 #[.slice a2 (inRows m.reserved).length c2] W fun e w' => ∃ r,e = .returned r ∧ w'.ownsRow W.heap.size 3 1 r m.reserved.length (m.reserved.map (Value.int .i64)) ∧ Below W.heap.size W w') := fun W hW => iclone_any (hr.below hW) (by omega)
 have HL : Hid (m.reserved.length ≤ 100) := hl.2;have HL1 : Hid (N ≤ 100) := hl.1
 have HT : Hid ((m.reserved ++ (m.fields.take N).map FlS.tag).mergeSort (fun x y => decide (x ≤ y)) = tagsM m) := (by
  show _ = _
  rw [List.take_of_length_le (by omega)]; rfl)
 generalize (inRows m.reserved).length = R at *;generalize tagsM m = T at *;generalize m.fields = fs at *;generalize m.reserved = rs at *;clear hN hf hr hl;have hba : Below w.heap.size w (w.alloc (.cells #[.string nm,.slice a N c,.slice a2 R c2] 40)) := (Below.refl _ _).alloc (Nat.le_refl _) _;have BX := Blk.new w #[.string nm,.slice a N c,.slice a2 R c2] 40
 go_enter Try.func38,Try.ntmps38
 go_wp2_with fail;refine (HC.out _ hba).mono ?_;rintro e w1 ⟨r1,rfl,ho1,hb1⟩;have hbw1 : Below w.heap.size w w1 := hba.trans (hb1.mono hba.size);have HO1 : Hid (w1.ownsRow w.heap.size 3 1 r1 (rs ++ (fs.take 0).map FlS.tag).length ((rs ++ (fs.take 0).map FlS.tag).map (Value.int .i64))) := (by simpa using own_base ho1 hba.size : World.ownsRow _ _ _ _ _ _ _);have BX1 := BX.below hb1;have x1 := (BX1.cell 1).trans rfl;clear hb1 ho1 hba BX HC;go_wp2_with fail;obtain ⟨sa0,sc0,rfl⟩ := own_form HO1.out;generalize hK0 : (rs ++ (fs.take 0).map FlS.tag).length = K0 at *
 go_loopw [3,12] (fun rv iv wr => ∃ (k K : Nat) (sa : Option Addr) (sc : Nat),rv = .slice sa K sc ∧ iv = .int .i64 (k : Int) ∧ k ≤ N ∧ Hid ((rs ++ (fs.take k).map FlS.tag).length = K) ∧ Hid (wr.ownsRow w.heap.size 3 1 (.slice sa K sc) K ((rs ++ (fs.take k).map FlS.tag).map (Value.int .i64))) ∧ Below w.heap.size w wr) (fun _ iv _ => N - (intOf iv).toNat)
 case atStart => exact ⟨0,K0,sa0,sc0,rfl,rfl,by omega,hK0,HO1,hbw1⟩
 case round =>
  clear HO1 hbw1 BX1 x1;obtain ⟨k,K,sa,sc,rfl,rfl,hk,HK,HO,hbel⟩ := hrel
  by_cases hlt : k < N
  ·obtain ⟨f,hfk⟩ : ∃ n,fs[k]? = some n := ⟨_,List.getElem?_eq_getElem (by rw [HN.out]; exact hlt)⟩
   have hrr : (flRows fs)[k]? = some f.cells := by simp [flRows,hfk]
   obtain ⟨g,off,rfl,c1⟩ := (HF.out.below hbel).get hrr
   have HS : Hid ((rs ++ (fs.take k).map FlS.tag) ++ [f.tag] = rs ++ (fs.take (k + 1)).map FlS.tag) := (by
    show _ = _
    rw [List.take_add_one,hfk,List.map_append,List.append_assoc]; rfl)
   obtain ⟨f0,f1,f2,f3,f4⟩ := f;have p0 := c1 0 _ rfl;have p1 := c1 1 _ rfl;have p2 := c1 2 _ rfl;have p3 := c1 3 _ rfl;have p4 := c1 4 _ rfl;simp only [Nat.add_zero] at p0 p1 p2 p3 p4;clear c1 hrr hfk;have hal : Below wr.heap.size wr (wr.alloc (.cells #[.string f0,.int .i64 f1,.int .i64 f2,.int .i64 f3,.string f4] 42)) := (Below.refl _ _).alloc (Nat.le_refl _) _;have HO2 : Hid ((wr.alloc (.cells #[.string f0,.int .i64 f1,.int .i64 f2,.int .i64 f3,.string f4] 42)).ownsRow w.heap.size 3 1 (.slice sa K sc) (rs ++ (fs.take k).map FlS.tag).length ((rs ++ (fs.take k).map FlS.tag).map (Value.int .i64))) := (by rw [HK.out]; exact own_below HO.out hal : World.ownsRow _ _ _ _ _ _ _)
   have HKL : Hid (K ≤ 100000) := (by
    have h1 := HK.out;rw [List.length_append,List.length_map,List.length_take] at h1;have := HL.out;have := HL1.out
    show K ≤ 100000
    omega)
   have hB2 : w.heap.size ≤ (wr.alloc (.cells #[.string f0,.int .i64 f1,.int .i64 f2,.int .i64 f3,.string f4] 42)).heap.size := Nat.le_trans hbel.size hal.size;have hbel2 : Below w.heap.size w (wr.alloc (.cells #[.string f0,.int .i64 f1,.int .i64 f2,.int .i64 f3,.string f4] 42)) := hbel.trans (hal.mono hbel.size)
   have hz2 : (wr.alloc (.cells #[.string f0,.int .i64 f1,.int .i64 f2,.int .i64 f3,.string f4] 42)).heap.size = wr.heap.size + 1 := by simp
   clear hal HO hbel;obtain ⟨AL,hAL⟩ : ∃ z,rs ++ (fs.take k).map FlS.tag = z := ⟨_,rfl⟩;obtain ⟨AL2,hAL2⟩ : ∃ z,rs ++ (fs.take (k + 1)).map FlS.tag = z := ⟨_,rfl⟩;rw [hAL,hAL2] at HS;rw [hAL] at HO2 HK;have HKL2 : Hid (AL.length ≤ 100000) := (by rw [HK.out]; exact HKL.out : AL.length ≤ 100000);have HA2 : Hid (rs ++ (fs.take (k + 1)).map FlS.tag = AL2) := hAL2;clear hAL hAL2
   go_wp2_with (first
    | (at_builtin; refine wpList_intE (al := AL) (al2 := AL2) (x := f1) HS.out hz2 rfl _ _ rfl rfl rfl HO2.out hB2 ?c1 ?_)
    | fail)
   case c1 => exact HKL2.out
   intro rv wn hrv hbn;have hbel3 : Below w.heap.size w wn := hbel2.trans (hbn.mono (Nat.le_refl _));obtain ⟨san,scn,rfl⟩ := own_form hrv;have HO3 : Hid _ := hrv;clear hrv hbn hbel2 HO2 hB2 hz2 HS p0 p1 p2 p3 p4;generalize hKn : AL2.length = Kn at *;have HKn : Hid ((rs ++ (fs.take (k + 1)).map FlS.tag).length = Kn) := (by rw [HA2.out]; exact hKn : _ = _);rw [← HA2.out] at HO3;clear hKn;go_wp2_with fail
   go_roundw
   case rel => exact ⟨k + 1,Kn,san,scn,rfl,by go_num,by omega,HKn,HO3,hbel3⟩
   case measure => simp [intOf]; omega
  ·obtain rfl : k = N := by omega
   have HSO : Hid (Calls Try.prog 62 #[.slice sa K sc] wr fun e w' => e = .returned (.tuple #[]) ∧ w'.ownsRow w.heap.size 3 1 (.slice sa K sc) T.length (T.map (Value.int .i64)) ∧ Kp (fun q => (Value.slice sa K sc).ownBlock = some q) wr w') := by
    have h1 := HO.out;rw [← HK.out] at h1
    have h2 := isort_any h1 (by
     rw [List.length_append,List.length_map,List.length_take];have := HL.out;have := HL1.out
     omega)
    rw [HK.out] at h2;rw [HT.out] at h2;refine h2.mono ?_;rintro e w' ⟨h3,h4,h5⟩;refine ⟨h3,?_,h5⟩;rw [← HT.out,List.length_mergeSort,HK.out,HT.out];exact h4
   have HLT : Hid (∀ q,(Value.slice sa K sc).ownBlock = some q → w.heap.size ≤ q) := fun q hq => (HO.out.lt q hq).1
   clear HO HK HT;go_wp2_with fail;refine HSO.out.mono ?_;rintro e w2 ⟨rfl,ho2,hk2⟩;have hb2 : Below w.heap.size w w2 := hbel.trans (hk2.toBelow hbel.size HLT.out);go_wp2_with fail;go_ret;exact ⟨_,rfl,ho2,hb2⟩
end
section
section
variable {P : Program} {md : Region.Mode} {ops : Array Oper} {Q : Exit → Act → World → Prop} {T : World → Prop} {m : Nat}
theorem M_fork {o1 o2 : Oper} {fuel : Nat} {listed : Array Bool} {a : Act} {w : World} (i j d1 d2 f : Nat) (vals : Array Value) (v2 : Value) (w2 : World) (h1 : ops[i]? = some o1) (h2 : ops[j]? = some o2) (hd1 : o1.dst = some d1) (hd2 : o2.dst = some d2)
  (hr : Region.ready md ops listed = [i,j]) (hw1 : Region.wanted o1 (yielded ops a.tmps) = true) (hw2 : Region.wanted o2 (yielded ops a.tmps) = true)
  (hx1 : (execOp a.eval o1).run P w = .ok (.enter f vals) w) (hx2 : (execOp a.eval o2).run P w = .ok (.value v2) w2)
  (hA : Calls P f vals w fun e w' => ∃ v,e = .returned v ∧ T w' ∧ wpAnyM P md ops Q T m fuel (listed.setIfInBounds i true) { a with tmps := a.tmps.setIfInBounds d1 v } w')
  (hT : T w2) (hB : wpAnyM P md ops Q T m fuel (listed.setIfInBounds j true) { a with tmps := a.tmps.setIfInBounds d2 v2 } w2) : wpAnyM P md ops Q T m (fuel + 1) listed a w := by
 refine ⟨fun h0 => (by rw [hr] at h0; cases h0),fun k hk => ?_⟩;rw [hr] at hk;simp only [List.mem_cons,List.not_mem_nil,or_false] at hk
 rcases hk with rfl | rfl
 ·unfold wpOp;simp only [h1];rw [if_pos hw1];refine .inl ?_;unfold Oper.wp;rw [hx1];refine Calls.mono hA ?_;rintro e w' ⟨v,rfl,hT',h'⟩;rw [hd1];exact ⟨fun _ => hT',h'⟩
 ·unfold wpOp;simp only [h2];rw [if_pos hw2];refine .inl ?_;unfold Oper.wp;rw [hx2,Oper.upon_value,hd2];exact ⟨fun _ => hT,hB⟩
end
end
section
open Go.ChangeShapes Go.WideShapes Go.ChangeAt Go.RowKit Go.Maps
theorem msg_at {w : World} {v : Value} {s : ScS} {sn : ByteArray} {sa ea ta : Option Addr} {sl sc el ec tl tc : Nat} (hs : SIn w (.agg #[.string sn,.slice sa sl sc,.slice ea el ec,.slice ta tl tc]) s) (nm : ByteArray) : Calls Try.prog 37 #[.agg #[.string sn,.slice sa sl sc,.slice ea el ec,.slice ta tl tc],.string nm] w fun e w' => ∃ vf vr,e = .returned (.tuple #[.agg #[.string (msG s nm).name,vf,vr],.bool (msgOf s nm).isSome]) ∧ w'.ownsRow w.heap.size 42 5 vf (msG s nm).fields.length (flRows (msG s nm).fields).flatten ∧ w'.ownsRow w.heap.size 3 1 vr (msG s nm).reserved.length (inRows (msG s nm).reserved).flatten ∧ Below w.heap.size w w' := by
 obtain ⟨vm,ve,vt,e,h1,h2,h3⟩ := hs.row;simp only [Value.agg.injEq,Array.mk.injEq,List.cons.injEq,and_true] at e;obtain ⟨e1,rfl,rfl,rfl⟩ := e;exact cmessage_any h1 hs.few.flds
theorem results_threeE {fn : Func} {t u v : Tmp} (h : fn.results = #[.tmp t,.tmp u,.tmp v]) (tmps : Array Value) (P : Program) (w : World) : (results fn tmps).run P w = .ok (.tuple #[tmps.getD t undef,tmps.getD u undef,tmps.getD v undef]) w := by
 simp only [results,h]
 simp [Sem.run_bind,Result.andThen]
def MLookP (R : ByteArray × Int × Bool) (W0 : World) (e : Ending) (w' : World) : Prop := e = .returned (evolV R) ∧ Below W0.heap.size W0 w'
theorem mlook_any {s t : ScS} {sn tn : ByteArray} {sa ea ta sa2 ea2 ta2 : Option Addr} {sl sc el ec tl tc sl2 sc2 el2 ec2 tl2 tc2 : Nat} {W0 w : World} {b mb : Nat} {vp : Value} {l : List Pr} (hs : SIn W0 (.agg #[.string sn,.slice sa sl sc,.slice ea el ec,.slice ta tl tc]) s) (ht : SIn W0 (.agg #[.string tn,.slice sa2 sl2 sc2,.slice ea2 el2 ec2,.slice ta2 tl2 tc2]) t) (ks : OkS s) (kt : OkS t) (hp : PrIn s t l)
  (h : Meet [.string sn,.slice sa sl sc,.slice ea el ec,.slice ta tl tc] [.string tn,.slice sa2 sl2 sc2,.slice ea2 el2 ec2,.slice ta2 tl2 tc2] W0 w b mb vp l) : Calls Try.prog 21 #[.pointer (some ⟨b,0,none⟩)] w (MLookP (loopE s t 300 0 l) W0) := by
 have HSS : Hid (SIn W0 (.agg #[.string sn,.slice sa sl sc,.slice ea el ec,.slice ta tl tc]) s ∧ OkS s) := ⟨hs,ks⟩;have HST : Hid (SIn W0 (.agg #[.string tn,.slice sa2 sl2 sc2,.slice ea2 el2 ec2,.slice ta2 tl2 tc2]) t ∧ OkS t) := ⟨ht,kt⟩;obtain ⟨ANS,hA⟩ : ∃ z,loopE s t 300 0 l = z := ⟨_,rfl⟩;rw [hA];have HA0 : Hid (loopE s t (300 - 0) 0 l = ANS) := hA;have HP0 : Hid (PrIn s t l) := hp;have HM0 : Hid (Meet [.string sn,.slice sa sl sc,.slice ea el ec,.slice ta tl tc] [.string tn,.slice sa2 sl2 sc2,.slice ea2 el2 ec2,.slice ta2 tl2 tc2] W0 w b mb vp l) := h;clear hs ht ks kt hA hp h
 go_enter Try.func21,Try.ntmps21
 go_wp2_with fail
 go_step3
 go_wp2_with fail
 go_step3
 go_wp2_with fail
 go_loopw [5,6,7] (fun nv tv iv wr => ∃ (i : Nat) (l : List Pr) (vp : Value),nv = .string ⟨#[]⟩ ∧ tv = .int .i64 0 ∧ iv = .int .i64 (i : Int) ∧ i ≤ l.length ∧ Hid (loopE s t (300 - i) i l = ANS) ∧ Hid (PrIn s t l) ∧ Hid (Meet [.string sn,.slice sa sl sc,.slice ea el ec,.slice ta tl tc] [.string tn,.slice sa2 sl2 sc2,.slice ea2 el2 ec2,.slice ta2 tl2 tc2] W0 wr b mb vp l)) (fun _ _ iv _ => 226 - (intOf iv).toNat)
 case atStart => exact ⟨0,l,vp,rfl,rfl,rfl,by omega,HA0,HP0,HM0⟩
 case round =>
  clear HA0 HP0 HM0;obtain ⟨i,l,vp,rfl,rfl,rfl,hi,HA,HP,HM⟩ := hrel;obtain ⟨pa,pc,rfl⟩ := HM.out.form;obtain ⟨K,hK⟩ : ∃ z,l.length = z := ⟨_,rfl⟩;have HK : Hid (l.length = K) := hK;have HK2 : Hid (K ≤ 225) := (by rw [← hK]; exact HP.out.len (okS_len HSS.out.2) (okS_len HST.out.2) : K ≤ 225);rw [hK] at HM hi;clear hK;have hkb := HK2.out;have BB : Blk wr b #[.string sn,.slice sa sl sc,.slice ea el ec,.slice ta tl tc,.string tn,.slice sa2 sl2 sc2,.slice ea2 el2 ec2,.slice ta2 tl2 tc2,.slice pa K pc,.map (some mb)] 58 := HM.out.blk;have c8 := (BB.cell 8).trans rfl
  by_cases hlt : i < K
  rotate_left
  ·obtain rfl : i = K := by omega
   have hlr : decide ((i : Int) < (i : Int)) = false := by simp
   have HE : Hid (ANS = (⟨#[]⟩,0,true)) := (by rw [← HA.out]; exact loop_end (List.getElem?_eq_none (by rw [HK.out]; omega)) : _ = _);have HBW : Hid (Below W0.heap.size W0 wr) := HM.out.below;clear HA HP HM BB;go_wp2_with fail;refine bodyPost_ret (results_threeE rfl _ _ _) rfl ?_;rw [HE.out];exact ⟨rfl,HBW.out⟩
  ·obtain ⟨p,hpi⟩ : ∃ z,l[i]? = some z := ⟨_,List.getElem?_eq_getElem (by rw [HK.out]; exact hlt)⟩;have HPI : Hid (l[i]? = some p) := hpi;have HN1 := HP.out.2 p (List.mem_of_getElem? hpi);have HRW := HM.out.row
   obtain ⟨g,rfl⟩ : ∃ g,pa = some ⟨g,0,none⟩ := by
    rcases HRW.2 with ⟨e,h0⟩ | ⟨g,cap,cur,e,_⟩
    ·rw [HK.out] at h0; omega
    ·simp only [Value.slice.injEq] at e;exact ⟨g,e.1⟩
   have q0 := HRW.cells (g := g) rfl (i * 2 + 0) _ (flat_get (prRows l) (prr_len l) i (prC p) (by simp [prRows,hpi]) 0 _ rfl);have q1 := HRW.cells (g := g) rfl (i * 2 + 1) _ (flat_get (prRows l) (prr_len l) i (prC p) (by simp [prRows,hpi]) 1 _ rfl);simp only [Addr.add_lit,Nat.zero_add,Nat.add_zero] at q0 q1;have HQ : Hid (∀ W,Below wr.heap.size wr W → W.cell? ⟨g,i * 2,none⟩ = some (.string p.1) ∧ W.cell? ⟨g,i * 2 + 1,none⟩ = some (.string p.2)) := fun W hW => ⟨(Kp.ofBelow (S := fun _ => False) hW).cell q0 (fun e => e),(Kp.ofBelow (S := fun _ => False) hW).cell q1 (fun e => e)⟩
   have HBB : Hid (∀ W,Below wr.heap.size wr W → Blk W b #[.string sn,.slice sa sl sc,.slice ea el ec,.slice ta tl tc,.string tn,.slice sa2 sl2 sc2,.slice ea2 el2 ec2,.slice ta2 tl2 tc2,.slice (some ⟨g,0,none⟩) K pc,.map (some mb)] 58) := fun W hW => BB.below hW
   have HC1 : Hid (∀ W,Below wr.heap.size wr W → Calls Try.prog 37 #[.agg #[.string sn,.slice sa sl sc,.slice ea el ec,.slice ta tl tc],.string p.1] W fun e w' => ∃ vf vr,e = .returned (.tuple #[.agg #[.string (msG s p.1).name,vf,vr],.bool (msgOf s p.1).isSome]) ∧ w'.ownsRow W.heap.size 42 5 vf (msG s p.1).fields.length (flRows (msG s p.1).fields).flatten ∧ w'.ownsRow W.heap.size 3 1 vr (msG s p.1).reserved.length (inRows (msG s p.1).reserved).flatten ∧ Below W.heap.size W w') := fun W hW => msg_at (v := .agg #[]) (HSS.out.1.below (HM.out.below.trans (hW.mono HM.out.below.size))) p.1
   have HC2 : Hid (∀ W,Below wr.heap.size wr W → Calls Try.prog 37 #[.agg #[.string tn,.slice sa2 sl2 sc2,.slice ea2 el2 ec2,.slice ta2 tl2 tc2],.string p.2] W fun e w' => ∃ vf vr,e = .returned (.tuple #[.agg #[.string (msG t p.2).name,vf,vr],.bool (msgOf t p.2).isSome]) ∧ w'.ownsRow W.heap.size 42 5 vf (msG t p.2).fields.length (flRows (msG t p.2).fields).flatten ∧ w'.ownsRow W.heap.size 3 1 vr (msG t p.2).reserved.length (inRows (msG t p.2).reserved).flatten ∧ Below W.heap.size W w') := fun W hW => msg_at (v := .agg #[]) (HST.out.1.below (HM.out.below.trans (hW.mono HM.out.below.size))) p.2
   have HTA : Hid (TagOk (msG s p.1)) := tagOk_msG HSS.out.2 p.1;have HNM : Hid ((msG s p.1).name = p.1) := msG_name HN1.1;have HFW : Hid (((msG s p.1).fields.length ≤ 100 ∧ (msG s p.1).reserved.length ≤ 100) ∧ (∀ f ∈ (msG s p.1).fields,f.tname.size ≤ 140737488351232) ∧ ∀ f ∈ (msG t p.2).fields,f.tname.size ≤ 140737488351232) := ⟨msG_few HSS.out.1.few p.1,msG_w HSS.out.1.wf p.1,msG_w HST.out.1.wf p.2⟩;obtain ⟨A,B⟩ := p;simp only at HQ HC1 HC2 HTA HNM HFW;have HMA : Hid (msG s A = msG s A) := rfl;obtain ⟨m,hm⟩ : ∃ z,msG s A = z := ⟨_,rfl⟩;obtain ⟨n,hn⟩ : ∃ z,msG t B = z := ⟨_,rfl⟩;have HMN : Hid (msG s A = m ∧ msG t B = n) := ⟨hm,hn⟩;rw [hm] at HC1 HTA HNM HFW;rw [hn] at HC2 HFW;generalize (msgOf s A).isSome = ok1 at *;generalize (msgOf t B).isSome = ok2 at *;clear hm hn HMA HRW q0 q1 hpi BB c8 HN1;have c8 := ((HBB.out wr (Below.refl _ _)).cell 8).trans rfl
   have hlr : decide ((i : Int) < (K : Int)) = true := by simp; omega
   go_upto_region 5 with fail
   go_cut [8,9] from 23 to 38 (fun pv ov wx => ∃ b : Nat,pv = .pointer (some ⟨b,0,none⟩) ∧ ov = .bool ok1 ∧ Hid (MsB wx b wr.heap.size m ∧ Below wr.heap.size wr wx))
   case first =>
    refine M_region (T := fun W => Below wr.heap.size wr W) (m := 18) (by kernel_rfl) ?_;have hS : Below wr.heap.size wr wr.drew := (Below.refl _ _).drew;refine M_take 0 24 (.pointer (some ⟨b,0,none⟩)) _ rfl rfl (by kernel_rfl) (by kernel_rfl) (by kernel_rfl) (by kernel_rfl) (by kernel_rfl) (fun _ _ _ h => h) (by rfl) (fun w' hw' => ?_) hS (listed' := bts 19 1) (by kernel_rfl) rfl ?_
    ·go_simp
    simp only [zsA,zsZ,zsS];refine M_take 1 25 (.pointer (some ⟨b,0,none⟩)) _ rfl rfl (by kernel_rfl) (by kernel_rfl) (by kernel_rfl) (by kernel_rfl) (by kernel_rfl) (fun _ _ _ h => h) (by rfl) (fun w' hw' => ?_) hS (listed' := bts 19 3) (by kernel_rfl) rfl ?_
    ·go_simp
    simp only [zsA,zsZ,zsS];refine M_take 2 26 (.pointer (some ⟨b,0,none⟩)) _ rfl rfl (by kernel_rfl) (by kernel_rfl) (by kernel_rfl) (by kernel_rfl) (by kernel_rfl) (fun _ _ _ h => h) (by rfl) (fun w' hw' => ?_) hS (listed' := bts 19 7) (by kernel_rfl) rfl ?_
    ·go_simp
    simp only [zsA,zsZ,zsS];refine M_take 3 27 (.agg #[.string sn,.slice sa sl sc,.slice ea el ec,.slice ta tl tc]) _ rfl rfl (by kernel_rfl) (by kernel_rfl) (by kernel_rfl) (by kernel_rfl) (by kernel_rfl) (fun _ _ _ h => h) (by rfl) (fun w' hw' => ?_) hS (listed' := bts 19 15) (by kernel_rfl) rfl ?_
    ·have f0 := ((HBB.out _ hw').cell 0).trans rfl; have f1 := ((HBB.out _ hw').cell 1).trans rfl; have f2 := ((HBB.out _ hw').cell 2).trans rfl; have f3 := ((HBB.out _ hw').cell 3).trans rfl; go_simp
    simp only [zsA,zsZ,zsS];refine M_take 4 28 (.pointer (some ⟨b,0,none⟩)) _ rfl rfl (by kernel_rfl) (by kernel_rfl) (by kernel_rfl) (by kernel_rfl) (by kernel_rfl) (fun _ _ _ h => h) (by rfl) (fun w' hw' => ?_) hS (listed' := bts 19 31) (by kernel_rfl) rfl ?_
    ·go_simp
    simp only [zsA,zsZ,zsS];refine M_take 5 29 (.pointer (some ⟨b,0,none⟩)) _ rfl rfl (by kernel_rfl) (by kernel_rfl) (by kernel_rfl) (by kernel_rfl) (by kernel_rfl) (fun _ _ _ h => h) (by rfl) (fun w' hw' => ?_) hS (listed' := bts 19 63) (by kernel_rfl) rfl ?_
    ·go_simp
    simp only [zsA,zsZ,zsS];refine M_take 6 30 (.pointer (some ⟨b,8,none⟩)) _ rfl rfl (by kernel_rfl) (by kernel_rfl) (by kernel_rfl) (by kernel_rfl) (by kernel_rfl) (fun _ _ _ h => h) (by rfl) (fun w' hw' => ?_) hS (listed' := bts 19 127) (by kernel_rfl) rfl ?_
    ·go_simp
    simp only [zsA,zsZ,zsS];refine M_take 7 31 (.slice (some ⟨g,0,none⟩) K pc) _ rfl rfl (by kernel_rfl) (by kernel_rfl) (by kernel_rfl) (by kernel_rfl) (by kernel_rfl) (fun _ _ _ h => h) (by rfl) (fun w' hw' => ?_) hS (listed' := bts 19 255) (by kernel_rfl) rfl ?_
    ·have f8 := ((HBB.out _ hw').cell 8).trans rfl; go_simp
    simp only [zsA,zsZ,zsS];refine M_take 8 32 (.int .i64 (i : Int)) _ rfl rfl (by kernel_rfl) (by kernel_rfl) (by kernel_rfl) (by kernel_rfl) (by kernel_rfl) (fun _ _ _ h => h) (by rfl) (fun w' hw' => ?_) hS (listed' := bts 19 511) (by kernel_rfl) rfl ?_
    ·go_simp
    simp only [zsA,zsZ,zsS];refine M_take 9 33 (.pointer (some ⟨g,i * 2,none⟩)) _ rfl rfl (by kernel_rfl) (by kernel_rfl) (by kernel_rfl) (by kernel_rfl) (by kernel_rfl) (fun _ _ _ h => h) (by rfl) (fun w' hw' => ?_) hS (listed' := bts 19 1023) (by kernel_rfl) rfl ?_
    ·go_simp
    simp only [zsA,zsZ,zsS];refine M_take 10 34 (.pointer (some ⟨g,i * 2,none⟩)) _ rfl rfl (by kernel_rfl) (by kernel_rfl) (by kernel_rfl) (by kernel_rfl) (by kernel_rfl) (fun _ _ _ h => h) (by rfl) (fun w' hw' => ?_) hS (listed' := bts 19 2047) (by kernel_rfl) rfl ?_
    ·go_simp
    simp only [zsA,zsZ,zsS];refine M_take 11 35 (.string A) _ rfl rfl (by kernel_rfl) (by kernel_rfl) (by kernel_rfl) (by kernel_rfl) (by kernel_rfl) (fun _ _ _ h => h) (by rfl) (fun w' hw' => ?_) hS (listed' := bts 19 4095) (by kernel_rfl) rfl ?_
    ·obtain ⟨f0,f1⟩ := HQ.out _ hw'; go_simp
    simp only [zsA,zsZ,zsS];generalize wr.drew = U0 at *;refine M_fork 12 16 36 8 37 #[.agg #[.string sn,.slice sa sl sc,.slice ea el ec,.slice ta tl tc],.string A] (.pointer (some ⟨U0.heap.size,0,none⟩)) (U0.alloc (Obj.cells #[.string ⟨#[]⟩,.slice none 0 0,.slice none 0 0] 40)) rfl rfl rfl rfl (by kernel_rfl) (by rfl) (by rfl) (by go_simp) (by go_simp) ?_ (hS.trans (((Below.refl _ _).alloc (Nat.le_refl _) _).mono hS.size)) ?_
    ·skip
     refine (HC1.out _ hS).mono ?_;rintro ee V1 ⟨vf,vr,rfl,hof,hor,hbU⟩;obtain ⟨fa,fc,rfl⟩ := own_form hof;obtain ⟨ra,rc,rfl⟩ := own_form hor
     replace hof := own_base hof hS.size
     replace hor := own_base hor hS.size
     have hS0 := hS;have hS : Below wr.heap.size wr V1 := hS0.trans (hbU.mono hS0.size);clear hS0 hbU;refine ⟨_,rfl,hS,?_⟩;simp only [zsA,zsZ,zsS];refine M_take 13 23 (.tuple #[.agg #[.string m.name,.slice fa m.fields.length fc,.slice ra m.reserved.length rc],.bool ok1]) _ rfl rfl (by kernel_rfl) (by kernel_rfl) (by kernel_rfl) (by kernel_rfl) (by kernel_rfl) (fun _ _ _ h => h) (by rfl) (fun w' hw' => ?_) hS (listed' := bts 19 16383) (by kernel_rfl) rfl ?_
     ·go_simp
     simp only [zsA,zsZ,zsS];refine M_take 14 37 (.agg #[.string m.name,.slice fa m.fields.length fc,.slice ra m.reserved.length rc]) _ rfl rfl (by kernel_rfl) (by kernel_rfl) (by kernel_rfl) (by kernel_rfl) (by kernel_rfl) (fun _ _ _ h => h) (by rfl) (fun w' hw' => ?_) hS (listed' := bts 19 32767) (by kernel_rfl) rfl ?_
     ·go_simp
     simp only [zsA,zsZ,zsS];refine M_take 15 38 (.bool ok1) _ rfl rfl (by kernel_rfl) (by kernel_rfl) (by kernel_rfl) (by kernel_rfl) (by kernel_rfl) (fun _ _ _ h => h) (by rfl) (fun w' hw' => ?_) hS (listed' := bts 19 65535) (by kernel_rfl) rfl ?_
     ·go_simp
     simp only [zsA,zsZ,zsS];refine M_run 16 8 (.pointer (some ⟨V1.heap.size,0,none⟩)) (V1.alloc (Obj.cells #[.string ⟨#[]⟩,.slice none 0 0,.slice none 0 0] 40)) rfl rfl (by kernel_rfl) (by rfl) (listed' := bts 19 131071) (by kernel_rfl) (by go_simp) (hS.trans (((Below.refl _ _).alloc (Nat.le_refl _) _).mono hS.size)) ?_;have hbU : Below V1.heap.size V1 (V1.alloc (Obj.cells #[.string ⟨#[]⟩,.slice none 0 0,.slice none 0 0] 40)) := (Below.refl _ _).alloc (Nat.le_refl _) _;obtain ⟨bz,hbz⟩ : ∃ z,V1.heap.size = z := ⟨_,rfl⟩
     have BZ : Blk (V1.alloc (Obj.cells #[.string ⟨#[]⟩,.slice none 0 0,.slice none 0 0] 40)) bz #[.string ⟨#[]⟩,.slice none 0 0,.slice none 0 0] 40 := by rw [← hbz]; exact Blk.new V1 _ _
     have GZ : wr.heap.size ≤ bz := by rw [← hbz]; exact hS.size
     have hS0 := hS;have hS : Below wr.heap.size wr (V1.alloc (Obj.cells #[.string ⟨#[]⟩,.slice none 0 0,.slice none 0 0] 40)) := hS0.trans (hbU.mono hS0.size)
     replace hof := own_below hof hbU
     replace hor := own_below hor hbU
     clear hS0 hbU;simp only [zsA,zsZ,zsS]
     try simp only [hbz]
     clear hbz;generalize (V1.alloc (Obj.cells #[.string ⟨#[]⟩,.slice none 0 0,.slice none 0 0] 40)) = V2 at *;have k0 := (BZ.cell 0).trans rfl;have z0 := BZ.froz 0;have k1 := (BZ.cell 1).trans rfl;have z1 := BZ.froz 1;have k2 := (BZ.cell 2).trans rfl;have z2 := BZ.froz 2;have hS9 : Below wr.heap.size wr (set3E V2 bz 0 (.string m.name) (.slice fa m.fields.length fc) (.slice ra m.reserved.length rc)) := hS.trans ((set3_kp V2 bz 0 (.string m.name) (.slice fa m.fields.length fc) (.slice ra m.reserved.length rc)).toBelow hS.size fun q e => by rw [e]; exact GZ);refine M_storeT 17 (set3E V2 bz 0 (.string m.name) (.slice fa m.fields.length fc) (.slice ra m.reserved.length rc)) rfl rfl (by kernel_rfl) (by rfl) (listed' := bts 19 262143) (by kernel_rfl) (by unfold set3E; go_simp) hS9 ?_;clear k0 z0 k1 z1 k2 z2;have HFI : Hid (MsB (set3E V2 bz 0 (.string m.name) (.slice fa m.fields.length fc) (.slice ra m.reserved.length rc)) bz wr.heap.size m ∧ Below wr.heap.size wr (set3E V2 bz 0 (.string m.name) (.slice fa m.fields.length fc) (.slice ra m.reserved.length rc))) := ⟨⟨fa,fc,ra,rc,blk_set3 BZ,own_set3 BZ hof (by decide),own_set3 BZ hor (by decide)⟩,hS9⟩;clear hS BZ GZ;generalize (set3E V2 bz 0 (.string m.name) (.slice fa m.fields.length fc) (.slice ra m.reserved.length rc)) = W9 at *;refine M_runA 18 9 (.bool ok1) W9 rfl rfl (by kernel_rfl) (by rfl) (listed' := bts 19 524287) (by kernel_rfl) (by go_simp) (by kernel_rfl) ?_;simp only [zsA,zsZ,zsS];refine M_done (by kernel_rfl) ?_ _;go_wp2_with fail
     go_meet
     exact ⟨bz,rfl,rfl,HFI⟩
    ·skip
     have hbU : Below U0.heap.size U0 (U0.alloc (Obj.cells #[.string ⟨#[]⟩,.slice none 0 0,.slice none 0 0] 40)) := (Below.refl _ _).alloc (Nat.le_refl _) _;obtain ⟨bz,hbz⟩ : ∃ z,U0.heap.size = z := ⟨_,rfl⟩
     have BZ : Blk (U0.alloc (Obj.cells #[.string ⟨#[]⟩,.slice none 0 0,.slice none 0 0] 40)) bz #[.string ⟨#[]⟩,.slice none 0 0,.slice none 0 0] 40 := by rw [← hbz]; exact Blk.new U0 _ _
     have GZ : wr.heap.size ≤ bz := by rw [← hbz]; exact hS.size
     have hS0 := hS;have hS : Below wr.heap.size wr (U0.alloc (Obj.cells #[.string ⟨#[]⟩,.slice none 0 0,.slice none 0 0] 40)) := hS0.trans (hbU.mono hS0.size);clear hS0 hbU;simp only [zsA,zsZ,zsS]
     try simp only [hbz]
     clear hbz;generalize (U0.alloc (Obj.cells #[.string ⟨#[]⟩,.slice none 0 0,.slice none 0 0] 40)) = V3 at *;refine M_call 12 36 37 #[.agg #[.string sn,.slice sa sl sc,.slice ea el ec,.slice ta tl tc],.string A] rfl rfl (by kernel_rfl) (by rfl) (listed' := bts 19 73727) (by kernel_rfl) (fun W => by go_simp) ?_;refine (HC1.out _ hS).mono ?_;rintro ee V4 ⟨vf,vr,rfl,hof,hor,hbU⟩
     replace BZ := BZ.below hbU
     obtain ⟨fa,fc,rfl⟩ := own_form hof;obtain ⟨ra,rc,rfl⟩ := own_form hor
     replace hof := own_base hof hS.size
     replace hor := own_base hor hS.size
     have hS0 := hS;have hS : Below wr.heap.size wr V4 := hS0.trans (hbU.mono hS0.size);clear hS0 hbU;refine ⟨_,rfl,hS,?_⟩;simp only [zsA,zsZ,zsS];refine M_take 13 23 (.tuple #[.agg #[.string m.name,.slice fa m.fields.length fc,.slice ra m.reserved.length rc],.bool ok1]) _ rfl rfl (by kernel_rfl) (by kernel_rfl) (by kernel_rfl) (by kernel_rfl) (by kernel_rfl) (fun _ _ _ h => h) (by rfl) (fun w' hw' => ?_) hS (listed' := bts 19 81919) (by kernel_rfl) rfl ?_
     ·go_simp
     simp only [zsA,zsZ,zsS];refine M_take 14 37 (.agg #[.string m.name,.slice fa m.fields.length fc,.slice ra m.reserved.length rc]) _ rfl rfl (by kernel_rfl) (by kernel_rfl) (by kernel_rfl) (by kernel_rfl) (by kernel_rfl) (fun _ _ _ h => h) (by rfl) (fun w' hw' => ?_) hS (listed' := bts 19 98303) (by kernel_rfl) rfl ?_
     ·go_simp
     simp only [zsA,zsZ,zsS];refine M_take 15 38 (.bool ok1) _ rfl rfl (by kernel_rfl) (by kernel_rfl) (by kernel_rfl) (by kernel_rfl) (by kernel_rfl) (fun _ _ _ h => h) (by rfl) (fun w' hw' => ?_) hS (listed' := bts 19 131071) (by kernel_rfl) rfl ?_
     ·go_simp
     simp only [zsA,zsZ,zsS];have k0 := (BZ.cell 0).trans rfl;have z0 := BZ.froz 0;have k1 := (BZ.cell 1).trans rfl;have z1 := BZ.froz 1;have k2 := (BZ.cell 2).trans rfl;have z2 := BZ.froz 2;have hS9 : Below wr.heap.size wr (set3E V4 bz 0 (.string m.name) (.slice fa m.fields.length fc) (.slice ra m.reserved.length rc)) := hS.trans ((set3_kp V4 bz 0 (.string m.name) (.slice fa m.fields.length fc) (.slice ra m.reserved.length rc)).toBelow hS.size fun q e => by rw [e]; exact GZ);refine M_storeT 17 (set3E V4 bz 0 (.string m.name) (.slice fa m.fields.length fc) (.slice ra m.reserved.length rc)) rfl rfl (by kernel_rfl) (by rfl) (listed' := bts 19 262143) (by kernel_rfl) (by unfold set3E; go_simp) hS9 ?_;clear k0 z0 k1 z1 k2 z2;have HFI : Hid (MsB (set3E V4 bz 0 (.string m.name) (.slice fa m.fields.length fc) (.slice ra m.reserved.length rc)) bz wr.heap.size m ∧ Below wr.heap.size wr (set3E V4 bz 0 (.string m.name) (.slice fa m.fields.length fc) (.slice ra m.reserved.length rc))) := ⟨⟨fa,fc,ra,rc,blk_set3 BZ,own_set3 BZ hof (by decide),own_set3 BZ hor (by decide)⟩,hS9⟩;clear hS BZ GZ;generalize (set3E V4 bz 0 (.string m.name) (.slice fa m.fields.length fc) (.slice ra m.reserved.length rc)) = W9 at *;refine M_runA 18 9 (.bool ok1) W9 rfl rfl (by kernel_rfl) (by rfl) (listed' := bts 19 524287) (by kernel_rfl) (by go_simp) (by kernel_rfl) ?_;simp only [zsA,zsZ,zsS];refine M_done (by kernel_rfl) ?_ _;go_wp2_with fail
     go_meet
     exact ⟨bz,rfl,rfl,HFI⟩
   case rest =>
    obtain ⟨ba,rfl,rfl,HBA⟩ := hcut;generalize wc = w5 at *;have HB5 : Hid (Below wr.heap.size wr w5) := HBA.out.2;have HMS : Hid (MsB w5 ba wr.heap.size m) := HBA.out.1;clear HBA
    go_upto_region 6 with fail
    go_cut [10,11] from 39 to 54 (fun pv ov wx => ∃ b : Nat,pv = .pointer (some ⟨b,0,none⟩) ∧ ov = .bool ok2 ∧ Hid (MsB wx b w5.heap.size n ∧ Below w5.heap.size w5 wx))
    case first =>
     refine M_region (T := fun W => Below w5.heap.size w5 W) (m := 18) (by kernel_rfl) ?_;have hS : Below w5.heap.size w5 w5.drew := (Below.refl _ _).drew;refine M_take 0 40 (.pointer (some ⟨b,0,none⟩)) _ rfl rfl (by kernel_rfl) (by kernel_rfl) (by kernel_rfl) (by kernel_rfl) (by kernel_rfl) (fun _ _ _ h => h) (by rfl) (fun w' hw' => ?_) hS (listed' := bts 19 1) (by kernel_rfl) rfl ?_
     ·go_simp
     simp only [zsA,zsZ,zsS];refine M_take 1 41 (.pointer (some ⟨b,0,none⟩)) _ rfl rfl (by kernel_rfl) (by kernel_rfl) (by kernel_rfl) (by kernel_rfl) (by kernel_rfl) (fun _ _ _ h => h) (by rfl) (fun w' hw' => ?_) hS (listed' := bts 19 3) (by kernel_rfl) rfl ?_
     ·go_simp
     simp only [zsA,zsZ,zsS];refine M_take 2 42 (.pointer (some ⟨b,4,none⟩)) _ rfl rfl (by kernel_rfl) (by kernel_rfl) (by kernel_rfl) (by kernel_rfl) (by kernel_rfl) (fun _ _ _ h => h) (by rfl) (fun w' hw' => ?_) hS (listed' := bts 19 7) (by kernel_rfl) rfl ?_
     ·go_simp
     simp only [zsA,zsZ,zsS];refine M_take 3 43 (.agg #[.string tn,.slice sa2 sl2 sc2,.slice ea2 el2 ec2,.slice ta2 tl2 tc2]) _ rfl rfl (by kernel_rfl) (by kernel_rfl) (by kernel_rfl) (by kernel_rfl) (by kernel_rfl) (fun _ _ _ h => h) (by rfl) (fun w' hw' => ?_) hS (listed' := bts 19 15) (by kernel_rfl) rfl ?_
     ·have f4 := ((HBB.out _ (HB5.out.trans (hw'.mono HB5.out.size))).cell 4).trans rfl; have f5 := ((HBB.out _ (HB5.out.trans (hw'.mono HB5.out.size))).cell 5).trans rfl; have f6 := ((HBB.out _ (HB5.out.trans (hw'.mono HB5.out.size))).cell 6).trans rfl; have f7 := ((HBB.out _ (HB5.out.trans (hw'.mono HB5.out.size))).cell 7).trans rfl; go_simp
     simp only [zsA,zsZ,zsS];refine M_take 4 44 (.pointer (some ⟨b,0,none⟩)) _ rfl rfl (by kernel_rfl) (by kernel_rfl) (by kernel_rfl) (by kernel_rfl) (by kernel_rfl) (fun _ _ _ h => h) (by rfl) (fun w' hw' => ?_) hS (listed' := bts 19 31) (by kernel_rfl) rfl ?_
     ·go_simp
     simp only [zsA,zsZ,zsS];refine M_take 5 45 (.pointer (some ⟨b,0,none⟩)) _ rfl rfl (by kernel_rfl) (by kernel_rfl) (by kernel_rfl) (by kernel_rfl) (by kernel_rfl) (fun _ _ _ h => h) (by rfl) (fun w' hw' => ?_) hS (listed' := bts 19 63) (by kernel_rfl) rfl ?_
     ·go_simp
     simp only [zsA,zsZ,zsS];refine M_take 6 46 (.pointer (some ⟨b,8,none⟩)) _ rfl rfl (by kernel_rfl) (by kernel_rfl) (by kernel_rfl) (by kernel_rfl) (by kernel_rfl) (fun _ _ _ h => h) (by rfl) (fun w' hw' => ?_) hS (listed' := bts 19 127) (by kernel_rfl) rfl ?_
     ·go_simp
     simp only [zsA,zsZ,zsS];refine M_take 7 47 (.slice (some ⟨g,0,none⟩) K pc) _ rfl rfl (by kernel_rfl) (by kernel_rfl) (by kernel_rfl) (by kernel_rfl) (by kernel_rfl) (fun _ _ _ h => h) (by rfl) (fun w' hw' => ?_) hS (listed' := bts 19 255) (by kernel_rfl) rfl ?_
     ·have f8 := ((HBB.out _ (HB5.out.trans (hw'.mono HB5.out.size))).cell 8).trans rfl; go_simp
     simp only [zsA,zsZ,zsS];refine M_take 8 48 (.int .i64 (i : Int)) _ rfl rfl (by kernel_rfl) (by kernel_rfl) (by kernel_rfl) (by kernel_rfl) (by kernel_rfl) (fun _ _ _ h => h) (by rfl) (fun w' hw' => ?_) hS (listed' := bts 19 511) (by kernel_rfl) rfl ?_
     ·go_simp
     simp only [zsA,zsZ,zsS];refine M_take 9 49 (.pointer (some ⟨g,i * 2,none⟩)) _ rfl rfl (by kernel_rfl) (by kernel_rfl) (by kernel_rfl) (by kernel_rfl) (by kernel_rfl) (fun _ _ _ h => h) (by rfl) (fun w' hw' => ?_) hS (listed' := bts 19 1023) (by kernel_rfl) rfl ?_
     ·go_simp
     simp only [zsA,zsZ,zsS];refine M_take 10 50 (.pointer (some ⟨g,i * 2 + 1,none⟩)) _ rfl rfl (by kernel_rfl) (by kernel_rfl) (by kernel_rfl) (by kernel_rfl) (by kernel_rfl) (fun _ _ _ h => h) (by rfl) (fun w' hw' => ?_) hS (listed' := bts 19 2047) (by kernel_rfl) rfl ?_
     ·go_simp
     simp only [zsA,zsZ,zsS];refine M_take 11 51 (.string B) _ rfl rfl (by kernel_rfl) (by kernel_rfl) (by kernel_rfl) (by kernel_rfl) (by kernel_rfl) (fun _ _ _ h => h) (by rfl) (fun w' hw' => ?_) hS (listed' := bts 19 4095) (by kernel_rfl) rfl ?_
     ·obtain ⟨f0,f1⟩ := HQ.out _ (HB5.out.trans (hw'.mono HB5.out.size)); go_simp
     simp only [zsA,zsZ,zsS];generalize w5.drew = U0 at *;refine M_fork 12 16 52 10 37 #[.agg #[.string tn,.slice sa2 sl2 sc2,.slice ea2 el2 ec2,.slice ta2 tl2 tc2],.string B] (.pointer (some ⟨U0.heap.size,0,none⟩)) (U0.alloc (Obj.cells #[.string ⟨#[]⟩,.slice none 0 0,.slice none 0 0] 40)) rfl rfl rfl rfl (by kernel_rfl) (by rfl) (by rfl) (by go_simp) (by go_simp) ?_ (hS.trans (((Below.refl _ _).alloc (Nat.le_refl _) _).mono hS.size)) ?_
     ·skip
      refine (HC2.out _ (HB5.out.trans (hS.mono HB5.out.size))).mono ?_;rintro ee V1 ⟨vf,vr,rfl,hof,hor,hbU⟩;obtain ⟨fa,fc,rfl⟩ := own_form hof;obtain ⟨ra,rc,rfl⟩ := own_form hor
      replace hof := own_base hof hS.size
      replace hor := own_base hor hS.size
      have hS0 := hS;have hS : Below w5.heap.size w5 V1 := hS0.trans (hbU.mono hS0.size);clear hS0 hbU;refine ⟨_,rfl,hS,?_⟩;simp only [zsA,zsZ,zsS];refine M_take 13 39 (.tuple #[.agg #[.string n.name,.slice fa n.fields.length fc,.slice ra n.reserved.length rc],.bool ok2]) _ rfl rfl (by kernel_rfl) (by kernel_rfl) (by kernel_rfl) (by kernel_rfl) (by kernel_rfl) (fun _ _ _ h => h) (by rfl) (fun w' hw' => ?_) hS (listed' := bts 19 16383) (by kernel_rfl) rfl ?_
      ·go_simp
      simp only [zsA,zsZ,zsS];refine M_take 14 53 (.agg #[.string n.name,.slice fa n.fields.length fc,.slice ra n.reserved.length rc]) _ rfl rfl (by kernel_rfl) (by kernel_rfl) (by kernel_rfl) (by kernel_rfl) (by kernel_rfl) (fun _ _ _ h => h) (by rfl) (fun w' hw' => ?_) hS (listed' := bts 19 32767) (by kernel_rfl) rfl ?_
      ·go_simp
      simp only [zsA,zsZ,zsS];refine M_take 15 54 (.bool ok2) _ rfl rfl (by kernel_rfl) (by kernel_rfl) (by kernel_rfl) (by kernel_rfl) (by kernel_rfl) (fun _ _ _ h => h) (by rfl) (fun w' hw' => ?_) hS (listed' := bts 19 65535) (by kernel_rfl) rfl ?_
      ·go_simp
      simp only [zsA,zsZ,zsS];refine M_run 16 10 (.pointer (some ⟨V1.heap.size,0,none⟩)) (V1.alloc (Obj.cells #[.string ⟨#[]⟩,.slice none 0 0,.slice none 0 0] 40)) rfl rfl (by kernel_rfl) (by rfl) (listed' := bts 19 131071) (by kernel_rfl) (by go_simp) (hS.trans (((Below.refl _ _).alloc (Nat.le_refl _) _).mono hS.size)) ?_;have hbU : Below V1.heap.size V1 (V1.alloc (Obj.cells #[.string ⟨#[]⟩,.slice none 0 0,.slice none 0 0] 40)) := (Below.refl _ _).alloc (Nat.le_refl _) _;obtain ⟨bz,hbz⟩ : ∃ z,V1.heap.size = z := ⟨_,rfl⟩
      have BZ : Blk (V1.alloc (Obj.cells #[.string ⟨#[]⟩,.slice none 0 0,.slice none 0 0] 40)) bz #[.string ⟨#[]⟩,.slice none 0 0,.slice none 0 0] 40 := by rw [← hbz]; exact Blk.new V1 _ _
      have GZ : w5.heap.size ≤ bz := by rw [← hbz]; exact hS.size
      have hS0 := hS;have hS : Below w5.heap.size w5 (V1.alloc (Obj.cells #[.string ⟨#[]⟩,.slice none 0 0,.slice none 0 0] 40)) := hS0.trans (hbU.mono hS0.size)
      replace hof := own_below hof hbU
      replace hor := own_below hor hbU
      clear hS0 hbU;simp only [zsA,zsZ,zsS]
      try simp only [hbz]
      clear hbz;generalize (V1.alloc (Obj.cells #[.string ⟨#[]⟩,.slice none 0 0,.slice none 0 0] 40)) = V2 at *;have k0 := (BZ.cell 0).trans rfl;have z0 := BZ.froz 0;have k1 := (BZ.cell 1).trans rfl;have z1 := BZ.froz 1;have k2 := (BZ.cell 2).trans rfl;have z2 := BZ.froz 2;have hS9 : Below w5.heap.size w5 (set3E V2 bz 0 (.string n.name) (.slice fa n.fields.length fc) (.slice ra n.reserved.length rc)) := hS.trans ((set3_kp V2 bz 0 (.string n.name) (.slice fa n.fields.length fc) (.slice ra n.reserved.length rc)).toBelow hS.size fun q e => by rw [e]; exact GZ);refine M_storeT 17 (set3E V2 bz 0 (.string n.name) (.slice fa n.fields.length fc) (.slice ra n.reserved.length rc)) rfl rfl (by kernel_rfl) (by rfl) (listed' := bts 19 262143) (by kernel_rfl) (by unfold set3E; go_simp) hS9 ?_;clear k0 z0 k1 z1 k2 z2;have HFI : Hid (MsB (set3E V2 bz 0 (.string n.name) (.slice fa n.fields.length fc) (.slice ra n.reserved.length rc)) bz w5.heap.size n ∧ Below w5.heap.size w5 (set3E V2 bz 0 (.string n.name) (.slice fa n.fields.length fc) (.slice ra n.reserved.length rc))) := ⟨⟨fa,fc,ra,rc,blk_set3 BZ,own_set3 BZ hof (by decide),own_set3 BZ hor (by decide)⟩,hS9⟩;clear hS BZ GZ;generalize (set3E V2 bz 0 (.string n.name) (.slice fa n.fields.length fc) (.slice ra n.reserved.length rc)) = W9 at *;refine M_runA 18 11 (.bool ok2) W9 rfl rfl (by kernel_rfl) (by rfl) (listed' := bts 19 524287) (by kernel_rfl) (by go_simp) (by kernel_rfl) ?_;simp only [zsA,zsZ,zsS];refine M_done (by kernel_rfl) ?_ _;go_wp2_with fail
      go_meet
      exact ⟨bz,rfl,rfl,HFI⟩
     ·skip
      have hbU : Below U0.heap.size U0 (U0.alloc (Obj.cells #[.string ⟨#[]⟩,.slice none 0 0,.slice none 0 0] 40)) := (Below.refl _ _).alloc (Nat.le_refl _) _;obtain ⟨bz,hbz⟩ : ∃ z,U0.heap.size = z := ⟨_,rfl⟩
      have BZ : Blk (U0.alloc (Obj.cells #[.string ⟨#[]⟩,.slice none 0 0,.slice none 0 0] 40)) bz #[.string ⟨#[]⟩,.slice none 0 0,.slice none 0 0] 40 := by rw [← hbz]; exact Blk.new U0 _ _
      have GZ : w5.heap.size ≤ bz := by rw [← hbz]; exact hS.size
      have hS0 := hS;have hS : Below w5.heap.size w5 (U0.alloc (Obj.cells #[.string ⟨#[]⟩,.slice none 0 0,.slice none 0 0] 40)) := hS0.trans (hbU.mono hS0.size);clear hS0 hbU;simp only [zsA,zsZ,zsS]
      try simp only [hbz]
      clear hbz;generalize (U0.alloc (Obj.cells #[.string ⟨#[]⟩,.slice none 0 0,.slice none 0 0] 40)) = V3 at *;refine M_call 12 52 37 #[.agg #[.string tn,.slice sa2 sl2 sc2,.slice ea2 el2 ec2,.slice ta2 tl2 tc2],.string B] rfl rfl (by kernel_rfl) (by rfl) (listed' := bts 19 73727) (by kernel_rfl) (fun W => by go_simp) ?_;refine (HC2.out _ (HB5.out.trans (hS.mono HB5.out.size))).mono ?_;rintro ee V4 ⟨vf,vr,rfl,hof,hor,hbU⟩
      replace BZ := BZ.below hbU
      obtain ⟨fa,fc,rfl⟩ := own_form hof;obtain ⟨ra,rc,rfl⟩ := own_form hor
      replace hof := own_base hof hS.size
      replace hor := own_base hor hS.size
      have hS0 := hS;have hS : Below w5.heap.size w5 V4 := hS0.trans (hbU.mono hS0.size);clear hS0 hbU;refine ⟨_,rfl,hS,?_⟩;simp only [zsA,zsZ,zsS];refine M_take 13 39 (.tuple #[.agg #[.string n.name,.slice fa n.fields.length fc,.slice ra n.reserved.length rc],.bool ok2]) _ rfl rfl (by kernel_rfl) (by kernel_rfl) (by kernel_rfl) (by kernel_rfl) (by kernel_rfl) (fun _ _ _ h => h) (by rfl) (fun w' hw' => ?_) hS (listed' := bts 19 81919) (by kernel_rfl) rfl ?_
      ·go_simp
      simp only [zsA,zsZ,zsS];refine M_take 14 53 (.agg #[.string n.name,.slice fa n.fields.length fc,.slice ra n.reserved.length rc]) _ rfl rfl (by kernel_rfl) (by kernel_rfl) (by kernel_rfl) (by kernel_rfl) (by kernel_rfl) (fun _ _ _ h => h) (by rfl) (fun w' hw' => ?_) hS (listed' := bts 19 98303) (by kernel_rfl) rfl ?_
      ·go_simp
      simp only [zsA,zsZ,zsS];refine M_take 15 54 (.bool ok2) _ rfl rfl (by kernel_rfl) (by kernel_rfl) (by kernel_rfl) (by kernel_rfl) (by kernel_rfl) (fun _ _ _ h => h) (by rfl) (fun w' hw' => ?_) hS (listed' := bts 19 131071) (by kernel_rfl) rfl ?_
      ·go_simp
      simp only [zsA,zsZ,zsS];have k0 := (BZ.cell 0).trans rfl;have z0 := BZ.froz 0;have k1 := (BZ.cell 1).trans rfl;have z1 := BZ.froz 1;have k2 := (BZ.cell 2).trans rfl;have z2 := BZ.froz 2;have hS9 : Below w5.heap.size w5 (set3E V4 bz 0 (.string n.name) (.slice fa n.fields.length fc) (.slice ra n.reserved.length rc)) := hS.trans ((set3_kp V4 bz 0 (.string n.name) (.slice fa n.fields.length fc) (.slice ra n.reserved.length rc)).toBelow hS.size fun q e => by rw [e]; exact GZ);refine M_storeT 17 (set3E V4 bz 0 (.string n.name) (.slice fa n.fields.length fc) (.slice ra n.reserved.length rc)) rfl rfl (by kernel_rfl) (by rfl) (listed' := bts 19 262143) (by kernel_rfl) (by unfold set3E; go_simp) hS9 ?_;clear k0 z0 k1 z1 k2 z2;have HFI : Hid (MsB (set3E V4 bz 0 (.string n.name) (.slice fa n.fields.length fc) (.slice ra n.reserved.length rc)) bz w5.heap.size n ∧ Below w5.heap.size w5 (set3E V4 bz 0 (.string n.name) (.slice fa n.fields.length fc) (.slice ra n.reserved.length rc))) := ⟨⟨fa,fc,ra,rc,blk_set3 BZ,own_set3 BZ hof (by decide),own_set3 BZ hor (by decide)⟩,hS9⟩;clear hS BZ GZ;generalize (set3E V4 bz 0 (.string n.name) (.slice fa n.fields.length fc) (.slice ra n.reserved.length rc)) = W9 at *;refine M_runA 18 11 (.bool ok2) W9 rfl rfl (by kernel_rfl) (by rfl) (listed' := bts 19 524287) (by kernel_rfl) (by go_simp) (by kernel_rfl) ?_;simp only [zsA,zsZ,zsS];refine M_done (by kernel_rfl) ?_ _;go_wp2_with fail
      go_meet
      exact ⟨bz,rfl,rfl,HFI⟩
    case rest =>
     obtain ⟨bb,rfl,rfl,HBA⟩ := hcut;generalize wc = w6 at *;have HB6 : Hid (Below w5.heap.size w5 w6) := HBA.out.2;have HMT : Hid (MsB w6 bb w5.heap.size n) := HBA.out.1
     replace HMS : Hid (MsB w6 ba wr.heap.size m) := HMS.out.below HB6.out
     have HB : Hid (Below wr.heap.size wr w6) := HB5.out.trans (HB6.out.mono HB5.out.size);clear HBA HB5 HB6 HC1 HC2 HQ;obtain ⟨B1,hB1⟩ : ∃ z,wr.heap.size = z := ⟨_,rfl⟩;obtain ⟨B2,hB2⟩ : ∃ z,w5.heap.size = z := ⟨_,rfl⟩;rw [hB1] at HMS;rw [hB2] at HMT;have HM6 : Hid (Meet [.string sn,.slice sa sl sc,.slice ea el ec,.slice ta tl tc] [.string tn,.slice sa2 sl2 sc2,.slice ea2 el2 ec2,.slice ta2 tl2 tc2] W0 w6 b mb (.slice (some ⟨g,0,none⟩) K pc) l) := HM.out.bel HB.out;clear hB1 hB2 HM HBB c8 HB;obtain ⟨fa,fc,ra,rc,BA,hof,hor⟩ := HMS.out;have HTG : Hid _ := tags_any (nm := m.name) (own_rowF hof) (own_rowI hor) HFW.out.1;have a0 := (BA.cell 0).trans rfl;have a1 := (BA.cell 1).trans rfl;have a2 := (BA.cell 2).trans rfl;clear BA hof hor;obtain ⟨f1,hf1⟩ : ∃ z,m.fields.length = z := ⟨_,rfl⟩;obtain ⟨r1,hr1⟩ : ∃ z,m.reserved.length = z := ⟨_,rfl⟩;obtain ⟨mnm,hmn⟩ : ∃ z,m.name = z := ⟨_,rfl⟩;rw [hf1,hr1,hmn] at HTG;simp only [hf1,hr1,hmn] at a0 a1 a2;clear hf1 hr1 hmn;go_wp2_with fail;refine Calls.mono HTG.out ?_;rintro ee w7 ⟨vt,rfl,hot,hb7⟩;obtain ⟨at7,ct7,rfl⟩ := own_form hot;obtain ⟨TL,hTL⟩ : ∃ z,(tagsM m).length = z := ⟨_,rfl⟩;have HTL : Hid ((tagsM m).length = TL) := hTL;rw [hTL] at hot;obtain ⟨B3,hB3⟩ : ∃ z,w6.heap.size = z := ⟨_,rfl⟩;have HTR : Hid (MsB w7 ba B1 m ∧ MsB w7 bb B2 n ∧ w7.ownsRow B3 3 1 (.slice at7 TL ct7) TL ((tagsM m).map (Value.int .i64))) := ⟨HMS.out.below hb7,HMT.out.below hb7,by rw [← hB3]; exact hot⟩;have HM7 : Hid (Meet [.string sn,.slice sa sl sc,.slice ea el ec,.slice ta tl tc] [.string tn,.slice sa2 sl2 sc2,.slice ea2 el2 ec2,.slice ta2 tl2 tc2] W0 w7 b mb (.slice (some ⟨g,0,none⟩) K pc) l) := HM6.out.bel hb7;obtain ⟨RES,hRES⟩ : ∃ z,rowT s t m n (tagsM m) l = z := ⟨_,rfl⟩;have HRES : Hid (rowT s t m n (tagsM m) l = RES) := hRES;have HR0 : Hid (rowT s t m n ((tagsM m).drop 0) l = RES) := hRES;have HP0 : Hid (PrIn s t l ∧ ∃ r,l = l ++ r) := ⟨HP.out,[],by simp⟩;have hll : (tagsM m).length = TL := hTL
     have htb : TL ≤ 200 := by
      rw [← hTL,tagsM_len];have := HFW.out.1
      omega
     try simp only [hll]
     clear hB3 hot hb7 HM6 HMS HMT HTG a0 a1 a2 hTL hRES hll;go_wp2_with fail
     go_loopw [5,6,58] (fun nv tv kv wr => ∃ (k : Nat) (l' : List Pr) (vp' : Value),nv = .string ⟨#[]⟩ ∧ tv = .int .i64 0 ∧ kv = .int .i64 (k : Int) ∧ k ≤ TL ∧ Hid (rowT s t m n ((tagsM m).drop k) l' = RES) ∧ Hid (PrIn s t l' ∧ ∃ r,l' = l ++ r) ∧ Hid (Meet [.string sn,.slice sa sl sc,.slice ea el ec,.slice ta tl tc] [.string tn,.slice sa2 sl2 sc2,.slice ea2 el2 ec2,.slice ta2 tl2 tc2] W0 wr b mb vp' l') ∧ Hid (MsB wr ba B1 m ∧ MsB wr bb B2 n ∧ wr.ownsRow B3 3 1 (.slice at7 TL ct7) TL ((tagsM m).map (Value.int .i64)))) (fun _ _ kv _ => TL - (intOf kv).toNat)
     case atStart => exact ⟨0,l,_,rfl,rfl,rfl,by omega,HR0,HP0,HM7,HTR⟩
     case round =>
      clear HR0 HP0 HM7 HTR;obtain ⟨k,l',vp',rfl,rfl,rfl,hk,HR,HP',HM',HTR⟩ := hrel;obtain ⟨HBA,HBB,hot⟩ := HTR.out;obtain ⟨fa,fc,ra,rc,BA,hof,hor⟩ := HBA;obtain ⟨fb,gc,rb,qc,BE,hog,hoq⟩ := HBB
      by_cases hkt : k < TL
      ·obtain ⟨tag,htg⟩ : ∃ z,(tagsM m)[k]? = some z := ⟨_,List.getElem?_eq_getElem (by rw [HTL.out]; exact hkt)⟩;have HTM : Hid (tag ∈ tagsM m) := List.mem_of_getElem? htg
       obtain ⟨gt,rfl⟩ : ∃ g,at7 = some ⟨g,0,none⟩ := by
        rcases hot.2 with ⟨e,h0⟩ | ⟨g,cap,cur,e,_⟩
        ·omega
        ·simp only [Value.slice.injEq] at e;exact ⟨g,e.1⟩
       have t0 := hot.cells (g := gt) rfl k (.int .i64 tag) (by rw [List.getElem?_map,htg]; rfl);simp only [Addr.add_lit,Nat.zero_add] at t0
       have hlk : decide ((k : Int) < (TL : Int)) = true := by simp; omega
       have HDR : Hid ((tagsM m).drop k = tag :: (tagsM m).drop (k + 1)) := (by
        obtain ⟨h1,h2⟩ := List.getElem?_eq_some_iff.1 htg
        rw [← h2,List.drop_eq_getElem_cons h1] : _ = _)
       have HKE : Hid _ := mkeeps_any HSS.out.1 HST.out.1 HM'.out (Nat.le_trans (HP'.out.1.len (okS_len HSS.out.2) (okS_len HST.out.2)) (by decide)) (m := m) (n := n) (an := m.name) (bn := n.name) (ra := ra) (rl := m.reserved.length) (rc := rc) tag (own_rowF hof) (own_rowF hog) (own_rowI hoq) HFW.out.2.1 HFW.out.2.2;have HKA : Hid (keepA s t m n tag = atE s t m n tag) := keep_at HTA.out HTM.out;have HTP : Hid (1 ≤ tag) := ((HTA.out.rng tag ((tagsM_perm m).mem_iff.1 HTM.out)).1 : 1 ≤ tag);rw [HKA.out] at HKE;rw [HDR.out] at HR
       have HNX : Hid (atE s t m n tag = none → RES = (l',some tag)) := fun e => by
        rw [← HR.out]; unfold rowT; rw [e]
       have HNY : Hid (∀ o,atE s t m n tag = some o → rowT s t m n ((tagsM m).drop (k + 1)) (addO l' o) = RES) := fun o e => by
        rw [← HR.out]; conv => rhs; unfold rowT
        rw [e]
       have HPA : Hid (∀ o,atE s t m n tag = some o → PrIn s t (addO l' o) ∧ ∃ r,addO l' o = l ++ r) := fun o e => by
        refine ⟨addO_in HSS.out.2 HST.out.2 (A := A) (B := B) (tag := tag) HP'.out.1 (by rw [HMN.out.1,HMN.out.2]; exact e),?_⟩;obtain ⟨r,hr⟩ := HP'.out.2;obtain ⟨r',hr'⟩ := addO_pre (l := l') (o := o);exact ⟨r ++ r',by rw [hr',hr,List.append_assoc]⟩
       have a0 := (BA.cell 0).trans rfl;have a1 := (BA.cell 1).trans rfl;have a2 := (BA.cell 2).trans rfl;have b0 := (BE.cell 0).trans rfl;have b1 := (BE.cell 1).trans rfl;have b2 := (BE.cell 2).trans rfl;have HK7 : Hid (∀ W,Kp (MeB b mb vp') wr W → MsB W ba B1 m ∧ MsB W bb B2 n ∧ W.ownsRow B3 3 1 (.slice (some ⟨gt,0,none⟩) TL ct7) TL ((tagsM m).map (Value.int .i64))) := fun W hW => ⟨HTR.out.1.meet HM'.out hW,HTR.out.2.1.meet HM'.out hW,HM'.out.own hW HTR.out.2.2 (by decide) (by decide)⟩
       obtain ⟨OO,hOO⟩ : ∃ z,atE s t m n tag = z := ⟨_,rfl⟩;rw [hOO] at HKE HNX HNY HPA;clear HKA hOO HR HP' BA BE hof hor hog hoq hot htg HDR HM' HTR;obtain ⟨f1,hf1⟩ : ∃ z,m.fields.length = z := ⟨_,rfl⟩;obtain ⟨r1,hr1⟩ : ∃ z,m.reserved.length = z := ⟨_,rfl⟩;obtain ⟨mnm,hmn⟩ : ∃ z,m.name = z := ⟨_,rfl⟩;obtain ⟨f2,hf2⟩ : ∃ z,n.fields.length = z := ⟨_,rfl⟩;obtain ⟨r2,hr2⟩ : ∃ z,n.reserved.length = z := ⟨_,rfl⟩;obtain ⟨nnm,hnn⟩ : ∃ z,n.name = z := ⟨_,rfl⟩;rw [hf1,hr1,hmn,hf2,hr2,hnn] at HKE;simp only [hf1,hr1,hmn,hf2,hr2,hnn] at a0 a1 a2 b0 b1 b2;have HMNM : Hid (mnm = A) := (by rw [← hmn]; exact HNM.out : _ = _);clear hf1 hr1 hmn hf2 hr2 hnn;go_wp2_with fail;refine Calls.mono HKE.out ?_;rintro ee w8 ⟨rfl,vp8,hM8,hk8⟩;have HT8 : Hid _ := HK7.out w8 hk8;have HM8 : Hid _ := hM8;clear hM8 hk8 HK7 HKE a0 a1 a2 b0 b1 b2 t0
       cases OO with
       | none =>
        have HE : Hid (ANS = (A,tag,false)) := (by
         rw [← HA.out]
         have h1 : 300 - i = (299 - i) + 1 := by omega
         rw [h1];refine loop_brk (l' := l') HPI.out ?_ (by rw [HMN.out.1]; exact HTA.out);simp only;rw [HMN.out.1,HMN.out.2,HRES.out]
         exact HNX.out rfl : _ = _)
        obtain ⟨fa,fc,ra,rc,BA8, -, -⟩ := HT8.out.1;have a0 := (BA8.cell 0).trans rfl;rw [HNM.out] at a0;have HBW : Hid (Below W0.heap.size W0 w8) := HM8.out.below
        have htz : (tag == 0) = false := by have := HTP.out; simp; omega
        clear BA8 HT8 HM8 HNX HNY HPA HA HRES HMN HNM;simp only [Option.isSome_none];go_wp2_with fail;refine bodyPost_ret (results_threeE rfl _ _ _) rfl ?_;rw [HE.out];exact ⟨rfl,HBW.out⟩
       | some o =>
        simp only [Option.isSome_some];go_wp2_with fail
        go_roundw
        case rel => exact ⟨k + 1,addO l' o,vp8,rfl,rfl,by go_num,by omega,HNY.out o rfl,HPA.out o rfl,HM8.out,HT8.out⟩
        case measure => simp [intOf]; omega
      ·obtain rfl : k = TL := by omega
       have HRE : Hid (RES = (l',none)) := (by
        rw [← HR.out,List.drop_eq_nil_of_le (by rw [HTL.out]; omega)]; rfl : _ = _)
       have HA2 : Hid (loopE s t (300 - (i + 1)) (i + 1) l' = ANS) := (by
        rw [← HA.out]
        have h1 : 300 - i = (300 - (i + 1)) + 1 := by omega
        rw [h1]
        symm
        refine loop_step HPI.out ?_ (by rw [HMN.out.1]; exact HTA.out);simp only;rw [HMN.out.1,HMN.out.2,HRES.out]
        exact HRE.out : _ = _)
       have HLI : Hid (i + 1 ≤ l'.length) := (by
        obtain ⟨r,hr⟩ := HP'.out.2
        show i + 1 ≤ l'.length
        rw [hr,List.length_append,HK.out]; omega)
       have HP2 : Hid (PrIn s t l') := HP'.out.1;clear HR HRE HA HP' hot BA BE hof hor hog hoq HTR HRES;go_wp2_with fail
       go_roundw
       case rel => exact ⟨i + 1,l',vp',rfl,rfl,by go_num,HLI.out,HA2.out,HP2.out,HM'.out⟩
       case measure => simp [intOf]; omega
end
end Go.Proofs.Ytdkolhfpfimeoaa
