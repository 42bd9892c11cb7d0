/- Part 9 of what the proof stands on. -/
import Derived.Test.YtmgbhicogmclgaaPkFAH
namespace Go.Proofs.Ytmgbhicogmclgaa
set_option maxHeartbeats 8000000
set_option linter.unusedVariables false
set_option linter.unusedSimpArgs false
set_option maxRecDepth 20000
section
open Go.ChangeShapes Go.WideShapes Go.ChangeAt Go.RowKit
def SeesP (s : ScS) (W0 : World) (b : Nat) (F : Nat → Prop) (n : Nat) (T : List Tr) (w : World) (e : Ending) (w' : World) : Prop := ∃ a c G,e = .returned (.slice a T.length c) ∧ Grw s W0 b F w w' G ∧ SeeL n w' (.slice a T.length c) T G
def RowsG (n : Nat) (w : World) (G : Nat → Prop) (φ : Tr → Tr) (ts : List Tr) (rows : List (List Value)) (i : Nat) : Prop := ∀ (j : Nat) (x : Tr),j < i → ts[j]? = some x → ∃ r,rows[j]? = some r ∧ SeeG n w r (φ x) G
theorem RowsG.step {n i : Nat} {w w' : World} {G H : Nat → Prop} {φ : Tr → Tr} {ts : List Tr} {rows : List (List Value)} {x : Tr} {r : List Value} (h : RowsG n w G φ ts rows i) (hs : ∀ r x,SeeG n w r x G → SeeG n w' r x H) (hx : ts[i]? = some x) (hi : i < rows.length) (hr : SeeG n w' r (φ x) H) : RowsG n w' H φ ts (rows.set i r) (i + 1) := fun j y hj hy => by
 by_cases hji : j = i
 ·subst hji;rw [hx] at hy
  obtain rfl : x = y := by simpa using hy
  exact ⟨r,by rw [List.getElem?_set,if_pos rfl,if_pos hi],hr⟩
 ·obtain ⟨q,g1,g2⟩ := h j y (by omega) hy;exact ⟨q,by rw [List.getElem?_set,if_neg (Ne.symm hji)]; exact g1,hs _ _ g2⟩
theorem RowsG.done {s : ScS} {W0 w wr : World} {b : Nat} {F G : Nat → Prop} {n N g B : Nat} {φ : Tr → Tr} {ts : List Tr} {rows : List (List Value)} (h : RowsG n wr G φ ts rows N) (hN : ts.length = N) (ho : wr.ownsRow B 30 5 (.slice (some ⟨g,0,none⟩) N N) N rows.flatten ∧ rows.length = N ∧ ∀ r ∈ rows,r.length = 5) (hg : Grw s W0 b F w wr G) (hw : W0.heap.size ≤ w.heap.size) (hgw : w.heap.size ≤ g) : SeesP s W0 b F n (ts.map φ) w (.returned (.slice (some ⟨g,0,none⟩) N N)) wr := by
 obtain ⟨h1,h2,h3⟩ := ho;have hgl : g < wr.heap.size := (own_lt h1 (k := g) rfl).2
 have hgb : g ≠ b := by
  rcases h1.2 with ⟨e,_⟩ | ⟨g',cap,cur,e,g1,g2,_⟩
  ·cases e
  ·simp only [Value.slice.injEq,Option.some.injEq,Addr.mk.injEq,and_true,true_and] at e;obtain ⟨rfl, -⟩ := e;exact hg.kn.neB g2
 refine ⟨some ⟨g,0,none⟩,N,fun k => G k ∨ k = g,by rw [List.length_map,hN],hg.more (fun k e => .inl e) (fun k e => e.imp id fun e => by subst e; exact ⟨hgw,hgl⟩) hw (fun e => by
  rcases e with e | e
  ·exact hg.kn.nb e
  ·exact hgb e.symm),fun w' hw' => ?_⟩
 have h1' : w'.ownsRow B 30 5 (.slice (some ⟨g,0,none⟩) N N) N rows.flatten := by
  refine ⟨h1.1,h1.2.imp id ?_⟩;rintro ⟨g',cap,cur,e,g1,g2,g3⟩
  have hgg : g' = g := by
   simp only [Value.slice.injEq,Option.some.injEq,Addr.mk.injEq,and_true,true_and] at e;exact e.1.symm
  exact ⟨g',cap,cur,e,g1,(hw' g' (.inr hgg)).trans g2,g3⟩
 rw [List.length_map,hN];refine ⟨rows,(RowG.own h3 (by decide) h1').1,by rw [h2,List.length_map,hN],fun i y hy => ?_⟩;rw [List.getElem?_map,Option.map_eq_some_iff] at hy;obtain ⟨x,hx,rfl⟩ := hy;obtain ⟨r,g1,g2⟩ := h i x (by rw [← hN]; exact (List.getElem?_eq_some_iff.1 hx).1) hx;exact ⟨r,g1,g2 w' (hw'.less fun k e => .inl e)⟩
theorem TrsR.tail {n : Nat} {w : World} {g off N cap : Nat} {ts : List Tr} (h : TrsR n w (.slice (some ⟨g,off,none⟩) (N + 1) cap) ts) : TrsR n w (.slice (some ⟨g,off + N * 5,none⟩) 1 (cap - N)) (ts.drop N) := by
 obtain ⟨rows,h1,h2,h3⟩ := h;obtain ⟨a,c,e,k1,k2,k3,k4⟩ := h1.form;simp only [Value.slice.injEq] at e;obtain ⟨rfl,e2,rfl⟩ := e
 have hl : (rows.drop N).length = 1 := by rw [List.length_drop]; omega
 refine ⟨rows.drop N,⟨some ⟨g,off + N * 5,none⟩,cap - N,by rw [hl],by rw [hl]; omega,by omega,(fun e => by cases e),fun hne => ⟨g,off + N * 5,rfl,fun i c u j hc hu => ?_⟩⟩,by rw [List.length_drop,List.length_drop]; omega,fun i x hx => ?_⟩
 ·obtain ⟨g',off',e3,e4⟩ := k4 (fun e => by rw [e] at e2; simp at e2);simp only [Option.some.injEq,Addr.mk.injEq,and_true] at e3;obtain ⟨rfl,rfl⟩ := e3;rw [List.getElem?_drop] at hc;have := e4 (N + i) c u j hc hu;rw [Nat.add_mul,← Nat.add_assoc] at this;exact this
 ·rw [List.getElem?_drop] at hx;obtain ⟨r,g1,g2⟩ := h3 (N + i) x hx;exact ⟨r,by rw [List.getElem?_drop]; exact g1,g2⟩
theorem ptrees_any {s : ScS} {W0 : World} {n : Nat} {sn : ByteArray} {ma ea ta : Option Addr} {mn mc en ec tn tc : Nat} (IH : MsgC s W0 n sn ma ea ta mn mc en ec tn tc)
  (b : Nat) (F : Nat → Prop) (f : FlS) (ts : List Tr) (vl : Value) (w : World) (hk : 1 ≤ f.kind ∧ f.kind ≤ 7) (hp : ts.all (pfitB f) = true) (hKn : KnP s W0 w b F) (hts : TrsR n W0 vl ts) (hl1 : 1 ≤ ts.length) (hl2 : ts.length ≤ 70) (hok : ∀ x ∈ ts,okN n x = true) (hsm : ∀ x ∈ ts,SmN n x) :
  Calls Try.prog 84 #[.agg #[.string sn,.slice ma mn mc,.slice ea en ec,.slice ta tn tc,.map (some b)],.agg #[.string f.name,.int .i64 f.tag,.int .i64 f.label,.int .i64 f.kind,.string f.tname],vl] w (SeesP s W0 b F n ((lastP f ts).map (oneP (prM n s) f)) w) := by
 have HTC : Hid (∀ W2 F2 x K N S a1 a2 n1 c1 n2 c2,x ∈ ts → KnP s W0 W2 b F2 → TrW n W0 (.agg #[.int .i64 K,.int .i64 N,.string S,.slice a1 n1 c1,.slice a2 n2 c2]) x → Calls Try.prog 107 #[.agg #[.string sn,.slice ma mn mc,.slice ea en ec,.slice ta tn tc,.map (some b)],.agg #[.int .i64 f.kind,.string f.tname],.agg #[.int .i64 K,.int .i64 N,.string S,.slice a1 n1 c1,.slice a2 n2 c2]] W2 (SeenP s W0 b F2 n (oneP (prM n s) f x) W2)) := fun W2 F2 x K N S a1 a2 n1 c1 n2 c2 hx h2 h3 => ptree_any IH b F2 f x K N S a1 a2 n1 c1 n2 c2 W2 hk (List.all_eq_true.1 hp x hx) h2 h3 (hok x hx) (hsm x hx)
 have HKN : Hid (KnP s W0 w b F) := hKn
 have HLP : Hid (∀ ys,ys = lastP f ts → (lastP f ts).map (oneP (prM n s) f) = ys.map (oneP (prM n s) f)) := fun ys e => by rw [e]
 have HLF : Hid ((f.label = 3 → lastP f ts = ts) ∧ (f.label ≠ 3 → lastP f ts = ts.drop (ts.length - 1))) := ⟨fun e => if_pos e,fun e => if_neg e⟩;obtain ⟨la,lc,rfl,t1,t2,t3, -⟩ := RowP.open hts
 obtain ⟨g0,o0,rfl⟩ : ∃ g o,la = some ⟨g,o,none⟩ := by
  rcases t3 with h | h
  ·rw [h] at hl1; simp at hl1
  ·exact h
 obtain ⟨N,hN⟩ : ∃ N,ts.length = N + 1 := ⟨ts.length - 1,by omega⟩;have HN : Hid (ts.length = N + 1) := hN;rw [hN] at hts t1 hl2 ⊢;have HTS : Hid (TrsR n W0 (.slice (some ⟨g0,o0,none⟩) (N + 1) lc) ts) := hts;unfold maxLen at t2;generalize oneP (prM n s) f = φ at *;obtain ⟨y1,y2,y3,y4,y5⟩ := f;simp only at HTC HLF ⊢;generalize lastP (⟨y1,y2,y3,y4,y5⟩ : FlS) ts = YS at *;clear hk hp hKn hts hl1 hok hsm IH t3 hN;have BF : Blk ((w.alloc (Obj.cells #[.string sn,.slice ma mn mc,.slice ea en ec,.slice ta tn tc,.map (some b)] 74)).alloc (Obj.cells #[.string y1,.int .i64 y2,.int .i64 y3,.int .i64 y4,.string y5] 54)) (w.heap.size + 1) #[.string y1,.int .i64 y2,.int .i64 y3,.int .i64 y4,.string y5] 54 := blk_new2T _ _ _ _;have BS : Blk ((w.alloc (Obj.cells #[.string sn,.slice ma mn mc,.slice ea en ec,.slice ta tn tc,.map (some b)] 74)).alloc (Obj.cells #[.string y1,.int .i64 y2,.int .i64 y3,.int .i64 y4,.string y5] 54)) w.heap.size #[.string sn,.slice ma mn mc,.slice ea en ec,.slice ta tn tc,.map (some b)] 74 := (Blk.new w _ _).below ((Below.refl _ _).alloc (Nat.le_refl _) _);have hbw : Below w.heap.size w ((w.alloc (Obj.cells #[.string sn,.slice ma mn mc,.slice ea en ec,.slice ta tn tc,.map (some b)] 74)).alloc (Obj.cells #[.string y1,.int .i64 y2,.int .i64 y3,.int .i64 y4,.string y5] 54)) := ((Below.refl _ _).alloc (Nat.le_refl _) _).alloc (by simp) _
 by_cases h3 : y3 = 3
 ·skip
  subst h3;generalize hM : N + 1 = M at *
  have hM1 : 1 ≤ M := by omega
  clear hM;have HYS : Hid (TrsR n W0 (.slice (some ⟨g0,o0,none⟩) M lc) YS) := (by rw [HLF.out.1 rfl]; exact HTS.out : TrsR n W0 _ YS);have HYN : Hid (YS.length = M) := (by rw [HLF.out.1 rfl]; exact HN.out : YS.length = M);have HYM : Hid (∀ x ∈ YS,x ∈ ts) := (by rw [HLF.out.1 rfl]; exact fun _ e => e : ∀ x ∈ YS,x ∈ ts);clear HLF HLP HTS HN;have f2 := (BF.cell 2).trans rfl
  go_enter Try.func84,Try.ntmps84
  go_upto_region 3 with fail
  clear f2;generalize ((w.alloc (Obj.cells #[.string sn,.slice ma mn mc,.slice ea en ec,.slice ta tn tc,.map (some b)] 74)).alloc (Obj.cells #[.string y1,.int .i64 y2,.int .i64 3,.int .i64 y4,.string y5] 54)) = U0 at *;obtain ⟨i0,hi0,hz0,hz1,hz2⟩ := info_parts infoTr;obtain ⟨MC,hMC⟩ : ∃ z,madeCells (Value.agg #[.int .i64 0,.int .i64 0,.string ⟨#[]⟩,.slice none 0 0,.slice none 0 0]).cells (M * 5) = z := ⟨_,rfl⟩
  have hMs : MC.size = M * 5 := by rw [← hMC,size_madeCells]
  have hmk : ∀ W : World,(Instr.makeSlice 55 (.int .i64 (M : Int)) (.int .i64 (M : Int))).run Try.prog W = .ok (.slice (some ⟨W.heap.size,0,none⟩) M M) (W.alloc (.cells MC 30)) := fun W => by
   have := run_makeSlice (P := Try.prog) W 55 30 i0 _ Try.underlying55 hi0 hz0 .i64 .i64 M M (by omega) (by omega) (by rw [hz1]; simp; omega) (by rw [hz2]; omega) (by omega);rw [hz1] at this;simp only [Int.toNat_natCast] at this;rw [hMC] at this;exact this
  have al : Below U0.heap.size U0 (U0.alloc (.cells MC 30)) := (Below.refl _ _).alloc (Nat.le_refl _) _;have hBg : Blk (U0.alloc (.cells MC 30)) U0.heap.size MC 30 := Blk.new U0 _ _;obtain ⟨rows0,hr1,hr2,hr3⟩ := p5_chunk M MC.toList (by rw [Array.length_toList]; exact hMs)
  have HO0 : Hid ((U0.alloc (.cells MC 30)).ownsRow W0.heap.size 30 5 (.slice (some ⟨U0.heap.size,0,none⟩) M M) M rows0.flatten ∧ rows0.length = M ∧ ∀ r ∈ rows0,r.length = 5) := ⟨by
   rw [hr1]
   exact ⟨by rw [Array.length_toList]; exact hMs,.inr ⟨_,M,MC,rfl,Nat.le_trans HKN.out.below.size hbw.size,hBg,Nat.le_refl _,by unfold maxLen; omega,hMs,List.take_of_length_le (by rw [Array.length_toList,hMs]; omega)⟩⟩,hr2,hr3⟩
  have hbA := hbw.trans (al.mono hbw.size);have HG0 : Hid (Grw s W0 b F w (U0.alloc (.cells MC 30)) F) := Grw.below HKN.out hbA;have HGW : Hid (w.heap.size + 2 ≤ U0.heap.size) := BF.lt;have BFA := BF.below al;have BSA := BS.below al
  have hnF0 : ¬ F U0.heap.size := fun e => by have := (HKN.out.new _ e).2; have := HGW.out; omega
  clear hi0 hz0 hz1 hz2 hMC hr1 hr2 hr3 hBg al hbA hbw BF BS;go_wp2_with fail;clear hmk;generalize (U0.alloc (.cells MC 30)) = WA at *;obtain ⟨g,hg⟩ : ∃ z,U0.heap.size = z := ⟨_,rfl⟩;rw [hg] at HO0 HGW hnF0;simp only [hg];clear hg;have HFB : Hid (Blk WA (w.heap.size + 1) #[.string y1,.int .i64 y2,.int .i64 3,.int .i64 y4,.string y5] 54 ∧ Blk WA w.heap.size #[.string sn,.slice ma mn mc,.slice ea en ec,.slice ta tn tc,.map (some b)] 74) := ⟨BFA,BSA⟩;have HNF0 : Hid (¬ F g) := hnF0;clear BFA BSA hnF0;obtain ⟨bw,hbw⟩ : ∃ z,w.heap.size = z := ⟨_,rfl⟩;have HBW : Hid (w.heap.size = bw) := hbw;rw [hbw] at HFB HGW;simp only [hbw];clear hbw
  go_loopw [23] (fun iv wr => ∃ (i : Nat) (G : Nat → Prop) (rows : List (List Value)),iv = .int .i64 (i : Int) ∧ i ≤ M ∧ Hid (wr.ownsRow W0.heap.size 30 5 (.slice (some ⟨g,0,none⟩) M M) M rows.flatten ∧ rows.length = M ∧ ∀ r ∈ rows,r.length = 5) ∧ Hid (RowsG n wr G φ YS rows i) ∧ Hid (Grw s W0 b F w wr G ∧ ¬ G g) ∧ Hid (Blk wr (bw + 1) #[.string y1,.int .i64 y2,.int .i64 3,.int .i64 y4,.string y5] 54 ∧ Blk wr bw #[.string sn,.slice ma mn mc,.slice ea en ec,.slice ta tn tc,.map (some b)] 74)) (fun iv _ => M - (intOf iv).toNat)
  case atStart => exact ⟨0,F,rows0,rfl,by omega,HO0,(fun j x hj => absurd hj (by omega) : RowsG n WA F φ YS rows0 0),⟨HG0.out,HNF0.out⟩,HFB⟩
  case round =>
   clear HO0 HG0 HFB HNF0;obtain ⟨i,G,rows,rfl,hi,HO,HRT,HG,HB⟩ := hrel
   by_cases hlt : i < M
   ·obtain ⟨x,hx⟩ : ∃ r,YS[i]? = some r := ⟨_,List.getElem?_eq_getElem (by rw [HYN.out]; exact hlt)⟩;obtain ⟨gx,off,a1,n1,c1,a2,n2,c2,e0,u0,u1,u2,u3,u4,hxw⟩ := trsR_get HYS.out hx;simp only [Option.some.injEq,Addr.mk.injEq,and_true] at e0;obtain ⟨rfl,rfl⟩ := e0;have hcl := fun {p : Addr} {v : Value} (h : W0.cell? p = some v) => Cel.cell (Cel.ofBelow HG.out.1.kn.below) h
    have y0 := hcl u0;have y1' := hcl u1;have y2' := hcl u2;have y3' := hcl u3;have y4' := hcl u4;have HX : Hid (YS[i]? = some x) := hx;have HXM : Hid (x ∈ ts) := HYM.out x (List.mem_of_getElem? hx);have HXW : Hid (TrW n W0 (.agg #[.int .i64 x.kind,.int .i64 x.n,.string x.s,.slice a1 n1 c1,.slice a2 n2 c2]) x) := hxw;have HTX : Hid (∀ W2,KnP s W0 W2 b G → Calls Try.prog 107 #[.agg #[.string sn,.slice ma mn mc,.slice ea en ec,.slice ta tn tc,.map (some b)],.agg #[.int .i64 y4,.string y5],.agg #[.int .i64 x.kind,.int .i64 x.n,.string x.s,.slice a1 n1 c1,.slice a2 n2 c2]] W2 (SeenP s W0 b G n (φ x) W2)) := fun W2 h2 => HTC.out W2 G x x.kind x.n x.s a1 a2 n1 c1 n2 c2 HXM.out h2 HXW.out
    obtain ⟨XK,hXK⟩ : ∃ z,x.kind = z := ⟨_,rfl⟩;obtain ⟨XN,hXN⟩ : ∃ z,x.n = z := ⟨_,rfl⟩;obtain ⟨XS,hXS⟩ : ∃ z,x.s = z := ⟨_,rfl⟩;rw [hXK,hXN,hXS] at HTX;rw [hXK] at y0;rw [hXN] at y1';rw [hXS] at y2';clear hx hxw u0 u1 u2 u3 u4 hcl hXK hXN hXS HXW HXM;have hbl : bw < wr.heap.size := HB.out.2.lt;have hbl1 : bw + 1 < wr.heap.size := HB.out.1.lt;have f3 := (HB.out.1.cell 3).trans rfl;have f4 := (HB.out.1.cell 4).trans rfl;have s0 := (HB.out.2.cell 0).trans rfl;have s1 := (HB.out.2.cell 1).trans rfl;have s2 := (HB.out.2.cell 2).trans rfl;have s3 := (HB.out.2.cell 3).trans rfl;have s4 := (HB.out.2.cell 4).trans rfl;go_wp2_with fail;have al : Below wr.heap.size wr (wr.alloc (Obj.cells #[.int .i64 XK,.int .i64 XN,.string XS,.slice a1 n1 c1,.slice a2 n2 c2] 30)) := (Below.refl _ _).alloc (Nat.le_refl _) _;refine (HTX.out _ (HG.out.1.kn.mk_below al)).mono ?_;rintro e w2 ⟨r,G2,rfl,hg2,hse⟩;obtain ⟨z1,l1,e1,z2,l2,e2,rfl⟩ := trC_open hse.now.trQ.trC;have hg3 : Grw s W0 b G wr w2 G2 := hg2.before al;have hgl : g < wr.heap.size := (own_lt HO.out.1 (k := g) rfl).2
    have hgb : g ≠ b := by
     rcases HO.out.1.2 with ⟨e,_⟩ | ⟨g',cap,cur,e,q1,q2,_⟩
     ·cases e
     ·simp only [Value.slice.injEq,Option.some.injEq,Addr.mk.injEq,and_true,true_and] at e;obtain ⟨rfl, -⟩ := e;exact HG.out.1.kn.neB q2
    have hnG2 : ¬ G2 g := fun e => by
     rcases hg3.new g e with e | e
     ·exact HG.out.2 e
     ·omega
    have hO2 : w2.ownsRow W0.heap.size 30 5 (.slice (some ⟨g,0,none⟩) M M) M rows.flatten := MsP.kp.own_kpT2 HO.out.1 hg3.kp fun k e1 e2 => by
     have hkg : g = k := by simpa [Value.ownBlock] using e2
     exact hgb (hkg.trans e1)
    have BF2 := HB.out.1.kp hg3.kp (HG.out.1.kn.neB HB.out.1);have BS2 := HB.out.2.kp hg3.kp (HG.out.1.kn.neB HB.out.2);obtain ⟨v0,v1,v2,v3,v4,p0,p1,p2,p3,p4,hfz⟩ := p5_cells hO2 HO.out.2.2 (j := i) (by rw [HO.out.2.1]; exact hlt);have q0 := hfz (i * 5);have q1 := hfz (i * 5 + 1);have q2 := hfz (i * 5 + 2);have q3 := hfz (i * 5 + 3);have q4 := hfz (i * 5 + 4);have hstG : Stay G wr w2 := Stay.kp hg3.kp (fun k e => (HG.out.1.kn.new k e).2) fun k e e2 => HG.out.1.kn.nb (e2 ▸ e)
    have hgr := HG.out.1.trans hg3;generalize hTK : (φ x).kind = TK at *;generalize hTN : (φ x).n = TN at *;generalize hTS : (φ x).s = TS at *;have hk5 := set5_kp w2 g (i * 5) (.int .i64 TK) (.int .i64 TN) (.string TS) (.slice z1 l1 e1) (.slice z2 l2 e2)
    have hs5 : ∀ q,q = g → w.heap.size ≤ q ∧ ¬ G2 q ∧ q ≠ b := fun q e => by subst e; exact ⟨by have := HGW.out; rw [HBW.out]; omega,hnG2,hgb⟩
    have HO3 : Hid ((set5 w2 g (i * 5) (.int .i64 TK) (.int .i64 TN) (.string TS) (.slice z1 l1 e1) (.slice z2 l2 e2)).ownsRow W0.heap.size 30 5 (.slice (some ⟨g,0,none⟩) M M) M (rows.set i [.int .i64 TK,.int .i64 TN,.string TS,.slice z1 l1 e1,.slice z2 l2 e2]).flatten ∧ (rows.set i [.int .i64 TK,.int .i64 TN,.string TS,.slice z1 l1 e1,.slice z2 l2 e2]).length = M ∧ ∀ r ∈ rows.set i [.int .i64 TK,.int .i64 TN,.string TS,.slice z1 l1 e1,.slice z2 l2 e2],r.length = 5) := ⟨own_set5 hO2 HO.out.2.2 (by rw [HO.out.2.1]; exact hlt) _ _ _ _ _,by rw [List.length_set]; exact HO.out.2.1,fun r hr => by
     rcases List.mem_or_eq_of_mem_set hr with hr | rfl
     ·exact HO.out.2.2 r hr
     ·rfl⟩
    have HRT3 : Hid (RowsG n (set5 w2 g (i * 5) (.int .i64 TK) (.int .i64 TN) (.string TS) (.slice z1 l1 e1) (.slice z2 l2 e2)) G2 φ YS (rows.set i [.int .i64 TK,.int .i64 TN,.string TS,.slice z1 l1 e1,.slice z2 l2 e2]) (i + 1)) := RowsG.step HRT.out (fun r x h => ((h.stay hstG).more hg3.sub).stay (hgr.stay hk5 hs5)) HX.out (by rw [HO.out.2.1]; exact hlt) (hse.stay (hgr.stay hk5 hs5));have HG3 : Hid (Grw s W0 b F w (set5 w2 g (i * 5) (.int .i64 TK) (.int .i64 TN) (.string TS) (.slice z1 l1 e1) (.slice z2 l2 e2)) G2 ∧ ¬ G2 g) := ⟨hgr.after HKN.out.below.size hk5 hs5,hnG2⟩;have HB3 : Hid (Blk (set5 w2 g (i * 5) (.int .i64 TK) (.int .i64 TN) (.string TS) (.slice z1 l1 e1) (.slice z2 l2 e2)) (bw + 1) #[.string y1,.int .i64 y2,.int .i64 3,.int .i64 y4,.string y5] 54 ∧ Blk (set5 w2 g (i * 5) (.int .i64 TK) (.int .i64 TN) (.string TS) (.slice z1 l1 e1) (.slice z2 l2 e2)) bw #[.string sn,.slice ma mn mc,.slice ea en ec,.slice ta tn tc,.map (some b)] 74) := ⟨BF2.kp hk5 (fun e => by have := HGW.out; omega),BS2.kp hk5 (fun e => by have := HGW.out; omega)⟩;unfold set5 at HO3 HRT3 HG3 HB3;clear hk5 hs5 hgr hstG hfz hO2 hnG2 hgb BF2 BS2 hg3 hg2 hse al HO HRT HG HB HTX HX y0 y1' y2' y3' y4' f3 f4 s0 s1 s2 s3 s4 hbl hbl1 hTK hTN hTS;go_wp2_with fail;clear p0 p1 p2 p3 p4 q0 q1 q2 q3 q4
    go_roundw
    case rel => exact ⟨i + 1,G2,_,by go_num,by omega,HO3,HRT3,HG3,HB3⟩
    case measure => simp [intOf]; omega
   ·have hiN : i = M := by omega
    have HF : Hid (SeesP s W0 b F n (YS.map φ) w (.returned (.slice (some ⟨g,0,none⟩) M M)) wr) := (by
     have h1 := HRT.out;rw [hiN] at h1
     exact h1.done HYN.out HO.out HG.out.1 HKN.out.below.size (by have := HGW.out; rw [HBW.out]; omega) : SeesP s W0 b F n (YS.map φ) w _ wr)
    have dlt : decide ((i : Int) < (M : Int)) = false := by simp; omega
    clear HO HRT HG HB hiN;go_wp2_with fail;go_ret;exact HF.out
 ·skip
  have d3 : (y3 != 3) = true := by simpa using h3
  have HYS : Hid (TrsR n W0 (.slice (some ⟨g0,o0 + N * 5,none⟩) 1 (lc - N)) YS) := (by rw [HLF.out.2 h3,HN.out]; exact HTS.out.tail : TrsR n W0 _ YS);have HYN : Hid (YS.length = 1) := (by rw [HLF.out.2 h3,List.length_drop,HN.out]; omega : YS.length = 1);have HYM : Hid (∀ x ∈ YS,x ∈ ts) := (by rw [HLF.out.2 h3]; exact fun x e => List.mem_of_mem_drop e : ∀ x ∈ YS,x ∈ ts);clear HLF HLP HTS HN h3;have f2 := (BF.cell 2).trans rfl
  go_enter Try.func84,Try.ntmps84
  go_upto_region 3 with fail
  clear f2;generalize ((w.alloc (Obj.cells #[.string sn,.slice ma mn mc,.slice ea en ec,.slice ta tn tc,.map (some b)] 74)).alloc (Obj.cells #[.string y1,.int .i64 y2,.int .i64 y3,.int .i64 y4,.string y5] 54)) = U0 at *;obtain ⟨i0,hi0,hz0,hz1,hz2⟩ := info_parts infoTr;obtain ⟨MC,hMC⟩ : ∃ z,madeCells (Value.agg #[.int .i64 0,.int .i64 0,.string ⟨#[]⟩,.slice none 0 0,.slice none 0 0]).cells (1 * 5) = z := ⟨_,rfl⟩
  have hMs : MC.size = 1 * 5 := by rw [← hMC,size_madeCells]
  have hmk : ∀ W : World,(Instr.makeSlice 55 (.int .i64 1) (.int .i64 1)).run Try.prog W = .ok (.slice (some ⟨W.heap.size,0,none⟩) 1 1) (W.alloc (.cells MC 30)) := fun W => by
   have := run_makeSlice (P := Try.prog) W 55 30 i0 _ Try.underlying55 hi0 hz0 .i64 .i64 ((1 : Nat) : Int) ((1 : Nat) : Int) (by omega) (by omega) (by rw [hz1]; simp) (by rw [hz2]; omega) (by omega);rw [hz1] at this;simp only [Int.toNat_natCast] at this;rw [hMC] at this;exact this
  have al : Below U0.heap.size U0 (U0.alloc (.cells MC 30)) := (Below.refl _ _).alloc (Nat.le_refl _) _;have hBg : Blk (U0.alloc (.cells MC 30)) U0.heap.size MC 30 := Blk.new U0 _ _;obtain ⟨rows0,hr1,hr2,hr3⟩ := p5_chunk 1 MC.toList (by rw [Array.length_toList]; exact hMs)
  have HO0 : Hid ((U0.alloc (.cells MC 30)).ownsRow W0.heap.size 30 5 (.slice (some ⟨U0.heap.size,0,none⟩) 1 1) 1 rows0.flatten ∧ rows0.length = 1 ∧ ∀ r ∈ rows0,r.length = 5) := ⟨by
   rw [hr1]
   exact ⟨by rw [Array.length_toList]; exact hMs,.inr ⟨_,1,MC,rfl,Nat.le_trans HKN.out.below.size hbw.size,hBg,Nat.le_refl _,by unfold maxLen; omega,hMs,List.take_of_length_le (by rw [Array.length_toList,hMs]; omega)⟩⟩,hr2,hr3⟩
  have hbA := hbw.trans (al.mono hbw.size);have HG0 : Hid (Grw s W0 b F w (U0.alloc (.cells MC 30)) F) := Grw.below HKN.out hbA;have HGW : Hid (w.heap.size + 2 ≤ U0.heap.size) := BF.lt;have BFA := BF.below al;have BSA := BS.below al
  have hnF0 : ¬ F U0.heap.size := fun e => by have := (HKN.out.new _ e).2; have := HGW.out; omega
  clear hi0 hz0 hz1 hz2 hMC hr1 hr2 hr3 hBg al hbA hbw BF BS;go_wp2_with fail;clear hmk;generalize (U0.alloc (.cells MC 30)) = WA at *;obtain ⟨g,hg⟩ : ∃ z,U0.heap.size = z := ⟨_,rfl⟩;rw [hg] at HO0 HGW hnF0;simp only [hg];clear hg;have HFB : Hid (Blk WA (w.heap.size + 1) #[.string y1,.int .i64 y2,.int .i64 y3,.int .i64 y4,.string y5] 54 ∧ Blk WA w.heap.size #[.string sn,.slice ma mn mc,.slice ea en ec,.slice ta tn tc,.map (some b)] 74) := ⟨BFA,BSA⟩;have HNF0 : Hid (¬ F g) := hnF0;clear BFA BSA hnF0;obtain ⟨bw,hbw⟩ : ∃ z,w.heap.size = z := ⟨_,rfl⟩;have HBW : Hid (w.heap.size = bw) := hbw;rw [hbw] at HFB HGW;simp only [hbw];clear hbw
  go_loopw [23] (fun iv wr => ∃ (i : Nat) (G : Nat → Prop) (rows : List (List Value)),iv = .int .i64 (i : Int) ∧ i ≤ 1 ∧ Hid (wr.ownsRow W0.heap.size 30 5 (.slice (some ⟨g,0,none⟩) 1 1) 1 rows.flatten ∧ rows.length = 1 ∧ ∀ r ∈ rows,r.length = 5) ∧ Hid (RowsG n wr G φ YS rows i) ∧ Hid (Grw s W0 b F w wr G ∧ ¬ G g) ∧ Hid (Blk wr (bw + 1) #[.string y1,.int .i64 y2,.int .i64 y3,.int .i64 y4,.string y5] 54 ∧ Blk wr bw #[.string sn,.slice ma mn mc,.slice ea en ec,.slice ta tn tc,.map (some b)] 74)) (fun iv _ => 1 - (intOf iv).toNat)
  case atStart => exact ⟨0,F,rows0,rfl,by omega,HO0,(fun j x hj => absurd hj (by omega) : RowsG n WA F φ YS rows0 0),⟨HG0.out,HNF0.out⟩,HFB⟩
  case round =>
   clear HO0 HG0 HFB HNF0;obtain ⟨i,G,rows,rfl,hi,HO,HRT,HG,HB⟩ := hrel
   by_cases hlt : i < 1
   ·obtain ⟨x,hx⟩ : ∃ r,YS[i]? = some r := ⟨_,List.getElem?_eq_getElem (by rw [HYN.out]; exact hlt)⟩;obtain ⟨gx,off,a1,n1,c1,a2,n2,c2,e0,u0,u1,u2,u3,u4,hxw⟩ := trsR_get HYS.out hx;simp only [Option.some.injEq,Addr.mk.injEq,and_true] at e0;obtain ⟨rfl,rfl⟩ := e0;have hcl := fun {p : Addr} {v : Value} (h : W0.cell? p = some v) => Cel.cell (Cel.ofBelow HG.out.1.kn.below) h
    have y0 := hcl u0;have y1' := hcl u1;have y2' := hcl u2;have y3' := hcl u3;have y4' := hcl u4;have HX : Hid (YS[i]? = some x) := hx;have HXM : Hid (x ∈ ts) := HYM.out x (List.mem_of_getElem? hx);have HXW : Hid (TrW n W0 (.agg #[.int .i64 x.kind,.int .i64 x.n,.string x.s,.slice a1 n1 c1,.slice a2 n2 c2]) x) := hxw;have HTX : Hid (∀ W2,KnP s W0 W2 b G → Calls Try.prog 107 #[.agg #[.string sn,.slice ma mn mc,.slice ea en ec,.slice ta tn tc,.map (some b)],.agg #[.int .i64 y4,.string y5],.agg #[.int .i64 x.kind,.int .i64 x.n,.string x.s,.slice a1 n1 c1,.slice a2 n2 c2]] W2 (SeenP s W0 b G n (φ x) W2)) := fun W2 h2 => HTC.out W2 G x x.kind x.n x.s a1 a2 n1 c1 n2 c2 HXM.out h2 HXW.out
    obtain ⟨XK,hXK⟩ : ∃ z,x.kind = z := ⟨_,rfl⟩;obtain ⟨XN,hXN⟩ : ∃ z,x.n = z := ⟨_,rfl⟩;obtain ⟨XS,hXS⟩ : ∃ z,x.s = z := ⟨_,rfl⟩;rw [hXK,hXN,hXS] at HTX;rw [hXK] at y0;rw [hXN] at y1';rw [hXS] at y2';clear hx hxw u0 u1 u2 u3 u4 hcl hXK hXN hXS HXW HXM;have hbl : bw < wr.heap.size := HB.out.2.lt;have hbl1 : bw + 1 < wr.heap.size := HB.out.1.lt;have f3 := (HB.out.1.cell 3).trans rfl;have f4 := (HB.out.1.cell 4).trans rfl;have s0 := (HB.out.2.cell 0).trans rfl;have s1 := (HB.out.2.cell 1).trans rfl;have s2 := (HB.out.2.cell 2).trans rfl;have s3 := (HB.out.2.cell 3).trans rfl;have s4 := (HB.out.2.cell 4).trans rfl;go_wp2_with fail;have al : Below wr.heap.size wr (wr.alloc (Obj.cells #[.int .i64 XK,.int .i64 XN,.string XS,.slice a1 n1 c1,.slice a2 n2 c2] 30)) := (Below.refl _ _).alloc (Nat.le_refl _) _;refine (HTX.out _ (HG.out.1.kn.mk_below al)).mono ?_;rintro e w2 ⟨r,G2,rfl,hg2,hse⟩;obtain ⟨z1,l1,e1,z2,l2,e2,rfl⟩ := trC_open hse.now.trQ.trC;have hg3 : Grw s W0 b G wr w2 G2 := hg2.before al;have hgl : g < wr.heap.size := (own_lt HO.out.1 (k := g) rfl).2
    have hgb : g ≠ b := by
     rcases HO.out.1.2 with ⟨e,_⟩ | ⟨g',cap,cur,e,q1,q2,_⟩
     ·cases e
     ·simp only [Value.slice.injEq,Option.some.injEq,Addr.mk.injEq,and_true,true_and] at e;obtain ⟨rfl, -⟩ := e;exact HG.out.1.kn.neB q2
    have hnG2 : ¬ G2 g := fun e => by
     rcases hg3.new g e with e | e
     ·exact HG.out.2 e
     ·omega
    have hO2 : w2.ownsRow W0.heap.size 30 5 (.slice (some ⟨g,0,none⟩) 1 1) 1 rows.flatten := MsP.kp.own_kpT2 HO.out.1 hg3.kp fun k e1 e2 => by
     have hkg : g = k := by simpa [Value.ownBlock] using e2
     exact hgb (hkg.trans e1)
    have BF2 := HB.out.1.kp hg3.kp (HG.out.1.kn.neB HB.out.1);have BS2 := HB.out.2.kp hg3.kp (HG.out.1.kn.neB HB.out.2);obtain ⟨v0,v1,v2,v3,v4,p0,p1,p2,p3,p4,hfz⟩ := p5_cells hO2 HO.out.2.2 (j := i) (by rw [HO.out.2.1]; exact hlt);have q0 := hfz (i * 5);have q1 := hfz (i * 5 + 1);have q2 := hfz (i * 5 + 2);have q3 := hfz (i * 5 + 3);have q4 := hfz (i * 5 + 4);have hstG : Stay G wr w2 := Stay.kp hg3.kp (fun k e => (HG.out.1.kn.new k e).2) fun k e e2 => HG.out.1.kn.nb (e2 ▸ e)
    have hgr := HG.out.1.trans hg3;generalize hTK : (φ x).kind = TK at *;generalize hTN : (φ x).n = TN at *;generalize hTS : (φ x).s = TS at *;have hk5 := set5_kp w2 g (i * 5) (.int .i64 TK) (.int .i64 TN) (.string TS) (.slice z1 l1 e1) (.slice z2 l2 e2)
    have hs5 : ∀ q,q = g → w.heap.size ≤ q ∧ ¬ G2 q ∧ q ≠ b := fun q e => by subst e; exact ⟨by have := HGW.out; rw [HBW.out]; omega,hnG2,hgb⟩
    have HO3 : Hid ((set5 w2 g (i * 5) (.int .i64 TK) (.int .i64 TN) (.string TS) (.slice z1 l1 e1) (.slice z2 l2 e2)).ownsRow W0.heap.size 30 5 (.slice (some ⟨g,0,none⟩) 1 1) 1 (rows.set i [.int .i64 TK,.int .i64 TN,.string TS,.slice z1 l1 e1,.slice z2 l2 e2]).flatten ∧ (rows.set i [.int .i64 TK,.int .i64 TN,.string TS,.slice z1 l1 e1,.slice z2 l2 e2]).length = 1 ∧ ∀ r ∈ rows.set i [.int .i64 TK,.int .i64 TN,.string TS,.slice z1 l1 e1,.slice z2 l2 e2],r.length = 5) := ⟨own_set5 hO2 HO.out.2.2 (by rw [HO.out.2.1]; exact hlt) _ _ _ _ _,by rw [List.length_set]; exact HO.out.2.1,fun r hr => by
     rcases List.mem_or_eq_of_mem_set hr with hr | rfl
     ·exact HO.out.2.2 r hr
     ·rfl⟩
    have HRT3 : Hid (RowsG n (set5 w2 g (i * 5) (.int .i64 TK) (.int .i64 TN) (.string TS) (.slice z1 l1 e1) (.slice z2 l2 e2)) G2 φ YS (rows.set i [.int .i64 TK,.int .i64 TN,.string TS,.slice z1 l1 e1,.slice z2 l2 e2]) (i + 1)) := RowsG.step HRT.out (fun r x h => ((h.stay hstG).more hg3.sub).stay (hgr.stay hk5 hs5)) HX.out (by rw [HO.out.2.1]; exact hlt) (hse.stay (hgr.stay hk5 hs5));have HG3 : Hid (Grw s W0 b F w (set5 w2 g (i * 5) (.int .i64 TK) (.int .i64 TN) (.string TS) (.slice z1 l1 e1) (.slice z2 l2 e2)) G2 ∧ ¬ G2 g) := ⟨hgr.after HKN.out.below.size hk5 hs5,hnG2⟩;have HB3 : Hid (Blk (set5 w2 g (i * 5) (.int .i64 TK) (.int .i64 TN) (.string TS) (.slice z1 l1 e1) (.slice z2 l2 e2)) (bw + 1) #[.string y1,.int .i64 y2,.int .i64 y3,.int .i64 y4,.string y5] 54 ∧ Blk (set5 w2 g (i * 5) (.int .i64 TK) (.int .i64 TN) (.string TS) (.slice z1 l1 e1) (.slice z2 l2 e2)) bw #[.string sn,.slice ma mn mc,.slice ea en ec,.slice ta tn tc,.map (some b)] 74) := ⟨BF2.kp hk5 (fun e => by have := HGW.out; omega),BS2.kp hk5 (fun e => by have := HGW.out; omega)⟩;unfold set5 at HO3 HRT3 HG3 HB3;clear hk5 hs5 hgr hstG hfz hO2 hnG2 hgb BF2 BS2 hg3 hg2 hse al HO HRT HG HB HTX HX y0 y1' y2' y3' y4' f3 f4 s0 s1 s2 s3 s4 hbl hbl1 hTK hTN hTS;go_wp2_with fail;clear p0 p1 p2 p3 p4 q0 q1 q2 q3 q4
    go_roundw
    case rel => exact ⟨i + 1,G2,_,by go_num,by omega,HO3,HRT3,HG3,HB3⟩
    case measure => simp [intOf]; omega
   ·have hiN : i = 1 := by omega
    have HF : Hid (SeesP s W0 b F n (YS.map φ) w (.returned (.slice (some ⟨g,0,none⟩) 1 1)) wr) := (by
     have h1 := HRT.out;rw [hiN] at h1
     exact h1.done HYN.out HO.out HG.out.1 HKN.out.below.size (by have := HGW.out; rw [HBW.out]; omega) : SeesP s W0 b F n (YS.map φ) w _ wr)
    have dlt : decide ((i : Int) < 1) = false := by simp; omega
    clear HO HRT HG HB hiN;go_wp2_with fail;go_ret;exact HF.out
def EntP (s : ScS) (W0 : World) (b : Nat) (F : Nat → Prop) (n : Nat) (R : Option (Int × List Tr)) (w : World) (e : Ending) (w' : World) : Prop := ∃ a c G tg xs ok,e = .returned (.tuple #[.agg #[.int .i64 tg,.slice a xs.length c],.bool ok]) ∧ Grw s W0 b F w w' G ∧ SeeL n w' (.slice a xs.length c) xs G ∧ (R = none ∧ ok = false ∨ R = some (tg,xs) ∧ ok = true)
theorem EntP.no {s : ScS} {W0 w w' : World} {b : Nat} {F G : Nat → Prop} {n : Nat} {R : Option (Int × List Tr)} (hR : R = none) (hg : Grw s W0 b F w w' G) : EntP s W0 b F n R w (.returned (.tuple #[.agg #[.int .i64 0,.slice none 0 0],.bool false])) w' :=
 ⟨none,0,G,0,[],false,rfl,hg,fun w' _ => RowP.nil _ _ _,.inl ⟨hR,rfl⟩⟩
theorem pentry_any {s : ScS} {W0 : World} {n : Nat} {sn : ByteArray} {ma ea ta : Option Addr} {mn mc en ec tn tc : Nat} (IH : MsgC s W0 n sn ma ea ta mn mc en ec tn tc)
  (b : Nat) (F : Nat → Prop) (fs : List FlS) (tag : Int) (xl : List Tr) (qn : ByteArray) (vf : Value) (ra pt : Option Addr) (rl rc Kt ct : Nat) (w : World) (hvf : RowG w vf 5 (flRows fs)) (hKn : KnP s W0 w b F) (hks : ∀ f,fldOf fs tag = some f → 1 ≤ f.kind ∧ f.kind ≤ 7) (hts : TrsR n W0 (.slice pt Kt ct) xl) (hl1 : 1 ≤ xl.length) (hl2 : xl.length ≤ 70) (hok : ∀ x ∈ xl,okN n x = true) (hsm : ∀ x ∈ xl,SmN n x) :
  Calls Try.prog 48 #[.agg #[.string sn,.slice ma mn mc,.slice ea en ec,.slice ta tn tc,.map (some b)],.agg #[.string qn,vf,.slice ra rl rc],.agg #[.int .i64 tag,.slice pt Kt ct]] w (EntP s W0 b F n (entP (prM n s) fs (tag,xl)) w) := by
 have HKN : Hid (KnP s W0 w b F) := hKn;have HTS : Hid (TrsR n W0 (.slice pt Kt ct) xl) := hts;obtain ⟨X,hX⟩ : ∃ z,fldOf fs tag = z := ⟨_,rfl⟩;have HXF : Hid (fldOf fs tag = X) := hX
 have HFC0 : Hid (∀ W,Below w.heap.size w W → Calls Try.prog 81 #[.agg #[.string qn,vf,.slice ra rl rc],.int .i64 tag] W fun e w' => e = .returned (.tuple #[flV (X.getD zeroF),.bool X.isSome]) ∧ Below W.heap.size W w') := fun W hW => by
  have h1 := cfield_any (w := W) (snm := qn) (nm := tag) (am := ra) (M := rl) (cm := rc) (hvf.below hW);have h2 : (fs.find? fun m => decide (m.tag = tag)) = X := hX;rw [h2] at h1;exact h1
 obtain ⟨fa,fc,rfl, -⟩ := hvf.form;generalize (flRows fs).length = fl at *;obtain ⟨BS,BM,BE,BR,hbw⟩ := pt4 w #[.string sn,.slice ma mn mc,.slice ea en ec,.slice ta tn tc,.map (some b)] #[.string qn,.slice fa fl fc,.slice ra rl rc] #[.int .i64 tag,.slice pt Kt ct] #[.int .i64 0,.slice none 0 0] 74 46 57 57
 cases X with
 | none =>
  have HR : Hid (entP (prM n s) fs (tag,xl) = none) := (by simp only [entP,HXF.out] : entP (prM n s) fs (tag,xl) = none);clear HXF HTS hts hl1 hl2 hok hsm hks IH hKn hvf;simp only [flV,zeroF,Option.getD_none,Option.isSome_none] at HFC0
  go_enter Try.func48,Try.ntmps48
  go_upto_region 1 with fail
  generalize ((((w.alloc (Obj.cells #[.string sn,.slice ma mn mc,.slice ea en ec,.slice ta tn tc,.map (some b)] 74)).alloc (Obj.cells #[.string qn,.slice fa fl fc,.slice ra rl rc] 46)).alloc (Obj.cells #[.int .i64 tag,.slice pt Kt ct] 57)).alloc (Obj.cells #[.int .i64 0,.slice none 0 0] 57)) = U0 at *;obtain ⟨b0,hb0⟩ : ∃ z,w.heap.size = z := ⟨_,rfl⟩;have HBZ : Hid (w.heap.size = b0) := hb0;rw [hb0] at BS BM BE BR
  try simp only [hb0]
  clear hb0;have m0 := (BM.cell 0).trans rfl;have m1 := (BM.cell 1).trans rfl;have m2 := (BM.cell 2).trans rfl;have e0 := (BE.cell 0).trans rfl;have e1 := (BE.cell 1).trans rfl;go_wp2_with fail;refine (HFC0.out _ hbw).mono ?_;rintro ee w1 ⟨rfl,hb1⟩;have hbw1 := hbw.trans (hb1.mono hbw.size);have BS1 := BS.below hb1;have BE1 := BE.below hb1;have BR1 := BR.below hb1;clear m0 m1 m2 e0 e1 BS BM BE BR hb1 HFC0 hbw;have hbl : b0 + 3 < w1.heap.size := BR1.lt;have r0 := (BR1.cell 0).trans rfl;have rz0 := BR1.froz 0;have r1 := (BR1.cell 1).trans rfl;have rz1 := BR1.froz 1;go_wp2_with fail;have hb2 : ∀ u v,Below w.heap.size w ((w1.setCell ⟨b0 + 3,0,none⟩ u).setCell ⟨b0 + 3,1,none⟩ v) := fun u v => Below.setCell (p := ⟨b0 + 3,1,none⟩) (Below.setCell (p := ⟨b0 + 3,0,none⟩) hbw1 (by have := HBZ.out; show w.heap.size ≤ b0 + 3; omega) _) (by have := HBZ.out; show w.heap.size ≤ b0 + 3; omega) _
  have hbe : ∀ o u v,Below w.heap.size w (((w1.setCell ⟨b0 + 3,0,none⟩ u).setCell ⟨b0 + 3,1,none⟩ v).alloc o) := fun o u v => (hb2 u v).alloc (hb2 u v).size _
  exact bodyPost_ret (results_two rfl _ _ _ ⟨b0 + 3,0,none⟩ (.agg #[.int .i64 0,.slice none 0 0]) (by go_simp) (by go_simp)) rfl (EntP.no HR.out (Grw.below HKN.out (hbe _ _ _)))
 | some f =>
  have HFT : Hid (f.tag = tag) := (fldP HXF.out).1;have hk := hks f hX;have HR : Hid (entP (prM n s) fs (tag,xl) = if xl.all (pfitB f) = true then (if f.label = 1 ∧ zroB (((lastP f xl).map (oneP (prM n s) f)).headD tr0) = true then none else some (f.tag,(lastP f xl).map (oneP (prM n s) f))) else none) := (by simp only [entP,HXF.out] : entP (prM n s) fs (tag,xl) = _)
  have HCN : Hid (∀ W bf,Below w.heap.size w W → Blk W bf #[.string f.name,.int .i64 f.tag,.int .i64 f.label,.int .i64 f.kind,.string f.tname] 54 → Calls Try.prog 45 #[.slice pt Kt ct,.func (.func 82) #[] #[.pointer (some ⟨bf,0,none⟩)]] W fun e w' => e = .returned (.bool (xl.any fun x => !pfitB f x)) ∧ Below W.heap.size W w') := fun W bf hW hB => containsP_any bf n _ xl W _ ((HTS.out.celT (Cel.ofBelow (HKN.out.below.trans (hW.mono HKN.out.below.size)))).imp fun _ _ _ hp => hp.trQ) (pfun_any bf f W n xl hB hk fun x hx => by
   have h1 := hsm x hx
   cases n with
   | zero => exact h1.elim
   | succ n => have := h1.1; omega)
  have HTR : Hid (∀ W2 F2,xl.all (pfitB f) = true → KnP s W0 W2 b F2 → Calls Try.prog 84 #[.agg #[.string sn,.slice ma mn mc,.slice ea en ec,.slice ta tn tc,.map (some b)],.agg #[.string f.name,.int .i64 f.tag,.int .i64 f.label,.int .i64 f.kind,.string f.tname],.slice pt Kt ct] W2 (SeesP s W0 b F2 n ((lastP f xl).map (oneP (prM n s) f)) W2)) := fun W2 F2 h1 h2 => ptrees_any IH b F2 f xl _ W2 hk h1 h2 HTS.out hl1 hl2 hok hsm
  have HLL : Hid (1 ≤ ((lastP f xl).map (oneP (prM n s) f)).length) := (by rw [List.length_map]; exact (lastP_len hl1).1 : 1 ≤ _);have HAN : Hid ((xl.any fun x => !pfitB f x) = !xl.all (pfitB f)) := (by rw [List.not_all_eq_any_not] : _ = _);clear HXF HTS hts hl1 hl2 hok hsm hks IH hKn hvf hX hk;generalize (lastP f xl).map (oneP (prM n s) f) = YS at *;obtain ⟨A,hA⟩ : ∃ z,xl.all (pfitB f) = z := ⟨_,rfl⟩;rw [HAN.out,hA] at HCN;rw [hA] at HTR HR;clear hA HAN;obtain ⟨y1,y2,y3,y4,y5⟩ := f;simp only [flV,Option.getD_some,Option.isSome_some] at HFC0 HCN HTR HR HFT
  go_enter Try.func48,Try.ntmps48
  go_upto_region 1 with fail
  generalize ((((w.alloc (Obj.cells #[.string sn,.slice ma mn mc,.slice ea en ec,.slice ta tn tc,.map (some b)] 74)).alloc (Obj.cells #[.string qn,.slice fa fl fc,.slice ra rl rc] 46)).alloc (Obj.cells #[.int .i64 tag,.slice pt Kt ct] 57)).alloc (Obj.cells #[.int .i64 0,.slice none 0 0] 57)) = U0 at *;obtain ⟨b0,hb0⟩ : ∃ z,w.heap.size = z := ⟨_,rfl⟩;have HBZ : Hid (w.heap.size = b0) := hb0;rw [hb0] at BS BM BE BR
  try simp only [hb0]
  clear hb0;have m0 := (BM.cell 0).trans rfl;have m1 := (BM.cell 1).trans rfl;have m2 := (BM.cell 2).trans rfl;have e0 := (BE.cell 0).trans rfl;have e1 := (BE.cell 1).trans rfl;go_wp2_with fail;refine (HFC0.out _ hbw).mono ?_;rintro ee w1 ⟨rfl,hb1⟩;have hbw1 := hbw.trans (hb1.mono hbw.size);have BS1 := BS.below hb1;have BE1 := BE.below hb1;have BR1 := BR.below hb1;clear m0 m1 m2 e0 e1 BS BM BE BR hb1 HFC0 hbw;have hbl : b0 + 3 < w1.heap.size := BR1.lt;have hbl0 : b0 < w1.heap.size := BS1.lt;have hbl2 : b0 + 2 < w1.heap.size := BE1.lt;have e0 := (BE1.cell 0).trans rfl;have e1 := (BE1.cell 1).trans rfl;go_wp2_with fail;have alF : Below w1.heap.size w1 (w1.alloc (Obj.cells #[.string y1,.int .i64 y2,.int .i64 y3,.int .i64 y4,.string y5] 54)) := (Below.refl _ _).alloc (Nat.le_refl _) _;refine Calls.mono (HCN.out _ w1.heap.size (hbw1.trans (alF.mono hbw1.size)) (Blk.new w1 _ _)) ?_;rintro ee w2 ⟨rfl,hb2⟩;have hbw2 := (hbw1.trans (alF.mono hbw1.size)).trans (hb2.mono (hbw1.trans (alF.mono hbw1.size)).size);have BF2 := (Blk.new w1 #[.string y1,.int .i64 y2,.int .i64 y3,.int .i64 y4,.string y5] 54).below hb2;have BS2 := (BS1.below alF).below hb2;have BE2 := (BE1.below alF).below hb2;have BR2 := (BR1.below alF).below hb2;have HLB : Hid (w.heap.size ≤ w1.heap.size) := hbw1.size;clear alF hb2 HCN hbw1 BS1 BE1 BR1 e0 e1 hbl hbl0 hbl2;obtain ⟨bf,hbf⟩ : ∃ z,w1.heap.size = z := ⟨_,rfl⟩;rw [hbf] at BF2 HLB
  try simp only [hbf]
  clear hbf
  cases A with
  | false =>
   have HR2 : Hid (entP (prM n s) fs (tag,xl) = none) := (by rw [HR.out]; rfl : entP (prM n s) fs (tag,xl) = none);clear HR HTR HLL HFT BF2 BS2 BE2;have r0 := (BR2.cell 0).trans rfl;have rz0 := BR2.froz 0;have r1 := (BR2.cell 1).trans rfl;have rz1 := BR2.froz 1;go_wp2_with fail;have hbe : ∀ u v,Below w.heap.size w ((w2.setCell ⟨b0 + 3,0,none⟩ u).setCell ⟨b0 + 3,1,none⟩ v) := fun u v => Below.setCell (p := ⟨b0 + 3,1,none⟩) (Below.setCell (p := ⟨b0 + 3,0,none⟩) hbw2 (by have := HBZ.out; show w.heap.size ≤ b0 + 3; omega) _) (by have := HBZ.out; show w.heap.size ≤ b0 + 3; omega) _
   exact bodyPost_ret (results_two rfl _ _ _ ⟨b0 + 3,0,none⟩ (.agg #[.int .i64 0,.slice none 0 0]) (by go_simp) (by go_simp)) rfl (EntP.no HR2.out (Grw.below HKN.out (hbe _ _)))
  | true =>
   have HR2 : Hid (entP (prM n s) fs (tag,xl) = if y3 = 1 ∧ zroB (YS.headD tr0) = true then none else some (y2,YS)) := (by rw [HR.out]; rfl : entP (prM n s) fs (tag,xl) = _);clear HR;have s0 := (BS2.cell 0).trans rfl;have s1 := (BS2.cell 1).trans rfl;have s2 := (BS2.cell 2).trans rfl;have s3 := (BS2.cell 3).trans rfl;have s4 := (BS2.cell 4).trans rfl;have e1 := (BE2.cell 1).trans rfl;have f0 := (BF2.cell 0).trans rfl;have f1 := (BF2.cell 1).trans rfl;have f2 := (BF2.cell 2).trans rfl;have f3 := (BF2.cell 3).trans rfl;have f4 := (BF2.cell 4).trans rfl;have hK2 := HKN.out.mk_below hbw2;go_wp2_with fail;refine Calls.mono (HTR.out _ F trivial hK2) ?_;rintro ee w3 ⟨ya,yc,G,rfl,hg,hse⟩;have BE3 := BE2.kp hg.kp (hK2.neB BE2);have BR3 := BR2.kp hg.kp (hK2.neB BR2);have BF3 := BF2.kp hg.kp (hK2.neB BF2);have hrb : b0 + 3 ≠ b := hK2.neB BR2
   have hnF : ¬ F (b0 + 3) := fun e => by have h1 := (HKN.out.new _ e).2; have h2 := HBZ.out; omega
   have hnG : ¬ G (b0 + 3) := hg.fresh BR2 hnF;have HG : Hid (Grw s W0 b F w w3 G) := hg.before hbw2;have HSE : Hid (SeeL n w3 (.slice ya YS.length yc) YS G) := hse
   have HGA : Hid (∀ W u v,Below w3.heap.size w3 W → Grw s W0 b F w ((W.setCell ⟨b0 + 3,0,none⟩ u).setCell ⟨b0 + 3,1,none⟩ v) G ∧ Stay G w3 ((W.setCell ⟨b0 + 3,0,none⟩ u).setCell ⟨b0 + 3,1,none⟩ v)) := (fun W u v hW => by
    have hk2 : Kp (fun q => q = b0 + 3) w3 ((W.setCell ⟨b0 + 3,0,none⟩ u).setCell ⟨b0 + 3,1,none⟩ v) := Kp.setCell (S := fun q => q = b0 + 3) (p := ⟨b0 + 3,1,none⟩) (Kp.setCell (S := fun q => q = b0 + 3) (p := ⟨b0 + 3,0,none⟩) (Kp.ofBelow hW) (fun _ => rfl) _) (fun _ => rfl) _
    have hs2 : ∀ q,q = b0 + 3 → w.heap.size ≤ q ∧ ¬ G q ∧ q ≠ b := fun q e => by subst e; exact ⟨by have := HBZ.out; omega,hnG,hrb⟩
    exact ⟨HG.out.after HKN.out.below.size hk2 hs2,HG.out.stay hk2 hs2⟩ : ∀ W u v,Below w3.heap.size w3 W → _ ∧ _)
   clear s0 s1 s2 s3 s4 e1 f0 f1 f2 f3 f4 BS2 BE2 BF2 BR2 hg hse hrb hnF hnG hK2 hbw2 HTR;have e0 := (BE3.cell 0).trans rfl;have f2 := (BF3.cell 2).trans rfl;have r0 := (BR3.cell 0).trans rfl;have rz0 := BR3.froz 0;have r1 := (BR3.cell 1).trans rfl;have rz1 := BR3.froz 1;clear BE3 BF3;obtain ⟨M,hM⟩ : ∃ z,YS.length = z := ⟨_,rfl⟩;have HM : Hid (YS.length = M) := hM
   have hM1 : 1 ≤ M := by rw [← hM]; exact HLL.out
   rw [hM] at HSE;simp only [hM];clear hM HLL
   by_cases hy : y3 = 1
   ·subst hy;obtain ⟨x,hx⟩ : ∃ r,YS[0]? = some r := ⟨_,List.getElem?_eq_getElem (by rw [HM.out]; omega)⟩;obtain ⟨gx,off,a1,n1,c1,a2,n2,c2,rfl,y0,y1',y2',y3',y4',hxw⟩ := trsR_get HSE.out.now hx;simp only [Nat.zero_mul,Nat.add_zero] at y0 y1' y2' y3' y4'
    have hhd : YS.headD tr0 = x := by
     cases YS with
     | nil => simp at hx
     | cons a l => simpa using hx
    obtain ⟨Z,hZ⟩ : ∃ z,zroB x = z := ⟨_,rfl⟩
    have HZ : Hid (∀ W,Calls Try.prog 85 #[.agg #[.int .i64 x.kind,.int .i64 x.n,.string x.s,.slice a1 n1 c1,.slice a2 n2 c2]] W fun e w' => e = .returned (.bool Z) ∧ Below W.heap.size W w') := fun W => by
     obtain ⟨-, -, -,q4,q5⟩ := hxw.parts;rw [← hZ];exact zero_any x a1 a2 n1 c1 n2 c2 W q4.symm q5.symm
    have HR3 : Hid (entP (prM n s) fs (tag,xl) = if Z = true then none else some (y2,YS)) := (by rw [HR2.out,hhd,hZ]; simp : entP (prM n s) fs (tag,xl) = _);clear hhd hZ hxw hx HR2;generalize x.kind = XK at *;generalize x.n = XN at *;generalize x.s = XS at *;go_wp2_with fail;refine Calls.mono (HZ.out _) ?_;rintro ee w4 ⟨rfl,hb4⟩;have e0 := (hb4.cell (World.block_lt_of_cell? _ _ e0)).trans e0;have BR4 := BR3.below hb4;clear HZ r0 rz0 r1 rz1 y0 y1' y2' y3' y4' f2;have r0 := (BR4.cell 0).trans rfl;have rz0 := BR4.froz 0;have r1 := (BR4.cell 1).trans rfl;have rz1 := BR4.froz 1;clear BR3 BR4
    cases Z with
    | true =>
     have HR4 : Hid (entP (prM n s) fs (tag,xl) = none) := (by rw [HR3.out]; rfl : entP (prM n s) fs (tag,xl) = none);clear HR3;go_wp2_with fail;exact bodyPost_ret (results_two rfl _ _ _ ⟨b0 + 3,0,none⟩ (.agg #[.int .i64 0,.slice none 0 0]) (by go_simp) (by go_simp)) rfl (EntP.no HR4.out (HGA.out _ _ _ hb4).1)
    | false =>
     have HR4 : Hid (entP (prM n s) fs (tag,xl) = some (y2,YS)) := (by rw [HR3.out]; rfl : entP (prM n s) fs (tag,xl) = _);clear HR3;go_wp2_with fail;refine bodyPost_ret (results_two rfl _ _ _ ⟨b0 + 3,0,none⟩ (.agg #[.int .i64 tag,.slice (some ⟨gx,off,none⟩) M yc]) (by go_simp) (by go_simp)) rfl ?_;refine ⟨_,yc,G,tag,YS,true,by rw [HM.out]; rfl,(HGA.out _ _ _ hb4).1,?_,.inr ⟨by rw [HR4.out]; exact congrArg (fun z => some (z,YS)) HFT.out,rfl⟩⟩;rw [HM.out];exact HSE.out.stay (HGA.out _ _ _ hb4).2
   ·have d1 : (y3 == 1) = false := by simpa using hy
    have HR3 : Hid (entP (prM n s) fs (tag,xl) = some (y2,YS)) := (by rw [HR2.out,if_neg (fun h => hy h.1)] : entP (prM n s) fs (tag,xl) = _);clear HR2 hy;go_wp2_with fail;refine bodyPost_ret (results_two rfl _ _ _ ⟨b0 + 3,0,none⟩ (.agg #[.int .i64 tag,.slice ya M yc]) (by go_simp) (by go_simp)) rfl ?_;refine ⟨ya,yc,G,tag,YS,true,by rw [HM.out]; rfl,(HGA.out _ _ _ (Below.refl _ _)).1,?_,.inr ⟨by rw [HR3.out]; exact congrArg (fun z => some (z,YS)) HFT.out,rfl⟩⟩;rw [HM.out];exact HSE.out.stay (HGA.out _ _ _ (Below.refl _ _)).2
theorem infoFl : (Try.prog.info? 54).map (fun i => (i.zero,i.size,i.bytes)) = some (some (.agg #[.string ⟨#[]⟩,.int .i64 0,.int .i64 0,.int .i64 0,.string ⟨#[]⟩]),5,56) := by kernel_rfl
theorem infoIn : (Try.prog.info? 3).map (fun i => (i.zero,i.size,i.bytes)) = some (some (.int .i64 0),1,8) := by kernel_rfl
theorem infoNm : (Try.prog.info? 65).map (fun i => (i.zero,i.size,i.bytes)) = some (some (.agg #[.string ⟨#[]⟩,.int .i64 0]),2,24) := by kernel_rfl
theorem infoMs : (Try.prog.info? 46).map (fun i => (i.zero,i.size,i.bytes)) = some (some (.agg #[.string ⟨#[]⟩,.slice none 0 0,.slice none 0 0]),3,64) := by kernel_rfl
theorem infoEn : (Try.prog.info? 63).map (fun i => (i.zero,i.size,i.bytes)) = some (some (.agg #[.string ⟨#[]⟩,.slice none 0 0]),2,40) := by kernel_rfl
theorem infoMt : (Try.prog.info? 67).map (fun i => (i.zero,i.size,i.bytes)) = some (some (.agg #[.string ⟨#[]⟩,.string ⟨#[]⟩,.string ⟨#[]⟩]),3,48) := by kernel_rfl
theorem flr_len (fs : List FlS) : ∀ r ∈ flRows fs,r.length = 5 := fun r hr => by simp only [flRows,List.mem_map] at hr; obtain ⟨_,_,rfl⟩ := hr; rfl
theorem inr_len (fs : List Int) : ∀ r ∈ inRows fs,r.length = 1 := fun r hr => by simp only [inRows,List.mem_map] at hr; obtain ⟨_,_,rfl⟩ := hr; rfl
theorem nmr_len (fs : List NmS) : ∀ r ∈ nmRows fs,r.length = 2 := fun r hr => by simp only [nmRows,List.mem_map] at hr; obtain ⟨_,_,rfl⟩ := hr; rfl
theorem mtr_len (fs : List MtS) : ∀ r ∈ mtRows fs,r.length = 3 := fun r hr => by simp only [mtRows,List.mem_map] at hr; obtain ⟨_,_,rfl⟩ := hr; rfl
theorem flr_one (fs : List FlS) : ∀ u ∈ (flRows fs).flatten,u.oneCell' = true := by
 intro u hu;simp only [List.mem_flatten,flRows,List.mem_map] at hu;obtain ⟨l,⟨f,_,rfl⟩,hu⟩ := hu;simp only [FlS.cells,List.mem_cons,List.not_mem_nil,or_false] at hu
 rcases hu with rfl | rfl | rfl | rfl | rfl <;> rfl
theorem inr_one (fs : List Int) : ∀ u ∈ (inRows fs).flatten,u.oneCell' = true := by
 intro u hu;simp only [List.mem_flatten,inRows,List.mem_map] at hu;obtain ⟨l,⟨f,_,rfl⟩,hu⟩ := hu;simp only [List.mem_cons,List.not_mem_nil,or_false] at hu;subst hu; rfl
theorem nmr_one (fs : List NmS) : ∀ u ∈ (nmRows fs).flatten,u.oneCell' = true := by
 intro u hu;simp only [List.mem_flatten,nmRows,List.mem_map] at hu;obtain ⟨l,⟨f,_,rfl⟩,hu⟩ := hu;simp only [NmS.cells,List.mem_cons,List.not_mem_nil,or_false] at hu
 rcases hu with rfl | rfl <;> rfl
theorem mtr_one (fs : List MtS) : ∀ u ∈ (mtRows fs).flatten,u.oneCell' = true := by
 intro u hu;simp only [List.mem_flatten,mtRows,List.mem_map] at hu;obtain ⟨l,⟨f,_,rfl⟩,hu⟩ := hu;simp only [MtS.cells,List.mem_cons,List.not_mem_nil,or_false] at hu
 rcases hu with rfl | rfl | rfl <;> rfl
theorem freshF_any {w : World} {v : Value} {fs : List FlS} (hr : RowG w v 5 (flRows fs)) (hl : fs.length ≤ 100) :
  Calls Try.prog 40 #[v] w fun e w' => ∃ r,e = .returned r ∧ w'.ownsRow w.heap.size 54 5 r fs.length (flRows fs).flatten ∧ Below w.heap.size w w' := by
 have hN : (flRows fs).length = fs.length := by simp [flRows]
 have HN : Hid ((flRows fs).length = fs.length) := hN;have HR : Hid (RowG w v 5 (flRows fs)) := hr;have HL : Hid (fs.length ≤ 100) := hl;clear hr hN hl
 go_enter Try.func40,Try.ntmps40
 go_wp2_with (first
  | (at_builtin; refine wpList_joinG rfl _ _ 44 54 5 56 _ rfl Try.underlying44 infoFl rfl (by decide) w.heap.size (.slice none 0 0) 0 [] rfl (World.ownsRow_nil _ _ _ _) v (flRows fs) rfl HR.out (flr_len fs) (flr_one fs) ?c1 (by decide) (Nat.le_refl _) ?_)
  | fail)
 case c1 => have h1 := HN.out; have h2 := HL.out; omega
 intro r w1 ho hg;have hb : Below w.heap.size w w1 := (Below.refl _ _).grown hg (Nat.le_refl _) (fun k hk => by cases hk)
 have HO : Hid (w1.ownsRow w.heap.size 54 5 r fs.length (flRows fs).flatten) := by
  show World.ownsRow _ _ _ _ _ _ _
  rw [HN.out] at ho;exact ho
 clear hg ho;go_wp2_with fail;go_ret;exact ⟨_,rfl,HO.out,hb⟩
theorem freshI_any {w : World} {v : Value} {fs : List Int} (hr : RowG w v 1 (inRows fs)) (hl : fs.length ≤ 100) :
  Calls Try.prog 41 #[v] w fun e w' => ∃ r,e = .returned r ∧ w'.ownsRow w.heap.size 3 1 r fs.length (inRows fs).flatten ∧ Below w.heap.size w w' := by
 have hN : (inRows fs).length = fs.length := by simp [inRows]
 have HN : Hid ((inRows fs).length = fs.length) := hN;have HR : Hid (RowG w v 1 (inRows fs)) := hr;have HL : Hid (fs.length ≤ 100) := hl;clear hr hN hl
 go_enter Try.func41,Try.ntmps41
 go_wp2_with (first
  | (at_builtin; refine wpList_joinG rfl _ _ 42 3 1 8 _ rfl Try.underlying42 infoIn rfl (by decide) w.heap.size (.slice none 0 0) 0 [] rfl (World.ownsRow_nil _ _ _ _) v (inRows fs) rfl HR.out (inr_len fs) (inr_one fs) ?c1 (by decide) (Nat.le_refl _) ?_)
  | fail)
 case c1 => have h1 := HN.out; have h2 := HL.out; omega
 intro r w1 ho hg;have hb : Below w.heap.size w w1 := (Below.refl _ _).grown hg (Nat.le_refl _) (fun k hk => by cases hk)
 have HO : Hid (w1.ownsRow w.heap.size 3 1 r fs.length (inRows fs).flatten) := by
  show World.ownsRow _ _ _ _ _ _ _
  rw [HN.out] at ho;exact ho
 clear hg ho;go_wp2_with fail;go_ret;exact ⟨_,rfl,HO.out,hb⟩
end
section
open Go.ChangeShapes Go.WideShapes Go.ChangeAt Go.RowKit Go.Maps
theorem cmessage_any {w : World} {snm nm : ByteArray} {ae at' : Option Addr} {E ce T ct : Nat} {vm : Value} {ms : List MsS} (hr : MsIn w vm ms) (hl : ∀ m ∈ ms,m.fields.length ≤ 20 ∧ m.reserved.length ≤ 40) :
  Calls Try.prog 22 #[.agg #[.string snm,vm,.slice ae E ce,.slice at' T ct],.string nm] w fun e w' => ∃ vf vr,e = .returned (.tuple #[.agg #[.string ((ms.find? (fun m => decide (m.name = nm))).getD zeroM).name,vf,vr],.bool (ms.find? (fun m => decide (m.name = nm))).isSome]) ∧ w'.ownsRow w.heap.size 54 5 vf ((ms.find? (fun m => decide (m.name = nm))).getD zeroM).fields.length (flRows ((ms.find? (fun m => decide (m.name = nm))).getD zeroM).fields).flatten ∧ w'.ownsRow w.heap.size 3 1 vr ((ms.find? (fun m => decide (m.name = nm))).getD zeroM).reserved.length (inRows ((ms.find? (fun m => decide (m.name = nm))).getD zeroM).reserved).flatten ∧ Below w.heap.size w w' := by
 obtain ⟨a,c,rfl,q1,q2⟩ := hr.form2;have HR : Hid (MsIn w (.slice a ms.length c) ms) := hr;obtain ⟨N,hN⟩ : ∃ N,ms.length = N := ⟨_,rfl⟩;rw [hN] at HR q1 ⊢;have HN : Hid (ms.length = N) := hN;clear hN hr;have HL : Hid (∀ m ∈ ms,m.fields.length ≤ 20 ∧ m.reserved.length ≤ 40) := hl;clear hl;obtain ⟨A,hA⟩ : ∃ A,(ms.find? (fun m => decide (m.name = nm))) = A := ⟨_,rfl⟩;rw [hA];have HA : Hid (A = ((ms.drop 0).find? (fun m => decide (m.name = nm)))) := hA.symm;clear hA;have BX0 : Blk ((w.alloc (.cells #[.string snm,.slice a N c,.slice ae E ce,.slice at' T ct] 26)).alloc (.cells #[.string ⟨#[]⟩,.slice none 0 0,.slice none 0 0] 46)) w.heap.size #[.string snm,.slice a N c,.slice ae E ce,.slice at' T ct] 26 := (Blk.new w _ _).below ((Below.refl _ _).alloc (Nat.le_refl _) _)
 have BR0 : Blk ((w.alloc (.cells #[.string snm,.slice a N c,.slice ae E ce,.slice at' T ct] 26)).alloc (.cells #[.string ⟨#[]⟩,.slice none 0 0,.slice none 0 0] 46)) (w.heap.size + 1) #[.string ⟨#[]⟩,.slice none 0 0,.slice none 0 0] 46 := by
  have := Blk.new (w.alloc (.cells #[.string snm,.slice a N c,.slice ae E ce,.slice at' T ct] 26)) #[.string ⟨#[]⟩,.slice none 0 0,.slice none 0 0] 46
  rwa [show (w.alloc (.cells #[.string snm,.slice a N c,.slice ae E ce,.slice at' T ct] 26)).heap.size = w.heap.size + 1 by simp] at this
 have hb0 : Below w.heap.size w ((w.alloc (.cells #[.string snm,.slice a N c,.slice ae E ce,.slice at' T ct] 26)).alloc (.cells #[.string ⟨#[]⟩,.slice none 0 0,.slice none 0 0] 46)) := ((Below.refl _ _).alloc (Nat.le_refl _) _).alloc (by simp) _
 go_enter Try.func22,Try.ntmps22
 go_wp2_with fail
 go_loopw [11] (fun iv wr => ∃ k : Nat,iv = .int .i64 (k : Int) ∧ k ≤ N ∧ Hid (A = ((ms.drop k).find? (fun m => decide (m.name = nm)))) ∧ Below w.heap.size w wr ∧ Blk wr (w.heap.size + 1) #[.string ⟨#[]⟩,.slice none 0 0,.slice none 0 0] 46) (fun iv _ => N - (intOf iv).toNat)
 case atStart => exact ⟨0,rfl,by omega,HA,hb0,BR0⟩
 case round =>
  obtain ⟨k,rfl,hk,HAk,hbel,BR⟩ := hrel;clear BX0 BR0 hb0;have hlt2 : w.heap.size + 1 < wr.heap.size := BR.lt;have r0 := (BR.cell 0).trans rfl;have z0 := BR.froz 0;have r1 := (BR.cell 1).trans rfl;have z1 := BR.froz 1;have r2 := (BR.cell 2).trans rfl;have z2 := BR.froz 2
  by_cases hlt : k < N
  ·obtain ⟨f,hf⟩ : ∃ n,ms[k]? = some n := ⟨_,List.getElem?_eq_getElem (by rw [HN.out]; exact hlt)⟩;obtain ⟨g,off,vf,vr,rfl,c0',c1',c2',hrf,hrr⟩ := HR.out.get hf;have c0 := (hbel.cell (World.block_lt_of_cell? _ _ c0')).trans c0';have c1 := (hbel.cell (World.block_lt_of_cell? _ _ c1')).trans c1';have c2 := (hbel.cell (World.block_lt_of_cell? _ _ c2')).trans c2';clear c0' c1' c2';have HF : Hid (RowG w vf 5 (flRows f.fields)) := hrf;have HV : Hid (RowG w vr 1 (inRows f.reserved)) := hrr;obtain ⟨a3,c3,rfl,_,_⟩ := hrf.form2;obtain ⟨a4,c4,rfl,_,_⟩ := hrr.form2;have HF : Hid (RowG w (.slice a3 (flRows f.fields).length c3) 5 (flRows f.fields)) := HF;have HV : Hid (RowG w (.slice a4 (inRows f.reserved).length c4) 1 (inRows f.reserved)) := HV;have HLf : Hid _ := HL.out f (List.mem_of_getElem? hf)
   have HA2 : Hid (A = if decide (f.name = nm) = true then some f else ((ms.drop (k + 1)).find? (fun m => decide (m.name = nm)))) := by
    show _ = _
    rw [HAk.out,drop_at hf,List.find?_cons]
    cases decide (f.name = nm) <;> rfl
   obtain ⟨f0,ff,fr⟩ := f;simp only at c0 c1 c2 HA2 HF HV HLf;generalize hnF : (flRows ff).length = nF at *;generalize hnR : (inRows fr).length = nR at *;clear hrf hrr hf HAk hnF hnR
   by_cases he : f0 = nm
   ·subst he
    have HA3 : Hid (A = some ⟨f0,ff,fr⟩) := by show _ = _; rw [HA2.out,if_pos (by simp)]
    clear HA2;go_wp2_with fail;refine wp_region_held_drew (S := fun _ => True) (by kernel_rfl) trivial (fun hS => ?_);have hba : Below w.heap.size w (wr.alloc (.cells #[.string f0,.slice a3 nF c3,.slice a4 nR c4] 46)).drew := below_drewN 1 (hbel.alloc (by omega) _);have BT : Blk (wr.alloc (.cells #[.string f0,.slice a3 nF c3,.slice a4 nR c4] 46)).drew wr.heap.size #[.string f0,.slice a3 nF c3,.slice a4 nR c4] 46 := Blk.new wr #[.string f0,.slice a3 nF c3,.slice a4 nR c4] 46;have BR2 : Blk (wr.alloc (.cells #[.string f0,.slice a3 nF c3,.slice a4 nR c4] 46)).drew (w.heap.size + 1) #[.string ⟨#[]⟩,.slice none 0 0,.slice none 0 0] 46 := BR.below (below_drewN 1 ((Below.refl _ _).alloc (Nat.le_refl _) _))
    have HSZ : Hid ((wr.alloc (.cells #[.string f0,.slice a3 nF c3,.slice a4 nR c4] 46)).drew.heap.size = wr.heap.size + 1) := by show _ = _; simp [World.drew]
    generalize (wr.alloc (.cells #[.string f0,.slice a3 nF c3,.slice a4 nR c4] 46)).drew = W0 at *;obtain ⟨bt,hbt⟩ : ∃ n,wr.heap.size = n := ⟨_,rfl⟩;rw [hbt] at BT HSZ hlt2 ⊢;clear hbt c0 c1 c2 r0 r1 r2 z0 z1 z2 hS;have t1 : W0.cell? ⟨bt,1,none⟩ = some (.slice a3 nF c3) := BT.cell 1;have t2 : W0.cell? ⟨bt,2,none⟩ = some (.slice a4 nR c4) := BT.cell 2;refine rg_take 0 19 (.pointer (some ⟨bt,1,none⟩)) _ rfl rfl (by kernel_rfl) (by kernel_rfl) (by kernel_rfl) (fun _ _ _ h => h) (by rfl) (fun w' hw' => ?_) trivial (listed' := bts 10 1) (by kernel_rfl) rfl ?_
    ·go_simp
    simp only [zsA,zsZ,zsS];refine rg_take 3 22 (.pointer (some ⟨bt,2,none⟩)) _ rfl rfl (by kernel_rfl) (by kernel_rfl) (by kernel_rfl) (fun _ _ _ h => h) (by rfl) (fun w' hw' => ?_) trivial (listed' := bts 10 9) (by kernel_rfl) rfl ?_
    ·go_simp
    simp only [zsA,zsZ,zsS];refine rg_llc 1 4 2 20 23 21 (.slice a3 nF c3) (.slice a4 nR c4) 40 #[.slice a3 nF c3] (fun W => W.cell? ⟨bt,2,none⟩ = some (.slice a4 nR c4)) rfl rfl rfl rfl rfl rfl (by kernel_rfl) (by kernel_rfl) (by kernel_rfl) (by kernel_rfl) (by kernel_rfl) (fun _ => rfl) (fun _ => rfl) (fun _ => rfl) (by decide) (by decide) (by decide) (by decide) (by go_simp) (by go_simp) (by go_simp) (by go_simp) (fun v W hLD => by go_simp) (fun W => by go_simp) (fun W => by go_simp) ?_;refine (freshF_any (HF.out.below hba) (by have := HLf.out; omega)).mono ?_;rintro e w2 ⟨rv,rfl,ho,hb2⟩;have BT2 := BT.below hb2;have BR3 := BR2.below hb2;have hbw2 : Below w.heap.size w w2 := hba.trans (hb2.mono hba.size);refine ⟨_,rfl,BT2.cell 2,?_⟩;simp only [zsA,zsZ,zsS];clear t1 t2;refine rg_take 6 25 (.pointer (some ⟨bt,1,none⟩)) _ rfl rfl (by kernel_rfl) (by kernel_rfl) (by kernel_rfl) (fun _ _ _ h => h) (by rfl) (fun w' hw' => ?_) trivial (listed' := bts 10 95) (by kernel_rfl) rfl ?_
    ·go_simp
    simp only [zsA,zsZ,zsS];refine rg_call 5 24 41 #[.slice a4 nR c4] rfl rfl (by kernel_rfl) (by rfl) (listed' := bts 10 127) (by kernel_rfl) (fun W => by go_simp) ?_;refine (freshI_any (HV.out.below hbw2) (by have := HLf.out; omega)).mono ?_;rintro e w3 ⟨rw,rfl,ho2,hb3⟩;refine ⟨_,rfl,trivial,?_⟩;simp only [zsA,zsZ,zsS];have BT3 := BT2.below hb3;have BR4 := BR3.below hb3;have hbw : Below w.heap.size w w3 := hbw2.trans (hb3.mono hbw2.size)
    have HO1 : Hid (w3.ownsRow (bt + 1) 54 5 rv ff.length (flRows ff).flatten) := by show World.ownsRow _ _ _ _ _ _ _; rw [HSZ.out] at ho; exact own_below ho hb3
    have HO2 : Hid (w3.ownsRow (bt + 1) 3 1 rw fr.length (inRows fr).flatten) := own_base ho2 (by have := hb2.size; have := HSZ.out; omega);obtain ⟨ra,rc,hrv⟩ := own_form ho;obtain ⟨qa,qc,hqv⟩ := own_form ho2;subst hrv hqv;have HO1 : Hid (w3.ownsRow (bt + 1) 54 5 (.slice ra ff.length rc) ff.length (flRows ff).flatten) := HO1;have HO2 : Hid (w3.ownsRow (bt + 1) 3 1 (.slice qa fr.length qc) fr.length (inRows fr).flatten) := HO2;obtain ⟨nFF,hNL⟩ : ∃ x,ff.length = x := ⟨_,rfl⟩;obtain ⟨nRR,hRL⟩ : ∃ x,fr.length = x := ⟨_,rfl⟩;rw [hNL] at HO1 ⊢;rw [hRL] at HO2 ⊢;have HNL : Hid (ff.length = nFF) := hNL;have HRL : Hid (fr.length = nRR) := hRL;clear hNL hRL;have hlt3 : bt < w3.heap.size := BT3.lt;clear ho ho2 hb2 hb3 BT BT2 BR2 BR3 hba hbw2 hbel HSZ BR;have t0 : w3.cell? ⟨bt,0,none⟩ = some (.string f0) := BT3.cell 0;have t1 : w3.cell? ⟨bt,1,none⟩ = some (.slice a3 nF c3) := BT3.cell 1;have t2 : w3.cell? ⟨bt,2,none⟩ = some (.slice a4 nR c4) := BT3.cell 2;have y1 := BT3.froz 1;have y2 := BT3.froz 2;have r0 := (BR4.cell 0).trans rfl;have r1 := (BR4.cell 1).trans rfl;have r2 := (BR4.cell 2).trans rfl;have z0 := BR4.froz 0;have z1 := BR4.froz 1;have z2 := BR4.froz 2
    have hdd : w.heap.size + 1 ≠ bt := by omega
    refine rg_store 7 (w3.setCell ⟨bt,1,none⟩ (.slice ra nFF rc)) rfl rfl (by kernel_rfl) (by rfl) (listed' := bts 10 255) (by kernel_rfl) (by go_simp) trivial ?_;refine rg_take 8 26 (.pointer (some ⟨bt,2,none⟩)) _ rfl rfl (by kernel_rfl) (by kernel_rfl) (by kernel_rfl) (fun _ _ _ h => h) (by rfl) (fun w' hw' => ?_) trivial (listed' := bts 10 511) (by kernel_rfl) rfl ?_
    ·go_simp
    simp only [zsA,zsZ,zsS];refine rg_store 9 ((w3.setCell ⟨bt,1,none⟩ (.slice ra nFF rc)).setCell ⟨bt,2,none⟩ (.slice qa nRR qc)) rfl rfl (by kernel_rfl) (by rfl) (listed' := bts 10 1023) (by kernel_rfl) (by go_simp) trivial ?_;refine wpAnyH_done (by kernel_rfl) ?_ _;go_wp2_with fail;refine bodyPost_ret (results_two rfl _ _ _ ⟨w.heap.size + 1,0,none⟩ (.agg #[.string f0,.slice ra nFF rc,.slice qa nRR qc]) (by go_simp) (by go_simp)) rfl ?_;refine ⟨.slice ra nFF rc,.slice qa nRR qc,ret_two (by rw [HA3.out]; rfl) (by rw [HA3.out]; rfl),?_,?_,?_⟩
    ·rw [HA3.out];rw [show ((some (⟨f0,ff,fr⟩ : MsS)).getD zeroM).fields.length = nFF from HNL.out];refine own_base (own_kp HO1.out (S := fun k => k = bt ∨ k = w.heap.size + 1) ?_ (fun k hk => by omega)) (by omega)
     repeat' first | exact Kp.refl _ _ | refine Kp.setCell ?_ (fun _ => by simp) _
    ·rw [HA3.out];rw [show ((some (⟨f0,ff,fr⟩ : MsS)).getD zeroM).reserved.length = nRR from HRL.out];refine own_base (own_kp HO2.out (S := fun k => k = bt ∨ k = w.heap.size + 1) ?_ (fun k hk => by omega)) (by omega)
     repeat' first | exact Kp.refl _ _ | refine Kp.setCell ?_ (fun _ => by simp) _
    ·repeat' first | exact hbw | refine Below.setCell ?_ (by first | (simp; done) | (simp; omega)) _
   ·have hq := bytes_ne he
    have HA3 : Hid (A = ((ms.drop (k + 1)).find? (fun m => decide (m.name = nm)))) := by show _ = _; rw [HA2.out,if_neg (by simpa using he)]
    have hb2 : Below w.heap.size w (wr.alloc (.cells #[.string f0,.slice a3 nF c3,.slice a4 nR c4] 46)) := hbel.alloc (by omega) _;have BR2 : Blk (wr.alloc (.cells #[.string f0,.slice a3 nF c3,.slice a4 nR c4] 46)) (w.heap.size + 1) #[.string ⟨#[]⟩,.slice none 0 0,.slice none 0 0] 46 := BR.below ((Below.refl _ _).alloc (Nat.le_refl _) _);go_wp2_with fail
    go_roundw
    case rel => exact ⟨k + 1,by go_num,by omega,HA3,hb2,BR2⟩
    case measure => simp [intOf]; omega
  ·have HA2 : Hid (A = none) := by show _ = _; rw [HAk.out,drop_end (by rw [HN.out]; omega)]; rfl
   go_wp2_with fail;refine bodyPost_ret (results_two rfl _ _ _ ⟨w.heap.size + 1,0,none⟩ (.agg #[.string ⟨#[]⟩,.slice none 0 0,.slice none 0 0]) (by go_simp) (by go_simp)) rfl ?_;exact ⟨.slice none 0 0,.slice none 0 0,ret_two (by rw [HA2.out]; rfl) (by rw [HA2.out]; rfl),by rw [HA2.out]; exact World.ownsRow_nil _ _ _ _,by rw [HA2.out]; exact World.ownsRow_nil _ _ _ _,(Below.setCell (Below.setCell (Below.setCell hbel (by simp) _) (by simp) _) (by simp) _)⟩
end
section
open Go.ChangeShapes Go.WideShapes Go.ChangeAt Go.RowKit
section
variable {T MT : TypeId} {k : Value}
theorem find_askA : ∀ (l : List MapEntry) (i : Nat),∃ r : Option (Nat × Value),((∃ j e,r = some (i + j,e.val) ∧ l[j]? = some e ∧ e.key = k) ∨ (r = none ∧ k ∉ l.map MapEntry.key)) ∧
  ∀ w,Told T w k (l.map MapEntry.key) → (Instr.findAsking T k l i).run Try.prog w = .ok r w
 | [],i => ⟨none,.inr ⟨rfl,by simp⟩,fun w _ => by simp [Instr.findAsking]⟩
 | e :: l,i => by
  by_cases hke : k = e.key
  ·refine ⟨some (i + 0,e.val),.inl ⟨0,e,rfl,rfl,hke.symm⟩,fun w ht => ?_⟩;have h1 := (ht e.key (List.mem_cons_self ..)).1;unfold Instr.findAsking;rw [Sem.run_bind,h1 hke]
   simp [Result.andThen]
  ·obtain ⟨r,h1,h2⟩ := find_askA l (i + 1);refine ⟨r,?_,fun w ht => ?_⟩
   ·rcases h1 with ⟨j,e',g1,g2,g3⟩ | ⟨g1,g2⟩
    ·exact .inl ⟨j + 1,e',by rw [g1]; congr 2; omega,by simpa using g2,g3⟩
    ·refine .inr ⟨g1,fun h => ?_⟩
     rcases List.mem_cons.1 h with h | h
     ·exact hke h
     ·exact g2 h
   ·have h3 := (ht e.key (List.mem_cons_self ..)).2
    have hrun : (Instr.findAsking T k (e :: l) i).run Try.prog w = (Instr.findAsking T k l (i + 1)).run Try.prog w := by
     conv => lhs; unfold Instr.findAsking
     rw [Sem.run_bind,h3 hke]
     simp [Result.andThen]
    rw [hrun];exact h2 w fun q hq => ht q (List.mem_cons_of_mem _ hq)
theorem find_keyA {fs : TypeDesc} (hu : Try.prog.underlying T = some fs) (hf : ∀ k q,Instr.sameNow fs (.agg k) q = none) {ks : Array Value} (hk : k = .agg ks) (l : List MapEntry) :
  ∃ r : Option (Nat × Value),((∃ j e,r = some (j,e.val) ∧ l[j]? = some e ∧ e.key = k) ∨ (r = none ∧ k ∉ l.map MapEntry.key)) ∧ ∀ w,Told T w k (l.map MapEntry.key) → (Instr.findKey T k l).run Try.prog w = .ok r w := by
 cases l with
 | nil => exact ⟨none,.inr ⟨rfl,by simp⟩,fun w _ => by simp [Instr.findKey,run_underlying hu,Instr.findNow]⟩
 | cons e l =>
  obtain ⟨r,h1,h2⟩ := find_askA (T := T) (k := k) (e :: l) 0;refine ⟨r,by simpa using h1,fun w ht => ?_⟩
  have h3 : Instr.findNow fs k (e :: l) 0 = none := by rw [hk]; simp [Instr.findNow,hf]
  have h4 : (Instr.findKey T k (e :: l)).run Try.prog w = (Instr.findAsking T k (e :: l) 0).run Try.prog w := by
   simp [Instr.findKey,run_underlying hu,h3]
  rw [h4];exact h2 w ht
variable {E : TypeId} {L : List (Value × Value)} {b : Nat} {w : World}
theorem look_mapA (hm : Try.prog.underlying MT = some (.map T E)) {z : Value} (hz : ∀ w,(zeroValue E).run Try.prog w = .ok z w) {fs : TypeDesc} (hu : Try.prog.underlying T = some fs) (hf : ∀ k q,Instr.sameNow fs (.agg k) q = none) {ks : Array Value} (hk : k = .agg ks)
  (hc : ∀ w e,(Instr.checkKey e 10000 T k).run Try.prog w = .ok () w) (hs : PlMap w b L) :
  (∃ v,(k,v) ∈ L ∧ ∀ W,W.heap[b]? = w.heap[b]? → Told T W k (L.map Prod.fst) → (Instr.lookup MT (.map (some b)) k true).run Try.prog W = .ok (.tuple #[v,.bool true]) W) ∨
  (∀ W,W.heap[b]? = w.heap[b]? → Told T W k (L.map Prod.fst) → (Instr.lookup MT (.map (some b)) k true).run Try.prog W = .ok (.tuple #[z,.bool false]) W) := by
 obtain ⟨es,c,h1,rfl⟩ := hs
 have hgo : ∀ W,W.heap[b]? = w.heap[b]? → (getObj b).run Try.prog W = .ok (.map es c) W := fun W hW => by simp [getObj,Sem.run,hW,h1]
 obtain ⟨r,h2,h3⟩ := find_keyA hu hf hk es.toList
 rcases h2 with ⟨j,e,rfl,g2,g3⟩ | ⟨rfl,g2⟩
 ·refine .inl ⟨e.val,List.mem_map.2 ⟨e,List.mem_of_getElem? g2,by rw [g3]⟩,fun W hW ht => ?_⟩;rw [keys_of] at ht
  simp [Instr.lookup,run_underlying hm,hgo W hW,hc,h3 W ht]
 ·refine .inr fun W hW ht => ?_
  rw [keys_of] at ht
  simp [Instr.lookup,run_underlying hm,hgo W hW,hc,h3 W ht,hz]
end
theorem lookup_run {MT : TypeId} {b : Nat} {k v : Value} {a : Act} {w : World} {o : Oper} {m x : Operand} (hop : o.op = Op.lookup MT m x true) (hmm : a.eval m = .map (some b)) (hx : a.eval x = k) (hr : (Instr.lookup MT (.map (some b)) k true).run Try.prog w = .ok v w) : (execOp a.eval o).run Try.prog w = .ok (.value v) w := by
 simp [execOp,hop,hmm,hx,hr,Result.andThen]
theorem update_run {MT : TypeId} {b : Nat} {k v : Value} {a : Act} {w w' : World} {o : Oper} {m x y : Operand} (hop : o.op = Op.mapUpdate MT m x y) (hmm : a.eval m = .map (some b)) (hx : a.eval x = k) (hy : a.eval y = v) (hr : (Instr.mapUpdate MT (.map (some b)) k v).run Try.prog w = .ok () w') : (execOp a.eval o).run Try.prog w = .ok .skip w' := by
 simp [execOp,hop,hmm,hx,hy,hr,Result.andThen]
end
end Go.Proofs.Ytmgbhicogmclgaa
