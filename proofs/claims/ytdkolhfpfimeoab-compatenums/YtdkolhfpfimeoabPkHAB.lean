/- Part 2 of what the proof stands on. -/
import Derived.Test.YtdkolhfpfimeoabPkHAA
import Derived.OrdersHeld
import Derived.Deep.RegionHeld3
namespace Go.Proofs.Ytdkolhfpfimeoab
set_option maxHeartbeats 8000000
set_option linter.unusedVariables false
set_option linter.unusedSimpArgs false
set_option maxRecDepth 20000
section
open Go.ChangeShapes Go.WideShapes Go.ChangeAt Go.RowKit
def flRows (fs : List FlS) : List (List Value) := fs.map FlS.cells
def inRows (ns : List Int) : List (List Value) := ns.map fun n => [.int .i64 n]
def nmRows (vs : List NmS) : List (List Value) := vs.map NmS.cells
def mtRows (ms : List MtS) : List (List Value) := ms.map MtS.cells
def MsIn (w : World) (v : Value) (ms : List MsS) : Prop := ∃ rows : List (List Value),RowG w v 3 rows ∧ rows.length = ms.length ∧
 ∀ (i : Nat) (m : MsS),ms[i]? = some m → ∃ vf vr,rows[i]? = some [.string m.name,vf,vr] ∧ RowG w vf 5 (flRows m.fields) ∧ RowG w vr 1 (inRows m.reserved)
def EnIn (w : World) (v : Value) (es : List EnS) : Prop := ∃ rows : List (List Value),RowG w v 2 rows ∧ rows.length = es.length ∧
 ∀ (i : Nat) (e : EnS),es[i]? = some e → ∃ vv,rows[i]? = some [.string e.name,vv] ∧ RowG w vv 2 (nmRows e.values)
def ScIn (w : World) (v : Value) (s : ScS) : Prop := ∃ vm ve vt,v = .agg #[.string s.name,vm,ve,vt] ∧ MsIn w vm s.msgs ∧ EnIn w ve s.enums ∧ RowG w vt 3 (mtRows s.methods)
theorem MsIn.below {w w1 : World} {v : Value} {ms : List MsS} (h : MsIn w v ms) (hb : Below w.heap.size w w1) : MsIn w1 v ms := by
 obtain ⟨rows,h1,h2,h3⟩ := h;refine ⟨rows,h1.below hb,h2,fun i m hm => ?_⟩;obtain ⟨vf,vr,g1,g2,g3⟩ := h3 i m hm;exact ⟨vf,vr,g1,g2.below hb,g3.below hb⟩
theorem EnIn.below {w w1 : World} {v : Value} {es : List EnS} (h : EnIn w v es) (hb : Below w.heap.size w w1) : EnIn w1 v es := by
 obtain ⟨rows,h1,h2,h3⟩ := h;refine ⟨rows,h1.below hb,h2,fun i m hm => ?_⟩;obtain ⟨vv,g1,g2⟩ := h3 i m hm;exact ⟨vv,g1,g2.below hb⟩
theorem ScIn.below {w w1 : World} {v : Value} {s : ScS} (h : ScIn w v s) (hb : Below w.heap.size w w1) : ScIn w1 v s := by
 obtain ⟨vm,ve,vt,h1,h2,h3,h4⟩ := h;exact ⟨vm,ve,vt,h1,h2.below hb,h3.below hb,h4.below hb⟩
theorem MsIn.open {w : World} {v : Value} {ms : List MsS} (h : MsIn w v ms) : ∃ a cap,v = .slice a ms.length cap ∧ ms.length ≤ cap ∧ cap ≤ maxLen ∧ (ms ≠ [] → ∃ g off,a = some ⟨g,off,none⟩) ∧
  ∀ g off,a = some ⟨g,off,none⟩ → ∀ (i : Nat) (m : MsS),ms[i]? = some m → ∃ vf vr,w.cell? ⟨g,off + i * 3,none⟩ = some (.string m.name) ∧ w.cell? ⟨g,off + i * 3 + 1,none⟩ = some vf ∧ w.cell? ⟨g,off + i * 3 + 2,none⟩ = some vr ∧ RowG w vf 5 (flRows m.fields) ∧ RowG w vr 1 (inRows m.reserved) := by
 obtain ⟨rows,h1,h2,h3⟩ := h;obtain ⟨a,cap,e1,e2,e3,e4,e5⟩ := h1.open;rw [h2] at e1 e2;refine ⟨a,cap,e1,e2,e3,fun hne => e4 (fun e => ?_),fun g off ha i m hm => ?_⟩
 ·rw [e] at h2; exact hne (List.eq_nil_of_length_eq_zero h2.symm)
 ·obtain ⟨vf,vr,g1,g2,g3⟩ := h3 i m hm;exact ⟨vf,vr,e5 g off ha i _ g1 0 _ rfl,e5 g off ha i _ g1 1 _ rfl,e5 g off ha i _ g1 2 _ rfl,g2,g3⟩
theorem EnIn.open {w : World} {v : Value} {es : List EnS} (h : EnIn w v es) : ∃ a cap,v = .slice a es.length cap ∧ es.length ≤ cap ∧ cap ≤ maxLen ∧ (es ≠ [] → ∃ g off,a = some ⟨g,off,none⟩) ∧
  ∀ g off,a = some ⟨g,off,none⟩ → ∀ (i : Nat) (e : EnS),es[i]? = some e → ∃ vv,w.cell? ⟨g,off + i * 2,none⟩ = some (.string e.name) ∧ w.cell? ⟨g,off + i * 2 + 1,none⟩ = some vv ∧ RowG w vv 2 (nmRows e.values) := by
 obtain ⟨rows,h1,h2,h3⟩ := h;obtain ⟨a,cap,e1,e2,e3,e4,e5⟩ := h1.open;rw [h2] at e1 e2;refine ⟨a,cap,e1,e2,e3,fun hne => e4 (fun e => ?_),fun g off ha i m hm => ?_⟩
 ·rw [e] at h2; exact hne (List.eq_nil_of_length_eq_zero h2.symm)
 ·obtain ⟨vv,g1,g2⟩ := h3 i m hm;exact ⟨vv,e5 g off ha i _ g1 0 _ rfl,e5 g off ha i _ g1 1 _ rfl,g2⟩
theorem MsIn.get {w : World} {a : Option Addr} {N cap : Nat} {ms : List MsS} (h : MsIn w (.slice a N cap) ms) {i : Nat} {m : MsS} (hi : ms[i]? = some m) : ∃ g off vf vr,a = some ⟨g,off,none⟩ ∧ w.cell? ⟨g,off + i * 3,none⟩ = some (.string m.name) ∧ w.cell? ⟨g,off + i * 3 + 1,none⟩ = some vf ∧ w.cell? ⟨g,off + i * 3 + 2,none⟩ = some vr ∧ RowG w vf 5 (flRows m.fields) ∧ RowG w vr 1 (inRows m.reserved) := by
 obtain ⟨a',cap',e1,e2,e3,e4,e5⟩ := h.open;simp only [Value.slice.injEq] at e1;obtain ⟨rfl,_,_⟩ := e1;obtain ⟨g,off,rfl⟩ := e4 (by intro e; rw [e] at hi; simp at hi);obtain ⟨vf,vr,h1,h2,h3,h4,h5⟩ := e5 g off rfl i m hi;exact ⟨g,off,vf,vr,rfl,h1,h2,h3,h4,h5⟩
theorem EnIn.get {w : World} {a : Option Addr} {N cap : Nat} {ms : List EnS} (h : EnIn w (.slice a N cap) ms) {i : Nat} {m : EnS} (hi : ms[i]? = some m) : ∃ g off vv,a = some ⟨g,off,none⟩ ∧ w.cell? ⟨g,off + i * 2,none⟩ = some (.string m.name) ∧ w.cell? ⟨g,off + i * 2 + 1,none⟩ = some vv ∧ RowG w vv 2 (nmRows m.values) := by
 obtain ⟨a',cap',e1,e2,e3,e4,e5⟩ := h.open;simp only [Value.slice.injEq] at e1;obtain ⟨rfl,_,_⟩ := e1;obtain ⟨g,off,rfl⟩ := e4 (by intro e; rw [e] at hi; simp at hi);obtain ⟨vv,h1,h2,h3⟩ := e5 g off rfl i m hi;exact ⟨g,off,vv,rfl,h1,h2,h3⟩
theorem MsIn.form2 {w : World} {v : Value} {ms : List MsS} (h : MsIn w v ms) : ∃ a cap,v = .slice a ms.length cap ∧ ms.length ≤ cap ∧ cap ≤ 9223372036854775807 := by
 obtain ⟨a',cap',e1,e2,e3,_⟩ := h.open;exact ⟨a',cap',e1,e2,by unfold maxLen at e3; omega⟩
theorem EnIn.form2 {w : World} {v : Value} {ms : List EnS} (h : EnIn w v ms) : ∃ a cap,v = .slice a ms.length cap ∧ ms.length ≤ cap ∧ cap ≤ 9223372036854775807 := by
 obtain ⟨a',cap',e1,e2,e3,_⟩ := h.open;exact ⟨a',cap',e1,e2,by unfold maxLen at e3; omega⟩
end
section
open Go.ChangeShapes Go.WideShapes Go.ChangeAt Go.RowKit Go.Maps
theorem RowG.kpM {S : Nat → Prop} {w w1 : World} {v : Value} {size : Nat} {rs : List (List Value)} (h : RowG w v size rs) (hk : Kp S w w1) (hs : ∀ p u,w.cell? p = some u → ¬ S p.block) : RowG w1 v size rs := by
 obtain ⟨a,cap,h1,h2,h3,h0,h4⟩ := h.form;refine ⟨a,cap,h1,h2,h3,h0,fun hne => ?_⟩;obtain ⟨g,off,h5,h6⟩ := h4 hne;exact ⟨g,off,h5,fun i c u j hc hu => hk.cell (h6 i c u j hc hu) (hs _ _ (h6 i c u j hc hu))⟩
theorem SetK.no {k : TypeId} {w : World} {b n : Nat} {L : List Value} (h : SetK k w b n L) : ∀ p u,w.cell? p = some u → ¬ p.block = b := fun p u hc => h.ne hc rfl
theorem Kp.new {S : Nat → Prop} {w wr w1 : World} {b : Nat} (h : Kp S w wr) (h1 : Kp (fun k => k = b) wr w1) (hb : w.heap.size ≤ b) : Kp S w w1 := h.trans2 h1 (fun i hi e => by omega)
def FlW (f : FlS) : Prop := f.name.size ≤ 140737488351232 ∧ f.tname.size ≤ 140737488351232 ∧ I64 f.tag ∧ I64 f.label ∧ I64 f.kind
def NmW (f : NmS) : Prop := f.name.size ≤ 140737488351232 ∧ I64 f.n
def MtW (f : MtS) : Prop := f.name.size ≤ 140737488351232 ∧ f.inn.size ≤ 140737488351232 ∧ f.out.size ≤ 140737488351232
def MsW (m : MsS) : Prop := m.name.size ≤ 140737488351232 ∧ (∀ f ∈ m.fields,FlW f) ∧ ∀ n ∈ m.reserved,I64 n
def EnW (m : EnS) : Prop := m.name.size ≤ 140737488351232 ∧ ∀ f ∈ m.values,NmW f
structure ScW (s : ScS) : Prop where
 name : s.name.size ≤ 140737488351232
 msgs : ∀ m ∈ s.msgs,MsW m
 enums : ∀ m ∈ s.enums,EnW m
 meths : ∀ m ∈ s.methods,MtW m
theorem islabel_any (n : Int) (w : World) : Calls Try.prog 62 #[.int .i64 n] w fun e w' => e = .returned (.bool (labB n)) ∧ w' = w := by
 by_cases h1 : n = 1
 ·subst h1
  go_enter Try.func62,Try.ntmps62
  go_wp2_with fail;go_ret;exact ⟨rfl,rfl⟩
 ·by_cases h2 : n = 2
  ·subst h2
   go_enter Try.func62,Try.ntmps62
   go_wp2_with fail;go_ret;exact ⟨rfl,rfl⟩
  ·by_cases h3 : n = 3
   ·subst h3
    go_enter Try.func62,Try.ntmps62
    go_wp2_with fail;go_ret;exact ⟨rfl,rfl⟩
   ·have HF : Hid (false = labB n) := by show _ = _; unfold labB; rw [decide_eq_false (by omega)]
    have e1 : (n == 1) = false := by simpa using h1
    have e2 : (n == 2) = false := by simpa using h2
    have e3 : (n == 3) = false := by simpa using h3
    go_enter Try.func62,Try.ntmps62
    go_wp2_with fail;go_ret;exact ⟨ret_bool HF.out,rfl⟩
theorem msgtype_any (s : ByteArray) (w : World) : Calls Try.prog 37 #[.string s] w fun e w' => e = .returned (.agg #[.int .i64 7,.string s]) ∧ Below w.heap.size w w' := by
 go_enter Try.func37,Try.ntmps37
 go_wp2_with fail;refine bodyPost_ret (v := .agg #[.int .i64 7,.string s]) (by simp [results,Try.results37,go_sem]) rfl ⟨rfl,?_⟩;exact (Below.refl _ _).alloc (Nat.le_refl _) _
theorem iszero_any (s : ByteArray) (n : Int) (w : World) : Calls Try.prog 42 #[.agg #[.string s,.int .i64 n]] w fun e w' => e = .returned (.bool (decide (n = 0))) ∧ Below w.heap.size w w' := by
 have HE : Hid ((n == 0) = decide (n = 0)) := rfl
 go_enter Try.func42,Try.ntmps42
 go_wp2_with fail;go_ret;exact ⟨ret_bool HE.out,(Below.refl _ _).alloc (Nat.le_refl _) _⟩
theorem numR_low {n : Int} (h : n < 0) : numR n = false := by unfold numR; rw [decide_eq_false (by omega)]
theorem numR_high {n : Int} (h : 2147483647 < n) : numR n = false := by unfold numR; rw [decide_eq_false (by omega)]
theorem numR_in {n : Int} (h : ¬ n < 0) (h2 : ¬ 2147483647 < n) : numR n = true := by unfold numR; rw [decide_eq_true (by omega)]
theorem cvalues_any {w : World} {v : Value} {vs : List NmS} (hr : RowG w v 2 (nmRows vs)) (hl : vs.length ≤ 30000) (hw : ∀ f ∈ vs,NmW f) :
  Calls Try.prog 43 #[v] w fun e w' => e = .returned (.int .i64 (chkVs [] [] vs)) ∧ Below w.heap.size w w' := by
 obtain ⟨a,c,rfl,q1,q2⟩ := hr.form2
 have hN : (nmRows vs).length = vs.length := by simp [nmRows]
 rw [hN] at hr q1 ⊢;clear hN;obtain ⟨N,hN⟩ : ∃ N,vs.length = N := ⟨_,rfl⟩;rw [hN] at hr q1 hl ⊢;have HN : Hid (vs.length = N) := hN;have HR : Hid (RowG w (.slice a N c) 2 (nmRows vs)) := hr;have HW : Hid (∀ f ∈ vs,NmW f) := hw;clear hN hr hw;obtain ⟨A,hA⟩ : ∃ A,chkVs [] [] vs = A := ⟨_,rfl⟩;rw [hA];have HA : Hid (A = chkVs [] [] vs) := hA.symm;clear hA;have hmm := @run_makeMap Try.prog
 go_enter Try.func43,Try.ntmps43
 go_wp2_with fail;clear hmm;have HM0 : SetS ((w.alloc (.map #[] 0)).alloc (.map #[] 0)) w.heap.size 0 [] := SetK.below (SetK.made 9 w) ((Below.refl _ _).alloc (Nat.le_refl _) _)
 have HM1 : SetI ((w.alloc (.map #[] 0)).alloc (.map #[] 0)) (w.heap.size + 1) 0 [] := by
  have := SetK.made 3 (w.alloc (.map #[] 0))
  rwa [show (w.alloc (.map #[] 0)).heap.size = w.heap.size + 1 by simp] at this
 have KP0 : Below w.heap.size w ((w.alloc (.map #[] 0)).alloc (.map #[] 0)) := ((Below.refl _ _).alloc (Nat.le_refl _) _).alloc (by simp) _;obtain ⟨bn,hbn⟩ : ∃ n,w.heap.size = n := ⟨_,rfl⟩;rw [hbn] at HM0 HM1 KP0 ⊢;have HB : Hid (w.heap.size = bn) := hbn;clear hbn
 go_loopw [11] (fun iv wr => ∃ (k : Nat) (al : List ByteArray) (t : List Int),iv = .int .i64 (k : Int) ∧ k ≤ N ∧ Hid (A = chkVs al t (vs.drop k)) ∧ Hid (SetS wr bn k al) ∧ Hid (SetI wr (bn + 1) k t) ∧ Below bn w wr) (fun iv _ => N - (intOf iv).toNat)
 case atStart => exact ⟨0,[],[],rfl,by omega,HA,HM0,HM1,KP0⟩
 case round =>
  obtain ⟨k,al,t,rfl,hk,HAk,HSn,HSt,hbel⟩ := hrel;clear HM0 HM1 KP0;have hbw : bn + 1 < wr.heap.size := SetK.lt HSt.out
  have hbW : Below w.heap.size w wr := by rw [HB.out]; exact hbel
  by_cases hlt : k < N
  ·obtain ⟨f,hf⟩ : ∃ n,vs[k]? = some n := ⟨_,List.getElem?_eq_getElem (by rw [HN.out]; exact hlt)⟩
   have hrr : (nmRows vs)[k]? = some f.cells := by simp [nmRows,hf]
   obtain ⟨g,off,rfl,c1⟩ := (HR.out.below hbW).get hrr;have hfw := HW.out _ (List.mem_of_getElem? hf);obtain ⟨f0,f1⟩ := f;obtain ⟨w1',w2'⟩ := hfw;simp only at w1' w2'
   have HA2 : Hid (A = if freshB f0 al = false then 6 else if numB f1 t = false then 11 else chkVs (al ++ [f0]) (t ++ [f1]) (vs.drop (k + 1))) := by
    show _ = _
    rw [HAk.out,drop_at hf]; rfl
   have p0 := c1 0 _ rfl;have p1 := c1 1 _ rfl;simp only [Nat.add_zero] at p0 p1;clear c1 hrr hf HAk hbW;go_wp2_with fail;clear p0 p1;have hba : Below wr.heap.size wr (wr.alloc (.cells #[.string f0,.int .i64 f1] 27)) := (Below.refl _ _).alloc (Nat.le_refl _) _;have BX := Blk.new wr #[.string f0,.int .i64 f1] 27;refine (newname_any (SetK.below HSn.out hba) w1' (by omega)).mono ?_;rintro e w1 ⟨rfl,hs1,hk1⟩;have HS1 : Hid _ := hs1;clear hs1;have hb1 : Below bn w w1 := (hbel.alloc (by omega) _).trans (hk1.toBelow (by simp; omega) (fun k e => by omega))
   cases h1 : freshB f0 al
   ·go_wp2_with fail;go_ret;exact ⟨ret_int (by rw [HA2.out,if_pos h1]),by rw [HB.out]; exact hb1⟩
   ·have BX1 := BX.kp hk1 (by omega);have b1 : w1.cell? ⟨wr.heap.size,1,none⟩ = some (.int .i64 f1) := BX1.cell 1
    by_cases hlo : f1 < 0
    ·go_wp2_with fail;go_ret;exact ⟨ret_int (by rw [HA2.out,if_neg (by rw [h1]; decide),if_pos (by unfold numB; rw [numR_low hlo]; rfl)]),by rw [HB.out]; exact hb1⟩
    ·by_cases hhi : 2147483647 < f1
     ·go_wp2_with fail;go_ret;exact ⟨ret_int (by rw [HA2.out,if_neg (by rw [h1]; decide),if_pos (by unfold numB; rw [numR_high hhi]; rfl)]),by rw [HB.out]; exact hb1⟩
     ·have HNB : Hid (numB f1 t = !memI f1 t) := by show _ = _; unfold numB; rw [numR_in hlo hhi]; rfl
      go_wp2_with fail;clear b1;refine (add_int (SetK.kp (SetK.below HSt.out hba) hk1 (by omega)) w2' (by omega)).mono ?_;rintro e w2 ⟨rfl,hs2,hk2⟩;have HS2 : Hid _ := hs2;clear hs2;have hb2 : Below bn w w2 := hb1.trans (hk2.toBelow (by have := hb1.size; have := HB.out; omega) (fun k e => by omega))
      cases h2 : memI f1 t
      ·have HA3 : Hid (A = chkVs (al ++ [f0]) (t ++ [f1]) (vs.drop (k + 1))) := by
        show _ = _
        rw [HA2.out,if_neg (by rw [h1]; decide),if_neg (by rw [HNB.out,h2]; decide)]
       have HS1' : Hid (SetS w2 bn (k + 1) (al ++ [f0])) := SetK.kp (HS1.out h1) hk2 (by omega);have HS2' : Hid (SetI w2 (bn + 1) (k + 1) (t ++ [f1])) := HS2.out h2;clear HS1 HS2 hbel hb1 hba hk1 hk2 BX BX1 HA2;go_wp2_with fail
       go_roundw
       case rel => exact ⟨k + 1,_,_,by go_num,by omega,HA3,HS1',HS2',hb2⟩
       case measure => simp [intOf]; omega
      ·go_wp2_with fail;go_ret;exact ⟨ret_int (by rw [HA2.out,if_neg (by rw [h1]; decide),if_pos (by rw [HNB.out,h2]; rfl)]),by rw [HB.out]; exact hb2⟩
  ·go_wp2_with fail;go_ret;exact ⟨ret_int (by rw [HAk.out,drop_end (by rw [HN.out]; omega)]; rfl),hbW⟩
theorem typeB_msg (mn en : List ByteArray) (t : ByteArray) : typeB mn en 7 t = memB t mn := by
 unfold typeB; simp
theorem cmethods_any {w : World} {v : Value} {ts : List MtS} {mn en : List ByteArray} {bY ny : Nat} {T : List (Int × ByteArray)}
  (hr : RowG w v 3 (mtRows ts)) (hl : ts.length ≤ 30000) (hT : SetT w bY ny T) (hTt : ∀ k s,memT (k,s) T = typeB mn en k s) (hw : ∀ f ∈ ts,MtW f) :
  Calls Try.prog 26 #[v,.map (some bY)] w fun e w' => e = .returned (.int .i64 (chkTs mn [] ts)) ∧ Below w.heap.size w w' := by
 obtain ⟨a,c,rfl,q1,q2⟩ := hr.form2
 have hN : (mtRows ts).length = ts.length := by simp [mtRows]
 rw [hN] at hr q1 ⊢;clear hN;obtain ⟨N,hN⟩ : ∃ N,ts.length = N := ⟨_,rfl⟩;rw [hN] at hr q1 hl ⊢;have HN : Hid (ts.length = N) := hN;have HR : Hid (RowG w (.slice a N c) 3 (mtRows ts)) := hr;have HT : Hid (SetT w bY ny T) := hT
 have HTT : Hid (∀ s,memT (7,s) T = memB s mn) := fun s => by rw [hTt,typeB_msg]
 have HW : Hid (∀ f ∈ ts,MtW f) := hw;clear hN hr hT hTt hw;obtain ⟨A,hA⟩ : ∃ A,chkTs mn [] ts = A := ⟨_,rfl⟩;rw [hA];have HA : Hid (A = chkTs mn [] ts) := hA.symm;clear hA;have hmm := @run_makeMap Try.prog
 go_enter Try.func26,Try.ntmps26
 go_wp2_with fail;clear hmm;have HM0 := SetK.made 9 w;have KP0 : Below w.heap.size w (w.alloc (.map #[] 0)) := (Below.refl _ _).alloc (Nat.le_refl _) _;obtain ⟨bn,hbn⟩ : ∃ n,w.heap.size = n := ⟨_,rfl⟩;rw [hbn] at HM0 KP0 ⊢;have HB : Hid (w.heap.size = bn) := hbn;clear hbn
 go_loopw [11] (fun iv wr => ∃ (k : Nat) (al : List ByteArray),iv = .int .i64 (k : Int) ∧ k ≤ N ∧ Hid (A = chkTs mn al (ts.drop k)) ∧ Hid (SetS wr bn k al) ∧ Below bn w wr) (fun iv _ => N - (intOf iv).toNat)
 case atStart => exact ⟨0,[],rfl,by omega,HA,HM0,KP0⟩
 case round =>
  obtain ⟨k,al,rfl,hk,HAk,HSn,hbel⟩ := hrel;clear HM0 KP0;have hbw : bn < wr.heap.size := SetK.lt HSn.out
  have hbW : Below w.heap.size w wr := by rw [HB.out]; exact hbel
  by_cases hlt : k < N
  ·obtain ⟨f,hf⟩ : ∃ n,ts[k]? = some n := ⟨_,List.getElem?_eq_getElem (by rw [HN.out]; exact hlt)⟩
   have hrr : (mtRows ts)[k]? = some f.cells := by simp [mtRows,hf]
   obtain ⟨g,off,rfl,c1⟩ := (HR.out.below hbW).get hrr;have hfw := HW.out _ (List.mem_of_getElem? hf);obtain ⟨f0,f1,f2⟩ := f;obtain ⟨w1',w2',w3'⟩ := hfw;simp only at w1' w2' w3'
   have HA2 : Hid (A = if freshB f0 al = false then 6 else if (memB f1 mn && memB f2 mn) = false then 8 else chkTs mn (al ++ [f0]) (ts.drop (k + 1))) := by
    show _ = _
    rw [HAk.out,drop_at hf]; rfl
   have p0 := c1 0 _ rfl;have p1 := c1 1 _ rfl;have p2 := c1 2 _ rfl;simp only [Nat.add_zero] at p0 p1 p2;have HTr : Hid (SetT wr bY ny T) := SetK.below HT.out hbW
   have hYn : bY < bn := by have := SetK.lt HT.out; have := HB.out; omega
   clear c1 hrr hf HAk hbW;go_wp2_with fail;clear p0 p1 p2;have hba : Below wr.heap.size wr (wr.alloc (.cells #[.string f0,.string f1,.string f2] 43)) := (Below.refl _ _).alloc (Nat.le_refl _) _;have BX := Blk.new wr #[.string f0,.string f1,.string f2] 43;refine (newname_any (SetK.below HSn.out hba) w1' (by omega)).mono ?_;rintro e w1 ⟨rfl,hs1,hk1⟩;have HS1 : Hid _ := hs1;clear hs1;have hb1 : Below bn w w1 := (hbel.alloc (by omega) _).trans (hk1.toBelow (by simp; omega) (fun k e => by omega))
   cases h1 : freshB f0 al
   ·go_wp2_with fail;go_ret;exact ⟨ret_int (by rw [HA2.out,if_pos h1]),by rw [HB.out]; exact hb1⟩
   ·have BX1 := BX.kp hk1 (by omega);have b1 : w1.cell? ⟨wr.heap.size,1,none⟩ = some (.string f1) := BX1.cell 1;have HT1 : Hid (SetT w1 bY ny T) := SetK.kp (SetK.below HTr.out hba) hk1 (by omega);go_wp2_with fail;refine (msgtype_any _ _).mono ?_;rintro e w2 ⟨rfl,hb2⟩;clear b1;go_wp2_with fail;refine (has_ty (SetK.below HT1.out hb2) ⟨by decide,by decide⟩ w2').mono ?_;rintro e w3 ⟨rfl,hb3⟩;rw [HTT.out];have hb13 : Below w1.heap.size w1 w3 := hb2.trans (hb3.mono hb2.size)
    have hbn1 : bn ≤ w1.heap.size := by have := hb1.size; have := HB.out; omega
    have hb03 : Below bn w w3 := hb1.trans (hb13.mono hbn1)
    cases h2 : memB f1 mn
    ·go_wp2_with fail;go_ret;exact ⟨ret_int (by rw [HA2.out,if_neg (by rw [h1]; decide),if_pos (by rw [h2]; rfl)]),by rw [HB.out]; exact hb03⟩
    ·have BX3 := BX1.below hb13;have b2 : w3.cell? ⟨wr.heap.size,2,none⟩ = some (.string f2) := BX3.cell 2;clear hb2 hb3;go_wp2_with fail;refine (msgtype_any _ _).mono ?_;rintro e w4 ⟨rfl,hb4⟩;clear b2;go_wp2_with fail;refine (has_ty (SetK.below (SetK.below HT1.out hb13) hb4) ⟨by decide,by decide⟩ w3').mono ?_;rintro e w5 ⟨rfl,hb5⟩;rw [HTT.out];have hb35 : Below w3.heap.size w3 w5 := hb4.trans (hb5.mono hb4.size);have hb05 : Below bn w w5 := hb03.trans (hb35.mono (Nat.le_trans hbn1 hb13.size))
     cases h3 : memB f2 mn
     ·go_wp2_with fail;go_ret;exact ⟨ret_int (by rw [HA2.out,if_neg (by rw [h1]; decide),if_pos (by rw [h2,h3]; rfl)]),by rw [HB.out]; exact hb05⟩
     ·have HA3 : Hid (A = chkTs mn (al ++ [f0]) (ts.drop (k + 1))) := by
       show _ = _
       rw [HA2.out,if_neg (by rw [h1]; decide),if_neg (by rw [h2,h3]; decide)]
      have HS1' : Hid (SetS w5 bn (k + 1) (al ++ [f0])) := SetK.below (SetK.below (HS1.out h1) hb13) hb35;clear HS1 hbel hb1 hba hk1 BX BX1 BX3 HA2 hb03 hb35 hb13 hb4 hb5 HT1;go_wp2_with fail
      go_roundw
      case rel => exact ⟨k + 1,_,by go_num,by omega,HA3,HS1',hb05⟩
      case measure => simp [intOf]; omega
  ·go_wp2_with fail;go_ret;exact ⟨ret_int (by rw [HAk.out,drop_end (by rw [HN.out]; omega)]; rfl),hbW⟩
theorem cfields_any {w : World} {v : Value} {fs : List FlS} {mn en : List ByteArray} {bt nt bY ny : Nat} {L : List Int} {T : List (Int × ByteArray)}
  (hr : RowG w v 5 (flRows fs)) (hl : fs.length ≤ 30000) (hI : SetI w bt nt L) (hnt : nt ≤ 100000) (hT : SetT w bY ny T) (hne : bY ≠ bt) (hTt : ∀ k s,memT (k,s) T = typeB mn en k s) (hw : ∀ f ∈ fs,FlW f) :
  Calls Try.prog 40 #[v,.map (some bt),.map (some bY)] w fun e w' => e = .returned (.int .i64 (chkFs mn en [] L fs)) ∧ Kp (fun k => k = bt) w w' := by
 obtain ⟨a,c,rfl,q1,q2⟩ := hr.form2
 have hN : (flRows fs).length = fs.length := by simp [flRows]
 rw [hN] at hr q1 ⊢;clear hN;obtain ⟨N,hN⟩ : ∃ N,fs.length = N := ⟨_,rfl⟩;rw [hN] at hr q1 hl ⊢;have HN : Hid (fs.length = N) := hN;have HR : Hid (RowG w (.slice a N c) 5 (flRows fs)) := hr;have HI : Hid (SetI w bt nt L) := hI;have HT : Hid (SetT w bY ny T) := hT;have HTT : Hid (∀ k s,memT (k,s) T = typeB mn en k s) := hTt;have HW : Hid (∀ f ∈ fs,FlW f) := hw;have hbt : bt < w.heap.size := SetK.lt hI;clear hN hr hI hT hTt hw;obtain ⟨A,hA⟩ : ∃ A,chkFs mn en [] L fs = A := ⟨_,rfl⟩;rw [hA];have HA : Hid (A = chkFs mn en [] L fs) := hA.symm;clear hA;have hmm := @run_makeMap Try.prog
 go_enter Try.func40,Try.ntmps40
 go_wp2_with fail;clear hmm;have HM0 := SetK.made 9 w;have KP0 : Kp (fun k => k = bt) w (w.alloc (.map #[] 0)) := (Kp.refl _ _).alloc _;have HI0 : Hid (SetI (w.alloc (.map #[] 0)) bt nt L) := SetK.kp HI.out (S := fun _ => False) ((Kp.refl _ _).alloc _) (fun e => e);obtain ⟨bn,hbn⟩ : ∃ n,w.heap.size = n := ⟨_,rfl⟩;rw [hbn] at HM0 hbt ⊢;have HB : Hid (w.heap.size = bn) := hbn;clear hbn
 go_loopw [13] (fun iv wr => ∃ (k : Nat) (al : List ByteArray) (t : List Int),iv = .int .i64 (k : Int) ∧ k ≤ N ∧ Hid (A = chkFs mn en al t (fs.drop k)) ∧ Hid (SetS wr bn k al) ∧ Hid (SetI wr bt (nt + k) t) ∧ Kp (fun k => k = bt) w wr) (fun iv _ => N - (intOf iv).toNat)
 case atStart => exact ⟨0,[],L,rfl,by omega,HA,HM0,HI0,KP0⟩
 case round =>
  obtain ⟨k,al,t,rfl,hk,HAk,HSn,HSt,hkp⟩ := hrel;clear HM0 KP0 HI0;have hbw : bn < wr.heap.size := SetK.lt HSn.out
  by_cases hlt : k < N
  ·obtain ⟨f,hf⟩ : ∃ n,fs[k]? = some n := ⟨_,List.getElem?_eq_getElem (by rw [HN.out]; exact hlt)⟩
   have hrr : (flRows fs)[k]? = some f.cells := by simp [flRows,hf]
   obtain ⟨g,off,rfl,c1⟩ := (HR.out.kpM hkp (SetK.no HI.out)).get hrr;have hfw := HW.out _ (List.mem_of_getElem? hf);obtain ⟨f0,f1,f2,f3,f4⟩ := f;obtain ⟨w1',w2',w3',w4',w5'⟩ := hfw;simp only at w1' w2' w3' w4' w5'
   have HA2 : Hid (A = if freshB f0 al = false then 6 else if tagB f1 t = false then 7 else if (labB f2 && typeB mn en f3 f4) = false then 8 else chkFs mn en (al ++ [f0]) (t ++ [f1]) (fs.drop (k + 1))) := by
    show _ = _
    rw [HAk.out,drop_at hf]; rfl
   have p0 := c1 0 _ rfl;have p1 := c1 1 _ rfl;have p2 := c1 2 _ rfl;have p3 := c1 3 _ rfl;have p4 := c1 4 _ rfl;simp only [Nat.add_zero] at p0 p1 p2 p3 p4;clear c1 hrr hf HAk;have HTr : Hid (SetT wr bY ny T) := SetK.kp HT.out hkp hne;go_wp2_with fail;clear p0 p1 p2 p3 p4;have hba : Below wr.heap.size wr (wr.alloc (.cells #[.string f0,.int .i64 f1,.int .i64 f2,.int .i64 f3,.string f4] 38)) := (Below.refl _ _).alloc (Nat.le_refl _) _;have BX := Blk.new wr #[.string f0,.int .i64 f1,.int .i64 f2,.int .i64 f3,.string f4] 38;refine (newname_any (SetK.below HSn.out hba) w1' (by omega)).mono ?_;rintro e w1 ⟨rfl,hs1,hk1⟩;have HS1 : Hid _ := hs1;clear hs1;have hkp1 : Kp (fun k => k = bt) w w1 := (hkp.below hba).new hk1 (by rw [HB.out]; omega)
   cases h1 : freshB f0 al
   ·go_wp2_with fail;go_ret;exact ⟨ret_int (by rw [HA2.out,if_pos h1]),hkp1⟩
   ·have BX1 := BX.kp hk1 (by omega);have b1 : w1.cell? ⟨wr.heap.size,1,none⟩ = some (.int .i64 f1) := BX1.cell 1;go_wp2_with fail;clear b1;refine (newtag_any (SetK.kp (SetK.below HSt.out hba) hk1 (by omega)) w3' (by omega)).mono ?_;rintro e w2 ⟨rfl,hs2,hk2⟩;have HS2 : Hid _ := hs2;clear hs2;have hkp2 : Kp (fun k => k = bt) w w2 := hkp1.trans hk2
    cases h2 : tagB f1 t
    ·go_wp2_with fail;go_ret;exact ⟨ret_int (by rw [HA2.out,if_neg (by rw [h1]; decide),if_pos h2]),hkp2⟩
    ·have BX2 := BX1.kp hk2 (by omega);have b2 : w2.cell? ⟨wr.heap.size,2,none⟩ = some (.int .i64 f2) := BX2.cell 2;have b3 : w2.cell? ⟨wr.heap.size,3,none⟩ = some (.int .i64 f3) := BX2.cell 3;have b4 : w2.cell? ⟨wr.heap.size,4,none⟩ = some (.string f4) := BX2.cell 4;go_wp2_with fail;refine (islabel_any _ _).mono ?_;rintro e w3 ⟨rfl,rfl⟩
     cases h3 : labB f2
     ·go_wp2_with fail;go_ret;exact ⟨ret_int (by rw [HA2.out,if_neg (by rw [h1]; decide),if_neg (by rw [h2]; decide),if_pos (by rw [h3]; rfl)]),hkp2⟩
     ·go_wp2_with fail;clear b2 b3 b4;refine (has_ty (SetK.kp (SetK.kp (SetK.below HTr.out hba) hk1 (by have := SetK.lt HT.out; have := HB.out; omega)) hk2 hne) w5' w2').mono ?_;rintro e w4 ⟨rfl,hb4⟩;rw [HTT.out]
      cases h4 : typeB mn en f3 f4
      ·go_wp2_with fail;go_ret;exact ⟨ret_int (by rw [HA2.out,if_neg (by rw [h1]; decide),if_neg (by rw [h2]; decide),if_pos (by rw [h3,h4]; rfl)]),hkp2.below hb4⟩
      ·have HA3 : Hid (A = chkFs mn en (al ++ [f0]) (t ++ [f1]) (fs.drop (k + 1))) := by
        show _ = _
        rw [HA2.out,if_neg (by rw [h1]; decide),if_neg (by rw [h2]; decide),if_neg (by rw [h3,h4]; decide)]
       have HS1' : Hid (SetS w4 bn (k + 1) (al ++ [f0])) := SetK.below (SetK.kp (HS1.out h1) hk2 (by omega)) hb4;have HS2' : Hid (SetI w4 bt (nt + (k + 1)) (t ++ [f1])) := SetK.below (HS2.out h2) hb4;have hkp4 := hkp2.below hb4;clear HS1 HS2 hkp hkp1 hkp2 hba hk1 hk2 hb4 BX BX1 BX2 HA2 HTr;go_wp2_with fail
       go_roundw
       case rel => exact ⟨k + 1,_,_,by go_num,by omega,HA3,HS1',HS2',hkp4⟩
       case measure => simp [intOf]; omega
  ·go_wp2_with fail;go_ret;exact ⟨ret_int (by rw [HAk.out,drop_end (by rw [HN.out]; omega)]; rfl),hkp⟩
theorem take_at {α : Type} {l : List α} {k : Nat} {x : α} (h : l[k]? = some x) : l.take (k + 1) = l.take k ++ [x] := by
 rw [List.take_add_one,h]; rfl
def zeroV (vs : List NmS) : Bool := vs.any fun v => decide (v.n = 0)
theorem indexf_any {w : World} {v : Value} {vs : List NmS} (hr : RowG w v 2 (nmRows vs)) (hl : vs.length ≤ 30000) :
  Calls Try.prog 63 #[v,.func (.func 42) #[] #[]] w fun e w' => (∃ n : Int,e = .returned (.int .i64 n) ∧ decide (0 ≤ n) = zeroV vs) ∧ Below w.heap.size w w' := by
 obtain ⟨a,c,rfl,q1,q2⟩ := hr.form2
 have hN : (nmRows vs).length = vs.length := by simp [nmRows]
 rw [hN] at hr q1 ⊢;clear hN;obtain ⟨N,hN⟩ : ∃ N,vs.length = N := ⟨_,rfl⟩;rw [hN] at hr q1 hl ⊢;have HN : Hid (vs.length = N) := hN;have HR : Hid (RowG w (.slice a N c) 2 (nmRows vs)) := hr;clear hN hr;obtain ⟨A,hA⟩ : ∃ A,zeroV vs = A := ⟨_,rfl⟩;rw [hA];have HA : Hid (A = zeroV vs) := hA.symm;clear hA
 go_enter Try.func63,Try.ntmps63
 go_wp2_with fail
 go_loopw [8] (fun iv wr => ∃ k : Nat,iv = .int .i64 (k : Int) ∧ k ≤ N ∧ Hid (A = zeroV (vs.drop k)) ∧ Below w.heap.size w wr) (fun iv _ => N - (intOf iv).toNat)
 case atStart => exact ⟨0,rfl,by omega,HA,Below.refl _ _⟩
 case round =>
  obtain ⟨k,rfl,hk,HAk,hbel⟩ := hrel
  by_cases hlt : k < N
  ·obtain ⟨f,hf⟩ : ∃ n,vs[k]? = some n := ⟨_,List.getElem?_eq_getElem (by rw [HN.out]; exact hlt)⟩
   have hrr : (nmRows vs)[k]? = some f.cells := by simp [nmRows,hf]
   obtain ⟨g,off,rfl,c1⟩ := (HR.out.below hbel).get hrr;obtain ⟨f0,f1⟩ := f
   have HA2 : Hid (A = (decide (f1 = 0) || zeroV (vs.drop (k + 1)))) := by
    show _ = _
    rw [HAk.out,drop_at hf]; rfl
   have p0 := c1 0 _ rfl;have p1 := c1 1 _ rfl;simp only [Nat.add_zero] at p0 p1;clear c1 hrr hf HAk;go_wp2_with fail;clear p0 p1;refine (iszero_any _ _ _).mono ?_;rintro e w1 ⟨rfl,hb1⟩;have hb2 : Below w.heap.size w w1 := hbel.trans (hb1.mono hbel.size)
   cases hz : decide (f1 = 0)
   ·have HA3 : Hid (A = zeroV (vs.drop (k + 1))) := by show _ = _; rw [HA2.out,hz]; rfl
    clear hbel hb1 HA2;go_wp2_with fail
    go_roundw
    case rel => exact ⟨k + 1,by go_num,by omega,HA3,hb2⟩
    case measure => simp [intOf]; omega
   ·go_wp2_with fail;go_ret;exact ⟨⟨(k : Int),rfl,by rw [HA2.out,hz,decide_eq_true (by omega)]; rfl⟩,hb2⟩
  ·go_wp2_with fail;go_ret;exact ⟨⟨-1,rfl,by rw [HAk.out,drop_end (by rw [HN.out]; omega)]; rfl⟩,hbel⟩
theorem contf_any {w : World} {v : Value} {vs : List NmS} (hr : RowG w v 2 (nmRows vs)) (hl : vs.length ≤ 30000) :
  Calls Try.prog 41 #[v,.func (.func 42) #[] #[]] w fun e w' => e = .returned (.bool (zeroV vs)) ∧ Below w.heap.size w w' := by
 have HC := indexf_any hr hl;clear hr hl
 go_enter Try.func41,Try.ntmps41
 go_wp2_with fail;refine HC.mono ?_;rintro e w1 ⟨⟨n,rfl,hn⟩,hb1⟩;have HN : Hid _ := hn;clear hn;go_wp2_with fail;go_ret;exact ⟨ret_bool HN.out,hb1⟩
theorem cenum_any {w : World} {vv : Value} {nm : ByteArray} {vs : List NmS} {bn nn : Nat} {L : List ByteArray} (hr : RowG w vv 2 (nmRows vs)) (hl : vs.length ≤ 30000) (hS : SetS w bn nn L) (hnn : nn ≤ 100000) (hw : EnW ⟨nm,vs⟩) :
  Calls Try.prog 25 #[.agg #[.string nm,vv],.map (some bn)] w fun e w' => e = .returned (.int .i64 (if freshB nm L = false then 6 else chkEb ⟨nm,vs⟩)) ∧ (freshB nm L = true → SetS w' bn (nn + 1) (L ++ [nm])) ∧ Kp (fun k => k = bn) w w' := by
 have HR : Hid (RowG w vv 2 (nmRows vs)) := hr;obtain ⟨a,c,rfl,q1,q2⟩ := hr.form2
 have hN : (nmRows vs).length = vs.length := by simp [nmRows]
 rw [hN] at q1 HR ⊢;obtain ⟨N,hN2⟩ : ∃ N,vs.length = N := ⟨_,rfl⟩;rw [hN2] at q1 HR ⊢;have HN : Hid (vs.length = N) := hN2;have HS : Hid (SetS w bn nn L) := hS;obtain ⟨w1',hwv⟩ := hw;have HW : Hid (∀ f ∈ vs,NmW f) := hwv;have HL : Hid (vs.length ≤ 30000) := hl;simp only at w1';clear hr hN hN2 hS hwv hl;obtain ⟨A,hA⟩ : ∃ A,(if freshB nm L = false then 6 else chkEb ⟨nm,vs⟩) = A := ⟨_,rfl⟩;rw [hA];have HA : Hid (A = if freshB nm L = false then 6 else chkEb ⟨nm,vs⟩) := hA.symm;clear hA;have hba : Below w.heap.size w (w.alloc (.cells #[.string nm,.slice a N c] 25)) := (Below.refl _ _).alloc (Nat.le_refl _) _;have BX := Blk.new w #[.string nm,.slice a N c] 25;have hbw : bn < w.heap.size := SetK.lt HS.out
 go_enter Try.func25,Try.ntmps25
 go_wp2_with fail;refine (newname_any (SetK.below HS.out hba) w1' (by omega)).mono ?_;rintro e w1 ⟨rfl,hs1,hk1⟩;have HS1 : Hid _ := hs1;clear hs1;have hkp1 : Kp (fun k => k = bn) w w1 := (Kp.ofBelow hba).trans hk1
 cases h1 : freshB nm L
 ·have H1 : Hid (freshB nm L = false) := h1;clear h1;go_wp2_with fail;go_ret;exact ⟨ret_int (by rw [HA.out,if_pos H1.out]),(fun e => by rw [H1.out] at e; cases e),hkp1⟩
 ·have H1 : Hid (freshB nm L = true) := h1;clear h1
  have HX : Hid (chkEb ⟨nm,vs⟩ = A) := by show _ = _; rw [HA.out,if_neg (by rw [H1.out]; decide)]
  have BX1 := BX.kp hk1 (by omega);have b1 : w1.cell? ⟨w.heap.size,1,none⟩ = some (.slice a N c) := BX1.cell 1
  by_cases hbig : 16 < N
  ·have HE : Hid (4 = A) := by show _ = _; rw [← HX.out]; unfold chkEb; simp only; rw [if_pos (by rw [HN.out]; exact hbig)]
   go_wp2_with fail;go_ret;exact ⟨ret_int HE.out,(fun _ => HS1.out H1.out),hkp1⟩
  ·have HR1 : Hid (RowG w1 (.slice a N c) 2 (nmRows vs)) := (HR.out.kpM hkp1 (SetK.no HS.out));go_wp2_with fail;refine (contf_any HR1.out HL.out).mono ?_;rintro e w2 ⟨rfl,hb2⟩
   cases h2 : zeroV vs
   ·have HE : Hid (12 = A) := by show _ = _; rw [← HX.out]; unfold chkEb; simp only; rw [if_neg (by rw [HN.out]; exact hbig),if_pos (show zeroE ⟨nm,vs⟩ = false from h2)]
    go_wp2_with fail;go_ret;exact ⟨ret_int HE.out,(fun _ => SetK.below (HS1.out H1.out) hb2),hkp1.below hb2⟩
   ·have HE : Hid (chkVs [] [] vs = A) := by
     show _ = _; rw [← HX.out]; unfold chkEb; simp only
     rw [if_neg (by rw [HN.out]; exact hbig),if_neg (by show ¬ zeroV vs = false; rw [h2]; decide)]
    have b2 : w2.cell? ⟨w.heap.size,1,none⟩ = some (.slice a N c) := (BX1.below hb2).cell 1;clear b1;go_wp2_with fail;refine (cvalues_any (HR1.out.below hb2) HL.out HW.out).mono ?_;rintro e w3 ⟨rfl,hb3⟩;rw [HE.out];clear b2;go_wp2_with fail;go_ret;exact ⟨rfl,(fun _ => SetK.below (SetK.below (HS1.out H1.out) hb2) hb3),(hkp1.below hb2).below hb3⟩
theorem cmsg_any {w : World} {vf vr : Value} {nm : ByteArray} {fs : List FlS} {ns : List Int} {mn en : List ByteArray} {bn nn bY ny : Nat} {L : List ByteArray} {T : List (Int × ByteArray)}
  (hf : RowG w vf 5 (flRows fs)) (hr : RowG w vr 1 (inRows ns)) (hlf : fs.length ≤ 30000) (hlr : ns.length ≤ 30000) (hS : SetS w bn nn L) (hnn : nn ≤ 100000) (hT : SetT w bY ny T) (hne : bY ≠ bn) (hTt : ∀ k s,memT (k,s) T = typeB mn en k s) (hw : MsW ⟨nm,fs,ns⟩) :
  Calls Try.prog 24 #[.agg #[.string nm,vf,vr],.map (some bn),.map (some bY)] w fun e w' => e = .returned (.int .i64 (if freshB nm L = false then 6 else chkMb mn en ⟨nm,fs,ns⟩)) ∧ (freshB nm L = true → SetS w' bn (nn + 1) (L ++ [nm])) ∧ Kp (fun k => k = bn) w w' := by
 have HF : Hid (RowG w vf 5 (flRows fs)) := hf;have HR : Hid (RowG w vr 1 (inRows ns)) := hr;obtain ⟨a,c,rfl,q1,q2⟩ := hf.form2;obtain ⟨ar,cr,rfl,q3,q4⟩ := hr.form2
 have e1 : (flRows fs).length = fs.length := by simp [flRows]
 have e2 : (inRows ns).length = ns.length := by simp [inRows]
 rw [e1] at q1 HF ⊢;rw [e2] at q3 HR ⊢;obtain ⟨N,hN⟩ : ∃ N,fs.length = N := ⟨_,rfl⟩;obtain ⟨R,hR⟩ : ∃ N,ns.length = N := ⟨_,rfl⟩;have HL : Hid (fs.length ≤ 30000) := hlf;rw [hN] at q1 HF hlf ⊢;rw [hR] at q3 HR hlr ⊢;have HN : Hid (fs.length = N) := hN;have HNR : Hid (ns.length = R) := hR;have HS : Hid (SetS w bn nn L) := hS;have HT : Hid (SetT w bY ny T) := hT;have HTT : Hid (∀ k s,memT (k,s) T = typeB mn en k s) := hTt;obtain ⟨w1',hwf,hwr⟩ := hw;have HWF : Hid (∀ f ∈ fs,FlW f) := hwf;have HWR : Hid (∀ f ∈ ns,I64 f) := hwr;simp only at w1';clear hf hr e1 e2 hN hR hS hT hTt hwf hwr;obtain ⟨B,hB⟩ : ∃ A,(if freshB nm L = false then 6 else chkMb mn en ⟨nm,fs,ns⟩) = A := ⟨_,rfl⟩;rw [hB];have HA : Hid (B = if freshB nm L = false then 6 else chkMb mn en ⟨nm,fs,ns⟩) := hB.symm;clear hB;have hba : Below w.heap.size w (w.alloc (.cells #[.string nm,.slice a N c,.slice ar R cr] 41)) := (Below.refl _ _).alloc (Nat.le_refl _) _;have BX := Blk.new w #[.string nm,.slice a N c,.slice ar R cr] 41;have hbw : bn < w.heap.size := SetK.lt HS.out;have hmm := @run_makeMap Try.prog
 go_enter Try.func24,Try.ntmps24
 go_wp2_with fail;refine (newname_any (SetK.below HS.out hba) w1' (by omega)).mono ?_;rintro e w1 ⟨rfl,hs1,hk1⟩;have HS1 : Hid _ := hs1;clear hs1;have hkp1 : Kp (fun k => k = bn) w w1 := (Kp.ofBelow hba).trans hk1
 cases h1 : freshB nm L
 ·have H1 : Hid (freshB nm L = false) := h1;clear h1;go_wp2_with fail;go_ret;exact ⟨ret_int (by rw [HA.out,if_pos H1.out]),(fun e => by rw [H1.out] at e; cases e),hkp1⟩
 ·have H1 : Hid (freshB nm L = true) := h1;clear h1
  have HX : Hid (chkMb mn en ⟨nm,fs,ns⟩ = B) := by show _ = _; rw [HA.out,if_neg (by rw [H1.out]; decide)]
  clear HA;have BX1 := BX.kp hk1 (by omega);have b1 : w1.cell? ⟨w.heap.size,1,none⟩ = some (.slice a N c) := BX1.cell 1;have b2 : w1.cell? ⟨w.heap.size,2,none⟩ = some (.slice ar R cr) := BX1.cell 2
  by_cases hbig : 16 < N
  ·have HE : Hid (4 = B) := by show _ = _; rw [← HX.out]; unfold chkMb; rw [if_pos (by unfold bigM; simp only; rw [HN.out,decide_eq_true (.inl hbig)])]
   go_wp2_with fail;go_ret;exact ⟨ret_int HE.out,(fun _ => HS1.out H1.out),hkp1⟩
  ·have hd : decide (16 < N) = false := by simpa using hbig
   by_cases hbigr : 32 < R
   ·have HE : Hid (4 = B) := by show _ = _; rw [← HX.out]; unfold chkMb; rw [if_pos (by unfold bigM; simp only; rw [HNR.out,decide_eq_true (.inr hbigr)])]
    go_wp2_with fail;go_ret;exact ⟨ret_int HE.out,(fun _ => HS1.out H1.out),hkp1⟩
   ·have HE : Hid (B = orE (chkRes [] ns) (chkFs mn en [] ns fs)) := by
     show _ = _; rw [← HX.out]; unfold chkMb
     rw [if_neg (by unfold bigM; simp only; rw [HNR.out,HN.out,decide_eq_false (by omega)]; decide)]
    obtain ⟨A,hA⟩ : ∃ A,chkRes [] ns = A := ⟨_,rfl⟩;have HA : Hid (A = chkRes (ns.take 0) (ns.drop 0)) := hA.symm
    have HB : Hid (B = orE A (chkFs mn en [] ns fs)) := by show _ = _; rw [HE.out,hA]
    clear hA HE
    have hdr : decide (32 < R) = false := by simpa using hbigr
    have HF1 : Hid (RowG w1 (.slice a N c) 5 (flRows fs)) := HF.out.kpM hkp1 (SetK.no HS.out);have HR1 : Hid (RowG w1 (.slice ar R cr) 1 (inRows ns)) := HR.out.kpM hkp1 (SetK.no HS.out);have HT1 : Hid (SetT w1 bY ny T) := SetK.kp HT.out hkp1 hne;have hxw : w.heap.size < w1.heap.size := BX1.lt;go_wp2_with fail;clear hmm b1 b2;have HM0 := SetK.made 3 w1;have KP0 : Below w1.heap.size w1 (w1.alloc (.map #[] 0)) := (Below.refl _ _).alloc (Nat.le_refl _) _
    have hbw1 : bn < w1.heap.size := by have := hkp1.size; omega
    have hbY1 : bY < w1.heap.size := SetK.lt HT1.out;obtain ⟨bt,hbt⟩ : ∃ n,w1.heap.size = n := ⟨_,rfl⟩;rw [hbt] at HM0 KP0 hbw1 hbY1 ⊢;have HBT : Hid (w1.heap.size = bt) := hbt;clear hbt
    go_loopw [29] (fun iv wr => ∃ (k : Nat),iv = .int .i64 (k : Int) ∧ k ≤ R ∧ Hid (A = chkRes (ns.take k) (ns.drop k)) ∧ Hid (SetI wr bt k (ns.take k)) ∧ Below bt w1 wr) (fun iv _ => R - (intOf iv).toNat)
    case atStart => exact ⟨0,rfl,by omega,HA,HM0,KP0⟩
    case round =>
     obtain ⟨k,rfl,hk,HAk,HSt,hbel⟩ := hrel;clear HM0 KP0
     have hbW : Below w1.heap.size w1 wr := by rw [HBT.out]; exact hbel
     have hbtw : bt < wr.heap.size := SetK.lt HSt.out
     by_cases hlt : k < R
     ·obtain ⟨n,hn⟩ : ∃ n,ns[k]? = some n := ⟨_,List.getElem?_eq_getElem (by rw [HNR.out]; exact hlt)⟩
      have hrr : (inRows ns)[k]? = some [.int .i64 n] := by simp [inRows,hn]
      obtain ⟨g,off,rfl,c1⟩ := (HR1.out.below hbW).get hrr;have hn64 := HWR.out _ (List.mem_of_getElem? hn)
      have HA2 : Hid (A = if tagB n (ns.take k) = true then chkRes (ns.take k ++ [n]) (ns.drop (k + 1)) else 7) := by
       show _ = _
       rw [HAk.out,drop_at hn]; rfl
      have HTK : Hid (ns.take (k + 1) = ns.take k ++ [n]) := take_at hn;have p0 := c1 0 _ rfl;simp only [Nat.mul_one,Nat.add_zero] at p0;clear c1 hrr hn HAk hbW;go_wp2_with fail;clear p0;refine (newtag_any HSt.out hn64 (by omega)).mono ?_;rintro e w2 ⟨rfl,hs2,hk2⟩;have HS2 : Hid _ := hs2;clear hs2;have hb2 : Below bt w1 w2 := hbel.trans (hk2.toBelow (by omega) (fun k e => by omega))
      cases h2 : tagB n (ns.take k)
      ·have HB2 : Hid (7 = B) := by show _ = _; rw [HB.out,HA2.out,if_neg (by rw [h2]; decide),orE_ne (by decide)]
       go_wp2_with fail;go_ret
       have hbW2 : Below w1.heap.size w1 w2 := by rw [HBT.out]; exact hb2
       exact ⟨ret_int HB2.out,(fun _ => SetK.below (HS1.out H1.out) hbW2),hkp1.below hbW2⟩
      ·have HA3 : Hid (A = chkRes (ns.take (k + 1)) (ns.drop (k + 1))) := by
        show _ = _
        rw [HA2.out,if_pos h2,HTK.out]
       have HS2' : Hid (SetI w2 bt (k + 1) (ns.take (k + 1))) := by
        show SetI _ _ _ _
        rw [HTK.out]; exact HS2.out h2
       clear HS2 hbel hk2 HA2 HTK;go_wp2_with fail
       go_roundw
       case rel => exact ⟨k + 1,by go_num,by omega,HA3,HS2',hb2⟩
       case measure => simp [intOf]; omega
     ·have HB2 : Hid (chkFs mn en [] ns fs = B) := by show _ = _; rw [HB.out,HAk.out,drop_end (by rw [HNR.out]; omega)]; exact (orE_zero _).symm
      have HS2 : Hid (SetI wr bt k ns) := by
       have := HSt.out;rw [List.take_of_length_le (by rw [HNR.out]; omega)] at this;exact this
      have b1 : wr.cell? ⟨w.heap.size,1,none⟩ = some (.slice a N c) := (BX1.below hbW).cell 1;go_wp2_with fail;clear b1;refine (cfields_any (HF1.out.below hbW) HL.out HS2.out (by omega) (SetK.below HT1.out hbW) (by omega) HTT.out HWF.out).mono ?_;rintro e w2 ⟨rfl,hk2⟩;rw [HB2.out];go_wp2_with fail;go_ret;have hb2 : Below w1.heap.size w1 w2 := hbW.trans (hk2.toBelow hbW.size (fun k e => by have := HBT.out; omega));exact ⟨rfl,(fun _ => SetK.below (HS1.out H1.out) hb2),hkp1.below hb2⟩
theorem cwhole_any {w : World} {am ae at' : Option Addr} {cm ce ct : Nat} (s : ScS) (hs : s.name.size ≤ 140737488351232) (h1 : s.msgs.length ≤ 30000) (h2 : s.enums.length ≤ 30000) (h3 : s.methods.length ≤ 30000) :
  Calls Try.prog 22 #[.agg #[.string s.name,.slice am s.msgs.length cm,.slice ae s.enums.length ce,.slice at' s.methods.length ct]] w fun e w' => e = .returned (.int .i64 (wholeA s)) ∧ Below w.heap.size w w' := by
 obtain ⟨nm,ms,es,ts⟩ := s;simp only at *
 have HE : Hid (wholeA ⟨nm,ms,es,ts⟩ = if nameB nm = false then 6 else if ms.length = 0 then 12 else if (10 < ms.length ∨ 6 < es.length ∨ 6 < ts.length) then 4 else 0) := by
  show _ = _; unfold wholeA bigS; simp only [decide_eq_true_eq]
 generalize wholeA ⟨nm,ms,es,ts⟩ = A at *;generalize ms.length = M at *;generalize es.length = E at *;generalize ts.length = T at *;have hba : Below w.heap.size w (w.alloc (.cells #[.string nm,.slice am M cm,.slice ae E ce,.slice at' T ct] 34)) := (Below.refl _ _).alloc (Nat.le_refl _) _;have BX := Blk.new w #[.string nm,.slice am M cm,.slice ae E ce,.slice at' T ct] 34;have key : ∀ w1,Below (w.alloc (.cells #[.string nm,.slice am M cm,.slice ae E ce,.slice at' T ct] 34)).heap.size (w.alloc (.cells #[.string nm,.slice am M cm,.slice ae E ce,.slice at' T ct] 34)) w1 → Below w.heap.size w w1 := fun w1 h => hba.trans (h.mono hba.size)
 cases hn : nameB nm
 ·rw [hn,if_pos rfl] at HE
  go_enter Try.func22,Try.ntmps22
  go_wp2_with fail;refine (name_any _ _ hs).mono ?_;rintro e w1 ⟨rfl,hb1⟩;rw [hn];go_wp2_with fail;go_ret;exact ⟨ret_int HE.out.symm,key _ hb1⟩
 ·rw [hn,if_neg (by decide)] at HE
  by_cases h0 : M = 0
  ·rw [if_pos h0] at HE;subst h0
   go_enter Try.func22,Try.ntmps22
   go_wp2_with fail;refine (name_any _ _ hs).mono ?_;rintro e w1 ⟨rfl,hb1⟩;rw [hn];have b1 : w1.cell? ⟨w.heap.size,1,none⟩ = some (.slice am 0 cm) := (BX.below hb1).cell 1;go_wp2_with fail;go_ret;exact ⟨ret_int HE.out.symm,key _ hb1⟩
  ·rw [if_neg h0] at HE
   have h0' : ((M : Int) == 0) = false := by simpa using h0
   have body : ∀ V : Int,(if (10 < M ∨ 6 < E ∨ 6 < T) then (4 : Int) else 0) = V → A = V := fun V h => HE.out.trans h
   clear HE;have HBd : Hid (∀ V : Int,(if (10 < M ∨ 6 < E ∨ 6 < T) then (4 : Int) else 0) = V → A = V) := body;clear body
   go_enter Try.func22,Try.ntmps22
   go_wp2_with fail;refine (name_any _ _ hs).mono ?_;rintro e w1 ⟨rfl,hb1⟩;rw [hn];have b1 : w1.cell? ⟨w.heap.size,1,none⟩ = some (.slice am M cm) := (BX.below hb1).cell 1;have b2 : w1.cell? ⟨w.heap.size,2,none⟩ = some (.slice ae E ce) := (BX.below hb1).cell 2;have b3 : w1.cell? ⟨w.heap.size,3,none⟩ = some (.slice at' T ct) := (BX.below hb1).cell 3;have HK : Hid (Below w.heap.size w w1) := key _ hb1;clear key hb1 BX hba
   by_cases g1 : 10 < M
   ·go_wp2_with fail;go_ret;exact ⟨ret_int (HBd.out 4 (if_pos (.inl g1))).symm,HK.out⟩
   ·by_cases g2 : 6 < E
    ·go_wp2_with fail;go_ret;exact ⟨ret_int (HBd.out 4 (if_pos (.inr (.inl g2)))).symm,HK.out⟩
    ·by_cases g3 : 6 < T
     ·go_wp2_with fail;go_ret;exact ⟨ret_int (HBd.out 4 (if_pos (.inr (.inr g3)))).symm,HK.out⟩
     ·go_wp2_with fail;go_ret;exact ⟨ret_int (HBd.out 0 (if_neg (by omega))).symm,HK.out⟩
end
section
theorem rg_take {P : Program} {md : Region.Mode} {ops : Array Oper} {Q : Exit → Act → World → Prop} {S : World → Prop} {oi : Oper} {fuel : Nat} {listed listed' : Array Bool} {a : Act} {w : World} (i d : Nat) (v : Value) (tmps' : Array Value) (hi : ops[i]? = some oi) (hd : oi.dst = some d)
  (hs : Region.noSelect ops = true) (hf : Region.free md ops listed i = true) (hr : (Region.ready md ops listed).contains i = true)
  (hQ : ∀ c a w,Q (.panic c) (a.put oi.dst v) w → Q (.panic c) a w) (hwt : Region.wanted oi (yielded ops a.tmps) = true) (hy : ∀ w,S w → (execOp a.eval oi).run P w = .ok (.value v) w) (hS : S w)
  (hl : listed.setIfInBounds i true = listed') (ht : a.tmps.setIfInBounds d v = tmps')
  (h : wpAnyH P md ops Q S fuel listed' { a with tmps := tmps' } w) : wpAnyH P md ops Q S (fuel + 1) listed a w := by
 subst hl ht;refine wpAnyH_take hi hs hf hr hQ (.inl ⟨hwt,hy⟩) hS ?_;rw [hd];exact h
theorem rg_call {P : Program} {md : Region.Mode} {ops : Array Oper} {Q : Exit → Act → World → Prop} {S : World → Prop} {oi : Oper} {fuel : Nat} {listed listed' : Array Bool} {a : Act} {w : World} (i d f : Nat) (vals : Array Value) (hi : ops[i]? = some oi) (hd : oi.dst = some d)
  (hr : Region.ready md ops listed = [i]) (hwt : Region.wanted oi (yielded ops a.tmps) = true) (hl : listed.setIfInBounds i true = listed') (hx : ∀ w,(execOp a.eval oi).run P w = .ok (.enter f vals) w)
  (h : Calls P f vals w fun e w' => ∃ v,e = .returned v ∧ S w' ∧ wpAnyH P md ops Q S fuel listed' { a with tmps := a.tmps.setIfInBounds d v } w') : wpAnyH P md ops Q S (fuel + 1) listed a w := by
 subst hl;refine wpAnyH_ready (rs := [i]) hr (by simp) (AllReadyH.cons hi (fun K hK => ?_) AllReadyH.nil);rw [if_pos hwt];unfold Oper.wp;rw [hx];refine Calls.mono h ?_;rintro e w' ⟨v,rfl,hS,h'⟩;refine hK.out _ _ hS (fun _ => ?_);rw [hd];exact h'
theorem rg_run {P : Program} {md : Region.Mode} {ops : Array Oper} {Q : Exit → Act → World → Prop} {S : World → Prop} {oi : Oper} {fuel : Nat} {listed listed' : Array Bool} {a : Act} {w : World} (i d : Nat) (v : Value) (w' : World) (hi : ops[i]? = some oi) (hd : oi.dst = some d)
  (hr : Region.ready md ops listed = [i]) (hwt : Region.wanted oi (yielded ops a.tmps) = true) (hl : listed.setIfInBounds i true = listed') (hx : (execOp a.eval oi).run P w = .ok (.value v) w') (hS : S w')
  (h : wpAnyH P md ops Q S fuel listed' { a with tmps := a.tmps.setIfInBounds d v } w') : wpAnyH P md ops Q S (fuel + 1) listed a w := by
 subst hl;refine wpAnyH_ready (rs := [i]) hr (by simp) (AllReadyH.cons hi (fun K hK => ?_) AllReadyH.nil);rw [if_pos hwt];unfold Oper.wp;rw [hx];refine hK.out _ _ hS (fun _ => ?_);rw [hd];exact h
theorem append_run {P : Program} {a : Act} {w w' : World} {o : Oper} {s x : Operand} {t u : TypeId} {v y v' : Value} (ho : o.op = .call { callee := .builtin .append,args := #[s,x],argTypes := #[t,u] }) (hs : a.eval s = v) (hx : a.eval x = y)
  (hr : (Builtin.append_ #[t,u] o.type #[v,y]).run P w = .ok v' w') : (execOp a.eval o).run P w = .ok (.value v') w' := by
 unfold execOp;simp only [ho,resolve,invoke,builtin,Sem.run_bind,Sem.run_pure,Result.andThen_ok,List.map_toArray,List.map_cons,List.map_nil,hs,hx,hr]
end
section
open Go.ChangeShapes Go.WideShapes Go.ChangeAt Go.RowKit Go.Maps
theorem SetK.perm {k : TypeId} {w : World} {b n : Nat} {L L' : List Value} (h : SetK k w b n L) (hp : ∀ v,v ∈ L ↔ v ∈ L') : SetK k w b n L' := by
 obtain ⟨D,h1,h2⟩ := h;exact ⟨D,h1,fun v kl hv => (h2 v kl hv).trans (hp v)⟩
theorem ins_wp {ops : Array Oper} {Q : Exit → Act → World → Prop} {K : Act → World → Prop} {a : Act} {w : World} {i : Nat} {o : Oper} {m kt vt b n : Nat} {L : List (Int × ByteArray)} {p : Int × ByteArray} (hi : ops[i]? = some o) (hg : o.guard = none) (hd : o.dst = none)
  (hop : o.op = .insert 71 (.tmp m) (.tmp kt) (.tmp vt)) (hm : a.eval (.tmp m) = .map (some b)) (hk : a.eval (.tmp kt) = tyV p) (hv : a.eval (.tmp vt) = .agg #[]) (hp : I64 p.1) (hps : p.2.size ≤ 140737488351232)
  (hS : SetT w b n L) (hn : n < 1000000) (hK : ∀ w',SetT w' b (n + 1) (L ++ [p]) → w.grownBy w' (some b) → K a w') : wpOp Try.prog ops Q i K a w := by
 obtain ⟨D,hown,h2⟩ := hS;obtain ⟨kl,hkey⟩ := key_ty hp hps;obtain ⟨w',hrun,r1,r2⟩ := hown.update lawT Try.underlying71 (by unfold maxLen; omega) hkey (unitElem_mk (H := Unit))
 have hS' : SetT w' b (n + 1) (L ++ [p]) := by
  have := SetK.put lawT hown.isMap h2 hkey r1;unfold SetT;rw [List.map_append];exact this
 unfold wpOp;simp only [hi]
 have hwt : Region.wanted o (yielded ops a.tmps) = true := by unfold Region.wanted; rw [hg]
 rw [if_pos hwt];refine .inl ?_;unfold Oper.wp
 simp [execOp,hop,hm,hk,hv,hrun,Result.andThen,hd]
 rw [Oper.upon_skip,hd];exact hK w' hS' r2
def five (b1 b2 b3 b4 b5 : Bool) : List (Int × ByteArray) := (if b1 then [(1,⟨#[]⟩)] else []) ++ (if b2 then [(2,⟨#[]⟩)] else []) ++ (if b3 then [(3,⟨#[]⟩)] else []) ++ (if b4 then [(4,⟨#[]⟩)] else []) ++ (if b5 then [(5,⟨#[]⟩)] else [])
def lst5 (b1 b2 b3 b4 b5 : Bool) : Array Bool := #[true,true,true,b1,true,true,b2,true,true,b3,true,true,b4,true,true,b5,false,false]
def rd5 (b1 b2 b3 b4 b5 : Bool) : List Nat := if b1 && b2 && b3 && b4 && b5 then [16] else (if b1 then [] else [3]) ++ (if b2 then [] else [6]) ++ (if b3 then [] else [9]) ++ (if b4 then [] else [12]) ++ (if b5 then [] else [15])
def cnt5 (b1 b2 b3 b4 b5 : Bool) : Nat := (if b1 then 0 else 1) + (if b2 then 0 else 1) + (if b3 then 0 else 1) + (if b4 then 0 else 1) + (if b5 then 0 else 1)
theorem rd5_mem : ∀ (b1 b2 b3 b4 b5 : Bool),cnt5 b1 b2 b3 b4 b5 ≠ 0 → ∀ i ∈ rd5 b1 b2 b3 b4 b5,(i = 3 ∧ b1 = false) ∨ (i = 6 ∧ b2 = false) ∨ (i = 9 ∧ b3 = false) ∨ (i = 12 ∧ b4 = false) ∨ (i = 15 ∧ b5 = false) := by
 intro b1 b2 b3 b4 b5
 cases b1 <;> cases b2 <;> cases b3 <;> cases b4 <;> cases b5 <;> simp [rd5,cnt5]
theorem rd5_ne : ∀ (b1 b2 b3 b4 b5 : Bool),rd5 b1 b2 b3 b4 b5 ≠ [] := by decide
theorem mem5 {p : Int × ByteArray} {b1 b2 b3 b4 b5 : Bool} : p ∈ five b1 b2 b3 b4 b5 ↔ (b1 = true ∧ p = (1,⟨#[]⟩)) ∨ (b2 = true ∧ p = (2,⟨#[]⟩)) ∨ (b3 = true ∧ p = (3,⟨#[]⟩)) ∨ (b4 = true ∧ p = (4,⟨#[]⟩)) ∨ (b5 = true ∧ p = (5,⟨#[]⟩)) := by
 cases b1 <;> cases b2 <;> cases b3 <;> cases b4 <;> cases b5 <;> simp [five]
theorem setT_perm {w : World} {b n : Nat} {L L' : List (Int × ByteArray)} (h : SetT w b n L) (hp : ∀ v,v ∈ L ↔ v ∈ L') : SetT w b n L' := by
 refine SetK.perm h fun v => ?_
 simp only [List.mem_map]
 constructor
 ·rintro ⟨p,h1,h2⟩; exact ⟨p,(hp p).1 h1,h2⟩
 ·rintro ⟨p,h1,h2⟩; exact ⟨p,(hp p).2 h1,h2⟩
theorem rg_five {ops : Array Oper} {Q : Exit → Act → World → Prop} {a : Act} {b B : Nat} {w0 : World} {o3 o6 o9 o12 o15 : Oper} (hB : B ≤ b)
  (h3 : ops[3]? = some o3) (g3 : o3.guard = none) (d3 : o3.dst = none) (p3 : o3.op = .insert 71 (.tmp 8) (.tmp 9) (.tmp 10))
  (h6 : ops[6]? = some o6) (g6 : o6.guard = none) (d6 : o6.dst = none) (p6 : o6.op = .insert 71 (.tmp 8) (.tmp 11) (.tmp 12))
  (h9 : ops[9]? = some o9) (g9 : o9.guard = none) (d9 : o9.dst = none) (p9 : o9.op = .insert 71 (.tmp 8) (.tmp 13) (.tmp 14))
  (h12 : ops[12]? = some o12) (g12 : o12.guard = none) (d12 : o12.dst = none) (p12 : o12.op = .insert 71 (.tmp 8) (.tmp 15) (.tmp 16))
  (h15 : ops[15]? = some o15) (g15 : o15.guard = none) (d15 : o15.dst = none) (p15 : o15.op = .insert 71 (.tmp 8) (.tmp 17) (.tmp 18))
  (hm : a.eval (.tmp 8) = .map (some b)) (k1 : a.eval (.tmp 9) = tyV (1,⟨#[]⟩)) (v1 : a.eval (.tmp 10) = .agg #[]) (k2 : a.eval (.tmp 11) = tyV (2,⟨#[]⟩)) (v2 : a.eval (.tmp 12) = .agg #[]) (k3 : a.eval (.tmp 13) = tyV (3,⟨#[]⟩)) (v3 : a.eval (.tmp 14) = .agg #[])
  (k4 : a.eval (.tmp 15) = tyV (4,⟨#[]⟩)) (v4 : a.eval (.tmp 16) = .agg #[]) (k5 : a.eval (.tmp 17) = tyV (5,⟨#[]⟩)) (v5 : a.eval (.tmp 18) = .agg #[])
  (hrd : ∀ b1 b2 b3 b4 b5,Region.ready .any ops (lst5 b1 b2 b3 b4 b5) = rd5 b1 b2 b3 b4 b5)
  (fin : ∀ w n,n ≤ 5 → Below B w0 w → SetT w b n (five true true true true true) → wpAnyH Try.prog .any ops Q (fun _ => True) 2 (lst5 true true true true true) a w) :
  ∀ (n m : Nat) (b1 b2 b3 b4 b5 : Bool),cnt5 b1 b2 b3 b4 b5 = n → m + n ≤ 5 → ∀ w,B ≤ w.heap.size → Below B w0 w → SetT w b m (five b1 b2 b3 b4 b5) → wpAnyH Try.prog .any ops Q (fun _ => True) (n + 2) (lst5 b1 b2 b3 b4 b5) a w
 | 0,m,b1,b2,b3,b4,b5,hc,hmn,w,hw,hbel,hS => by
  have : b1 = true ∧ b2 = true ∧ b3 = true ∧ b4 = true ∧ b5 = true := by
   revert hc; cases b1 <;> cases b2 <;> cases b3 <;> cases b4 <;> cases b5 <;> simp [cnt5]
  obtain ⟨rfl,rfl,rfl,rfl,rfl⟩ := this;exact fin w m (by omega) hbel hS
 | n + 1,m,b1,b2,b3,b4,b5,hc,hmn,w,hw,hbel,hS => by
  have ih := rg_five hB h3 g3 d3 p3 h6 g6 d6 p6 h9 g9 d9 p9 h12 g12 d12 p12 h15 g15 d15 p15 hm k1 v1 k2 v2 k3 v3 k4 v4 k5 v5 hrd fin n (m + 1);refine ⟨fun h => absurd ((hrd b1 b2 b3 b4 b5).symm.trans h) (rd5_ne b1 b2 b3 b4 b5),fun i hi => ?_⟩;rw [hrd] at hi;have hgb : ∀ w',w.grownBy w' (some b) → Below B w0 w' := fun w' hg => hbel.grown hg hw (fun j hj => by cases hj; exact hB)
  have hgs : ∀ w',w.grownBy w' (some b) → B ≤ w'.heap.size := fun w' hg => Nat.le_trans hw hg.size
  rcases rd5_mem b1 b2 b3 b4 b5 (by omega) i hi with ⟨rfl,rfl⟩ | ⟨rfl,rfl⟩ | ⟨rfl,rfl⟩ | ⟨rfl,rfl⟩ | ⟨rfl,rfl⟩
  ·refine ins_wp (p := (1,⟨#[]⟩)) h3 g3 d3 p3 hm k1 v1 ⟨by decide,by decide⟩ (by decide) hS (by omega) (fun w' hS' hg => ⟨trivial,?_⟩);exact ih true b2 b3 b4 b5 (by revert hc; unfold cnt5; simp only [if_true,if_false,Bool.false_eq_true]; omega) (by omega) w' (hgs w' hg) (hgb w' hg) (setT_perm hS' (fun v => by rw [List.mem_append,mem5,mem5]; simp [or_comm,or_left_comm,or_assoc]))
  ·refine ins_wp (p := (2,⟨#[]⟩)) h6 g6 d6 p6 hm k2 v2 ⟨by decide,by decide⟩ (by decide) hS (by omega) (fun w' hS' hg => ⟨trivial,?_⟩);exact ih b1 true b3 b4 b5 (by revert hc; unfold cnt5; simp only [if_true,if_false,Bool.false_eq_true]; omega) (by omega) w' (hgs w' hg) (hgb w' hg) (setT_perm hS' (fun v => by rw [List.mem_append,mem5,mem5]; simp [or_comm,or_left_comm,or_assoc]))
  ·refine ins_wp (p := (3,⟨#[]⟩)) h9 g9 d9 p9 hm k3 v3 ⟨by decide,by decide⟩ (by decide) hS (by omega) (fun w' hS' hg => ⟨trivial,?_⟩);exact ih b1 b2 true b4 b5 (by revert hc; unfold cnt5; simp only [if_true,if_false,Bool.false_eq_true]; omega) (by omega) w' (hgs w' hg) (hgb w' hg) (setT_perm hS' (fun v => by rw [List.mem_append,mem5,mem5]; simp [or_comm,or_left_comm,or_assoc]))
  ·refine ins_wp (p := (4,⟨#[]⟩)) h12 g12 d12 p12 hm k4 v4 ⟨by decide,by decide⟩ (by decide) hS (by omega) (fun w' hS' hg => ⟨trivial,?_⟩);exact ih b1 b2 b3 true b5 (by revert hc; unfold cnt5; simp only [if_true,if_false,Bool.false_eq_true]; omega) (by omega) w' (hgs w' hg) (hgb w' hg) (setT_perm hS' (fun v => by rw [List.mem_append,mem5,mem5]; simp [or_comm,or_left_comm,or_assoc]))
  ·refine ins_wp (p := (5,⟨#[]⟩)) h15 g15 d15 p15 hm k5 v5 ⟨by decide,by decide⟩ (by decide) hS (by omega) (fun w' hS' hg => ⟨trivial,?_⟩);exact ih b1 b2 b3 b4 true (by revert hc; unfold cnt5; simp only [if_true,if_false,Bool.false_eq_true]; omega) (by omega) w' (hgs w' hg) (hgb w' hg) (setT_perm hS' (fun v => by rw [List.mem_append,mem5,mem5]; simp [or_comm,or_left_comm,or_assoc]))
theorem types_told (k : Int) (s : ByteArray) (ms : List MsS) (es : List EnS) : memT (k,s) (five true true true true true ++ ms.map (fun m => (7,m.name)) ++ es.map (fun m => (6,m.name))) = typeB (ms.map MsS.name) (es.map EnS.name) k s := by
 rw [Bool.eq_iff_iff,memT_iff];unfold typeB;simp only [List.mem_append,mem5,true_and,Bool.or_eq_true,Bool.and_eq_true,decide_eq_true_eq,memB_iff,List.mem_map,Prod.mk.injEq]
 constructor
 ·rintro ((h | ⟨m,hm,h1,h2⟩) | ⟨m,hm,h1,h2⟩)
  ·rcases h with ⟨h1,h2⟩ | ⟨h1,h2⟩ | ⟨h1,h2⟩ | ⟨h1,h2⟩ | ⟨h1,h2⟩ <;> exact .inl (.inl ⟨by omega,h2⟩)
  ·exact .inr ⟨h1.symm,m,hm,h2⟩
  ·exact .inl (.inr ⟨h1.symm,m,hm,h2⟩)
 ·rintro ((⟨h1,h2⟩ | ⟨h1,m,hm,h2⟩) | ⟨h1,m,hm,h2⟩)
  ·refine .inl (.inl ?_)
   have : k = 1 ∨ k = 2 ∨ k = 3 ∨ k = 4 ∨ k = 5 := by omega
   rcases this with h | h | h | h | h
   ·exact .inl ⟨h,h2⟩
   ·exact .inr (.inl ⟨h,h2⟩)
   ·exact .inr (.inr (.inl ⟨h,h2⟩))
   ·exact .inr (.inr (.inr (.inl ⟨h,h2⟩)))
   ·exact .inr (.inr (.inr (.inr ⟨h,h2⟩)))
  ·exact .inr ⟨m,hm,h1.symm,h2⟩
  ·exact .inl (.inr ⟨m,hm,h1.symm,h2⟩)
theorem typesof_any {w : World} {v : Value} {s : ScS} (hr : ScIn w v s) (hw : ScW s) (h1 : s.msgs.length ≤ 30000) (h2 : s.enums.length ≤ 30000) :
  Calls Try.prog 23 #[v] w fun e w' => (∃ bY ny T,e = .returned (.map (some bY)) ∧ w.heap.size ≤ bY ∧ SetT w' bY ny T ∧ ∀ k s',memT (k,s') T = typeB s.mn s.en k s') ∧ Below w.heap.size w w' := by
 obtain ⟨vm,ve,vt,rfl,hm,he,ht⟩ := hr;obtain ⟨am,cm,rfl,qm1,qm2,_⟩ := hm.open;obtain ⟨ae,ce,rfl,qe1,qe2,_⟩ := he.open;obtain ⟨at',ct,rfl,qt1,qt2⟩ := ht.form2;unfold maxLen at qm2 qe2;have HM : Hid _ := hm;have HE : Hid _ := he;clear hm he ht;obtain ⟨nm,ms,es,ts⟩ := s;simp only at *;have HM : Hid (MsIn w (.slice am ms.length cm) ms) := HM;have HE : Hid (EnIn w (.slice ae es.length ce) es) := HE;generalize (mtRows ts).length = T at *;obtain ⟨M,hM⟩ : ∃ N,ms.length = N := ⟨_,rfl⟩;obtain ⟨E,hE⟩ : ∃ N,es.length = N := ⟨_,rfl⟩;rw [hM] at HM qm1 h1 ⊢;rw [hE] at HE qe1 h2 ⊢;have HNM : Hid (ms.length = M) := hM;have HNE : Hid (es.length = E) := hE;have HW : Hid (ScW ⟨nm,ms,es,ts⟩) := hw;clear hM hE hw;have hmm := @run_makeMap Try.prog
 go_enter Try.func23,Try.ntmps23
 go_wp2_with fail;refine wp_region_held_drew (S := fun _ => True) (by kernel_rfl) trivial (fun hS => ?_);have HW0 : Hid (Below w.heap.size w (w.alloc (.cells #[.string nm,.slice am M cm,.slice ae E ce,.slice at' T ct] 34)).drew) := below_drewN 1 ((Below.refl _ _).alloc (Nat.le_refl _) _);have HX0 : Hid (Blk (w.alloc (.cells #[.string nm,.slice am M cm,.slice ae E ce,.slice at' T ct] 34)).drew w.heap.size #[.string nm,.slice am M cm,.slice ae E ce,.slice at' T ct] 34) := Blk.new w #[.string nm,.slice am M cm,.slice ae E ce,.slice at' T ct] 34;generalize (w.alloc (.cells #[.string nm,.slice am M cm,.slice ae E ce,.slice at' T ct] 34)).drew = W0 at *;clear hS;refine rg_take 1 9 (.agg #[.int .i64 1,.string ⟨#[]⟩]) _ rfl rfl (by kernel_rfl) (by kernel_rfl) (by kernel_rfl) (fun _ _ _ h => h) (by rfl) (fun w' hw' => ?_) trivial (listed' := bts 18 2) (by kernel_rfl) rfl ?_
 ·go_simp
 simp only [zsA,zsZ,zsS];refine rg_take 2 10 (.agg #[]) _ rfl rfl (by kernel_rfl) (by kernel_rfl) (by kernel_rfl) (fun _ _ _ h => h) (by rfl) (fun w' hw' => ?_) trivial (listed' := bts 18 6) (by kernel_rfl) rfl ?_
 ·go_simp
 simp only [zsA,zsZ,zsS];refine rg_take 4 11 (.agg #[.int .i64 2,.string ⟨#[]⟩]) _ rfl rfl (by kernel_rfl) (by kernel_rfl) (by kernel_rfl) (fun _ _ _ h => h) (by rfl) (fun w' hw' => ?_) trivial (listed' := bts 18 22) (by kernel_rfl) rfl ?_
 ·go_simp
 simp only [zsA,zsZ,zsS];refine rg_take 5 12 (.agg #[]) _ rfl rfl (by kernel_rfl) (by kernel_rfl) (by kernel_rfl) (fun _ _ _ h => h) (by rfl) (fun w' hw' => ?_) trivial (listed' := bts 18 54) (by kernel_rfl) rfl ?_
 ·go_simp
 simp only [zsA,zsZ,zsS];refine rg_take 7 13 (.agg #[.int .i64 3,.string ⟨#[]⟩]) _ rfl rfl (by kernel_rfl) (by kernel_rfl) (by kernel_rfl) (fun _ _ _ h => h) (by rfl) (fun w' hw' => ?_) trivial (listed' := bts 18 182) (by kernel_rfl) rfl ?_
 ·go_simp
 simp only [zsA,zsZ,zsS];refine rg_take 8 14 (.agg #[]) _ rfl rfl (by kernel_rfl) (by kernel_rfl) (by kernel_rfl) (fun _ _ _ h => h) (by rfl) (fun w' hw' => ?_) trivial (listed' := bts 18 438) (by kernel_rfl) rfl ?_
 ·go_simp
 simp only [zsA,zsZ,zsS];refine rg_take 10 15 (.agg #[.int .i64 4,.string ⟨#[]⟩]) _ rfl rfl (by kernel_rfl) (by kernel_rfl) (by kernel_rfl) (fun _ _ _ h => h) (by rfl) (fun w' hw' => ?_) trivial (listed' := bts 18 1462) (by kernel_rfl) rfl ?_
 ·go_simp
 simp only [zsA,zsZ,zsS];refine rg_take 11 16 (.agg #[]) _ rfl rfl (by kernel_rfl) (by kernel_rfl) (by kernel_rfl) (fun _ _ _ h => h) (by rfl) (fun w' hw' => ?_) trivial (listed' := bts 18 3510) (by kernel_rfl) rfl ?_
 ·go_simp
 simp only [zsA,zsZ,zsS];refine rg_take 13 17 (.agg #[.int .i64 5,.string ⟨#[]⟩]) _ rfl rfl (by kernel_rfl) (by kernel_rfl) (by kernel_rfl) (fun _ _ _ h => h) (by rfl) (fun w' hw' => ?_) trivial (listed' := bts 18 11702) (by kernel_rfl) rfl ?_
 ·go_simp
 simp only [zsA,zsZ,zsS];refine rg_take 14 18 (.agg #[]) _ rfl rfl (by kernel_rfl) (by kernel_rfl) (by kernel_rfl) (fun _ _ _ h => h) (by rfl) (fun w' hw' => ?_) trivial (listed' := bts 18 28086) (by kernel_rfl) rfl ?_
 ·go_simp
 simp only [zsA,zsZ,zsS];refine rg_run 0 8 (.map (some W0.heap.size)) (W0.alloc (.map #[] 0)) rfl rfl (by kernel_rfl) (by rfl) (listed' := bts 18 28087) (by kernel_rfl) (by go_simp) trivial ?_;simp only [zsA,zsZ,zsS];refine rg_five (b := W0.heap.size) (B := W0.heap.size) (w0 := W0) (Nat.le_refl _) rfl rfl rfl rfl rfl rfl rfl rfl rfl rfl rfl rfl rfl rfl rfl rfl rfl rfl rfl rfl rfl rfl rfl rfl rfl rfl rfl rfl rfl rfl rfl (by intro b1 b2 b3 b4 b5; cases b1 <;> cases b2 <;> cases b3 <;> cases b4 <;> cases b5 <;> kernel_rfl) ?fin 5 0 false false false false false rfl (by omega) (W0.alloc (.map #[] 0)) (by simp) ((Below.refl _ _).alloc (Nat.le_refl _) _) (SetK.made 36 W0);intro W1 n1 hn1 hbel1 hset1;have HS1 : Hid (SetT W1 W0.heap.size n1 (five true true true true true)) := hset1;clear hset1;refine rg_take 16 19 (.map (some W0.heap.size)) _ rfl rfl (by kernel_rfl) (by kernel_rfl) (by kernel_rfl) (fun _ _ _ h => h) (by rfl) (fun w' hw' => ?_) trivial (listed' := bts 18 131071) (by kernel_rfl) rfl ?_
 ·go_simp
 simp only [zsA,zsZ,zsS];refine rg_take 17 3 (.map (some W0.heap.size)) _ rfl rfl (by kernel_rfl) (by kernel_rfl) (by kernel_rfl) (fun _ _ _ h => h) (by rfl) (fun w' hw' => ?_) trivial (listed' := bts 18 262143) (by kernel_rfl) rfl ?_
 ·go_simp
 simp only [zsA,zsZ,zsS];refine wpAnyH_done (by kernel_rfl) ?_ _;clear hmm;have hx0 : w.heap.size < W0.heap.size := HX0.out.lt;obtain ⟨bY,hbY⟩ : ∃ n,W0.heap.size = n := ⟨_,rfl⟩;rw [hbY] at HS1 hbel1 hx0 ⊢;have HBY : Hid (W0.heap.size = bY) := hbY;clear hbY
 have hb1 : Below W0.heap.size W0 W1 := by rw [HBY.out]; exact hbel1
 have b1 : W1.cell? ⟨w.heap.size,1,none⟩ = some (.slice am M cm) := (HX0.out.below hb1).cell 1;clear hb1;obtain ⟨F,hF⟩ : ∃ F,five true true true true true = F := ⟨_,rfl⟩;rw [hF] at HS1;have HF : Hid (five true true true true true = F) := hF;clear hF
 have HS1' : Hid (SetT W1 bY (n1 + 0) (F ++ (ms.take 0).map fun m => (7,m.name))) := by
  show SetT _ _ _ _
  rw [List.take_zero,List.map_nil,List.append_nil]; exact HS1.out
 clear HS1;go_wp2_with fail;clear b1
 go_loopw [23] (fun iv wr => ∃ (k : Nat),iv = .int .i64 (k : Int) ∧ k ≤ M ∧ Hid (SetT wr bY (n1 + k) (F ++ (ms.take k).map fun m => (7,m.name))) ∧ Below bY W0 wr) (fun iv _ => M - (intOf iv).toNat)
 case atStart => exact ⟨0,rfl,by omega,HS1',hbel1⟩
 case round =>
  obtain ⟨k,rfl,hk,HS,hbel⟩ := hrel;clear HS1'
  have hbW : Below W0.heap.size W0 wr := by rw [HBY.out]; exact hbel
  have hbw : Below w.heap.size w wr := HW0.out.trans (hbW.mono HW0.out.size);have hbt : bY < wr.heap.size := SetK.lt HS.out
  by_cases hlt : k < M
  ·obtain ⟨m,hm⟩ : ∃ n,ms[k]? = some n := ⟨_,List.getElem?_eq_getElem (by rw [HNM.out]; exact hlt)⟩;obtain ⟨g,off,vf,vr,rfl,c0,c1,c2,hf,hrr⟩ := (HM.out.below hbw).get hm;obtain ⟨a3,c3,rfl,_,_⟩ := hf.form2;obtain ⟨a4,c4,rfl,_,_⟩ := hrr.form2;generalize (flRows m.fields).length = nF at *;generalize (inRows m.reserved).length = nR at *;have hms := (HW.out.msgs m (List.mem_of_getElem? hm)).1
   have HTK : Hid ((F ++ (ms.take k).map fun m => ((7 : Int),m.name)) ++ [(7,m.name)] = F ++ (ms.take (k + 1)).map fun m => (7,m.name)) := by
    show _ = _
    rw [List.take_add_one,hm,List.map_append,List.append_assoc]; rfl
   generalize m.name = mnm at *;clear hf hrr hm hbW hbw;go_wp2_with fail;clear c0 c1 c2;have hba : Below wr.heap.size wr (wr.alloc (.cells #[.string mnm,.slice a3 nF c3,.slice a4 nR c4] 41)) := (Below.refl _ _).alloc (Nat.le_refl _) _;refine (msgtype_any _ _).mono ?_;rintro e w2 ⟨rfl,hb2⟩;obtain ⟨kl,hkey⟩ := key_ty (k := 7) (s := mnm) ⟨by decide,by decide⟩ hms;obtain ⟨D,hown,h2'⟩ := SetK.below (SetK.below HS.out hba) hb2;have H2 : Hid _ := h2';clear h2';have hkey' := hkey;unfold tyV at hkey';simp only at hkey';have hb3 : Below bY W0 w2 := (hbel.alloc (by omega) _).trans (hb2.mono (by simp; omega))
   have hbt2 : bY ≤ w2.heap.size := by have := hb2.size; simp at this; omega
   clear hb2 hba hbel
   go_wp2_with (first
    | (at_mapUpdate; refine wpList_mapUpdate_own _ rfl _ _ _ 71 rfl 36 79 lawT Try.underlying71 (unitElem (H := Unit)) bY (n1 + k) _ rfl hown (by unfold maxLen; omega) _ _ _ rfl rfl hkey' _ [] unitElem_mk ?_; intro w3 hown1 hgrow1)
    | fail)
   have HS3 : Hid (SetT w3 bY (n1 + (k + 1)) (F ++ (ms.take (k + 1)).map fun m => (7,m.name))) := by
    show SetT _ _ _ _
    rw [← HTK.out];have := SetK.put lawT hown.isMap H2.out hkey hown1;unfold SetT;rw [List.map_append];exact this
   have hb4 : Below bY W0 w3 := hb3.grown hgrow1 hbt2 (fun j hj => by cases hj; exact Nat.le_refl _);clear hown hown1 hgrow1 H2 hkey hkey' HTK HS hb3;go_wp2_with fail
   go_roundw
   case rel => exact ⟨k + 1,by go_num,by omega,HS3,hb4⟩
   case measure => simp [intOf]; omega
  ·obtain rfl : k = M := by omega
   have b2 : wr.cell? ⟨w.heap.size,2,none⟩ = some (.slice ae E ce) := (HX0.out.below hbW).cell 2;obtain ⟨G,hG⟩ : ∃ G,F ++ (ms.take k).map (fun m => ((7 : Int),m.name)) = G := ⟨_,rfl⟩;rw [hG] at HS
   have HG : Hid (F ++ ms.map (fun m => ((7 : Int),m.name)) = G) := by
    show _ = _
    rw [← hG,List.take_of_length_le (by rw [HNM.out]; omega)]
   clear hG
   have HS2 : Hid (SetT wr bY (n1 + k + 0) (G ++ (es.take 0).map fun m => (6,m.name))) := by
    show SetT _ _ _ _
    rw [List.take_zero,List.map_nil,List.append_nil]; exact HS.out
   clear HS hbW hbw;go_wp2_with fail;clear b2
   go_loopw [36] (fun iv wr => ∃ (i : Nat),iv = .int .i64 (i : Int) ∧ i ≤ E ∧ Hid (SetT wr bY (n1 + k + i) (G ++ (es.take i).map fun m => (6,m.name))) ∧ Below bY W0 wr) (fun iv _ => E - (intOf iv).toNat)
   case atStart => exact ⟨0,rfl,by omega,HS2,hbel⟩
   case round =>
    obtain ⟨i,rfl,hi,HS,hbel⟩ := hrel;clear HS2
    have hbW : Below W0.heap.size W0 wr := by rw [HBY.out]; exact hbel
    have hbw : Below w.heap.size w wr := HW0.out.trans (hbW.mono HW0.out.size);have hbt : bY < wr.heap.size := SetK.lt HS.out
    by_cases hlt : i < E
    ·obtain ⟨m,hm⟩ : ∃ n,es[i]? = some n := ⟨_,List.getElem?_eq_getElem (by rw [HNE.out]; exact hlt)⟩;obtain ⟨g,off,vf,rfl,c0,c1,hf⟩ := (HE.out.below hbw).get hm;obtain ⟨a3,c3,rfl,_,_⟩ := hf.form2;generalize (nmRows m.values).length = nF at *;have hms := (HW.out.enums m (List.mem_of_getElem? hm)).1
     have HTK : Hid ((G ++ (es.take i).map fun m => ((6 : Int),m.name)) ++ [(6,m.name)] = G ++ (es.take (i + 1)).map fun m => (6,m.name)) := by
      show _ = _
      rw [List.take_add_one,hm,List.map_append,List.append_assoc]; rfl
     generalize m.name = mnm at *;clear hf hm hbW hbw;have hba : Below wr.heap.size wr (wr.alloc (.cells #[.string mnm,.slice a3 nF c3] 25)) := (Below.refl _ _).alloc (Nat.le_refl _) _;obtain ⟨kl,hkey⟩ := key_ty (k := 6) (s := mnm) ⟨by decide,by decide⟩ hms;obtain ⟨D,hown,h2'⟩ := SetK.below HS.out hba;have H2 : Hid _ := h2';clear h2';have hkey' := hkey;unfold tyV at hkey';simp only at hkey';have hb3 : Below bY W0 (wr.alloc (.cells #[.string mnm,.slice a3 nF c3] 25)) := hbel.alloc (by omega) _
     have hbt2 : bY ≤ (wr.alloc (.cells #[.string mnm,.slice a3 nF c3] 25)).heap.size := by simp; omega
     clear hba hbel
     go_wp2_with (first
      | (at_mapUpdate; refine wpList_mapUpdate_own _ rfl _ _ _ 71 rfl 36 79 lawT Try.underlying71 (unitElem (H := Unit)) bY (n1 + k + i) _ rfl hown (by unfold maxLen; omega) _ _ _ rfl rfl hkey' _ [] unitElem_mk ?_; intro w3 hown1 hgrow1)
      | fail)
     clear c0 c1
     have HS3 : Hid (SetT w3 bY (n1 + k + (i + 1)) (G ++ (es.take (i + 1)).map fun m => (6,m.name))) := by
      show SetT _ _ _ _
      rw [← HTK.out];have := SetK.put lawT hown.isMap H2.out hkey hown1;unfold SetT;rw [List.map_append];exact this
     have hb4 : Below bY W0 w3 := hb3.grown hgrow1 hbt2 (fun j hj => by cases hj; exact Nat.le_refl _);clear hown hown1 hgrow1 H2 hkey hkey' HTK HS hb3;go_wp2_with fail
     go_roundw
     case rel => exact ⟨i + 1,by go_num,by omega,HS3,hb4⟩
     case measure => simp [intOf]; omega
    ·go_wp2_with fail;go_ret;refine ⟨⟨bY,_,_,rfl,by omega,HS.out,fun k' s' => ?_⟩,hbw⟩;rw [← HG.out,← HF.out,List.take_of_length_le (by rw [HNE.out]; omega)];exact types_told k' s' ms es
structure FewL (s : ScS) : Prop where
 msgs : s.msgs.length ≤ 14
 enums : s.enums.length ≤ 10
 meths : s.methods.length ≤ 10
 flds : ∀ m ∈ s.msgs,m.fields.length ≤ 20 ∧ m.reserved.length ≤ 40
 vals : ∀ e ∈ s.enums,e.values.length ≤ 24
structure MayL (s : ScS) : Prop where
 msgs : s.msgs.length ≤ 30000
 enums : s.enums.length ≤ 30000
 meths : s.methods.length ≤ 30000
 flds : ∀ m ∈ s.msgs,m.fields.length ≤ 30000 ∧ m.reserved.length ≤ 30000
 vals : ∀ e ∈ s.enums,e.values.length ≤ 30000
theorem FewL.may {s : ScS} (h : FewL s) : MayL s := ⟨Nat.le_trans h.msgs (by decide),Nat.le_trans h.enums (by decide),Nat.le_trans h.meths (by decide),fun m hm => ⟨Nat.le_trans (h.flds m hm).1 (by decide),Nat.le_trans (h.flds m hm).2 (by decide)⟩,fun e he => Nat.le_trans (h.vals e he) (by decide)⟩
theorem chkMs_err {mn en a : List ByteArray} {m : MsS} {l : List MsS} {X : Int} (hX : X = if freshB m.name a = false then 6 else chkMb mn en m) (h : X ≠ 0) : chkMs mn en a (m :: l) = X := by
 unfold chkMs
 cases hf : freshB m.name a
 ·rw [if_pos rfl]; rw [hf,if_pos rfl] at hX; exact hX.symm
 ·rw [if_neg (by decide)]; rw [hf,if_neg (by decide)] at hX; subst hX; exact orE_ne h _
theorem chkMs_on {mn en a : List ByteArray} {m : MsS} {l : List MsS} (hX : 0 = if freshB m.name a = false then 6 else chkMb mn en m) : freshB m.name a = true ∧ chkMs mn en a (m :: l) = chkMs mn en (a ++ [m.name]) l := by
 cases hf : freshB m.name a
 ·rw [hf,if_pos rfl] at hX; omega
 ·rw [hf,if_neg (by decide)] at hX;refine ⟨rfl,?_⟩
  show (if freshB m.name a = false then 6 else orE (chkMb mn en m) (chkMs mn en (a ++ [m.name]) l)) = _
  rw [hf,if_neg (by decide),← hX,orE_zero]
theorem chkEs_err {a : List ByteArray} {m : EnS} {l : List EnS} {X : Int} (hX : X = if freshB m.name a = false then 6 else chkEb m) (h : X ≠ 0) : chkEs a (m :: l) = X := by
 unfold chkEs
 cases hf : freshB m.name a
 ·rw [if_pos rfl]; rw [hf,if_pos rfl] at hX; exact hX.symm
 ·rw [if_neg (by decide)]; rw [hf,if_neg (by decide)] at hX; subst hX; exact orE_ne h _
theorem chkEs_on {a : List ByteArray} {m : EnS} {l : List EnS} (hX : 0 = if freshB m.name a = false then 6 else chkEb m) : freshB m.name a = true ∧ chkEs a (m :: l) = chkEs (a ++ [m.name]) l := by
 cases hf : freshB m.name a
 ·rw [hf,if_pos rfl] at hX; omega
 ·rw [hf,if_neg (by decide)] at hX;refine ⟨rfl,?_⟩
  show (if freshB m.name a = false then 6 else orE (chkEb m) (chkEs (a ++ [m.name]) l)) = _
  rw [hf,if_neg (by decide),← hX,orE_zero]
theorem check_may {w : World} {v : Value} {s : ScS} (hr : ScIn w v s) (hw : ScW s) (hf : MayL s) :
  Calls Try.prog 13 #[v] w fun e w' => e = .returned (.int .i64 (checkA s)) ∧ Below w.heap.size w w' := by
 have HSC := hr;obtain ⟨vm,ve,vt,rfl,hm,he,ht⟩ := hr;obtain ⟨am,cm,rfl,qm1,qm2⟩ := hm.form2;obtain ⟨ae,ce,rfl,qe1,qe2⟩ := he.form2;obtain ⟨at',ct,rfl,qt1,qt2⟩ := ht.form2
 have hT : (mtRows s.methods).length = s.methods.length := by simp [mtRows]
 rw [hT] at HSC ht qt1 ⊢;clear hT;have HWA : Hid (∀ W : World,Calls Try.prog 22 #[.agg #[.string s.name,.slice am s.msgs.length cm,.slice ae s.enums.length ce,.slice at' s.methods.length ct]] W fun e w' => e = .returned (.int .i64 (wholeA s)) ∧ Below W.heap.size W w') := fun W => cwhole_any s hw.name hf.msgs hf.enums hf.meths
 have HTO : Hid (∀ W : World,Below w.heap.size w W → Calls Try.prog 23 #[.agg #[.string s.name,.slice am s.msgs.length cm,.slice ae s.enums.length ce,.slice at' s.methods.length ct]] W fun e w' => (∃ bY ny T,e = .returned (.map (some bY)) ∧ W.heap.size ≤ bY ∧ SetT w' bY ny T ∧ ∀ k s',memT (k,s') T = typeB s.mn s.en k s') ∧ Below W.heap.size W w') := fun W hW => typesof_any (HSC.below hW) hw hf.msgs hf.enums
 have HM : Hid (MsIn w (.slice am s.msgs.length cm) s.msgs) := hm;have HE : Hid (EnIn w (.slice ae s.enums.length ce) s.enums) := he;have HT : Hid (RowG w (.slice at' s.methods.length ct) 3 (mtRows s.methods)) := ht;have HMN : Hid (s.mn = s.msgs.map MsS.name) := rfl;obtain ⟨CA,hCA⟩ : ∃ A,checkA s = A := ⟨_,rfl⟩;obtain ⟨WA,hWA⟩ : ∃ A,wholeA s = A := ⟨_,rfl⟩
 have HCA : Hid (CA = orE WA (orE (orE (chkMs s.mn s.en [] s.msgs) (chkEs s.mn s.enums)) (chkTs s.mn [] s.methods))) := by show _ = _; rw [← hCA,← hWA]; rfl
 rw [hWA] at HWA;rw [hCA];generalize s.mn = mn at *;generalize s.en = en at *;have HF : Hid (MayL s) := hf;have HW : Hid (ScW s) := hw;obtain ⟨nm,ms,es,ts⟩ := s;simp only at *;have HM : Hid (MsIn w (.slice am ms.length cm) ms) := HM;have HE : Hid (EnIn w (.slice ae es.length ce) es) := HE;obtain ⟨M,hM⟩ : ∃ N,ms.length = N := ⟨_,rfl⟩;obtain ⟨E,hE⟩ : ∃ N,es.length = N := ⟨_,rfl⟩;obtain ⟨T,hT⟩ : ∃ N,ts.length = N := ⟨_,rfl⟩;have h1 := hf.msgs;have h2 := hf.enums;have h3 := hf.meths;simp only at h1 h2 h3;have HL3 : Hid (ts.length ≤ 30000) := h3;rw [hM] at HM qm1 h1 HWA HTO ⊢;rw [hE] at HE qe1 h2 HWA HTO ⊢;rw [hT] at HT qt1 h3 HWA HTO ⊢;have HNM : Hid (ms.length = M) := hM;have HNE : Hid (es.length = E) := hE;have HNT : Hid (ts.length = T) := hT;clear hM hE hT hf hw HSC hm he ht hCA hWA;have hba : Below w.heap.size w (w.alloc (.cells #[.string nm,.slice am M cm,.slice ae E ce,.slice at' T ct] 34)) := (Below.refl _ _).alloc (Nat.le_refl _) _;have BX := Blk.new w #[.string nm,.slice am M cm,.slice ae E ce,.slice at' T ct] 34;have hmm := @run_makeMap Try.prog
 by_cases hw0 : WA = 0
 ·subst hw0
  have HCA : Hid (CA = orE (orE (chkMs mn en [] ms) (chkEs mn es)) (chkTs mn [] ts)) := by show _ = _; rw [HCA.out,orE_zero]
  go_enter Try.func13,Try.ntmps13
  go_wp2_with fail;refine (HWA.out _).mono ?_;rintro e w1 ⟨rfl,hb1⟩;have BX1 := BX.below hb1;have b0 : w1.cell? ⟨w.heap.size,0,none⟩ = some (.string nm) := BX1.cell 0;have b1 : w1.cell? ⟨w.heap.size,1,none⟩ = some (.slice am M cm) := BX1.cell 1;have b2 : w1.cell? ⟨w.heap.size,2,none⟩ = some (.slice ae E ce) := BX1.cell 2;have b3 : w1.cell? ⟨w.heap.size,3,none⟩ = some (.slice at' T ct) := BX1.cell 3;have hb01 : Below w.heap.size w w1 := hba.trans (hb1.mono hba.size);go_wp2_with fail;clear b0 b1 b2 b3;refine (HTO.out w1 hb01).mono ?_;rintro e w2 ⟨⟨bY,ny,Ty,rfl,hbY,hTy,hTt⟩,hb2⟩;have HTy : Hid (SetT w2 bY ny Ty) := hTy;have HTT : Hid (∀ k s',memT (k,s') Ty = typeB mn en k s') := hTt;clear hTy hTt;have BX2 := BX1.below hb2;have hb02 : Below w.heap.size w w2 := hb01.trans (hb2.mono hb01.size);have b1 : w2.cell? ⟨w.heap.size,1,none⟩ = some (.slice am M cm) := BX2.cell 1;have hx2 : w.heap.size < w2.heap.size := BX2.lt;have hxY : w.heap.size < bY := Nat.lt_of_lt_of_le BX1.lt hbY;have hYn : bY < w2.heap.size := SetK.lt HTy.out;clear hb1 hb2 hb01 BX BX1 hba HWA HTO;go_wp2_with fail;clear hmm b1;have HM0 : SetS (w2.alloc (.map #[] 0)) w2.heap.size 0 ((ms.take 0).map MsS.name) := SetK.made 9 w2;have HTy0 : Hid (SetT (w2.alloc (.map #[] 0)) bY ny Ty) := SetK.below HTy.out ((Below.refl _ _).alloc (Nat.le_refl _) _);have hbel0 : Below w.heap.size w (w2.alloc (.map #[] 0)) := hb02.alloc (by omega) _;have BX0 : Blk (w2.alloc (.map #[] 0)) w.heap.size #[.string nm,.slice am M cm,.slice ae E ce,.slice at' T ct] 34 := BX2.below ((Below.refl _ _).alloc (Nat.le_refl _) _);obtain ⟨bn,hbn⟩ : ∃ n,w2.heap.size = n := ⟨_,rfl⟩;rw [hbn] at HM0 hYn hx2 ⊢;clear hbn HTy BX2 hb02;obtain ⟨P1,hP1⟩ : ∃ A,chkMs mn en [] ms = A := ⟨_,rfl⟩;have HP1 : Hid (P1 = chkMs mn en ((ms.take 0).map MsS.name) (ms.drop 0)) := hP1.symm
  have HCA : Hid (CA = orE (orE P1 (chkEs mn es)) (chkTs mn [] ts)) := by show _ = _; rw [HCA.out,hP1]
  clear hP1
  go_loopw [23] (fun iv wr => ∃ (k : Nat),iv = .int .i64 (k : Int) ∧ k ≤ M ∧ Hid (P1 = chkMs mn en ((ms.take k).map MsS.name) (ms.drop k)) ∧ Hid (SetS wr bn k ((ms.take k).map MsS.name)) ∧ Hid (SetT wr bY ny Ty) ∧ Below w.heap.size w wr ∧ Blk wr w.heap.size #[.string nm,.slice am M cm,.slice ae E ce,.slice at' T ct] 34) (fun iv _ => M - (intOf iv).toNat)
  case atStart => exact ⟨0,rfl,by omega,HP1,HM0,HTy0,hbel0,BX0⟩
  case round =>
   obtain ⟨k,rfl,hk,HP,HS,HTy,hbel,BX⟩ := hrel;clear HM0 HTy0 hbel0 BX0;have hbw : bn < wr.heap.size := SetK.lt HS.out
   by_cases hlt : k < M
   ·obtain ⟨m,hm⟩ : ∃ n,ms[k]? = some n := ⟨_,List.getElem?_eq_getElem (by rw [HNM.out]; exact hlt)⟩;obtain ⟨g,off,vf,vr,rfl,c0,c1,c2,hf,hrr⟩ := (HM.out.below hbel).get hm;have HFf : Hid (RowG wr vf 5 (flRows m.fields)) := hf;have HRr : Hid (RowG wr vr 1 (inRows m.reserved)) := hrr;obtain ⟨a3,c3,rfl,_,_⟩ := hf.form2;obtain ⟨a4,c4,rfl,_,_⟩ := hrr.form2;have hmem := List.mem_of_getElem? hm;have HWm : Hid (MsW m) := HW.out.msgs m hmem;have HFm : Hid (m.fields.length ≤ 30000 ∧ m.reserved.length ≤ 30000) := HF.out.flds m hmem
    have HP2 : Hid (P1 = chkMs mn en ((ms.take k).map MsS.name) (m :: ms.drop (k + 1))) := by show _ = _; rw [HP.out,drop_at hm]
    have HTK : Hid ((ms.take (k + 1)).map MsS.name = (ms.take k).map MsS.name ++ [m.name]) := by show _ = _; rw [take_at hm,List.map_append]; rfl
    obtain ⟨m0,mf,mr⟩ := m;simp only at c0 c1 c2 HTK HP2 HFm;have HFf : Hid (RowG wr (.slice a3 (flRows mf).length c3) 5 (flRows mf)) := HFf;have HRr : Hid (RowG wr (.slice a4 (inRows mr).length c4) 1 (inRows mr)) := HRr;have HNF : Hid (RowG wr (.slice a3 (flRows mf).length c3) 5 (flRows mf) ∧ RowG wr (.slice a4 (inRows mr).length c4) 1 (inRows mr)) := ⟨HFf.out,HRr.out⟩;generalize (flRows mf).length = nF at *;generalize (inRows mr).length = nR at *;clear hf hrr hm HP hmem HFf HRr;go_wp2_with fail;clear c0 c1 c2;have hba : Below wr.heap.size wr (wr.alloc (.cells #[.string m0,.slice a3 nF c3,.slice a4 nR c4] 41)) := (Below.refl _ _).alloc (Nat.le_refl _) _;refine (cmsg_any (HNF.out.1.below hba) (HNF.out.2.below hba) HFm.out.1 HFm.out.2 (SetK.below HS.out hba) (by omega) (SetK.below HTy.out hba) (by omega) HTT.out HWm.out).mono ?_;rintro e w3 ⟨rfl,hs3,hk3⟩;have HS3 : Hid _ := hs3;clear hs3;obtain ⟨X,hX⟩ : ∃ X,(if freshB m0 ((ms.take k).map MsS.name) = false then 6 else chkMb mn en ⟨m0,mf,mr⟩) = X := ⟨_,rfl⟩;rw [hX];have HX : Hid (X = if freshB m0 ((ms.take k).map MsS.name) = false then 6 else chkMb mn en ⟨m0,mf,mr⟩) := hX.symm;clear hX;have hb3 : Below w.heap.size w w3 := (hbel.alloc (by omega) _).trans (hk3.toBelow (by simp; omega) (fun k e => by omega))
    by_cases hx0 : X = 0
    ·subst hx0;obtain ⟨g1,g2⟩ := chkMs_on (m := ⟨m0,mf,mr⟩) (l := ms.drop (k + 1)) HX.out
     have HP3 : Hid (P1 = chkMs mn en ((ms.take (k + 1)).map MsS.name) (ms.drop (k + 1))) := by show _ = _; rw [HP2.out,g2,HTK.out]
     have HS4 : Hid (SetS w3 bn (k + 1) ((ms.take (k + 1)).map MsS.name)) := by show SetS _ _ _ _; rw [HTK.out]; exact HS3.out g1
     have HT4 : Hid (SetT w3 bY ny Ty) := SetK.kp (SetK.below HTy.out hba) hk3 (by omega);have BX4 := (BX.below hba).kp hk3 (by omega);clear g1 g2 HX HP2 HTK HS3 hba hk3 BX HS HTy hbel;go_wp2_with fail
     go_roundw
     case rel => exact ⟨k + 1,by go_num,by omega,HP3,HS4,HT4,hb3,BX4⟩
     case measure => simp [intOf]; omega
    ·have hx1 : (X == 0) = false := by simpa using hx0
     have HFin : Hid (X = CA) := by
      show _ = _
      rw [HCA.out,HP2.out,chkMs_err (m := ⟨m0,mf,mr⟩) HX.out hx0,orE_ne hx0,orE_ne hx0]
     go_wp2_with fail;go_ret;exact ⟨ret_int HFin.out,hb3⟩
   ·obtain rfl : k = M := by omega
    have hP0 : P1 = 0 := by rw [HP.out,drop_end (by rw [HNM.out]; omega)]; rfl
    obtain ⟨P2,hP2⟩ : ∃ A,chkEs mn es = A := ⟨_,rfl⟩
    have HP2 : Hid (P2 = chkEs (mn ++ (es.take 0).map EnS.name) (es.drop 0)) := by show _ = _; rw [List.take_zero,List.map_nil,List.append_nil,List.drop_zero]; exact hP2.symm
    have HCA : Hid (CA = orE P2 (chkTs mn [] ts)) := by show _ = _; rw [HCA.out,hP0,hP2,orE_zero]
    have HS0 : Hid (SetS wr bn (k + 0) (mn ++ (es.take 0).map EnS.name)) := by
     show SetS _ _ _ _
     have := HS.out;rw [List.take_of_length_le (by rw [HNM.out]; omega),← HMN.out] at this;rw [List.take_zero,List.map_nil,List.append_nil]; exact this
    have b2 : wr.cell? ⟨w.heap.size,2,none⟩ = some (.slice ae E ce) := BX.cell 2;clear HP hP0 hP2 HS HP1;go_wp2_with fail;clear b2
    go_loopw [38] (fun iv wr => ∃ (i : Nat),iv = .int .i64 (i : Int) ∧ i ≤ E ∧ Hid (P2 = chkEs (mn ++ (es.take i).map EnS.name) (es.drop i)) ∧ Hid (SetS wr bn (k + i) (mn ++ (es.take i).map EnS.name)) ∧ Hid (SetT wr bY ny Ty) ∧ Below w.heap.size w wr ∧ Blk wr w.heap.size #[.string nm,.slice am k cm,.slice ae E ce,.slice at' T ct] 34) (fun iv _ => E - (intOf iv).toNat)
    case atStart => exact ⟨0,rfl,by omega,HP2,HS0,HTy,hbel,BX⟩
    case round =>
     obtain ⟨i,rfl,hi,HP,HS,HTy,hbel,BX⟩ := hrel;clear HS0 HP2;have hbw : bn < wr.heap.size := SetK.lt HS.out
     by_cases hlt : i < E
     ·obtain ⟨m,hm⟩ : ∃ n,es[i]? = some n := ⟨_,List.getElem?_eq_getElem (by rw [HNE.out]; exact hlt)⟩;obtain ⟨g,off,vf,rfl,c0,c1,hf⟩ := (HE.out.below hbel).get hm;have HFf : Hid (RowG wr vf 2 (nmRows m.values)) := hf;obtain ⟨a3,c3,rfl,_,_⟩ := hf.form2;have hmem := List.mem_of_getElem? hm;have HWm : Hid (EnW m) := HW.out.enums m hmem;have HFm : Hid (m.values.length ≤ 30000) := HF.out.vals m hmem
      have HP2 : Hid (P2 = chkEs (mn ++ (es.take i).map EnS.name) (m :: es.drop (i + 1))) := by show _ = _; rw [HP.out,drop_at hm]
      have HTK : Hid (mn ++ (es.take (i + 1)).map EnS.name = (mn ++ (es.take i).map EnS.name) ++ [m.name]) := by show _ = _; rw [take_at hm,List.map_append,List.append_assoc]; rfl
      obtain ⟨m0,mf⟩ := m;simp only at c0 c1 HTK HP2 HFm;have HFf : Hid (RowG wr (.slice a3 (nmRows mf).length c3) 2 (nmRows mf)) := HFf;generalize (nmRows mf).length = nF at *;generalize mn ++ (es.take i).map EnS.name = AL at *;clear hf hm HP hmem;go_wp2_with fail;clear c0 c1;have hba : Below wr.heap.size wr (wr.alloc (.cells #[.string m0,.slice a3 nF c3] 25)) := (Below.refl _ _).alloc (Nat.le_refl _) _;refine (cenum_any (HFf.out.below hba) HFm.out (SetK.below HS.out hba) (by omega) HWm.out).mono ?_;rintro e w3 ⟨rfl,hs3,hk3⟩;have HS3 : Hid _ := hs3;clear hs3;obtain ⟨X,hX⟩ : ∃ X,(if freshB m0 AL = false then 6 else chkEb ⟨m0,mf⟩) = X := ⟨_,rfl⟩;rw [hX];have HX : Hid (X = if freshB m0 AL = false then 6 else chkEb ⟨m0,mf⟩) := hX.symm;clear hX;have hb3 : Below w.heap.size w w3 := (hbel.alloc (by omega) _).trans (hk3.toBelow (by simp; omega) (fun k e => by omega))
      by_cases hx0 : X = 0
      ·subst hx0;obtain ⟨g1,g2⟩ := chkEs_on (m := ⟨m0,mf⟩) (l := es.drop (i + 1)) HX.out
       have HP3 : Hid (P2 = chkEs (mn ++ (es.take (i + 1)).map EnS.name) (es.drop (i + 1))) := by show _ = _; rw [HP2.out,g2,HTK.out]
       have HS4 : Hid (SetS w3 bn (k + (i + 1)) (mn ++ (es.take (i + 1)).map EnS.name)) := by show SetS _ _ _ _; rw [HTK.out]; exact HS3.out g1
       have HT4 : Hid (SetT w3 bY ny Ty) := SetK.kp (SetK.below HTy.out hba) hk3 (by omega);have BX4 := (BX.below hba).kp hk3 (by omega);clear g1 g2 HX HP2 HTK HS3 hba hk3 BX HS HTy hbel HFf;go_wp2_with fail
       go_roundw
       case rel => exact ⟨i + 1,by go_num,by omega,HP3,HS4,HT4,hb3,BX4⟩
       case measure => simp [intOf]; omega
      ·have hx1 : (X == 0) = false := by simpa using hx0
       have HFin : Hid (X = CA) := by
        show _ = _
        rw [HCA.out,HP2.out,chkEs_err (m := ⟨m0,mf⟩) HX.out hx0,orE_ne hx0]
       go_wp2_with fail;go_ret;exact ⟨ret_int HFin.out,hb3⟩
     ·have hP0 : P2 = 0 := by rw [HP.out,drop_end (by rw [HNE.out]; omega)]; rfl
      have HFin : Hid (chkTs mn [] ts = CA) := by show _ = _; rw [HCA.out,hP0,orE_zero]
      have b3 : wr.cell? ⟨w.heap.size,3,none⟩ = some (.slice at' T ct) := BX.cell 3;clear hP0 HP HS;go_wp2_with fail;clear b3;refine (cmethods_any (HT.out.below hbel) HL3.out HTy.out HTT.out HW.out.meths).mono ?_;rintro e w3 ⟨rfl,hb3⟩;rw [HFin.out];go_wp2_with fail;go_ret;exact ⟨rfl,hbel.trans (hb3.mono hbel.size)⟩
 ·have hw1 : (WA == 0) = false := by simpa using hw0
  have HFin : Hid (WA = CA) := by show _ = _; rw [HCA.out,orE_ne hw0]
  go_enter Try.func13,Try.ntmps13
  go_wp2_with fail;refine (HWA.out _).mono ?_;rintro e w1 ⟨rfl,hb1⟩;have hb01 : Below w.heap.size w w1 := hba.trans (hb1.mono hba.size);go_wp2_with fail;go_ret;exact ⟨ret_int HFin.out,hb01⟩
theorem check_any {w : World} {v : Value} {s : ScS} (hr : ScIn w v s) (hw : ScW s) (hf : FewL s) :
  Calls Try.prog 13 #[v] w fun e w' => e = .returned (.int .i64 (checkA s)) ∧ Below w.heap.size w w' := check_may hr hw hf.may
end
end Go.Proofs.Ytdkolhfpfimeoab
