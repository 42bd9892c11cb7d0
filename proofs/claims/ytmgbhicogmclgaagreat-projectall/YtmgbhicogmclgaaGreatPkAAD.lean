/- Part 4 of what the proof stands on. -/
import Derived.Test.YtmgbhicogmclgaaGreatPkAAC
import Derived.DeepKeys4
namespace Go.Proofs.YtmgbhicogmclgaaGreat
set_option maxHeartbeats 8000000
set_option linter.unusedVariables false
set_option linter.unusedSimpArgs false
set_option maxRecDepth 20000
section
open Go.ChangeShapes Go.WideShapes Go.ChangeAt Go.RowKit Go.Maps
def SetK (k : TypeId) (w : World) (b n : Nat) (L : List Value) : Prop :=
 ∃ D : DataW Unit,w.ownsMap Tryz.prog k (unitElem (H := Unit)) b n D ∧ ∀ v kl,keyOf Tryz.prog k v = some kl → (Maps.has D kl = true ↔ v ∈ L)
theorem SetK.lt {k : TypeId} {w : World} {b n : Nat} {L : List Value} (h : SetK k w b n L) : b < w.heap.size := by obtain ⟨D,h1,_⟩ := h; exact h1.lt
theorem SetK.made (k : TypeId) (w : World) : SetK k (w.alloc (.map #[] 0)) w.heap.size 0 [] :=
 ⟨.map [],World.ownsMap_made w Tryz.prog k unitElem,fun v kl _ => by simp [Maps.has]⟩
theorem SetK.kp {k : TypeId} {S : Nat → Prop} {w w1 : World} {b n : Nat} {L : List Value} (h : SetK k w b n L) (hk : Kp S w w1) (hs : ¬ S b) : SetK k w1 b n L := by
 have hlt := h.lt;obtain ⟨D,⟨es,clock,hb,r⟩,h2⟩ := h;exact ⟨D,⟨es,clock,(hk.block b hlt hs).trans hb,r⟩,h2⟩
theorem SetK.below {k : TypeId} {w w1 : World} {b n : Nat} {L : List Value} (h : SetK k w b n L) (hk : Below w.heap.size w w1) : SetK k w1 b n L := h.kp (S := fun _ => False) (Kp.ofBelow hk) (fun e => e)
theorem SetK.put {k : TypeId} (K : Keyed Tryz.prog k) {w : World} {b n : Nat} {L : List Value} {D : DataW Unit} (hD : Maps.IsMap D) (h2 : ∀ v kl,keyOf Tryz.prog k v = some kl → (Maps.has D kl = true ↔ v ∈ L)) {v : Value} {kl : Lit} (hv : keyOf Tryz.prog k v = some kl) {u : DataW Unit}
  (h1 : w.ownsMap Tryz.prog k (unitElem (H := Unit)) b n (D.put kl u)) : SetK k w b n (L ++ [v]) := by
 refine ⟨_,h1,fun v' kl' hv' => ?_⟩
 by_cases e : kl' = kl
 ·subst e;have : v' = v := K.inj hv' hv;subst this;rw [Maps.has_put_same hD (K.key hv)]
  simp
 ·rw [Maps.has_put_other e,h2 v' kl' hv'];simp only [List.mem_append,List.mem_singleton]
  constructor
  ·exact .inl
  ·rintro (h | rfl)
   ·exact h
   ·rw [hv] at hv'; cases hv'; exact absurd rfl e
theorem SetK.ne {k : TypeId} {w : World} {b n : Nat} {L : List Value} (h : SetK k w b n L) {g : Nat} {p : Addr} {u : Value} (hc : w.cell? p = some u) (hg : p.block = g) : g ≠ b := by
 rintro rfl;obtain ⟨D,⟨es,clock,hb,_⟩,_⟩ := h;obtain ⟨q,off,sp⟩ := p;simp only at hg;subst hg
 simp [World.cell?,hb] at hc
theorem zeroU (w : World) : (zeroValue 129).run Tryz.prog w = .ok (.agg #[]) w := by kernel_rfl
def SetS (w : World) (b n : Nat) (L : List ByteArray) : Prop := SetK 9 w b n (L.map Value.string)
def SetI (w : World) (b n : Nat) (L : List Int) : Prop := SetK 3 w b n (L.map (Value.int .i64))
def tyV (p : Int × ByteArray) : Value := .agg #[.int .i64 p.1,.string p.2]
def SetT (w : World) (b n : Nat) (L : List (Int × ByteArray)) : Prop := SetK 54 w b n (L.map tyV)
theorem lawS : Keyed Tryz.prog 9 := string_keyed Tryz.underlying9
theorem lawI : Keyed Tryz.prog 3 := int_keyed Tryz.underlying3
theorem laidOutP : laidOutB Tryz.prog = true := by kernel_rfl
theorem lawT : Keyed Tryz.prog 54 := Keyed.of_law (deep_law_laid laidOutP (m := 3) (by omega) (of_decide_eq_true (by kernel_rfl)) (by kernel_rfl) (by kernel_rfl))
def I64 (n : Int) : Prop := -9223372036854775808 ≤ n ∧ n ≤ 9223372036854775807
theorem wf64 {n : Int} (h : I64 n) : (Lit.int .i64 n).wf = true := WalkArith.wf_i64 (by obtain ⟨h1,h2⟩ := h; omega)
theorem key_str {s : ByteArray} (h : s.size ≤ 140737488351232) : keyOf Tryz.prog 9 (.string s) = some (.string s.data.toList) :=
 WideMaps.keyOf_string_mk (P := Tryz.prog) (k := 9) Tryz.underlying9 (s := s) (by unfold maxLen; omega)
theorem key_int {n : Int} (h : I64 n) : keyOf Tryz.prog 3 (.int .i64 n) = some (.int .i64 n) :=
 keyOf_int_mk (P := Tryz.prog) (k := 3) Tryz.underlying3 (wf64 h)
theorem keyTypeT : Tryz.prog.keyType 54 = true := by kernel_rfl
theorem cellsT : Tryz.prog.cellsOf 54 = 2 := by kernel_rfl
theorem cellsI : Tryz.prog.cellsOf 3 = 1 := by kernel_rfl
theorem cellsS : Tryz.prog.cellsOf 9 = 1 := by kernel_rfl
theorem lits_int {m : Nat} {k : Int} (hk : I64 k) : Tryz.prog.keyLits (m + 1) 3 [.int .i64 k] = some [.int .i64 k] := by
 simp [Program.keyLits,Tryz.underlying3,wf64 hk]
theorem lits_str {m : Nat} {s : ByteArray} (hs : s.size ≤ 140737488351232) : Tryz.prog.keyLits (m + 1) 9 [.string s] = some [.string s.data.toList] := by
 have : s.size ≤ maxLen := by unfold maxLen; omega
 simp [Program.keyLits,Tryz.underlying9,this]
theorem lits_ty {m : Nat} {k : Int} {s : ByteArray} (hk : I64 k) (hs : s.size ≤ 140737488351232) : Tryz.prog.keyLits (m + 2) 54 [.int .i64 k,.string s] = some [.int .i64 k,.string s.data.toList] := by
 unfold Program.keyLits;simp only [Tryz.underlying54,cellsT]
 simp [cellsI,cellsS,lits_int hk,lits_str hs]
theorem key_ty {k : Int} {s : ByteArray} (hk : I64 k) (hs : s.size ≤ 140737488351232) : ∃ kl,keyOf Tryz.prog 54 (tyV (k,s)) = some kl := by
 obtain ⟨m,hm⟩ : ∃ m,Tryz.prog.types.size + 1 = m + 2 := ⟨Tryz.prog.types.size - 1,by have : 0 < Tryz.prog.types.size := of_decide_eq_true (by kernel_rfl); omega⟩
 have hf : (tyV (k,s)).formed Tryz.prog 54 = true := by simp [tyV,Value.formed,Tryz.underlying54,cellsT]
 unfold keyOf;rw [hm,show (tyV (k,s)).cells.toList = [.int .i64 k,.string s] from rfl,lits_ty hk hs,keyTypeT,hf];simp only [Tryz.underlying54];exact ⟨_,rfl⟩
theorem mem_str {s : ByteArray} {L : List ByteArray} : Value.string s ∈ L.map Value.string ↔ s ∈ L := by
 simp only [List.mem_map,Value.string.injEq,exists_eq_right]
theorem mem_int {s : Int} {L : List Int} : Value.int .i64 s ∈ L.map (Value.int .i64) ↔ s ∈ L := by
 simp only [List.mem_map,Value.int.injEq,true_and,exists_eq_right]
theorem mem_ty {s : Int × ByteArray} {L : List (Int × ByteArray)} : tyV s ∈ L.map tyV ↔ s ∈ L := by
 simp only [List.mem_map,tyV,Value.agg.injEq,Array.mk.injEq,List.cons.injEq,Value.int.injEq,Value.string.injEq,true_and,and_true]
 constructor
 ·rintro ⟨⟨a,b⟩,h1,h2,h3⟩; obtain ⟨c,d⟩ := s; simp only at h2 h3; subst h2 h3; exact h1
 ·intro h; exact ⟨s,h,rfl,rfl⟩
theorem SetS.has {w : World} {b n : Nat} {L : List ByteArray} {D : DataW Unit} (h2 : ∀ v kl,keyOf Tryz.prog 9 v = some kl → (Maps.has D kl = true ↔ v ∈ L.map Value.string)) {s : ByteArray} (hs : s.size ≤ 140737488351232) : Maps.has D (.string s.data.toList) = memB s L := by
 rw [Bool.eq_iff_iff,h2 _ _ (key_str hs),mem_str,memB_iff]
theorem SetI.has {w : World} {b n : Nat} {L : List Int} {D : DataW Unit} (h2 : ∀ v kl,keyOf Tryz.prog 3 v = some kl → (Maps.has D kl = true ↔ v ∈ L.map (Value.int .i64))) {s : Int} (hs : I64 s) : Maps.has D (.int .i64 s) = memI s L := by
 rw [Bool.eq_iff_iff,h2 _ _ (key_int hs),mem_int]
 simp [memI]
theorem has_str {w : World} {b n : Nat} {L : List ByteArray} (h : SetS w b n L) {s : ByteArray} (hs : s.size ≤ 140737488351232) :
  Calls Tryz.prog 121 #[.map (some b),.string s] w fun e w' => e = .returned (.bool (memB s L)) ∧ Below w.heap.size w w' := by
 obtain ⟨D,hown,h2⟩ := h;have HH : Hid (Maps.has D (.string s.data.toList) = memB s L) := SetS.has (w := w) (b := b) (n := n) h2 hs;have hkey := key_str hs;clear h2
 go_enter Tryz.func121,Tryz.ntmps121
 go_wp2_with (first
  | (at_lookup; refine wpList_lookup_own_unit _ rfl _ _ 88 rfl 9 129 lawS Tryz.underlying88 (zeroU _) b n D rfl hown _ _ rfl hkey ?_)
  | fail)
 go_ret;exact ⟨ret_bool HH.out,((Below.refl _ _).alloc (Nat.le_refl _) _)⟩
theorem has_int {w : World} {b n : Nat} {L : List Int} (h : SetI w b n L) {s : Int} (hs : I64 s) :
  Calls Tryz.prog 122 #[.map (some b),.int .i64 s] w fun e w' => e = .returned (.bool (memI s L)) ∧ Below w.heap.size w w' := by
 obtain ⟨D,hown,h2⟩ := h;have HH : Hid (Maps.has D (.int .i64 s) = memI s L) := SetI.has (w := w) (b := b) (n := n) h2 hs;have hkey := key_int hs;clear h2
 go_enter Tryz.func122,Tryz.ntmps122
 go_wp2_with (first
  | (at_lookup; refine wpList_lookup_own_unit _ rfl _ _ 133 rfl 3 129 lawI Tryz.underlying133 (zeroU _) b n D rfl hown _ _ rfl hkey ?_)
  | fail)
 go_ret;exact ⟨ret_bool HH.out,((Below.refl _ _).alloc (Nat.le_refl _) _)⟩
def memT (p : Int × ByteArray) (L : List (Int × ByteArray)) : Bool := L.any fun q => decide (p = q)
theorem memT_iff {p : Int × ByteArray} {L : List (Int × ByteArray)} : memT p L = true ↔ p ∈ L := by simp [memT]
theorem has_ty {w : World} {b n : Nat} {L : List (Int × ByteArray)} (h : SetT w b n L) {k : Int} {s : ByteArray} (hk : I64 k) (hs : s.size ≤ 140737488351232) :
  Calls Tryz.prog 74 #[.map (some b),.agg #[.int .i64 k,.string s]] w fun e w' => e = .returned (.bool (memT (k,s) L)) ∧ Below w.heap.size w w' := by
 obtain ⟨D,hown,h2⟩ := h;obtain ⟨kl,hkey⟩ := key_ty hk hs
 have HH : Hid (Maps.has D kl = memT (k,s) L) := by
  show _ = _
  rw [Bool.eq_iff_iff,h2 _ _ hkey,mem_ty,memT_iff]
 unfold tyV at hkey;simp only at hkey;clear h2
 go_enter Tryz.func74,Tryz.ntmps74
 go_wp2_with (first
  | (at_lookup; refine wpList_lookup_own_unit _ rfl _ _ 85 rfl 54 129 lawT Tryz.underlying85 (zeroU _) b n D rfl (hown.alloc _) _ _ rfl hkey ?_)
  | fail)
 go_ret;exact ⟨ret_bool HH.out,((Below.refl _ _).alloc (Nat.le_refl _) _).alloc (by simp) _⟩
theorem add_str {w : World} {b n : Nat} {L : List ByteArray} (h : SetS w b n L) {s : ByteArray} (hs : s.size ≤ 140737488351232) (hn : n < 1000000) :
  Calls Tryz.prog 103 #[.map (some b),.string s] w fun e w' => e = .returned (.bool (!memB s L)) ∧ (memB s L = false → SetS w' b (n + 1) (L ++ [s])) ∧ Kp (fun k => k = b) w w' := by
 have HS : Hid (SetS w b n L) := h;clear h;have hkey := key_str hs
 cases hm : memB s L
 ·go_enter Tryz.func103,Tryz.ntmps103
  go_wp2_with fail;refine (has_str HS.out hs).mono ?_;rintro e w1 ⟨rfl,hb1⟩;rw [hm];obtain ⟨D,hown,h2⟩ := HS.out.below hb1;have H2 : Hid _ := h2;clear h2
  go_wp2_with (first
   | (at_mapUpdate; refine wpList_mapUpdate_own _ rfl _ _ _ 88 rfl 9 129 lawS Tryz.underlying88 (unitElem (H := Unit)) b n _ rfl hown (by unfold maxLen; omega) _ _ _ rfl rfl hkey _ [] unitElem_mk ?_; intro w2 hown1 hgrow1)
   | fail)
  go_ret;refine ⟨rfl,fun _ => ?_,(Kp.ofBelow hb1).grown hgrow1 (fun k hk _ => by cases hk; rfl)⟩;have := SetK.put lawS hown.isMap H2.out hkey hown1;unfold SetS;rw [List.map_append];exact this
 ·go_enter Tryz.func103,Tryz.ntmps103
  go_wp2_with fail;refine (has_str HS.out hs).mono ?_;rintro e w1 ⟨rfl,hb1⟩;rw [hm];go_wp2_with fail;go_ret;exact ⟨rfl,(fun e => by cases e),Kp.ofBelow hb1⟩
theorem add_int {w : World} {b n : Nat} {L : List Int} (h : SetI w b n L) {s : Int} (hs : I64 s) (hn : n < 1000000) :
  Calls Tryz.prog 104 #[.map (some b),.int .i64 s] w fun e w' => e = .returned (.bool (!memI s L)) ∧ (memI s L = false → SetI w' b (n + 1) (L ++ [s])) ∧ Kp (fun k => k = b) w w' := by
 have HS : Hid (SetI w b n L) := h;clear h;have hkey := key_int hs
 cases hm : memI s L
 ·go_enter Tryz.func104,Tryz.ntmps104
  go_wp2_with fail;refine (has_int HS.out hs).mono ?_;rintro e w1 ⟨rfl,hb1⟩;rw [hm];obtain ⟨D,hown,h2⟩ := HS.out.below hb1;have H2 : Hid _ := h2;clear h2
  go_wp2_with (first
   | (at_mapUpdate; refine wpList_mapUpdate_own _ rfl _ _ _ 133 rfl 3 129 lawI Tryz.underlying133 (unitElem (H := Unit)) b n _ rfl hown (by unfold maxLen; omega) _ _ _ rfl rfl hkey _ [] unitElem_mk ?_; intro w2 hown1 hgrow1)
   | fail)
  go_ret;refine ⟨rfl,fun _ => ?_,(Kp.ofBelow hb1).grown hgrow1 (fun k hk _ => by cases hk; rfl)⟩;have := SetK.put lawI hown.isMap H2.out hkey hown1;unfold SetI;rw [List.map_append];exact this
 ·go_enter Tryz.func104,Tryz.ntmps104
  go_wp2_with fail;refine (has_int HS.out hs).mono ?_;rintro e w1 ⟨rfl,hb1⟩;rw [hm];go_wp2_with fail;go_ret;exact ⟨rfl,(fun e => by cases e),Kp.ofBelow hb1⟩
theorem newname_any {w : World} {b n : Nat} {L : List ByteArray} (h : SetS w b n L) {s : ByteArray} (hs : s.size ≤ 140737488351232) (hn : n < 1000000) :
  Calls Tryz.prog 68 #[.map (some b),.string s] w fun e w' => e = .returned (.bool (freshB s L)) ∧ (freshB s L = true → SetS w' b (n + 1) (L ++ [s])) ∧ Kp (fun k => k = b) w w' := by
 have HS : Hid (SetS w b n L) := h;clear h
 cases hm : nameB s
 ·have HF : Hid (false = freshB s L) := by show _ = _; unfold freshB; rw [hm]; rfl
  go_enter Tryz.func68,Tryz.ntmps68
  go_wp2_with fail;refine (name_any s _ hs).mono ?_;rintro e w1 ⟨rfl,hb1⟩;rw [hm];go_wp2_with fail;go_ret;exact ⟨ret_bool HF.out,(fun e => by rw [← HF.out] at e; cases e),Kp.ofBelow hb1⟩
 ·have HF : Hid ((!memB s L) = freshB s L) := by show _ = _; unfold freshB; rw [hm]; rfl
  go_enter Tryz.func68,Tryz.ntmps68
  go_wp2_with fail;refine (name_any s _ hs).mono ?_;rintro e w1 ⟨rfl,hb1⟩;rw [hm];go_wp2_with fail;refine (add_str (SetK.below HS.out hb1) hs hn).mono ?_;rintro e w2 ⟨rfl,h2,hk2⟩;have H2 : Hid _ := h2;clear h2;go_wp2_with fail;go_ret;exact ⟨ret_bool HF.out,(fun e => H2.out (by rw [← HF.out] at e; simpa using e)),(Kp.ofBelow hb1).trans hk2⟩
theorem newtag_any {w : World} {b n : Nat} {L : List Int} (h : SetI w b n L) {s : Int} (hs : I64 s) (hn : n < 1000000) :
  Calls Tryz.prog 69 #[.map (some b),.int .i64 s] w fun e w' => e = .returned (.bool (tagB s L)) ∧ (tagB s L = true → SetI w' b (n + 1) (L ++ [s])) ∧ Kp (fun k => k = b) w w' := by
 have HS : Hid (SetI w b n L) := h;clear h
 by_cases h1 : 1 ≤ s
 ·by_cases h5 : s ≤ 500
  ·have HF : Hid ((!memI s L) = tagB s L) := by show _ = _; unfold tagB tagR; rw [decide_eq_true (And.intro h1 h5)]; rfl
   go_enter Tryz.func69,Tryz.ntmps69
   go_wp2_with fail;refine (add_int HS.out hs hn).mono ?_;rintro e w2 ⟨rfl,h2,hk2⟩;have H2 : Hid _ := h2;clear h2;go_wp2_with fail;go_ret;exact ⟨ret_bool HF.out,(fun e => H2.out (by rw [← HF.out] at e; simpa using e)),hk2⟩
  ·have hd : decide (s ≤ 500) = false := by simpa using h5
   have HF : Hid (false = tagB s L) := by show _ = _; unfold tagB tagR; rw [decide_eq_false (fun e => h5 e.2)]; rfl
   go_enter Tryz.func69,Tryz.ntmps69
   go_wp2_with fail;go_ret;exact ⟨ret_bool HF.out,(fun e => by rw [← HF.out] at e; cases e),Kp.refl _ _⟩
 ·have hd : decide (1 ≤ s) = false := by simpa using h1
  have HF : Hid (false = tagB s L) := by show _ = _; unfold tagB tagR; rw [decide_eq_false (fun e => h1 e.1)]; rfl
  go_enter Tryz.func69,Tryz.ntmps69
  go_wp2_with fail;go_ret;exact ⟨ret_bool HF.out,(fun e => by rw [← HF.out] at e; cases e),Kp.refl _ _⟩
theorem RowG.kpM {S : Nat → Prop} {w w1 : World} {v : Value} {size : Nat} {rs : List (List Value)} (h : RowG w v size rs) (hk : Kp S w w1) (hs : ∀ p u,w.cell? p = some u → ¬ S p.block) : RowG w1 v size rs := by
 obtain ⟨a,cap,h1,h2,h3,h0,h4⟩ := h.form;refine ⟨a,cap,h1,h2,h3,h0,fun hne => ?_⟩;obtain ⟨g,off,h5,h6⟩ := h4 hne;exact ⟨g,off,h5,fun i c u j hc hu => hk.cell (h6 i c u j hc hu) (hs _ _ (h6 i c u j hc hu))⟩
theorem SetK.no {k : TypeId} {w : World} {b n : Nat} {L : List Value} (h : SetK k w b n L) : ∀ p u,w.cell? p = some u → ¬ p.block = b := fun p u hc => h.ne hc rfl
theorem Kp.new {S : Nat → Prop} {w wr w1 : World} {b : Nat} (h : Kp S w wr) (h1 : Kp (fun k => k = b) wr w1) (hb : w.heap.size ≤ b) : Kp S w w1 := h.trans2 h1 (fun i hi e => by omega)
def FlW (f : FlS) : Prop := f.name.size ≤ 140737488351232 ∧ f.tname.size ≤ 140737488351232 ∧ I64 f.tag ∧ I64 f.label ∧ I64 f.kind
def NmW (f : NmS) : Prop := f.name.size ≤ 140737488351232 ∧ I64 f.n
def MtW (f : MtS) : Prop := f.name.size ≤ 140737488351232 ∧ f.inn.size ≤ 140737488351232 ∧ f.out.size ≤ 140737488351232
def MsW (m : MsS) : Prop := m.name.size ≤ 140737488351232 ∧ (∀ f ∈ m.fields,FlW f) ∧ ∀ n ∈ m.reserved,I64 n
def EnW (m : EnS) : Prop := m.name.size ≤ 140737488351232 ∧ ∀ f ∈ m.values,NmW f
structure ScW (s : ScS) : Prop where
 name : s.name.size ≤ 140737488351232
 msgs : ∀ m ∈ s.msgs,MsW m
 enums : ∀ m ∈ s.enums,EnW m
 meths : ∀ m ∈ s.methods,MtW m
theorem islabel_any (n : Int) (w : World) : Calls Tryz.prog 105 #[.int .i64 n] w fun e w' => e = .returned (.bool (labB n)) ∧ w' = w := by
 by_cases h1 : n = 1
 ·subst h1
  go_enter Tryz.func105,Tryz.ntmps105
  go_wp2_with fail;go_ret;exact ⟨rfl,rfl⟩
 ·by_cases h2 : n = 2
  ·subst h2
   go_enter Tryz.func105,Tryz.ntmps105
   go_wp2_with fail;go_ret;exact ⟨rfl,rfl⟩
  ·by_cases h3 : n = 3
   ·subst h3
    go_enter Tryz.func105,Tryz.ntmps105
    go_wp2_with fail;go_ret;exact ⟨rfl,rfl⟩
   ·have HF : Hid (false = labB n) := by show _ = _; unfold labB; rw [decide_eq_false (by omega)]
    have e1 : (n == 1) = false := by simpa using h1
    have e2 : (n == 2) = false := by simpa using h2
    have e3 : (n == 3) = false := by simpa using h3
    go_enter Tryz.func105,Tryz.ntmps105
    go_wp2_with fail;go_ret;exact ⟨ret_bool HF.out,rfl⟩
theorem msgtype_any (s : ByteArray) (w : World) : Calls Tryz.prog 67 #[.string s] w fun e w' => e = .returned (.agg #[.int .i64 7,.string s]) ∧ Below w.heap.size w w' := by
 go_enter Tryz.func67,Tryz.ntmps67
 go_wp2_with fail;refine bodyPost_ret (v := .agg #[.int .i64 7,.string s]) (by simp [results,Tryz.results67,go_sem]) rfl ⟨rfl,?_⟩;exact (Below.refl _ _).alloc (Nat.le_refl _) _
theorem iszero_any (s : ByteArray) (n : Int) (w : World) : Calls Tryz.prog 72 #[.agg #[.string s,.int .i64 n]] w fun e w' => e = .returned (.bool (decide (n = 0))) ∧ Below w.heap.size w w' := by
 have HE : Hid ((n == 0) = decide (n = 0)) := rfl
 go_enter Tryz.func72,Tryz.ntmps72
 go_wp2_with fail;go_ret;exact ⟨ret_bool HE.out,(Below.refl _ _).alloc (Nat.le_refl _) _⟩
def zeroM : MsS := ⟨⟨#[]⟩,[],[]⟩
def zeroN : EnS := ⟨⟨#[]⟩,[]⟩
def zeroF : FlS := ⟨⟨#[]⟩,0,0,0,⟨#[]⟩⟩
def flV (m : FlS) : Value := .agg #[.string m.name,.int .i64 m.tag,.int .i64 m.label,.int .i64 m.kind,.string m.tname]
theorem ret_two {a b c d : Value} (h1 : a = c) (h2 : b = d) : Ending.returned (.tuple #[a,b]) = .returned (.tuple #[c,d]) := by rw [h1,h2]
theorem bytes_ne {a b : ByteArray} (h : ¬ a = b) : (a.toList == b.toList) = false := by
 rw [ByteArray.toList_eq,ByteArray.toList_eq,beq_bytes]; exact decide_eq_false h
end
section
open Go.ChangeShapes Go.WideShapes Go.ChangeAt Go.RowKit
theorem Kp.sm {S : Nat → Prop} {w w' : World} {bs : List Nat} (h : Kp S w w') (hb : ∀ k ∈ bs,k < w.heap.size ∧ ¬ S k) : Sm w w' bs := fun k hk => h.block k (hb k hk).1 (hb k hk).2
theorem Apt.right {B : Nat} {w : World} {a b : List Nat} (h : Apt B w (a ++ b)) : Apt B w b := h.of_count fun k => by simp only [List.count_append]; omega
theorem push_row {α : Type} {P : World → List Value → α → List Nat → Prop} {B e size bytes : Nat} {W : World} {v : Value} {xs : List α} {rows : List (List Value)} {bss : List (List Nat)} {r : List Value} {x : α} {b more : List Nat} {bz : Nat} {t : TypeId} {z : Value}
  (ht : Tryz.prog.underlying t = some (.slice e)) (hinfo : (Tryz.prog.info? e).map (fun i => (i.zero,i.size,i.bytes)) = some (some z,size,bytes)) (hzs : z.cells.size = size) (hsz : 0 < size) (hrow : RowO P B e size W v xs rows bss) (hap : Apt B W (more ++ (allB v bss ++ b))) (hP : P W r x b) (hr : r.length = size) (h1 : ∀ u ∈ r,u.oneCell' = true)
  (loc : ∀ w' r x b,P W r x b → Sm W w' b → P w' r x b) (BE : Blk W bz r.toArray e) (hn : xs.length ≤ 1000) (hby : bytes ≤ 1000) (hB : B ≤ W.heap.size) :
  ∃ v' W',(Builtin.append_ #[t,t] t #[v,.slice (some ⟨bz,0,none⟩) 1 1]).run Tryz.prog W = .ok v' W' ∧ RowO P B e size W' v' (xs ++ [x]) (rows ++ [r]) (bss ++ [b]) ∧ Apt B W' (more ++ allB v' (bss ++ [b])) ∧ (∃ a c,v' = .slice a (xs.length + 1) c) ∧ Kp (fun q => q ∈ blkOf v) W W' := by
 obtain ⟨i0,hi0,hz0,hz1,hz2⟩ := info_parts hinfo
 obtain ⟨v',W',r1,r2,r3,_,r5⟩ := run_append_own_at W B t t e i0 z size bytes ht hi0 hz0 hz1 hz2 hzs hsz v xs.length _ hrow.own ⟨bz,0,none⟩ 1 1 r (by rw [hr,Nat.one_mul]) (fun j u hu => by
  have := BE.cell j;rw [Addr.add_lit,Nat.zero_add,this]
  simpa using hu) h1 (by unfold maxLen; omega) (by
   have : (xs.length + 1) * bytes ≤ 1001 * 1000 := Nat.mul_le_mul (by omega) hby
   omega) hB
 obtain ⟨a,c,hv⟩ := own_form r2;refine ⟨v',W',r1,hrow.push hap.right r2 r3 hP hr (fun r x b hp hs => loc W' r x b hp hs),hap.push r5 r2 r3.size hB,⟨a,c,hv⟩,?_⟩;exact (Kp.refl _ _).grown r3 (fun k hk _ => mem_blkOf.2 hk)
section
variable {n b0 bt bm ba be bf : Nat} {SC MC LC : Array Value} {tg : Int} {a : Nat} {ve : Value} {es : List (Int × List Tr)} {rows : List (List Value)} {bss : List (List Nat)} {vt : Value} {ts : List Tr} {rows' : List (List Value)} {bss' : List (List Nat)} {w w' : World}
end
theorem own_push {B e size bytes : Nat} {W : World} {v : Value} {n : Nat} {rows : List (List Value)} {r : List Value} {bz : Nat} {t : TypeId} {z : Value}
  (ht : Tryz.prog.underlying t = some (.slice e)) (hinfo : (Tryz.prog.info? e).map (fun i => (i.zero,i.size,i.bytes)) = some (some z,size,bytes)) (hzs : z.cells.size = size) (hsz : 0 < size) (how : W.ownsRow B e size v n rows.flatten) (hr : r.length = size) (h1 : ∀ u ∈ r,u.oneCell' = true)
  (BE : Blk W bz r.toArray e) (hn : n ≤ 1000) (hby : bytes ≤ 1000) (hB : B ≤ W.heap.size) :
  ∃ a c W',(Builtin.append_ #[t,t] t #[v,.slice (some ⟨bz,0,none⟩) 1 1]).run Tryz.prog W = .ok (.slice a (n + 1) c) W' ∧ W'.ownsRow B e size (.slice a (n + 1) c) (n + 1) (rows ++ [r]).flatten ∧ Kp (fun q => v.ownBlock = some q) W W' ∧ ((Value.slice a (n + 1) c).ownBlock = v.ownBlock ∨ (Value.slice a (n + 1) c).ownBlock = some W.heap.size) := by
 obtain ⟨i0,hi0,hz0,hz1,hz2⟩ := info_parts hinfo
 obtain ⟨v',W',r1,r2,r3,_,r5⟩ := run_append_own_at W B t t e i0 z size bytes ht hi0 hz0 hz1 hz2 hzs hsz v n _ how ⟨bz,0,none⟩ 1 1 r (by rw [hr,Nat.one_mul]) (fun j u hu => by
  have := BE.cell j;rw [Addr.add_lit,Nat.zero_add,this]
  simpa using hu) h1 (by unfold maxLen; omega) (by
   have : (n + 1) * bytes ≤ 1001 * 1000 := Nat.mul_le_mul (by omega) hby
   omega) hB
 obtain ⟨a,c,rfl⟩ := own_form r2;refine ⟨a,c,W',r1,by rw [List.flatten_append]; simpa using r2,?_,r5⟩;exact (Kp.refl _ _).grown r3 (fun k hk _ => hk)
theorem p5_chunk : ∀ (n : Nat) (cs : List Value),cs.length = n * 5 → ∃ rows : List (List Value),rows.flatten = cs ∧ rows.length = n ∧ ∀ r ∈ rows,r.length = 5
 | 0,cs,h => ⟨[],by simp at h; simp [h],rfl,by simp⟩
 | n + 1,cs,h => by
  obtain ⟨rows,h1,h2,h3⟩ := p5_chunk n (cs.drop 5) (by rw [List.length_drop]; omega);refine ⟨cs.take 5 :: rows,by rw [List.flatten_cons,h1,List.take_append_drop],by simp [h2],fun r hr => ?_⟩
  rcases List.mem_cons.1 hr with rfl | hr
  ·rw [List.length_take]; omega
  ·exact h3 r hr
theorem p5_cells {w : World} {B ty g n cap : Nat} {rows : List (List Value)} (h : w.ownsRow B ty 5 (.slice (some ⟨g,0,none⟩) n cap) n rows.flatten) (hl : ∀ r ∈ rows,r.length = 5) {j : Nat} (hj : j < rows.length) :
  ∃ v0 v1 v2 v3 v4,w.cell? ⟨g,j * 5,none⟩ = some v0 ∧ w.cell? ⟨g,j * 5 + 1,none⟩ = some v1 ∧ w.cell? ⟨g,j * 5 + 2,none⟩ = some v2 ∧ w.cell? ⟨g,j * 5 + 3,none⟩ = some v3 ∧ w.cell? ⟨g,j * 5 + 4,none⟩ = some v4 ∧ (∀ k,w.frozen? ⟨g,k,none⟩ = false) := by
 obtain ⟨r',hr'⟩ : ∃ r,rows[j]? = some r := ⟨_,List.getElem?_eq_getElem hj⟩;have h5' := hl r' (List.mem_of_getElem? hr')
 have hcell : ∀ k u,r'[k]? = some u → w.cell? ⟨g,j * 5 + k,none⟩ = some u := fun k u hu => by
  have := h.cells (g := g) rfl (j * 5 + k) u (flat_get rows hl j _ hr' k u hu)
  rwa [Addr.add_lit,Nat.zero_add] at this
 match r',h5',hcell with
 | [x0,x1,x2,x3,x4],_,hcell => exact ⟨x0,x1,x2,x3,x4,hcell 0 _ rfl,hcell 1 _ rfl,hcell 2 _ rfl,hcell 3 _ rfl,hcell 4 _ rfl,fun k => h.frozenAt k⟩
structure MsP (n bt : Nat) (F : Nat → Prop) (ve : Value) (es : List (Int × List Tr)) (w : World) : Prop where
 blk : Blk w bt #[.int .i64 3,.int .i64 0,.string ⟨#[]⟩,ve,.slice none 0 0] 30
 row : ∃ rows : List (List Value),w.ownsRow (bt + 1) 69 2 ve es.length rows.flatten ∧ rows.length = es.length ∧ (∀ r ∈ rows,r.length = 2) ∧ ∀ (i : Nat) (e : Int × List Tr),es[i]? = some e → ∃ vt,rows[i]? = some [.int .i64 e.1,vt] ∧ Is64 e.1 ∧ SeeL n w vt e.2 F
 free : ∀ k,ve.ownBlock = some k → ¬ F k
 bfree : ¬ F bt
theorem is64_lit3 : Is64 3 := by constructor <;> decide
theorem is64_lit0 : Is64 0 := by constructor <;> decide
section
variable {n bt b : Nat} {F G S : Nat → Prop} {ve vt : Value} {es : List (Int × List Tr)} {w w0 w1 W0 : World} {s : ScS}
theorem MsP.nil (hb : Blk w bt #[.int .i64 3,.int .i64 0,.string ⟨#[]⟩,.slice none 0 0,.slice none 0 0] 30) (hf : ¬ F bt) : MsP n bt F (.slice none 0 0) [] w := ⟨hb,⟨[],World.ownsRow_nil _ _ _ _,rfl,(fun r hr => by cases hr),fun i e h => by simp at h⟩,(fun k h => by cases h),hf⟩
theorem MsP.size (h : MsP n bt F ve es w) : bt < w.heap.size := h.blk.lt
theorem MsP.kp (h : MsP n bt F ve es w) (hk : Kp S w w1) (h1 : ¬ S bt) (h2 : ∀ k,ve.ownBlock = some k → ¬ S k) (h3 : ∀ k,F k → k < w.heap.size ∧ ¬ S k) (hs : ∀ k,F k → G k) (hg : ∀ k,G k → F k ∨ w.heap.size ≤ k) : MsP n bt G ve es w1 := by
 obtain ⟨rows,r1,r2,r3,r4⟩ := h.row;have hst : Stay F w w1 := Stay.kp hk (fun k e => (h3 k e).1) fun k e => (h3 k e).2
 refine ⟨h.blk.kp hk h1,⟨rows,own_kpT2 r1 hk fun k e1 e2 => h2 k e2 e1,r2,r3,fun i e he => ?_⟩,fun k e hgk => ?_,fun hgb => ?_⟩
 ·obtain ⟨vt,g1,g2,g3⟩ := r4 i e he;exact ⟨vt,g1,g2,(g3.stay hst).more hs⟩
 ·rcases hg k hgk with h4 | h4
  ·exact h.free k e h4
  ·have := (own_lt r1 e).2; omega
 ·rcases hg bt hgb with h4 | h4
  ·exact h.bfree h4
  ·have := h.size; omega
where
 own_kpT2 {S : Nat → Prop} {w w' : World} {base e s n : Nat} {v : Value} {xs : List Value} (h : w.ownsRow base e s v n xs) (hk : Kp S w w') (hs : ∀ k,S k → v.ownBlock ≠ some k) : w'.ownsRow base e s v n xs := by
  refine ⟨h.1,h.2.imp id ?_⟩;rintro ⟨g,cap,cur,rfl,h1,h2,h3⟩;exact ⟨g,cap,cur,rfl,h1,(hk.block g (Array.getElem?_eq_some_iff.1 h2).1 (fun e => hs g e rfl)).trans h2,h3⟩
theorem MsP.below (h : MsP n bt F ve es w) (hb : Below w.heap.size w w1) (hf : ∀ k,F k → k < w.heap.size) : MsP n bt F ve es w1 := h.kp (S := fun _ => False) (Kp.ofBelow hb) (fun e => e) (fun _ _ e => e) (fun k e => ⟨hf k e,fun e => e⟩) (fun _ e => e) fun _ e => .inl e
theorem MsP.call (h : MsP n bt F ve es w) (hK : KnP s W0 w b F) (hk : Kp (fun q => q = b) w w1) (hs : ∀ k,F k → G k) (hg : ∀ k,G k → F k ∨ w.heap.size ≤ k) : MsP n bt G ve es w1 := by
 refine h.kp hk (fun e => hK.neB h.blk e) (fun k e1 e2 => ?_) (fun k e => ⟨(hK.new k e).2,fun e2 => hK.nb (e2 ▸ e)⟩) hs hg;obtain ⟨rows,r1,_⟩ := h.row
 rcases r1.2 with ⟨rfl,_⟩ | ⟨g,cap,cur,rfl,g1,g2,_⟩
 ·cases e1
 ·obtain rfl : g = k := by simpa [Value.ownBlock] using e1
  exact hK.neB g2 e2
theorem MsP.push {tag : Int} {ts : List Tr} {bz : Nat} (h : MsP n bt F ve es w) (hK : KnP s W0 w b F) (hbt : W0.heap.size ≤ bt) (hx : SeeL n w vt ts F) (h64 : Is64 tag) (BZ : Blk w bz #[.int .i64 tag,vt] 69) (hv : vt.oneCell' = true) (hn : es.length ≤ 1000) :
  ∃ a c W',(Builtin.append_ #[27,27] 27 #[ve,.slice (some ⟨bz,0,none⟩) 1 1]).run Tryz.prog w = .ok (.slice a (es.length + 1) c) W' ∧ Blk W' bt #[.int .i64 3,.int .i64 0,.string ⟨#[]⟩,ve,.slice none 0 0] 30 ∧
   MsP n bt F (.slice a (es.length + 1) c) (es ++ [(tag,ts)]) (W'.setCell ⟨bt,3,none⟩ (.slice a (es.length + 1) c)) ∧ KnP s W0 (W'.setCell ⟨bt,3,none⟩ (.slice a (es.length + 1) c)) b F ∧ Kp (fun q => bt ≤ q ∧ ¬ F q ∧ q ≠ b) w (W'.setCell ⟨bt,3,none⟩ (.slice a (es.length + 1) c)) ∧ Kp (fun q => bt < q) w W' := by
 have hb := h.size;obtain ⟨rows,r1,r2,r3,r4⟩ := h.row
 obtain ⟨a,c,W',p1,p2,p3,p4⟩ := own_push (bytes := 32) (t := 27) Tryz.underlying27 infoEt rfl (by decide) r1 (r := [.int .i64 tag,vt]) rfl (fun u hu => by
  simp only [List.mem_cons,List.not_mem_nil,or_false] at hu
  rcases hu with rfl | rfl
  ·rfl
  ·exact hv) BZ hn (by decide) hb
 have hbv : ∀ k,ve.ownBlock = some k → bt + 1 ≤ k := fun k hk => (own_lt r1 hk).1
 have hvb : ∀ k,ve.ownBlock = some k → k ≠ b := fun k hk => by
  rcases r1.2 with ⟨rfl,_⟩ | ⟨g,cap,cur,rfl,g1,g2,_⟩
  ·cases hk
  ·obtain rfl : g = k := by simpa [Value.ownBlock] using hk
   exact hK.neB g2
 have hk1 : Kp (fun q => bt ≤ q ∧ ¬ F q ∧ q ≠ b) w W' := p3.weak fun q _ hq => ⟨by have := hbv q hq; omega,h.free q hq,hvb q hq⟩
 have hk2 : Kp (fun q => bt ≤ q ∧ ¬ F q ∧ q ≠ b) w (W'.setCell ⟨bt,3,none⟩ (.slice a (es.length + 1) c)) := Kp.setCell hk1 (fun _ => ⟨Nat.le_refl _,h.bfree,fun e => hK.neB h.blk e⟩) _;have B' := h.blk.kp p3 (fun e => by have := hbv _ e; omega);have k5 : Kp (fun q => q = bt) W' (W'.setCell ⟨bt,3,none⟩ (.slice a (es.length + 1) c)) := Kp.setCell (S := fun q => q = bt) (p := ⟨bt,3,none⟩) (Kp.refl _ _) (fun _ => rfl) _;have hst : Stay F w (W'.setCell ⟨bt,3,none⟩ (.slice a (es.length + 1) c)) := Stay.kp hk2 (fun k e => (hK.new k e).2) fun k e h => h.2.1 e
 refine ⟨a,c,W',p1,B',⟨B'.set 3 _ rfl,⟨rows ++ [[.int .i64 tag,vt]],?_,by simp [r2],fun r hr => ?_,fun i e he => ?_⟩,fun k e hf => ?_,h.bfree⟩,?_,hk2,p3.weak fun q _ hq => by have := hbv q hq; omega⟩
 ·rw [List.length_append];refine MsP.kp.own_kpT2 p2 k5 fun k e1 e2 => ?_
  subst e1;have := (own_lt p2 e2).1
  omega
 ·rcases List.mem_append.1 hr with hr | hr
  ·exact r3 r hr
  ·obtain rfl := List.mem_singleton.1 hr; rfl
 ·by_cases hi : i < es.length
  ·rw [List.getElem?_append_left hi] at he;obtain ⟨vt',g1,g2,g3⟩ := r4 i e he;exact ⟨vt',by rw [List.getElem?_append_left (by omega)]; exact g1,g2,g3.stay hst⟩
  ·rw [List.getElem?_append_right (by omega)] at he
   have hi0 : i - es.length = 0 := by
    cases hj : i - es.length with
    | zero => rfl
    | succ j => rw [hj] at he; simp at he
   rw [hi0] at he
   obtain rfl : (tag,ts) = e := by simpa using he
   exact ⟨vt,by rw [List.getElem?_append_right (by omega),r2,hi0]; rfl,h64,hx.stay hst⟩
 ·rcases p4 with p4 | p4
  ·exact h.free k (p4 ▸ e) hf
  ·rw [p4] at e;have := (hK.new k hf).2;simp only [Option.some.injEq] at e
   omega
 ·exact hK.kp hk2 (fun k e => Nat.le_trans hbt e.1) (fun e => e.2.2 rfl) fun k e h => h.2.1 e
theorem MsP.done (h : MsP n bt F ve es w) (hb : ∀ k,F k → W0.heap.size ≤ k ∧ k < w.heap.size) (hbt : W0.heap.size ≤ bt) : SeeG (n + 1) w [.int .i64 3,.int .i64 0,.string ⟨#[]⟩,ve,.slice none 0 0] ⟨3,0,⟨#[]⟩,es,[]⟩ (fun k => F k ∨ ve.ownBlock = some k) ∧ (∀ k,(F k ∨ ve.ownBlock = some k) → W0.heap.size ≤ k ∧ k < w.heap.size) := by
 obtain ⟨rows,r1,r2,r3,r4⟩ := h.row;refine ⟨fun w' hw' => ?_,fun k hk => ?_⟩
 ·have r1' : w'.ownsRow (bt + 1) 69 2 ve es.length rows.flatten := by
   refine ⟨r1.1,r1.2.imp id ?_⟩;rintro ⟨g,cap,cur,rfl,g1,g2,g3⟩;exact ⟨g,cap,cur,rfl,g1,(hw' g (.inr rfl)).trans g2,g3⟩
  refine ⟨ve,.slice none 0 0,rfl,is64_lit3,is64_lit0,(by show (0 : Nat) ≤ _; omega),(fun f hf => by cases hf),RowG.nil _ _,⟨rows,(RowG.own r3 (by decide) r1').1,r2,fun i e he => ?_⟩,own_pln r1',fun _ _ _ _ e => by cases e⟩;obtain ⟨vt,g1,g2,g3⟩ := r4 i e he;exact ⟨_,g1,vt,rfl,g2,g3 w' (hw'.less fun k e => .inl e)⟩
 ·rcases hk with hk | hk
  ·exact hb k hk
  ·have := own_lt r1 hk
   omega
end
theorem pplaceE_any (a : Option Addr) (N cap : Nat) (w : World) (h1 : N ≤ cap) (h2 : cap ≤ maxLen) (h3 : N = 0 ∨ ∃ g off,a = some ⟨g,off,none⟩) :
  Calls Tryz.prog 79 #[.slice a N cap] w fun e w' => e = .returned (plV (plOf (.slice a N cap))) ∧ Below w.heap.size w w' := by
 unfold maxLen at h2
 by_cases hN : N = 0
 ·subst hN
  go_enter Tryz.func79,Tryz.ntmps79
  go_wp2_with fail;refine bodyPost_ret (results_cell rfl _ _ _ ⟨w.heap.size,0,none⟩ (.agg #[.pointer none,.int .i64 0]) (by go_simp) (by go_simp)) rfl ⟨by simp [plV,plOf],(Below.refl _ _).alloc (Nat.le_refl _) _⟩
 ·obtain ⟨g,off,rfl⟩ : ∃ g off,a = some ⟨g,off,none⟩ := by
   rcases h3 with h | h
   ·exact absurd h hN
   ·exact h
  have hd : ((N : Int) == 0) = false := by simp; omega
  have hp : 0 < N := by omega
  go_enter Tryz.func79,Tryz.ntmps79
  go_wp2_with fail;refine bodyPost_ret (results_cell rfl _ _ _ ⟨w.heap.size,0,none⟩ (.agg #[.pointer (some ⟨g,off,none⟩),.int .i64 (N : Int)]) (by go_simp) (by go_simp)) rfl ⟨by simp [plV,plOf,hN],(Below.refl _ _).alloc (Nat.le_refl _) _⟩
theorem pplaceR_any (a : Option Addr) (N cap : Nat) (w : World) (h1 : N ≤ cap) (h2 : cap ≤ maxLen) (h3 : N = 0 ∨ ∃ g off,a = some ⟨g,off,none⟩) :
  Calls Tryz.prog 80 #[.slice a N cap] w fun e w' => e = .returned (plV (plOf (.slice a N cap))) ∧ Below w.heap.size w w' := by
 unfold maxLen at h2
 by_cases hN : N = 0
 ·subst hN
  go_enter Tryz.func80,Tryz.ntmps80
  go_wp2_with fail;refine bodyPost_ret (results_cell rfl _ _ _ ⟨w.heap.size,0,none⟩ (.agg #[.pointer none,.int .i64 0]) (by go_simp) (by go_simp)) rfl ⟨by simp [plV,plOf],(Below.refl _ _).alloc (Nat.le_refl _) _⟩
 ·obtain ⟨g,off,rfl⟩ : ∃ g off,a = some ⟨g,off,none⟩ := by
   rcases h3 with h | h
   ·exact absurd h hN
   ·exact h
  have hd : ((N : Int) == 0) = false := by simp; omega
  have hp : 0 < N := by omega
  go_enter Tryz.func80,Tryz.ntmps80
  go_wp2_with fail;refine bodyPost_ret (results_cell rfl _ _ _ ⟨w.heap.size,0,none⟩ (.agg #[.pointer (some ⟨g,off,none⟩),.int .i64 (N : Int)]) (by go_simp) (by go_simp)) rfl ⟨by simp [plV,plOf,hN],(Below.refl _ _).alloc (Nat.le_refl _) _⟩
theorem pidentity_any (K N : Int) (S : ByteArray) (a1 a2 : Option Addr) (n1 c1 n2 c2 : Nat) (w : World) (h1 : n1 ≤ c1) (h2 : c1 ≤ maxLen) (h3 : n1 = 0 ∨ ∃ g off,a1 = some ⟨g,off,none⟩) (h4 : n2 ≤ c2) (h5 : c2 ≤ maxLen) (h6 : n2 = 0 ∨ ∃ g off,a2 = some ⟨g,off,none⟩) :
  Calls Tryz.prog 45 #[.agg #[.int .i64 K,.int .i64 N,.string S,.slice a1 n1 c1,.slice a2 n2 c2]] w fun e w' => e = .returned (pidV (plOf (.slice a1 n1 c1),plOf (.slice a2 n2 c2))) ∧ Below w.heap.size w w' := by
 obtain ⟨⟨p1,m1⟩,hp1⟩ : ∃ x,plOf (.slice a1 n1 c1) = x := ⟨_,rfl⟩;obtain ⟨⟨p2,m2⟩,hp2⟩ : ∃ x,plOf (.slice a2 n2 c2) = x := ⟨_,rfl⟩
 have HE : Hid (∀ W,Calls Tryz.prog 79 #[.slice a1 n1 c1] W fun e w' => e = .returned (.agg #[.pointer p1,.int .i64 (m1 : Int)]) ∧ Below W.heap.size W w') := fun W => by
  have := pplaceE_any a1 n1 c1 W h1 h2 h3;rw [hp1] at this;exact this
 have HR : Hid (∀ W,Calls Tryz.prog 80 #[.slice a2 n2 c2] W fun e w' => e = .returned (.agg #[.pointer p2,.int .i64 (m2 : Int)]) ∧ Below W.heap.size W w') := fun W => by
  have := pplaceR_any a2 n2 c2 W h4 h5 h6;rw [hp2] at this;exact this
 rw [hp1,hp2];clear hp1 hp2 h1 h2 h3 h4 h5 h6;have B0 : Blk ((w.alloc (Obj.cells #[.int .i64 K,.int .i64 N,.string S,.slice a1 n1 c1,.slice a2 n2 c2] 30)).alloc (Obj.cells #[.pointer none,.int .i64 0,.pointer none,.int .i64 0] 105)) w.heap.size #[.int .i64 K,.int .i64 N,.string S,.slice a1 n1 c1,.slice a2 n2 c2] 30 := (Blk.new w _ _).below ((Below.refl _ _).alloc (Nat.le_refl _) _)
 have B1 : Blk ((w.alloc (Obj.cells #[.int .i64 K,.int .i64 N,.string S,.slice a1 n1 c1,.slice a2 n2 c2] 30)).alloc (Obj.cells #[.pointer none,.int .i64 0,.pointer none,.int .i64 0] 105)) (w.heap.size + 1) #[.pointer none,.int .i64 0,.pointer none,.int .i64 0] 105 := by
  have := Blk.new (w.alloc (Obj.cells #[.int .i64 K,.int .i64 N,.string S,.slice a1 n1 c1,.slice a2 n2 c2] 30)) #[.pointer none,.int .i64 0,.pointer none,.int .i64 0] 105
  rwa [show (w.alloc (Obj.cells #[.int .i64 K,.int .i64 N,.string S,.slice a1 n1 c1,.slice a2 n2 c2] 30)).heap.size = w.heap.size + 1 from by simp] at this
 have hb : Below w.heap.size w ((w.alloc (Obj.cells #[.int .i64 K,.int .i64 N,.string S,.slice a1 n1 c1,.slice a2 n2 c2] 30)).alloc (Obj.cells #[.pointer none,.int .i64 0,.pointer none,.int .i64 0] 105)) := ((Below.refl _ _).alloc (Nat.le_refl _) _).alloc (by simp) _
 go_enter Tryz.func45,Tryz.ntmps45
 go_wp2_with fail;generalize ((w.alloc (Obj.cells #[.int .i64 K,.int .i64 N,.string S,.slice a1 n1 c1,.slice a2 n2 c2] 30)).alloc (Obj.cells #[.pointer none,.int .i64 0,.pointer none,.int .i64 0] 105)) = W0 at *;obtain ⟨b0,hb0⟩ : ∃ b,w.heap.size = b := ⟨_,rfl⟩;have HBZ : Hid (w.heap.size = b0) := hb0;rw [hb0] at B0 B1;simp only [hb0];clear hb0;have hTb : ∀ W,Below W0.heap.size W0 W → W.cell? ⟨b0,3,none⟩ = some (.slice a1 n1 c1) ∧ W.cell? ⟨b0,4,none⟩ = some (.slice a2 n2 c2) := fun W hW => ⟨(B0.below hW).cell 3,(B0.below hW).cell 4⟩
 refine M_region (T := fun W => W.cell? ⟨b0,3,none⟩ = some (.slice a1 n1 c1) ∧ W.cell? ⟨b0,4,none⟩ = some (.slice a2 n2 c2)) (m := 7) (by kernel_rfl) ?_;have hd : Below W0.heap.size W0 W0.drew := (Below.refl _ _).drew;have hS := hTb _ hd;refine M_take 0 3 (.pointer (some ⟨b0,3,none⟩)) _ rfl rfl (by kernel_rfl) (by kernel_rfl) (by kernel_rfl) (by kernel_rfl) (by kernel_rfl) (fun _ _ _ h => h) (by rfl) (fun w' hw' => ?_) hS (listed' := bts 8 1) (by kernel_rfl) rfl ?_
 ·go_simp
 simp only [zsA,zsZ,zsS];refine M_take 1 4 (.slice a1 n1 c1) _ rfl rfl (by kernel_rfl) (by kernel_rfl) (by kernel_rfl) (by kernel_rfl) (by kernel_rfl) (fun _ _ _ h => h) (by rfl) (fun w' hw' => ?_) hS (listed' := bts 8 3) (by kernel_rfl) rfl ?_
 ·obtain ⟨f3,f4⟩ := hw'; go_simp
 simp only [zsA,zsZ,zsS];refine M_take 3 6 (.pointer (some ⟨b0,4,none⟩)) _ rfl rfl (by kernel_rfl) (by kernel_rfl) (by kernel_rfl) (by kernel_rfl) (by kernel_rfl) (fun _ _ _ h => h) (by rfl) (fun w' hw' => ?_) hS (listed' := bts 8 11) (by kernel_rfl) rfl ?_
 ·go_simp
 simp only [zsA,zsZ,zsS];refine M_take 4 7 (.slice a2 n2 c2) _ rfl rfl (by kernel_rfl) (by kernel_rfl) (by kernel_rfl) (by kernel_rfl) (by kernel_rfl) (fun _ _ _ h => h) (by rfl) (fun w' hw' => ?_) hS (listed' := bts 8 27) (by kernel_rfl) rfl ?_
 ·obtain ⟨f3,f4⟩ := hw'; go_simp
 simp only [zsA,zsZ,zsS];refine M_call 2 5 79 #[.slice a1 n1 c1] rfl rfl (by kernel_rfl) (by rfl) (listed' := bts 8 31) (by kernel_rfl) (fun W => by go_simp) ?_;refine (HE.out _).mono ?_;rintro e W1 ⟨rfl,hb1⟩;have hd1 : Below W0.heap.size W0 W1 := hd.trans (hb1.mono hd.size);have hS := hTb _ hd1;refine ⟨_,rfl,hS,?_⟩;simp only [zsA,zsZ,zsS];refine M_call 5 8 80 #[.slice a2 n2 c2] rfl rfl (by kernel_rfl) (by rfl) (listed' := bts 8 63) (by kernel_rfl) (fun W => by go_simp) ?_;refine (HR.out _).mono ?_;rintro e W2 ⟨rfl,hb2⟩;have hd2 : Below W0.heap.size W0 W2 := hd1.trans (hb2.mono hd1.size);have hS := hTb _ hd2;refine ⟨_,rfl,hS,?_⟩;simp only [zsA,zsZ,zsS];refine M_take 6 9 (.agg #[.pointer p1,.int .i64 (m1 : Int),.pointer p2,.int .i64 (m2 : Int)]) _ rfl rfl (by kernel_rfl) (by kernel_rfl) (by kernel_rfl) (by kernel_rfl) (by kernel_rfl) (fun _ _ _ h => h) (by rfl) (fun w' hw' => ?_) hS (listed' := bts 8 127) (by kernel_rfl) rfl ?_
 ·go_simp
 simp only [zsA,zsZ,zsS];have BR := B1.below hd2;have r0 := (BR.cell 0).trans rfl;have z0 := BR.froz 0;have r1 := (BR.cell 1).trans rfl;have z1 := BR.froz 1;have r2 := (BR.cell 2).trans rfl;have z2 := BR.froz 2;have r3 := (BR.cell 3).trans rfl;have z3 := BR.froz 3;refine M_store 7 ((((W2.setCell ⟨b0 + 1,0,none⟩ (.pointer p1)).setCell ⟨b0 + 1,1,none⟩ (.int .i64 (m1 : Int))).setCell ⟨b0 + 1,2,none⟩ (.pointer p2)).setCell ⟨b0 + 1,3,none⟩ (.int .i64 (m2 : Int))) rfl rfl (by kernel_rfl) (by rfl) (listed' := bts 8 255) (by kernel_rfl) (by go_simp) (by kernel_rfl) ?_;refine M_done (by kernel_rfl) ?_ _;have BR0 : Blk (W2.setCell ⟨b0 + 1,0,none⟩ (.pointer p1)) (b0 + 1) #[.pointer p1,.int .i64 0,.pointer none,.int .i64 0] 105 := BR.set 0 _ rfl;have BR1 : Blk ((W2.setCell ⟨b0 + 1,0,none⟩ (.pointer p1)).setCell ⟨b0 + 1,1,none⟩ (.int .i64 (m1 : Int))) (b0 + 1) #[.pointer p1,.int .i64 (m1 : Int),.pointer none,.int .i64 0] 105 := BR0.set 1 _ rfl;have BR2 : Blk (((W2.setCell ⟨b0 + 1,0,none⟩ (.pointer p1)).setCell ⟨b0 + 1,1,none⟩ (.int .i64 (m1 : Int))).setCell ⟨b0 + 1,2,none⟩ (.pointer p2)) (b0 + 1) #[.pointer p1,.int .i64 (m1 : Int),.pointer p2,.int .i64 0] 105 := BR1.set 2 _ rfl;have BR3 : Blk ((((W2.setCell ⟨b0 + 1,0,none⟩ (.pointer p1)).setCell ⟨b0 + 1,1,none⟩ (.int .i64 (m1 : Int))).setCell ⟨b0 + 1,2,none⟩ (.pointer p2)).setCell ⟨b0 + 1,3,none⟩ (.int .i64 (m2 : Int))) (b0 + 1) #[.pointer p1,.int .i64 (m1 : Int),.pointer p2,.int .i64 (m2 : Int)] 105 := BR2.set 3 _ rfl;have hbe : Below w.heap.size w W2 := hb.trans (hd2.mono hb.size);have hbe0 : Below w.heap.size w (W2.setCell ⟨b0 + 1,0,none⟩ (.pointer p1)) := Below.setCell (p := ⟨b0 + 1,0,none⟩) hbe (by have := HBZ.out; show w.heap.size ≤ b0 + 1; omega) _;have hbe1 : Below w.heap.size w ((W2.setCell ⟨b0 + 1,0,none⟩ (.pointer p1)).setCell ⟨b0 + 1,1,none⟩ (.int .i64 (m1 : Int))) := Below.setCell (p := ⟨b0 + 1,1,none⟩) hbe0 (by have := HBZ.out; show w.heap.size ≤ b0 + 1; omega) _;have hbe2 : Below w.heap.size w (((W2.setCell ⟨b0 + 1,0,none⟩ (.pointer p1)).setCell ⟨b0 + 1,1,none⟩ (.int .i64 (m1 : Int))).setCell ⟨b0 + 1,2,none⟩ (.pointer p2)) := Below.setCell (p := ⟨b0 + 1,2,none⟩) hbe1 (by have := HBZ.out; show w.heap.size ≤ b0 + 1; omega) _;have hbe3 : Below w.heap.size w ((((W2.setCell ⟨b0 + 1,0,none⟩ (.pointer p1)).setCell ⟨b0 + 1,1,none⟩ (.int .i64 (m1 : Int))).setCell ⟨b0 + 1,2,none⟩ (.pointer p2)).setCell ⟨b0 + 1,3,none⟩ (.int .i64 (m2 : Int))) := Below.setCell (p := ⟨b0 + 1,3,none⟩) hbe2 (by have := HBZ.out; show w.heap.size ≤ b0 + 1; omega) _;clear r0 z0 r1 z1 r2 z2 r3 z3 BR0 hbe0 BR1 hbe1 BR2 hbe2 BR hbe hS;generalize ((((W2.setCell ⟨b0 + 1,0,none⟩ (.pointer p1)).setCell ⟨b0 + 1,1,none⟩ (.int .i64 (m1 : Int))).setCell ⟨b0 + 1,2,none⟩ (.pointer p2)).setCell ⟨b0 + 1,3,none⟩ (.int .i64 (m2 : Int))) = W3 at *;have r0 := (BR3.cell 0).trans rfl;have r1 := (BR3.cell 1).trans rfl;have r2 := (BR3.cell 2).trans rfl;have r3 := (BR3.cell 3).trans rfl;go_wp2_with fail;refine bodyPost_ret (results_cell rfl _ _ _ ⟨b0 + 1,0,none⟩ (.agg #[.pointer p1,.int .i64 (m1 : Int),.pointer p2,.int .i64 (m2 : Int)]) (by go_simp) (by go_simp)) rfl ⟨rfl,hbe3⟩
end
section
open Go.ChangeShapes Go.WideShapes Go.ChangeAt Go.RowKit Go.Maps
theorem cfield_any {w : World} {snm : ByteArray} {nm : Int} {am : Option Addr} {M cm : Nat} {vt : Value} {ts : List FlS} (hr : RowG w vt 5 (flRows ts)) :
  Calls Tryz.prog 81 #[.agg #[.string snm,vt,.slice am M cm],.int .i64 nm] w fun e w' => e = .returned (.tuple #[flV ((ts.find? fun m => decide (m.tag = nm)).getD zeroF),.bool (ts.find? fun m => decide (m.tag = nm)).isSome]) ∧ Below w.heap.size w w' := by
 obtain ⟨a,c,rfl,q1,q2⟩ := hr.form2
 have hN : (flRows ts).length = ts.length := by simp [flRows]
 rw [hN] at hr q1 ⊢;clear hN;obtain ⟨N,hN⟩ : ∃ N,ts.length = N := ⟨_,rfl⟩;rw [hN] at hr q1 ⊢;have HN : Hid (ts.length = N) := hN;have HR : Hid (RowG w (.slice a N c) 5 (flRows ts)) := hr;clear hN hr;obtain ⟨A,hA⟩ : ∃ A,(ts.find? fun m => decide (m.tag = nm)) = A := ⟨_,rfl⟩;rw [hA];have HA : Hid (A = ((ts.drop 0).find? fun m => decide (m.tag = nm))) := hA.symm;clear hA;have BX0 : Blk ((w.alloc (.cells #[.string snm,.slice a N c,.slice am M cm] 52)).alloc (.cells #[.string ⟨#[]⟩,.int .i64 0,.int .i64 0,.int .i64 0,.string ⟨#[]⟩] 56)) w.heap.size #[.string snm,.slice a N c,.slice am M cm] 52 := (Blk.new w _ _).below ((Below.refl _ _).alloc (Nat.le_refl _) _)
 have BR0 : Blk ((w.alloc (.cells #[.string snm,.slice a N c,.slice am M cm] 52)).alloc (.cells #[.string ⟨#[]⟩,.int .i64 0,.int .i64 0,.int .i64 0,.string ⟨#[]⟩] 56)) (w.heap.size + 1) #[.string ⟨#[]⟩,.int .i64 0,.int .i64 0,.int .i64 0,.string ⟨#[]⟩] 56 := by
  have := Blk.new (w.alloc (.cells #[.string snm,.slice a N c,.slice am M cm] 52)) #[.string ⟨#[]⟩,.int .i64 0,.int .i64 0,.int .i64 0,.string ⟨#[]⟩] 56
  rwa [show (w.alloc (.cells #[.string snm,.slice a N c,.slice am M cm] 52)).heap.size = w.heap.size + 1 by simp] at this
 have hb0 : Below w.heap.size w ((w.alloc (.cells #[.string snm,.slice a N c,.slice am M cm] 52)).alloc (.cells #[.string ⟨#[]⟩,.int .i64 0,.int .i64 0,.int .i64 0,.string ⟨#[]⟩] 56)) := ((Below.refl _ _).alloc (Nat.le_refl _) _).alloc (by simp) _
 go_enter Tryz.func81,Tryz.ntmps81
 go_wp2_with fail
 go_loopw [11] (fun iv wr => ∃ k : Nat,iv = .int .i64 (k : Int) ∧ k ≤ N ∧ Hid (A = ((ts.drop k).find? fun m => decide (m.tag = nm))) ∧ Below w.heap.size w wr ∧ Blk wr (w.heap.size + 1) #[.string ⟨#[]⟩,.int .i64 0,.int .i64 0,.int .i64 0,.string ⟨#[]⟩] 56) (fun iv _ => N - (intOf iv).toNat)
 case atStart => exact ⟨0,rfl,by omega,HA,hb0,BR0⟩
 case round =>
  obtain ⟨k,rfl,hk,HAk,hbel,BR⟩ := hrel;clear BX0 BR0 hb0;have hlt2 : w.heap.size + 1 < wr.heap.size := BR.lt;have r0 := (BR.cell 0).trans rfl;have z0 := BR.froz 0;have r1 := (BR.cell 1).trans rfl;have z1 := BR.froz 1;have r2 := (BR.cell 2).trans rfl;have z2 := BR.froz 2;have r3 := (BR.cell 3).trans rfl;have z3 := BR.froz 3;have r4 := (BR.cell 4).trans rfl;have z4 := BR.froz 4
  by_cases hlt : k < N
  ·obtain ⟨f,hf⟩ : ∃ n,ts[k]? = some n := ⟨_,List.getElem?_eq_getElem (by rw [HN.out]; exact hlt)⟩
   have hrr : (flRows ts)[k]? = some f.cells := by simp [flRows,hf]
   obtain ⟨g,off,rfl,c1⟩ := (HR.out.below hbel).get hrr;obtain ⟨f0,f1,f2,f3,f4⟩ := f
   have HA2 : Hid (A = if decide (f1 = nm) = true then some ⟨f0,f1,f2,f3,f4⟩ else ((ts.drop (k + 1)).find? fun m => decide (m.tag = nm))) := by
    show _ = _
    rw [HAk.out,drop_at hf,List.find?_cons]
    cases decide (f1 = nm) <;> rfl
   have p0 := c1 0 _ rfl;have p1 := c1 1 _ rfl;have p2 := c1 2 _ rfl;have p3 := c1 3 _ rfl;have p4 := c1 4 _ rfl;simp only [Nat.add_zero] at p0 p1 p2 p3 p4;clear c1 hrr hf HAk
   by_cases he : f1 = nm
   ·subst he;go_wp2_with fail;refine bodyPost_ret (results_two rfl _ _ _ ⟨w.heap.size + 1,0,none⟩ (.agg #[.string f0,.int .i64 f1,.int .i64 f2,.int .i64 f3,.string f4]) (by go_simp) (by go_simp)) rfl ?_;exact ⟨ret_two (by rw [HA2.out,if_pos (by simp)]; rfl) (by rw [HA2.out,if_pos (by simp)]; rfl),(Below.alloc (Below.setCell (Below.setCell (Below.setCell (Below.setCell (Below.setCell hbel (by simp) _) (by simp) _) (by simp) _) (by simp) _) (by simp) _) (by simp; omega) _)⟩
   ·have hq : (f1 == nm) = false := by simpa using he
    have HA3 : Hid (A = ((ts.drop (k + 1)).find? fun m => decide (m.tag = nm))) := by show _ = _; rw [HA2.out,if_neg (by simpa using he)]
    have hb2 : Below w.heap.size w (wr.alloc (.cells #[.string f0,.int .i64 f1,.int .i64 f2,.int .i64 f3,.string f4] 56)) := hbel.alloc (by omega) _;have BR2 : Blk (wr.alloc (.cells #[.string f0,.int .i64 f1,.int .i64 f2,.int .i64 f3,.string f4] 56)) (w.heap.size + 1) #[.string ⟨#[]⟩,.int .i64 0,.int .i64 0,.int .i64 0,.string ⟨#[]⟩] 56 := BR.below ((Below.refl _ _).alloc (Nat.le_refl _) _);go_wp2_with fail
    go_roundw
    case rel => exact ⟨k + 1,by go_num,by omega,HA3,hb2,BR2⟩
    case measure => simp [intOf]; omega
  ·have HA2 : Hid (A = none) := by show _ = _; rw [HAk.out,drop_end (by rw [HN.out]; omega)]; rfl
   go_wp2_with fail;refine bodyPost_ret (results_two rfl _ _ _ ⟨w.heap.size + 1,0,none⟩ (.agg #[.string ⟨#[]⟩,.int .i64 0,.int .i64 0,.int .i64 0,.string ⟨#[]⟩]) (by go_simp) (by go_simp)) rfl ?_;exact ⟨ret_two (by rw [HA2.out]; rfl) (by rw [HA2.out]; rfl),(Below.setCell (Below.setCell (Below.setCell (Below.setCell (Below.setCell hbel (by simp) _) (by simp) _) (by simp) _) (by simp) _) (by simp) _)⟩
end
section
open Go.ChangeShapes Go.WideShapes Go.ChangeAt Go.RowKit
theorem number_any (k n : Int) (nm : ByteArray) (w : World) : Calls Tryz.prog 111 #[.agg #[.int .i64 k,.string nm],.int .i64 n] w fun e w' => e = .returned (.bool (nmrB k n)) ∧ Below w.heap.size w w' := by
 have hb : Below w.heap.size w (w.alloc (Obj.cells #[.int .i64 k,.string nm] 54)) := (Below.refl _ _).alloc (Nat.le_refl _) _
 have rng : n < -2147483648 ∨ (-2147483648 ≤ n ∧ n < 0) ∨ (0 ≤ n ∧ n ≤ 1) ∨ (1 < n ∧ n ≤ 2147483647) ∨ 2147483647 < n := by omega
 have kk : k = 3 ∨ k = 6 ∨ k = 1 ∨ k = 2 ∨ (¬ k = 3 ∧ ¬ k = 6 ∧ ¬ k = 1 ∧ ¬ k = 2) := by omega
 rcases rng with g | g | g | g | g
 ·have f1 : decide (1 < n) = false := by simp; omega
  have f2 : decide (n < 0) = true := by simp; omega
  have f3 : decide (n < -2147483648) = true := by simp; omega
  have f4 : decide (2147483647 < n) = false := by simp; omega
  rcases kk with rfl | rfl | rfl | rfl | ⟨h3,h6,h1,h2⟩
  ·have hr : nmrB 3 n = false := by simp [nmrB]; omega
   rw [hr];clear hr g
   go_enter Tryz.func111,Tryz.ntmps111
   go_wp2_with fail;go_ret;exact ⟨rfl,hb⟩
  ·have hr : nmrB 6 n = false := by simp [nmrB]; omega
   rw [hr];clear hr g
   go_enter Tryz.func111,Tryz.ntmps111
   go_wp2_with fail;go_ret;exact ⟨rfl,hb⟩
  ·have hr : nmrB 1 n = false := by simp [nmrB]; omega
   rw [hr];clear hr g
   go_enter Tryz.func111,Tryz.ntmps111
   go_wp2_with fail;go_ret;exact ⟨rfl,hb⟩
  ·have hr : nmrB 2 n = true := by simp [nmrB]
   rw [hr];clear hr g
   go_enter Tryz.func111,Tryz.ntmps111
   go_wp2_with fail;go_ret;exact ⟨rfl,hb⟩
  ·have e1 : (k == 1) = false := by simpa using h1
   have e2 : (k == 2) = false := by simpa using h2
   have e3 : (k == 3) = false := by simpa using h3
   have e6 : (k == 6) = false := by simpa using h6
   have hr : nmrB k n = false := by simp [nmrB,h3,h6,h1,h2]
   rw [hr];clear h1 h2 h3 h6 hr g
   go_enter Tryz.func111,Tryz.ntmps111
   go_wp2_with fail;go_ret;exact ⟨rfl,hb⟩
 ·have f1 : decide (1 < n) = false := by simp; omega
  have f2 : decide (n < 0) = true := by simp; omega
  have f3 : decide (n < -2147483648) = false := by simp; omega
  have f4 : decide (2147483647 < n) = false := by simp; omega
  rcases kk with rfl | rfl | rfl | rfl | ⟨h3,h6,h1,h2⟩
  ·have hr : nmrB 3 n = false := by simp [nmrB]; omega
   rw [hr];clear hr g
   go_enter Tryz.func111,Tryz.ntmps111
   go_wp2_with fail;go_ret;exact ⟨rfl,hb⟩
  ·have hr : nmrB 6 n = false := by simp [nmrB]; omega
   rw [hr];clear hr g
   go_enter Tryz.func111,Tryz.ntmps111
   go_wp2_with fail;go_ret;exact ⟨rfl,hb⟩
  ·have hr : nmrB 1 n = true := by simp [nmrB]; omega
   rw [hr];clear hr g
   go_enter Tryz.func111,Tryz.ntmps111
   go_wp2_with fail;go_ret;exact ⟨rfl,hb⟩
  ·have hr : nmrB 2 n = true := by simp [nmrB]
   rw [hr];clear hr g
   go_enter Tryz.func111,Tryz.ntmps111
   go_wp2_with fail;go_ret;exact ⟨rfl,hb⟩
  ·have e1 : (k == 1) = false := by simpa using h1
   have e2 : (k == 2) = false := by simpa using h2
   have e3 : (k == 3) = false := by simpa using h3
   have e6 : (k == 6) = false := by simpa using h6
   have hr : nmrB k n = false := by simp [nmrB,h3,h6,h1,h2]
   rw [hr];clear h1 h2 h3 h6 hr g
   go_enter Tryz.func111,Tryz.ntmps111
   go_wp2_with fail;go_ret;exact ⟨rfl,hb⟩
 ·have f1 : decide (1 < n) = false := by simp; omega
  have f2 : decide (n < 0) = false := by simp; omega
  have f3 : decide (n < -2147483648) = false := by simp; omega
  have f4 : decide (2147483647 < n) = false := by simp; omega
  rcases kk with rfl | rfl | rfl | rfl | ⟨h3,h6,h1,h2⟩
  ·have hr : nmrB 3 n = true := by simp [nmrB]; omega
   rw [hr];clear hr g
   go_enter Tryz.func111,Tryz.ntmps111
   go_wp2_with fail;go_ret;exact ⟨rfl,hb⟩
  ·have hr : nmrB 6 n = true := by simp [nmrB]; omega
   rw [hr];clear hr g
   go_enter Tryz.func111,Tryz.ntmps111
   go_wp2_with fail;go_ret;exact ⟨rfl,hb⟩
  ·have hr : nmrB 1 n = true := by simp [nmrB]; omega
   rw [hr];clear hr g
   go_enter Tryz.func111,Tryz.ntmps111
   go_wp2_with fail;go_ret;exact ⟨rfl,hb⟩
  ·have hr : nmrB 2 n = true := by simp [nmrB]
   rw [hr];clear hr g
   go_enter Tryz.func111,Tryz.ntmps111
   go_wp2_with fail;go_ret;exact ⟨rfl,hb⟩
  ·have e1 : (k == 1) = false := by simpa using h1
   have e2 : (k == 2) = false := by simpa using h2
   have e3 : (k == 3) = false := by simpa using h3
   have e6 : (k == 6) = false := by simpa using h6
   have hr : nmrB k n = false := by simp [nmrB,h3,h6,h1,h2]
   rw [hr];clear h1 h2 h3 h6 hr g
   go_enter Tryz.func111,Tryz.ntmps111
   go_wp2_with fail;go_ret;exact ⟨rfl,hb⟩
 ·have f1 : decide (1 < n) = true := by simp; omega
  have f2 : decide (n < 0) = false := by simp; omega
  have f3 : decide (n < -2147483648) = false := by simp; omega
  have f4 : decide (2147483647 < n) = false := by simp; omega
  rcases kk with rfl | rfl | rfl | rfl | ⟨h3,h6,h1,h2⟩
  ·have hr : nmrB 3 n = false := by simp [nmrB]; omega
   rw [hr];clear hr g
   go_enter Tryz.func111,Tryz.ntmps111
   go_wp2_with fail;go_ret;exact ⟨rfl,hb⟩
  ·have hr : nmrB 6 n = true := by simp [nmrB]; omega
   rw [hr];clear hr g
   go_enter Tryz.func111,Tryz.ntmps111
   go_wp2_with fail;go_ret;exact ⟨rfl,hb⟩
  ·have hr : nmrB 1 n = true := by simp [nmrB]; omega
   rw [hr];clear hr g
   go_enter Tryz.func111,Tryz.ntmps111
   go_wp2_with fail;go_ret;exact ⟨rfl,hb⟩
  ·have hr : nmrB 2 n = true := by simp [nmrB]
   rw [hr];clear hr g
   go_enter Tryz.func111,Tryz.ntmps111
   go_wp2_with fail;go_ret;exact ⟨rfl,hb⟩
  ·have e1 : (k == 1) = false := by simpa using h1
   have e2 : (k == 2) = false := by simpa using h2
   have e3 : (k == 3) = false := by simpa using h3
   have e6 : (k == 6) = false := by simpa using h6
   have hr : nmrB k n = false := by simp [nmrB,h3,h6,h1,h2]
   rw [hr];clear h1 h2 h3 h6 hr g
   go_enter Tryz.func111,Tryz.ntmps111
   go_wp2_with fail;go_ret;exact ⟨rfl,hb⟩
 ·have f1 : decide (1 < n) = true := by simp; omega
  have f2 : decide (n < 0) = false := by simp; omega
  have f3 : decide (n < -2147483648) = false := by simp; omega
  have f4 : decide (2147483647 < n) = true := by simp; omega
  rcases kk with rfl | rfl | rfl | rfl | ⟨h3,h6,h1,h2⟩
  ·have hr : nmrB 3 n = false := by simp [nmrB]; omega
   rw [hr];clear hr g
   go_enter Tryz.func111,Tryz.ntmps111
   go_wp2_with fail;go_ret;exact ⟨rfl,hb⟩
  ·have hr : nmrB 6 n = false := by simp [nmrB]; omega
   rw [hr];clear hr g
   go_enter Tryz.func111,Tryz.ntmps111
   go_wp2_with fail;go_ret;exact ⟨rfl,hb⟩
  ·have hr : nmrB 1 n = false := by simp [nmrB]; omega
   rw [hr];clear hr g
   go_enter Tryz.func111,Tryz.ntmps111
   go_wp2_with fail;go_ret;exact ⟨rfl,hb⟩
  ·have hr : nmrB 2 n = true := by simp [nmrB]
   rw [hr];clear hr g
   go_enter Tryz.func111,Tryz.ntmps111
   go_wp2_with fail;go_ret;exact ⟨rfl,hb⟩
  ·have e1 : (k == 1) = false := by simpa using h1
   have e2 : (k == 2) = false := by simpa using h2
   have e3 : (k == 3) = false := by simpa using h3
   have e6 : (k == 6) = false := by simpa using h6
   have hr : nmrB k n = false := by simp [nmrB,h3,h6,h1,h2]
   rw [hr];clear h1 h2 h3 h6 hr g
   go_enter Tryz.func111,Tryz.ntmps111
   go_wp2_with fail;go_ret;exact ⟨rfl,hb⟩
theorem size_empty {s : ByteArray} (h : s.size = 0) : s = ⟨#[]⟩ := by
 obtain ⟨⟨l⟩⟩ := s
 cases l with
 | nil => rfl
 | cons a l => simp [ByteArray.size] at h
theorem zero_any (t : Tr) (a1 a2 : Option Addr) (n1 c1 n2 c2 : Nat) (w : World) (h1 : n1 = t.es.length) (h2 : n2 = t.rest.length) : Calls Tryz.prog 85 #[.agg #[.int .i64 t.kind,.int .i64 t.n,.string t.s,.slice a1 n1 c1,.slice a2 n2 c2]] w fun e w' => e = .returned (.bool (zroB t)) ∧ Below w.heap.size w w' := by
 have hb : Below w.heap.size w (w.alloc (Obj.cells #[.int .i64 t.kind,.int .i64 t.n,.string t.s,.slice a1 n1 c1,.slice a2 n2 c2] 30)) := (Below.refl _ _).alloc (Nat.le_refl _) _
 have hz : zroB t = (decide (t.kind = 1 ∨ t.kind = 2 ∨ t.kind = 3) && decide (t.n = 0) && decide (t.s.size = 0) && decide (n1 = 0) && decide (n2 = 0)) := by rw [zroB,h1,h2]
 rw [hz];clear hz h1 h2;generalize t.kind = K at *;generalize t.n = N at *;generalize t.s = S at *
 have kk : K = 1 ∨ K = 2 ∨ K = 3 ∨ (¬ K = 1 ∧ ¬ K = 2 ∧ ¬ K = 3) := by omega
 rcases kk with rfl | rfl | rfl | ⟨h1,h2,h3⟩
 ·by_cases hN : N = 0
  ·subst hN
   by_cases hS : S.size = 0
   ·obtain rfl := size_empty hS
    by_cases h1 : n1 = 0
    ·subst h1
     by_cases h2 : n2 = 0
     ·subst h2
      go_enter Tryz.func85,Tryz.ntmps85
      go_wp2_with fail;go_ret;exact ⟨rfl,hb⟩
     ·have d2 : ((n2 : Int) == 0) = false := by simp; omega
      simp only [decide_eq_false h2,Bool.and_false];clear h2
      go_enter Tryz.func85,Tryz.ntmps85
      go_wp2_with fail;go_ret;exact ⟨rfl,hb⟩
    ·have d1 : ((n1 : Int) == 0) = false := by simp; omega
     simp only [decide_eq_false h1,Bool.and_false,Bool.false_and];clear h1
     go_enter Tryz.func85,Tryz.ntmps85
     go_wp2_with fail;go_ret;exact ⟨rfl,hb⟩
   ·have dS : (S.toList == ([] : List UInt8)) = false := by rw [ByteArray.toList_eq]; simp; intro e; exact hS (by rw [← ByteArray.size_data,e]; rfl)
    simp only [decide_eq_false hS,Bool.and_false,Bool.false_and];clear hS
    go_enter Tryz.func85,Tryz.ntmps85
    go_wp2_with fail;go_ret;exact ⟨rfl,hb⟩
  ·have dN : (N == 0) = false := by simpa using hN
   simp only [decide_eq_false hN,Bool.and_false,Bool.false_and];clear hN
   go_enter Tryz.func85,Tryz.ntmps85
   go_wp2_with fail;go_ret;exact ⟨rfl,hb⟩
 ·by_cases hN : N = 0
  ·subst hN
   by_cases hS : S.size = 0
   ·obtain rfl := size_empty hS
    by_cases h1 : n1 = 0
    ·subst h1
     by_cases h2 : n2 = 0
     ·subst h2
      go_enter Tryz.func85,Tryz.ntmps85
      go_wp2_with fail;go_ret;exact ⟨rfl,hb⟩
     ·have d2 : ((n2 : Int) == 0) = false := by simp; omega
      simp only [decide_eq_false h2,Bool.and_false];clear h2
      go_enter Tryz.func85,Tryz.ntmps85
      go_wp2_with fail;go_ret;exact ⟨rfl,hb⟩
    ·have d1 : ((n1 : Int) == 0) = false := by simp; omega
     simp only [decide_eq_false h1,Bool.and_false,Bool.false_and];clear h1
     go_enter Tryz.func85,Tryz.ntmps85
     go_wp2_with fail;go_ret;exact ⟨rfl,hb⟩
   ·have dS : (S.toList == ([] : List UInt8)) = false := by rw [ByteArray.toList_eq]; simp; intro e; exact hS (by rw [← ByteArray.size_data,e]; rfl)
    simp only [decide_eq_false hS,Bool.and_false,Bool.false_and];clear hS
    go_enter Tryz.func85,Tryz.ntmps85
    go_wp2_with fail;go_ret;exact ⟨rfl,hb⟩
  ·have dN : (N == 0) = false := by simpa using hN
   simp only [decide_eq_false hN,Bool.and_false,Bool.false_and];clear hN
   go_enter Tryz.func85,Tryz.ntmps85
   go_wp2_with fail;go_ret;exact ⟨rfl,hb⟩
 ·by_cases hN : N = 0
  ·subst hN
   by_cases hS : S.size = 0
   ·obtain rfl := size_empty hS
    by_cases h1 : n1 = 0
    ·subst h1
     by_cases h2 : n2 = 0
     ·subst h2
      go_enter Tryz.func85,Tryz.ntmps85
      go_wp2_with fail;go_ret;exact ⟨rfl,hb⟩
     ·have d2 : ((n2 : Int) == 0) = false := by simp; omega
      simp only [decide_eq_false h2,Bool.and_false];clear h2
      go_enter Tryz.func85,Tryz.ntmps85
      go_wp2_with fail;go_ret;exact ⟨rfl,hb⟩
    ·have d1 : ((n1 : Int) == 0) = false := by simp; omega
     simp only [decide_eq_false h1,Bool.and_false,Bool.false_and];clear h1
     go_enter Tryz.func85,Tryz.ntmps85
     go_wp2_with fail;go_ret;exact ⟨rfl,hb⟩
   ·have dS : (S.toList == ([] : List UInt8)) = false := by rw [ByteArray.toList_eq]; simp; intro e; exact hS (by rw [← ByteArray.size_data,e]; rfl)
    simp only [decide_eq_false hS,Bool.and_false,Bool.false_and];clear hS
    go_enter Tryz.func85,Tryz.ntmps85
    go_wp2_with fail;go_ret;exact ⟨rfl,hb⟩
  ·have dN : (N == 0) = false := by simpa using hN
   simp only [decide_eq_false hN,Bool.and_false,Bool.false_and];clear hN
   go_enter Tryz.func85,Tryz.ntmps85
   go_wp2_with fail;go_ret;exact ⟨rfl,hb⟩
 ·have e1 : (K == 1) = false := by simpa using h1
  have e2 : (K == 2) = false := by simpa using h2
  have e3 : (K == 3) = false := by simpa using h3
  have hk : decide (K = 1 ∨ K = 2 ∨ K = 3) = false := by simp [h1,h2,h3]
  simp only [hk,Bool.false_and];clear h1 h2 h3 hk
  go_enter Tryz.func85,Tryz.ntmps85
  go_wp2_with fail;go_ret;exact ⟨rfl,hb⟩
theorem valid_any (s : ByteArray) (w : World) (hs : s.size ≤ 140737488351232) :
  Calls Tryz.prog 112 #[.string s] w fun e w' => e = .returned (.bool (validB s.data.toList)) ∧ Below w.heap.size w w' := by
 go_enter Tryz.func112,Tryz.ntmps112
 go_wp2
 go_loopw [] (fun wr => ∃ (pos : Nat) (acc : List Nat),wr = w.iter s pos ∧ Hid (Gone s.data.toList pos acc)) (fun wr => s.size - wr.iterPos w.heap.size)
 case atStart => exact ⟨0,[],rfl,Gone.start _⟩
 case round =>
  obtain ⟨pos,acc,rfl,H⟩ := hrel
  by_cases hp : pos < s.size
  ·obtain ⟨c,k,hd,h1,h2⟩ := dec_at s pos hp
   have hnx : ∀ ty,(Instr.next (.pointer (some ⟨w.heap.size,0,none⟩)) true ty).run Tryz.prog (w.iter s pos) = .ok (.tuple #[.bool true,.int .i64 (pos : Int),.int .i32 (c : Int)]) (w.iter s (pos + k)) := by
    intro ty;have := run_next_any (P := Tryz.prog) w s pos ty hp;rw [hd] at this;exact this
   have H1 : Hid (standsB (s.data.toList.drop pos) c = true → nxL (s.data.toList.drop pos) = some (c,k)) := h1;have H2 : Hid (standsB (s.data.toList.drop pos) c = false → nxL (s.data.toList.drop pos) = none) := h2;clear hd h1 h2;go_wp2_with fail;refine (stands_any s _ _ _ hs (by omega) (by omega)).mono ?_;rintro e w' ⟨rfl,rfl⟩;rw [Int.toNat_natCast]
   cases hst : standsB (s.data.toList.drop pos) c with
   | false =>
    go_wp2
    go_ret;exact ⟨ret_bool (by unfold validB; rw [H.out.bad (by rw [len_data]; exact hp) (H2.out hst)]; rfl),below_iter _ _ _⟩
   | true =>
    have HN := H1.out hst;have hk : 1 ≤ k := (nxL_some _ _ _ HN).2.2.2.1;have HG : Hid (Gone s.data.toList (pos + k) (acc ++ [c])) := H.out.step HN;clear HN
    go_wp2
    go_roundw
    case rel => exact ⟨pos + k,acc ++ [c],rfl,HG⟩
    case measure => simp; omega
  ·have hnx : ∀ ty,(Instr.next (.pointer (some ⟨w.heap.size,0,none⟩)) true ty).run Tryz.prog (w.iter s pos) = _ := fun ty => run_next_end w s pos ty hp
   go_wp2
   go_ret;exact ⟨ret_bool (by unfold validB; rw [H.out.done (by rw [len_data]; omega)]; rfl),below_iter _ _ _⟩
theorem zeroEp (w : World) : (zeroValue 129).run Tryz.prog w = .ok (.agg #[]) w := by kernel_rfl
theorem place_any (a : Option Addr) (N cap : Nat) (w : World) (h1 : N ≤ cap) (h2 : cap ≤ maxLen) (h3 : N = 0 ∨ ∃ g off,a = some ⟨g,off,none⟩) :
  Calls Tryz.prog 75 #[.slice a N cap] w fun e w' => e = .returned (plV (plOf (.slice a N cap))) ∧ Below w.heap.size w w' := by
 unfold maxLen at h2
 by_cases hN : N = 0
 ·subst hN
  go_enter Tryz.func75,Tryz.ntmps75
  go_wp2_with fail;refine bodyPost_ret (results_cell rfl _ _ _ ⟨w.heap.size,0,none⟩ (.agg #[.pointer none,.int .i64 0]) (by go_simp) (by go_simp)) rfl ⟨by simp [plV,plOf],(Below.refl _ _).alloc (Nat.le_refl _) _⟩
 ·obtain ⟨g,off,rfl⟩ : ∃ g off,a = some ⟨g,off,none⟩ := by
   rcases h3 with h | h
   ·exact absurd h hN
   ·exact h
  have hd : ((N : Int) == 0) = false := by simp; omega
  have hp : 0 < N := by omega
  go_enter Tryz.func75,Tryz.ntmps75
  go_wp2_with fail;refine bodyPost_ret (results_cell rfl _ _ _ ⟨w.heap.size,0,none⟩ (.agg #[.pointer (some ⟨g,off,none⟩),.int .i64 (N : Int)]) (by go_simp) (by go_simp)) rfl ⟨by simp [plV,plOf,hN],(Below.refl _ _).alloc (Nat.le_refl _) _⟩
theorem uPlace : Tryz.prog.underlying 140 = some (.map 142 129) := by kernel_rfl
theorem told_pl {w : World} {x : Pl} {L : List Pl} (hx : PlOk w x) (hL : ∀ y ∈ L,PlOk w y) : Told 142 w (plV x) (L.map plV) := by
 intro q hq;obtain ⟨y,hy,rfl⟩ := List.mem_map.1 hq;have h := eql_pl w x y hx (hL y hy)
 have inj : plV x = plV y ↔ x = y := by
  obtain ⟨p,m⟩ := x;obtain ⟨q,n⟩ := y
  simp [plV]
  intro _
  omega
 constructor
 ·intro e;rw [h,decide_eq_true (inj.1 e)]
 ·intro e;rw [h,decide_eq_false (fun e' => e (inj.2 e'))]
theorem mem_plV {x : Pl} {L : List Pl} : plV x ∈ L.map plV ↔ x ∈ L := by
 constructor
 ·intro h;obtain ⟨y,hy,e⟩ := List.mem_map.1 h;obtain ⟨p,m⟩ := x;obtain ⟨q,n⟩ := y
  simp [plV] at e
  obtain ⟨rfl,e2⟩ := e
  obtain rfl : n = m := by omega
  exact hy
 ·exact List.mem_map_of_mem
def msgsL (ts : List Tr) : List (List (Int × List Tr)) := (ts.filter fun t => t.kind == 3).map Tr.es
def MsgS (ts : List Tr) (M : List (List (Int × List Tr))) : Prop := M.Sublist (msgsL ts) ∧ ∀ t ∈ ts,t.kind = 3 → t.es ∈ M
def LvC (n : Nat) (w : World) (r : List Value) (m : List (Int × List Tr)) : Prop := ∃ ve,r = [ve] ∧ EnsQ n w ve m ∧ PlnV w ve
abbrev LvQ (n : Nat) (w : World) (v : Value) (M : List (List (Int × List Tr))) : Prop := RowP (LvC n w) w 1 v M
theorem infoSl : (Tryz.prog.info? 27).map (fun i => (i.zero,i.size,i.bytes)) = some (some (.slice none 0 0),1,24) := by kernel_rfl
theorem MsgS.skip {ts : List Tr} {M : List (List (Int × List Tr))} {t : Tr} (h : MsgS ts M) (ht : t.kind ≠ 3) : MsgS (ts ++ [t]) M := by
 refine ⟨?_,fun x hx hk => ?_⟩
 ·have : msgsL (ts ++ [t]) = msgsL ts := by simp [msgsL,List.filter_append,ht]
  rw [this]; exact h.1
 ·rcases List.mem_append.1 hx with hx | hx
  ·exact h.2 x hx hk
  ·obtain rfl : x = t := by simpa using hx
   exact absurd hk ht
theorem msgs_snoc {ts : List Tr} {t : Tr} (ht : t.kind = 3) : msgsL (ts ++ [t]) = msgsL ts ++ [t.es] := by simp [msgsL,List.filter_append,ht]
theorem MsgS.old {ts : List Tr} {M : List (List (Int × List Tr))} {t : Tr} (h : MsgS ts M) (ht : t.kind = 3) (hm : t.es ∈ M) : MsgS (ts ++ [t]) M := by
 refine ⟨?_,fun x hx hk => ?_⟩
 ·rw [msgs_snoc ht]; exact h.1.trans (List.sublist_append_left _ _)
 ·rcases List.mem_append.1 hx with hx | hx
  ·exact h.2 x hx hk
  ·obtain rfl : x = t := by simpa using hx
   exact hm
theorem MsgS.new {ts : List Tr} {M : List (List (Int × List Tr))} {t : Tr} (h : MsgS ts M) (ht : t.kind = 3) : MsgS (ts ++ [t]) (M ++ [t.es]) := by
 refine ⟨?_,fun x hx hk => ?_⟩
 ·rw [msgs_snoc ht]; exact h.1.append (List.Sublist.refl _)
 ·rcases List.mem_append.1 hx with hx | hx
  ·exact List.mem_append.2 (.inl (h.2 x hx hk))
  ·obtain rfl : x = t := by simpa using hx
   simp
def Side (n : Nat) (w : World) (ves : List Value) (M : List (List (Int × List Tr))) : Prop := ves.length = M.length ∧ ∀ (i : Nat) (ve : Value) (m : List (Int × List Tr)),ves[i]? = some ve → M[i]? = some m → EnsQ n w ve m ∧ PlnV w ve
theorem Side.nil (n : Nat) (w : World) : Side n w [] [] := ⟨rfl,by simp⟩
theorem Side.snoc {n : Nat} {w : World} {ves : List Value} {M : List (List (Int × List Tr))} (h : Side n w ves M) {ve : Value} {m : List (Int × List Tr)} (h1 : EnsQ n w ve m) (h2 : PlnV w ve) : Side n w (ves ++ [ve]) (M ++ [m]) := by
 refine ⟨by simp [h.1],fun i v m' hv hm => ?_⟩
 by_cases hi : i < ves.length
 ·rw [List.getElem?_append_left hi] at hv;rw [List.getElem?_append_left (by rw [← h.1]; exact hi)] at hm;exact h.2 i v m' hv hm
 ·rw [List.getElem?_append_right (by omega)] at hv;rw [List.getElem?_append_right (by rw [← h.1]; omega)] at hm;rw [← h.1] at hm
  cases hq : i - ves.length with
  | zero =>
   rw [hq] at hv hm
   obtain rfl : ve = v := by simpa using hv
   obtain rfl : m = m' := by simpa using hm
   exact ⟨h1,h2⟩
  | succ q => rw [hq] at hv; simp at hv
theorem Side.mem {n : Nat} {w : World} {ves : List Value} {M : List (List (Int × List Tr))} (h : Side n w ves M) {ve : Value} (hv : ve ∈ ves) : ∃ m ∈ M,EnsQ n w ve m ∧ PlnV w ve := by
 obtain ⟨i,hi,e⟩ := List.getElem_of_mem hv;have hm : M[i]? = some (M[i]'(by rw [← h.1]; exact hi)) := List.getElem?_eq_getElem _;exact ⟨_,List.mem_of_getElem? hm,h.2 i ve _ (by rw [List.getElem?_eq_getElem hi,e]) hm⟩
theorem flat_one : ∀ l : List Value,l = (l.map fun x => [x]).flatten
 | [] => rfl
 | a :: l => by rw [List.map_cons,List.flatten_cons,← flat_one l]; rfl
theorem Side.row {n : Nat} {w w' : World} {ves : List Value} {M : List (List (Int × List Tr))} (h : Side n w ves M) (hb : Below w.heap.size w w') {B k : Nat} {v : Value} (ho : w'.ownsRow B 27 1 v k ves) : LvQ n w' v M := by
 have hf : ves = (ves.map fun x => [x]).flatten := flat_one ves;rw [hf] at ho;have hr := (RowG.own (rs := ves.map fun x => [x]) (by intro r hr; obtain ⟨x,_,rfl⟩ := List.mem_map.1 hr; rfl) (by decide) ho).1;refine ⟨_,hr,by simp [h.1],fun i m hm => ?_⟩;obtain ⟨ve,hv⟩ : ∃ ve,ves[i]? = some ve := ⟨_,List.getElem?_eq_getElem (by rw [h.1]; exact (List.getElem?_eq_some_iff.1 hm).1)⟩;obtain ⟨g1,g2⟩ := h.2 i ve m hv hm;exact ⟨[ve],by simp [hv],ve,rfl,g1.belowEQ hb,g2.below hb⟩
def MsgP (n : Nat) (ts : List Tr) (w : World) (e : Ending) (w' : World) : Prop := ∃ v M,e = .returned v ∧ LvQ n w' v M ∧ MsgS ts M ∧ Below w.heap.size w w'
theorem messages_step (n : Nat) (v : Value) (ts : List Tr) (w : World) (h : TrsQ (n + 1) w v ts) (hl : ts.length ≤ 5000) :
  Calls Tryz.prog 42 #[v] w (MsgP n ts w) := by
 have hmm := @run_makeMap Tryz.prog;obtain ⟨a,cap,rfl,h1,h2,h3, -, -⟩ := RowP.open h;obtain ⟨N,hN⟩ : ∃ N,ts.length = N := ⟨_,rfl⟩;rw [hN] at h1 hl ⊢;have HH : Hid (TrsQ (n + 1) w (.slice a N cap) ts) := (by rw [← hN]; exact h : TrsQ (n + 1) w (.slice a N cap) ts);have HN : Hid (ts.length = N) := hN;unfold maxLen at h2;clear h hN h3
 go_enter Tryz.func42,Tryz.ntmps42
 go_wp2_with fail;have HS0 : Hid (PlSet (w.alloc (.map #[] 0)) w.heap.size (List.map plV [])) := PlSet.made w;have HO0 : Hid ((w.alloc (.map #[] 0)).ownsRow (w.heap.size + 1) 27 1 (.slice none 0 0) 0 []) := World.ownsRow_nil _ _ _ _;have hb0 : Below w.heap.size w (w.alloc (.map #[] 0)) := (Below.refl _ _).alloc (Nat.le_refl _) _
 go_loopw [3,13] (fun ov iv wr => ∃ (i k : Nat) (oa : Option Addr) (oc : Nat) (ves : List Value) (M : List (List (Int × List Tr))),iv = .int .i64 (i : Int) ∧ ov = .slice oa k oc ∧ i ≤ N ∧ k ≤ i ∧ Hid (Side n w ves M) ∧ Hid (MsgS (ts.take i) M) ∧ Hid (PlSet wr w.heap.size ((ves.map plOf).map plV)) ∧ Hid (wr.ownsRow (w.heap.size + 1) 27 1 (.slice oa k oc) k ves) ∧ Below w.heap.size w wr) (fun _ iv _ => N - (intOf iv).toNat)
 case atStart => exact ⟨0,0,none,0,[],[],rfl,rfl,by omega,by omega,Side.nil n w,(⟨by simp,by simp⟩ : MsgS (ts.take 0) []),HS0,HO0,hb0⟩
 case round =>
  clear HS0 HO0 hb0;obtain ⟨i,k,oa,oc,ves,M,rfl,rfl,hi,hk,HSD,HMS,HST,HO,hbel⟩ := hrel
  by_cases hlt : i < N
  ·obtain ⟨t,ht⟩ : ∃ r,ts[i]? = some r := ⟨_,List.getElem?_eq_getElem (by rw [HN.out]; exact hlt)⟩;obtain ⟨g,off,rfl,r,hr,hc⟩ := HH.out.get ht;obtain ⟨ve,vr,rfl,q1,q2,q3,q4,q5,q6,q7⟩ := hr;obtain ⟨ea,ec,rfl,e1,e2,e3, -, -⟩ := RowP.open q6;obtain ⟨ra,rc,rfl, -⟩ := rest_holds q5;have c0 := (hbel.cell (World.block_lt_of_cell? _ _ (hc 0 _ rfl))).trans (hc 0 _ rfl);have c1 := (hbel.cell (World.block_lt_of_cell? _ _ (hc 1 _ rfl))).trans (hc 1 _ rfl);have c2 := (hbel.cell (World.block_lt_of_cell? _ _ (hc 2 _ rfl))).trans (hc 2 _ rfl);have c3 := (hbel.cell (World.block_lt_of_cell? _ _ (hc 3 _ rfl))).trans (hc 3 _ rfl);have c4 := (hbel.cell (World.block_lt_of_cell? _ _ (hc 4 _ rfl))).trans (hc 4 _ rfl);simp only [Nat.add_zero] at c0;have HT : Hid (ts[i]? = some t) := ht;have HTK : Hid (ts.take (i + 1) = ts.take i ++ [t]) := (by obtain ⟨hl',e⟩ := List.getElem?_eq_some_iff.1 ht; rw [List.take_succ_eq_append_getElem hl',e] : ts.take (i + 1) = ts.take i ++ [t]);have HE : Hid (EnsQ n w (.slice ea t.es.length ec) t.es ∧ PlnV w (.slice ea t.es.length ec)) := ⟨q6,q7⟩;clear hc ht q1 q2 q3 q4 q5 q6 q7;generalize hEl : t.es.length = El at *;generalize t.rest.length = Rl at *;have HEl : Hid (t.es.length = El) := hEl;obtain ⟨K,hK⟩ : ∃ K,t.kind = K := ⟨_,rfl⟩;rw [hK] at c0;have HK : Hid (t.kind = K) := hK;clear hK hEl;generalize t.n = Tn at *;generalize t.s = Ts at *
   by_cases h3 : K = 3
   ·subst h3;obtain ⟨⟨p,m⟩,hpm⟩ : ∃ x,plOf (.slice ea El ec) = x := ⟨_,rfl⟩;have HPM : Hid (plOf (.slice ea El ec) = (p,m)) := hpm
    have HPC : Hid (∀ W,Calls Tryz.prog 75 #[.slice ea El ec] W fun e w' => e = .returned (.agg #[.pointer p,.int .i64 (m : Int)]) ∧ Below W.heap.size W w') := fun W => by
     have := place_any ea El ec W e1 e2 (e3.imp (fun h => by rw [← HEl.out,h]; rfl) id);rw [hpm] at this;exact this
    clear hpm e3;go_wp2_with fail;refine (HPC.out _).mono ?_;rintro e w2 ⟨rfl,hb2⟩;have BT : Blk w2 wr.heap.size #[.int .i64 3,.int .i64 Tn,.string Ts,.slice ea El ec,.slice ra Rl rc] 30 := (Blk.new wr _ _).below hb2;have hbr : Below wr.heap.size wr w2 := ((Below.refl _ _).alloc (Nat.le_refl _) _).trans (hb2.mono (by simp));have hbw : Below w.heap.size w w2 := hbel.trans (hbr.mono hbel.size);have HST2 : Hid (PlSet w2 w.heap.size ((ves.map plOf).map plV)) := HST.out.below hbr;have HO2 : Hid (w2.ownsRow (w.heap.size + 1) 27 1 (.slice oa k oc) k ves) := own_below HO.out hbr;generalize wr.heap.size = bt at *;clear hb2 hbr HPC c0 c1 c2 c3 c4 HST HO hbel
    have HTD : Hid (∀ W,Below w.heap.size w W → Told 142 W (.agg #[.pointer p,.int .i64 (m : Int)]) ((ves.map plOf).map plV)) := fun W hW => by
     have hx : PlOk W (p,m) := by rw [← HPM.out]; exact plOf_ok (HE.out.2.below hW) (HE.out.1.belowEQ hW)
     exact told_pl hx fun y hy => by
      obtain ⟨ve,hve,rfl⟩ := List.mem_map.1 hy;obtain ⟨m',_,g1,g2⟩ := HSD.out.mem hve;exact plOf_ok (g2.below hW) (RowP.belowEQ g1 hW)
    obtain ⟨R,hR⟩ : ∃ R : Bool,R = true ↔ (p,m) ∈ ves.map plOf := by
     by_cases hm : (p,m) ∈ ves.map plOf
     ·exact ⟨true,by simp [hm]⟩
     ·exact ⟨false,by simp [hm]⟩
    have HR : Hid (R = true ↔ (p,m) ∈ ves.map plOf) := hR;clear hR;have al3 : Below w2.heap.size w2 (w2.alloc (Obj.cells #[.pointer p,.int .i64 (m : Int)] 142)) := (Below.refl _ _).alloc (Nat.le_refl _) _;have hb3 : Below w.heap.size w (w2.alloc (Obj.cells #[.pointer p,.int .i64 (m : Int)] 142)) := hbw.trans (al3.mono hbw.size);have al4 : Below w2.heap.size w2 ((w2.alloc (Obj.cells #[.pointer p,.int .i64 (m : Int)] 142)).alloc (Obj.cells #[] 129)) := al3.alloc (by simp) _;have hb4 : Below w.heap.size w ((w2.alloc (Obj.cells #[.pointer p,.int .i64 (m : Int)] 142)).alloc (Obj.cells #[] 129)) := hbw.trans (al4.mono hbw.size)
    have HLK : Hid ((Instr.lookup 140 (.map (some w.heap.size)) (.agg #[.pointer p,.int .i64 (m : Int)]) true).run Tryz.prog (w2.alloc (Obj.cells #[.pointer p,.int .i64 (m : Int)] 142)) = .ok (.tuple #[.agg #[],.bool R]) (w2.alloc (Obj.cells #[.pointer p,.int .i64 (m : Int)] 142))) :=
     look_pl uPlace zeroEp Tryz.underlying142 (fun _ _ => rfl) rfl (fun e => check_pl _ e (p,m)) (HST2.out.below al3) (HTD.out _ hb3) R (HR.out.trans mem_plV.symm)
    cases R with
    | true =>
     have hes : t.es ∈ M := by
      obtain ⟨ve,hve,e⟩ := List.mem_map.1 (HR.out.1 rfl);obtain ⟨m',hm',g1,g2⟩ := HSD.out.mem hve;rw [pl_uniq HE.out.1 g1 (by rw [HPM.out,e])];exact hm'
     have HES : Hid (t.es ∈ M) := hes;have q0 := BT.cell 3;clear hes
     go_wp2_with (first | (at_lookup; refine wpList_lookup_pl rfl _ _ rfl rfl rfl HLK.out ?_) | fail)
     go_roundw
     case rel => exact ⟨i + 1,k,oa,oc,ves,M,by go_num,rfl,by omega,by omega,HSD,(by rw [HTK.out]; exact HMS.out.old HK.out HES.out : MsgS (ts.take (i + 1)) M),HST2.out.below al4,own_below HO2.out al4,hb4⟩
     case measure => simp [intOf]; omega
    | false =>
     obtain ⟨w5,r1,r2,r3,r4⟩ := update_pl (MT := 140) (E := 129) (w := ((w2.alloc (Obj.cells #[.pointer p,.int .i64 (m : Int)] 142)).alloc (Obj.cells #[] 129))) uPlace Tryz.underlying142 (fun _ _ => rfl) rfl (fun e => check_pl _ e (p,m)) (HST2.out.below al4) (HTD.out _ hb4) (fun h => by have := HR.out.2 (mem_plV.1 h); cases this);have HUP : Hid _ := r1;have BT5 : Blk w5 bt #[.int .i64 3,.int .i64 Tn,.string Ts,.slice ea El ec,.slice ra Rl rc] 30 := (BT.below al4).kp r3 (fun e => (HST2.out.below al4).neB (BT.below al4) e);have hO5 : w5.ownsRow (w.heap.size + 1) 27 1 (.slice oa k oc) k ves := own_kpV (own_below HO2.out al4) r3 (fun q hq e => by have := (own_lt (own_below HO2.out al4) hq).1; omega);have hb5 : Below w.heap.size w w5 := hb4.trans (r3.toBelow hb4.size (fun q e => by omega))
     have HST5 : Hid (PlSet w5 w.heap.size (((ves ++ [Value.slice ea El ec]).map plOf).map plV)) := by
      show PlSet _ _ _
      rw [List.map_append,List.map_append,List.map_cons,List.map_nil,HPM.out];exact r2
     have al6 : Below w5.heap.size w5 (w5.alloc (Obj.cells #[.slice ea El ec] 27)) := (Below.refl _ _).alloc (Nat.le_refl _) _;have BE : Blk (w5.alloc (Obj.cells #[.slice ea El ec] 27)) w5.heap.size #[.slice ea El ec] 27 := Blk.new w5 _ _;have hb6 : Below w.heap.size w (w5.alloc (Obj.cells #[.slice ea El ec] 27)) := hb5.trans (al6.mono hb5.size);have q3 := (BT5.cell 3).trans rfl;obtain ⟨i0,hi0,hz0,hz1,hz2⟩ := info_parts infoSl
     obtain ⟨v',W7,s1,s2,s3,_,s5⟩ := run_append_own_at (w5.alloc (Obj.cells #[.slice ea El ec] 27)) (w.heap.size + 1) 95 95 27 i0 _ 1 24 Tryz.underlying95 hi0 hz0 hz1 hz2 rfl (by decide) (.slice oa k oc) k _ (own_below hO5 al6) ⟨w5.heap.size,0,none⟩ 1 1 [.slice ea El ec] rfl (fun j u hu => by
      have := BE.cell j;rw [Addr.add_lit,Nat.zero_add,this]
      simpa using hu) (fun u hu => by
      simp only [List.mem_cons,List.not_mem_nil,or_false] at hu
      subst hu; rfl) (by unfold maxLen; omega) (by omega) (by have := hb6.size; have := HST5.out.lt; have := al6.size; omega)
     have HRUN : Hid _ := s1
     have HST7 : Hid (PlSet W7 w.heap.size (((ves ++ [Value.slice ea El ec]).map plOf).map plV)) := by
      have h6 := HST5.out.below al6;have hl6 := h6.lt;obtain ⟨es,c,g1,g2⟩ := h6;refine ⟨es,c,(s3.block _ hl6 (fun e => ?_)).trans g1,g2⟩;have := (own_lt hO5 e.symm).1
      omega
     have hb7 : Below w.heap.size w W7 := hb6.grown s3 hb6.size (fun q hq => by have := (own_lt hO5 hq).1; omega);obtain ⟨na,nc,hv'⟩ := own_form s2;subst hv';have HO7 : Hid (W7.ownsRow (w.heap.size + 1) 27 1 (.slice na (k + 1) nc) (k + 1) (ves ++ [Value.slice ea El ec])) := s2;have HSD7 : Hid (Side n w (ves ++ [Value.slice ea El ec]) (M ++ [t.es])) := HSD.out.snoc HE.out.1 HE.out.2;have q0 := (BT.cell 3).trans rfl;clear r1 r2 r3 r4 s1 s2 s3 s5 hO5 BE HTD HR HSD HST2 HO2 HST5 hi0 hz0 hz1 hz2
     go_wp2_with (first | (at_lookup; refine wpList_lookup_pl rfl _ _ rfl rfl rfl HLK.out ?_) | (at_mapUpdate; refine wpList_update_pl rfl _ _ _ rfl rfl rfl rfl HUP.out ?_) | (at_builtin; refine wpList_ran rfl (append_run rfl rfl rfl HRUN.out) ?_) | fail)
     go_roundw
     case rel => exact ⟨i + 1,k + 1,na,nc,_,_,by go_num,rfl,by omega,by omega,HSD7,(by rw [HTK.out]; exact HMS.out.new HK.out : MsgS (ts.take (i + 1)) (M ++ [t.es])),HST7,HO7,hb7⟩
     case measure => simp [intOf]; omega
   ·have hd : (K != 3) = true := by simpa using h3
    go_wp2_with fail;have hb2 : Below w.heap.size w (wr.alloc (Obj.cells #[.int .i64 K,.int .i64 Tn,.string Ts,.slice ea El ec,.slice ra Rl rc] 30)) := hbel.alloc hbel.size _;have hal : Below wr.heap.size wr (wr.alloc (Obj.cells #[.int .i64 K,.int .i64 Tn,.string Ts,.slice ea El ec,.slice ra Rl rc] 30)) := (Below.refl _ _).alloc (Nat.le_refl _) _
    go_roundw
    case rel => exact ⟨i + 1,k,oa,oc,ves,M,by go_num,rfl,by omega,by omega,HSD,(by rw [HTK.out]; exact HMS.out.skip (by rw [HK.out]; exact h3) : MsgS (ts.take (i + 1)) M),HST.out.below hal,own_below HO.out hal,hb2⟩
    case measure => simp [intOf]; omega
  ·go_wp2_with fail;go_ret;have h5 := HMS.out;rw [List.take_of_length_le (by rw [HN.out]; omega)] at h5;exact ⟨_,M,rfl,HSD.out.row hbel HO.out,h5,hbel⟩
end
end Go.Proofs.YtmgbhicogmclgaaGreat
