/- Part 9 of what the proof stands on. -/
import Derived.Test.YtdkolhfpfimeoaaPkEAH
namespace Go.Proofs.Ytdkolhfpfimeoaa
set_option maxHeartbeats 8000000
set_option linter.unusedVariables false
set_option linter.unusedSimpArgs false
set_option maxRecDepth 20000
section
theorem mtOf_mem {s : ScS} (hs : OkS s) {m : MtS} (h : m ∈ s.methods) : mtOf s m.name = some m := by
 unfold mtOf;have hn := hs.tns;unfold ScS.tn at hn;generalize s.methods = l at h hn
 induction l with
 | nil => cases h
 | cons a l ih =>
  simp only [List.map_cons,List.nodup_cons] at hn
  rcases List.mem_cons.1 h with rfl | h
  ·simp
  ·have hne : a.name ≠ m.name := fun e => hn.1 (e ▸ List.mem_map.2 ⟨m,h,rfl⟩)
   rw [List.find?_cons_of_neg (by simpa using hne)];exact ih h hn.2
def samF (f g : FlS) : Prop := g.tag = f.tag ∧ g.label = f.label ∧ g.kind = f.kind ∧ g.tname = f.tname
def samL : List FlS → List FlS → Prop
 | [],[] => True
 | f :: l,g :: r => samF f g ∧ samL l r
 | _,_ => False
theorem samL_fld : ∀ {l r : List FlS} {tag : Int} {f : FlS},samL l r → fldOf l tag = some f → ∃ g,fldOf r tag = some g ∧ samF f g
 | [],_,_,_,_,h => by simp [fldOf] at h
 | a :: l,[],_,_,h,_ => h.elim
 | a :: l,b :: r,tag,f,h,hf => by
  obtain ⟨h1,h2⟩ := h;unfold fldOf at hf ⊢
  by_cases ht : a.tag = tag
  ·rw [List.find?_cons_of_pos (by simpa using ht)] at hf;rw [List.find?_cons_of_pos (by simpa using h1.1.trans ht)];obtain rfl := Option.some.inj hf;exact ⟨b,rfl,h1⟩
  ·rw [List.find?_cons_of_neg (by simpa using ht)] at hf;rw [List.find?_cons_of_neg (by simpa [h1.1] using ht)];exact samL_fld h2 hf
theorem samL_symm : ∀ {l r : List FlS},samL l r → samL r l
 | [],[],_ => trivial
 | _ :: _,_ :: _,⟨h1,h2⟩ => ⟨⟨h1.1.symm,h1.2.1.symm,h1.2.2.1.symm,h1.2.2.2.symm⟩,samL_symm h2⟩
structure SamS (s t : ScS) : Prop where
 len : s.msgs.length = t.msgs.length
 msg : ∀ (i : Nat) (m k : MsS),s.msgs[i]? = some m → t.msgs[i]? = some k → k.name = m.name ∧ k.reserved = m.reserved ∧ samL m.fields k.fields
 enm : t.enums = s.enums
 mth : t.methods = s.methods
theorem SamS.symm {s t : ScS} (h : SamS s t) : SamS t s := ⟨h.len.symm,fun i m k h1 h2 => by
 obtain ⟨a,b,c⟩ := h.msg i k m h2 h1
 exact ⟨a.symm,b.symm,samL_symm c⟩,h.enm.symm,h.mth.symm⟩
theorem SamS.names {s t : ScS} (h : SamS s t) : t.mn = s.mn := by
 unfold ScS.mn
 apply List.ext_getElem?
 intro i;rw [List.getElem?_map,List.getElem?_map]
 cases h1 : s.msgs[i]? with
 | none =>
  have : t.msgs[i]? = none := by
   rw [List.getElem?_eq_none_iff] at h1 ⊢;rw [← h.len]; exact h1
  rw [this]
 | some m =>
  obtain ⟨k,hk⟩ : ∃ k,t.msgs[i]? = some k := ⟨_,List.getElem?_eq_getElem (by rw [← h.len]; exact (List.getElem?_eq_some_iff.1 h1).1)⟩;rw [hk]
  simp [(h.msg i m k h1 hk).1]
theorem SamS.of {s t : ScS} (hs : OkS s) (ht : OkS t) (h : SamS s t) (A : ByteArray) : (msG t A).reserved = (msG s A).reserved ∧ ∀ tag f,fldOf (msG s A).fields tag = some f → ∃ g,fldOf (msG t A).fields tag = some g ∧ samF f g := by
 cases hq : msgOf s A with
 | none =>
  have hn : msgOf t A = none := by
   cases hk : msgOf t A with
   | none => rfl
   | some k =>
    have h1 : k.name = A := by simpa using List.find?_some hk
    have h2 : k.name ∈ t.mn := List.mem_map.2 ⟨k,List.mem_of_find?_eq_some hk,rfl⟩;rw [h.names] at h2;obtain ⟨m,h3,h4⟩ := List.mem_map.1 h2;have h5 := msgOf_mem hs h3;rw [h4,h1,hq] at h5
    cases h5
  unfold msG;rw [hq,hn];exact ⟨rfl,fun tag f hf => by simp [fldOf,zMs] at hf⟩
 | some m =>
  have h1 : m.name = A := by simpa using List.find?_some hq
  obtain ⟨i,hi⟩ := List.getElem?_of_mem (List.mem_of_find?_eq_some hq);obtain ⟨k,hk⟩ : ∃ k,t.msgs[i]? = some k := ⟨_,List.getElem?_eq_getElem (by rw [← h.len]; exact (List.getElem?_eq_some_iff.1 hi).1)⟩;obtain ⟨e1,e2,e3⟩ := h.msg i m k hi hk;have h2 := msgOf_mem ht (List.mem_of_getElem? hk);rw [e1,h1] at h2;unfold msG;rw [hq,h2];exact ⟨e2,fun tag f hf => samL_fld e3 hf⟩
theorem SamS.ext {s t : ScS} (hs : OkS s) (ht : OkS t) (h : SamS s t) : Ext s t := by
 refine ⟨fun m hm => ⟨m,?_,rfl,rfl⟩,fun A tag e => by rw [(h.of hs ht A).1]; exact e,fun A tag f hf => ?_,fun nm x hx => ⟨x,?_,fun v hv => hv⟩⟩
 ·have := mtOf_mem hs hm;unfold mtOf at this ⊢;rw [h.mth]; exact this
 ·obtain ⟨g,h1,h2⟩ := (h.of hs ht A).2 tag f hf;exact .inr ⟨g,h1,h2.2.1,h2.2.2.1,h2.2.2.2⟩
 ·unfold enmOf at hx ⊢;rw [h.enm]; exact hx
theorem sam_evol {s t : ScS} (hs : OkS s) (ht : OkS t) (h : SamS s t) : evolA s t = (⟨#[]⟩,0,true) ∧ evolA t s = (⟨#[]⟩,0,true) := ⟨evol_ext hs ht (h.ext hs ht),evol_ext ht hs (h.symm.ext ht hs)⟩
theorem samL_refl : ∀ l : List FlS,samL l l
 | [] => trivial
 | f :: l => ⟨⟨rfl,rfl,rfl,rfl⟩,samL_refl l⟩
theorem self_evol {s : ScS} (hs : OkS s) : evolA s s = (⟨#[]⟩,0,true) := evol_ext hs hs (SamS.ext hs hs ⟨rfl,fun i m k h1 h2 => by rw [h1] at h2; obtain rfl := Option.some.inj h2; exact ⟨rfl,rfl,samL_refl _⟩,rfl,rfl⟩)
def nmK (k : Nat) : ByteArray := ⟨#[102,(97 + k).toUInt8]⟩
def renF (k : Nat) (f : FlS) : FlS := ⟨nmK k,f.tag,f.label,f.kind,f.tname⟩
def renL : Nat → List FlS → List FlS
 | _,[] => []
 | k,f :: l => renF k f :: renL (k + 1) l
def renM (m : MsS) : MsS := ⟨m.name,renL 0 m.fields,m.reserved⟩
def renS (s : ScS) : ScS := ⟨⟨#[97,110,111,116,104,101,114]⟩,s.msgs.map renM,s.enums,s.methods⟩
theorem renL_sam : ∀ (k : Nat) (l : List FlS),samL l (renL k l)
 | _,[] => trivial
 | k,f :: l => ⟨⟨rfl,rfl,rfl,rfl⟩,renL_sam (k + 1) l⟩
theorem renL_len : ∀ (k : Nat) (l : List FlS),(renL k l).length = l.length
 | _,[] => rfl
 | k,f :: l => by simp [renL,renL_len (k + 1) l]
theorem ren_sam (s : ScS) : SamS s (renS s) := ⟨by simp [renS],fun i m k h1 h2 => by
 simp only [renS,List.getElem?_map,h1,Option.map_some,Option.some.injEq] at h2;subst h2
 exact ⟨rfl,rfl,renL_sam 0 _⟩,rfl,rfl⟩
theorem renL_mem : ∀ {k : Nat} {l : List FlS} {g : FlS},g ∈ renL k l → ∃ i f,f ∈ l ∧ i < l.length ∧ g = renF (k + i) f
 | k,f :: l,g,h => by
  rcases List.mem_cons.1 h with rfl | h
  ·exact ⟨0,f,List.mem_cons_self ..,by simp,rfl⟩
  ·obtain ⟨i,q,h1,h2,h3⟩ := renL_mem h;exact ⟨i + 1,q,List.mem_cons_of_mem _ h1,by simp; omega,by rw [h3]; congr 1; omega⟩
theorem renL_names : ∀ (k : Nat) (l : List FlS),(renL k l).map FlS.name = (List.range' k l.length).map nmK
 | _,[] => rfl
 | k,f :: l => by simp [renL,renL_names (k + 1) l,renF,List.range'_succ]
theorem renL_tags : ∀ (k : Nat) (l : List FlS),(renL k l).map FlS.tag = l.map FlS.tag
 | _,[] => rfl
 | k,f :: l => by simp [renL,renL_tags (k + 1) l,renF]
theorem nmK_ok : ∀ k,k < 20 → nameB (nmK k) = true := by decide +kernel
theorem nmK_inj : ∀ i,i < 20 → ∀ j,j < 20 → nmK i = nmK j → i = j := by decide +kernel
theorem another_ok : nameB ⟨#[97,110,111,116,104,101,114]⟩ = true := by decide +kernel
theorem ren_ok {s : ScS} (hs : OkS s) : OkS (renS s) := by
 have hn := (ren_sam s).names;refine ⟨another_ok,by simpa [renS] using hs.some,by simpa [renS,bigS] using hs.big,fun x hx => ?_,hs.enums,fun t ht => by rw [hn]; exact hs.meths t ht,by rw [hn]; exact hs.names,hs.enms,fun x hx => by rw [hn]; exact hs.apart x hx,hs.tns⟩;obtain ⟨m,hm,rfl⟩ := List.mem_map.1 hx;rw [hn];obtain ⟨h1,h2,h3,h4,h5,h6,h7⟩ := hs.msgs m hm
 have hl : m.fields.length ≤ 16 := by simp [bigM] at h2; omega
 refine ⟨h1,by simpa [bigM,renM,renL_len] using h2,h3,h4,fun g hg => ?_,?_,by rw [renM,renL_tags]; exact h7⟩
 ·obtain ⟨i,f,q1,q2,rfl⟩ := renL_mem hg;obtain ⟨⟨r1,r2,r3,r4⟩,r5⟩ := h5 f q1;exact ⟨⟨nmK_ok _ (by omega),r2,r3,r4⟩,r5⟩
 ·rw [renM,renL_names];have hnd : (List.range' 0 m.fields.length).Nodup := List.nodup_range';refine nodup_map_on (fun a ha b hb e => ?_) hnd;simp only [List.mem_range'_1] at ha hb;exact nmK_inj a (by omega) b (by omega) e
where
 nodup_map_on {α β : Type} {f : α → β} : ∀ {l : List α},(∀ a ∈ l,∀ b ∈ l,f a = f b → a = b) → l.Nodup → (l.map f).Nodup
  | [],_,_ => List.nodup_nil
  | a :: l,h,hn => by
   rw [List.nodup_cons] at hn;rw [List.map_cons,List.nodup_cons];refine ⟨fun hm => ?_,nodup_map_on (fun x hx y hy => h x (List.mem_cons_of_mem _ hx) y (List.mem_cons_of_mem _ hy)) hn.2⟩;obtain ⟨b,hb,e⟩ := List.mem_map.1 hm;have := h b (List.mem_cons_of_mem _ hb) a (List.mem_cons_self ..) e;exact hn.1 (this ▸ hb)
def kAnother : ByteArray := ⟨#[97,110,111,116,104,101,114]⟩
def kLetters : ByteArray := ⟨#[97,98,99,100,101,102,103,104,105,106,107,108,109,110,111,112,113,114,115,116]⟩
theorem letter_of : ∀ k,k < 20 → (⟨#[102]⟩ : ByteArray) ++ kLetters.extract k (k + 1) = nmK k := by decide +kernel
def renP (k : Nat) (fs : List FlS) : List FlS := renL 0 (fs.take k) ++ fs.drop k
theorem renL_snoc : ∀ (j : Nat) (a : List FlS) (f : FlS),renL j (a ++ [f]) = renL j a ++ [renF (j + a.length) f]
 | j,[],f => rfl
 | j,x :: a,f => by
  simp only [List.cons_append,renL,renL_snoc (j + 1) a f,List.length_cons];rw [show j + 1 + a.length = j + (a.length + 1) by omega]
theorem renP_zero (fs : List FlS) : renP 0 fs = fs := by simp [renP,renL]
theorem renP_all (fs : List FlS) : renP fs.length fs = renL 0 fs := by simp [renP]
theorem renP_len (k : Nat) (fs : List FlS) : (renP k fs).length = fs.length := by
 unfold renP;rw [List.length_append,renL_len,List.length_take,List.length_drop]; omega
theorem renP_get {k : Nat} {fs : List FlS} {f : FlS} (h : fs[k]? = some f) : (renP k fs)[k]? = some f := by
 have hk := (List.getElem?_eq_some_iff.1 h).1
 have hl : (renL 0 (fs.take k)).length = k := by rw [renL_len,List.length_take]; omega
 unfold renP;rw [List.getElem?_append_right (by omega),hl,Nat.sub_self,List.getElem?_drop];exact h
theorem renP_step {k : Nat} {fs : List FlS} {f : FlS} (h : fs[k]? = some f) : (renP k fs).set k (renF k f) = renP (k + 1) fs := by
 obtain ⟨hk,hf⟩ := List.getElem?_eq_some_iff.1 h
 have hl : (renL 0 (fs.take k)).length = k := by rw [renL_len,List.length_take]; omega
 have ht : (fs.take k).length = k := by rw [List.length_take]; omega
 unfold renP;rw [List.take_add_one,h,Option.toList_some,renL_snoc,ht,List.set_append,if_neg (by omega),hl,Nat.sub_self];rw [List.drop_eq_getElem_cons hk,List.set_cons_zero,List.append_assoc,List.cons_append,List.nil_append,Nat.zero_add]
def renQ (i : Nat) (s : ScS) : ScS := ⟨kAnother,(s.msgs.take i).map renM ++ s.msgs.drop i,s.enums,s.methods⟩
def renI (i k : Nat) (m : MsS) (s : ScS) : ScS := ⟨kAnother,(renQ i s).msgs.set i ⟨m.name,renP k m.fields,m.reserved⟩,s.enums,s.methods⟩
theorem renQ_zero (s : ScS) : renQ 0 s = ⟨kAnother,s.msgs,s.enums,s.methods⟩ := by simp [renQ]
theorem renQ_all (s : ScS) : renQ s.msgs.length s = renS s := by simp [renQ,renS,kAnother]
theorem renQ_len (i : Nat) (s : ScS) : (renQ i s).msgs.length = s.msgs.length := by
 unfold renQ;simp only [List.length_append,List.length_map,List.length_take,List.length_drop]; omega
theorem renQ_get {i : Nat} {s : ScS} {m : MsS} (h : s.msgs[i]? = some m) : (renQ i s).msgs[i]? = some m := by
 have hk := (List.getElem?_eq_some_iff.1 h).1
 have hl : ((s.msgs.take i).map renM).length = i := by rw [List.length_map,List.length_take]; omega
 unfold renQ;simp only;rw [List.getElem?_append_right (by omega),hl,Nat.sub_self,List.getElem?_drop];exact h
theorem renI_zero {i : Nat} {s : ScS} {m : MsS} (h : s.msgs[i]? = some m) : renI i 0 m s = renQ i s := by
 unfold renI;rw [renP_zero];have h1 := renQ_get h
 have h2 : (renQ i s).msgs.set i ⟨m.name,m.fields,m.reserved⟩ = (renQ i s).msgs := by
  apply List.ext_getElem?
  intro j;rw [List.getElem?_set]
  by_cases hj : i = j
  ·subst hj;rw [if_pos rfl,if_pos (List.getElem?_eq_some_iff.1 h1).1,h1]
  ·rw [if_neg hj]
 rw [h2]; rfl
theorem renI_all {i : Nat} {s : ScS} {m : MsS} (h : s.msgs[i]? = some m) : renI i m.fields.length m s = renQ (i + 1) s := by
 obtain ⟨hk,hf⟩ := List.getElem?_eq_some_iff.1 h
 have hl : ((s.msgs.take i).map renM).length = i := by rw [List.length_map,List.length_take]; omega
 unfold renI renQ;rw [renP_all];simp only;rw [List.take_add_one,h,Option.toList_some,List.map_append,List.set_append,if_neg (by omega),hl,Nat.sub_self];rw [List.drop_eq_getElem_cons hk,List.set_cons_zero,List.append_assoc,List.map_cons,List.map_nil,List.cons_append,List.nil_append]
 rfl
theorem renI_get {i k : Nat} {s : ScS} {m : MsS} (h : s.msgs[i]? = some m) : (renI i k m s).msgs[i]? = some ⟨m.name,renP k m.fields,m.reserved⟩ := by
 unfold renI;rw [List.getElem?_set_self];rw [renQ_len];exact (List.getElem?_eq_some_iff.1 h).1
theorem renI_step {i k : Nat} {s : ScS} {m : MsS} {f : FlS} (h : m.fields[k]? = some f) : (⟨(renI i k m s).name,(renI i k m s).msgs.set i ⟨m.name,(renP k m.fields).set k (renF k f),m.reserved⟩,(renI i k m s).enums,(renI i k m s).methods⟩ : ScS) = renI i (k + 1) m s := by
 unfold renI;simp only;rw [List.set_set,renP_step h]
theorem ren_w {s : ScS} (h : ScW s) (hf : FewL s) : ScW (renS s) := by
 refine ⟨by show ByteArray.size ⟨#[97,110,111,116,104,101,114]⟩ ≤ 140737488351232; decide,fun m hm => ?_,h.enums,h.meths⟩;obtain ⟨x,hx,rfl⟩ := List.mem_map.1 hm;obtain ⟨h1,h2,h3⟩ := h.msgs x hx;refine ⟨h1,fun f hf => ?_,h3⟩;obtain ⟨i,q,q1,q2,rfl⟩ := renL_mem hf;obtain ⟨r1,r2,r3,r4,r5⟩ := h2 q q1;exact ⟨by show ByteArray.size ⟨#[102,(97 + (0 + i)).toUInt8]⟩ ≤ 140737488351232; exact Nat.le_trans (Nat.le_refl 2) (by decide),r2,r3,r4,r5⟩
theorem ren_few {s : ScS} (h : FewL s) : FewL (renS s) := by
 refine ⟨by simpa [renS] using h.msgs,h.enums,h.meths,fun m hm => ?_,h.vals⟩;obtain ⟨x,hx,rfl⟩ := List.mem_map.1 hm;have := h.flds x hx;exact ⟨by show (renL 0 x.fields).length ≤ 20; rw [renL_len]; exact this.1,this.2⟩
theorem renF_cells (k : Nat) (f : FlS) : f.cells.set 0 (.string (nmK k)) = (renF k f).cells := rfl
end
section
open Go.ChangeShapes Go.WideShapes Go.ChangeAt Go.RowKit Go.Maps
theorem r7message_any {w : World} {snm nm : ByteArray} {ae at' : Option Addr} {E ce T ct : Nat} {vm : Value} {ms : List MsS} (hr : MsIn w vm ms)  :
  Calls Try.prog 31 #[.agg #[.string snm,vm,.slice ae E ce,.slice at' T ct],.string nm] w fun e w' => ∃ vf vr,e = .returned (.tuple #[.agg #[.string ((ms.find? (fun m => decide (m.name = nm))).getD zeroM).name,vf,vr],.bool (ms.find? (fun m => decide (m.name = nm))).isSome]) ∧ RowG w' vf 5 (flRows ((ms.find? (fun m => decide (m.name = nm))).getD zeroM).fields) ∧ RowG w' vr 1 (inRows ((ms.find? (fun m => decide (m.name = nm))).getD zeroM).reserved) ∧ Below w.heap.size w w' := by
 obtain ⟨a,c,rfl,q1,q2⟩ := hr.form2;have HR : Hid (MsIn w (.slice a ms.length c) ms) := hr;obtain ⟨N,hN⟩ : ∃ N,ms.length = N := ⟨_,rfl⟩;rw [hN] at HR q1 ⊢;have HN : Hid (ms.length = N) := hN;clear hN hr;obtain ⟨A,hA⟩ : ∃ A,(ms.find? (fun m => decide (m.name = nm))) = A := ⟨_,rfl⟩;rw [hA];have HA : Hid (A = ((ms.drop 0).find? (fun m => decide (m.name = nm)))) := hA.symm;clear hA;have BX0 : Blk ((w.alloc (.cells #[.string snm,.slice a N c,.slice ae E ce,.slice at' T ct] 26)).alloc (.cells #[.string ⟨#[]⟩,.slice none 0 0,.slice none 0 0] 40)) w.heap.size #[.string snm,.slice a N c,.slice ae E ce,.slice at' T ct] 26 := (Blk.new w _ _).below ((Below.refl _ _).alloc (Nat.le_refl _) _)
 have BR0 : Blk ((w.alloc (.cells #[.string snm,.slice a N c,.slice ae E ce,.slice at' T ct] 26)).alloc (.cells #[.string ⟨#[]⟩,.slice none 0 0,.slice none 0 0] 40)) (w.heap.size + 1) #[.string ⟨#[]⟩,.slice none 0 0,.slice none 0 0] 40 := by
  have := Blk.new (w.alloc (.cells #[.string snm,.slice a N c,.slice ae E ce,.slice at' T ct] 26)) #[.string ⟨#[]⟩,.slice none 0 0,.slice none 0 0] 40
  rwa [show (w.alloc (.cells #[.string snm,.slice a N c,.slice ae E ce,.slice at' T ct] 26)).heap.size = w.heap.size + 1 by simp] at this
 have hb0 : Below w.heap.size w ((w.alloc (.cells #[.string snm,.slice a N c,.slice ae E ce,.slice at' T ct] 26)).alloc (.cells #[.string ⟨#[]⟩,.slice none 0 0,.slice none 0 0] 40)) := ((Below.refl _ _).alloc (Nat.le_refl _) _).alloc (by simp) _
 go_enter Try.func31,Try.ntmps31
 go_wp2_with fail
 go_loopw [6] (fun iv wr => ∃ k : Nat,iv = .int .i64 (k : Int) ∧ k ≤ N ∧ Hid (A = ((ms.drop k).find? (fun m => decide (m.name = nm)))) ∧ Below w.heap.size w wr ∧ Blk wr (w.heap.size + 1) #[.string ⟨#[]⟩,.slice none 0 0,.slice none 0 0] 40 ∧ Blk wr w.heap.size #[.string snm,.slice a N c,.slice ae E ce,.slice at' T ct] 26) (fun iv _ => N - (intOf iv).toNat)
 case atStart => exact ⟨0,rfl,by omega,HA,hb0,BR0,BX0⟩
 case round =>
  obtain ⟨k,rfl,hk,HAk,hbel,BR,BX⟩ := hrel;clear BX0 BR0 hb0;have hlt2 : w.heap.size + 1 < wr.heap.size := BR.lt;have r0 := (BR.cell 0).trans rfl;have z0 := BR.froz 0;have r1 := (BR.cell 1).trans rfl;have z1 := BR.froz 1;have r2 := (BR.cell 2).trans rfl;have z2 := BR.froz 2;have x1 : wr.cell? ⟨w.heap.size,1,none⟩ = some (.slice a N c) := BX.cell 1
  by_cases hlt : k < N
  ·obtain ⟨f,hf⟩ : ∃ n,ms[k]? = some n := ⟨_,List.getElem?_eq_getElem (by rw [HN.out]; exact hlt)⟩;obtain ⟨g,off,vf,vr,rfl,c0',c1',c2',hrf,hrr⟩ := HR.out.get hf;have c0 := (hbel.cell (World.block_lt_of_cell? _ _ c0')).trans c0';have c1 := (hbel.cell (World.block_lt_of_cell? _ _ c1')).trans c1';have c2 := (hbel.cell (World.block_lt_of_cell? _ _ c2')).trans c2';clear c0' c1' c2';have HF : Hid (RowG w vf 5 (flRows f.fields)) := hrf;have HV : Hid (RowG w vr 1 (inRows f.reserved)) := hrr;obtain ⟨a3,c3,rfl,_,_⟩ := hrf.form2;obtain ⟨a4,c4,rfl,_,_⟩ := hrr.form2;have HF : Hid (RowG w (.slice a3 (flRows f.fields).length c3) 5 (flRows f.fields)) := HF;have HV : Hid (RowG w (.slice a4 (inRows f.reserved).length c4) 1 (inRows f.reserved)) := HV
   have HA2 : Hid (A = if decide (f.name = nm) = true then some f else ((ms.drop (k + 1)).find? (fun m => decide (m.name = nm)))) := by
    show _ = _
    rw [HAk.out,drop_at hf,List.find?_cons]
    cases decide (f.name = nm) <;> rfl
   obtain ⟨f0,ff,fr⟩ := f;simp only at c0 c1 c2 HA2 HF HV;generalize hnF : (flRows ff).length = nF at *;generalize hnR : (inRows fr).length = nR at *;clear hrf hrr hf HAk hnF hnR
   by_cases he : f0 = nm
   ·subst he
    have HA3 : Hid (A = some ⟨f0,ff,fr⟩) := by show _ = _; rw [HA2.out,if_pos (by simp)]
    clear HA2;go_wp2_with fail;refine bodyPost_ret (results_two rfl _ _ _ ⟨w.heap.size + 1,0,none⟩ (.agg #[.string f0,.slice a3 nF c3,.slice a4 nR c4]) (by go_simp) (by go_simp)) rfl ?_;refine ⟨.slice a3 nF c3,.slice a4 nR c4,ret_two (by rw [HA3.out]; rfl) (by rw [HA3.out]; rfl),?_,?_,(Below.setCell (Below.setCell (Below.setCell hbel (by simp) _) (by simp) _) (by simp) _)⟩
    ·rw [HA3.out]; exact HF.out.below (Below.setCell (Below.setCell (Below.setCell hbel (by simp) _) (by simp) _) (by simp) _)
    ·rw [HA3.out]; exact HV.out.below (Below.setCell (Below.setCell (Below.setCell hbel (by simp) _) (by simp) _) (by simp) _)
   ·have hq := bytes_ne he
    have HA3 : Hid (A = ((ms.drop (k + 1)).find? (fun m => decide (m.name = nm)))) := by show _ = _; rw [HA2.out,if_neg (by simpa using he)]
    go_wp2_with fail
    go_roundw
    case rel => exact ⟨k + 1,by go_num,by omega,HA3,hbel,BR,BX⟩
    case measure => simp [intOf]; omega
  ·have HA2 : Hid (A = none) := by show _ = _; rw [HAk.out,drop_end (by rw [HN.out]; omega)]; rfl
   go_wp2_with fail;refine bodyPost_ret (results_two rfl _ _ _ ⟨w.heap.size + 1,0,none⟩ (.agg #[.string ⟨#[]⟩,.slice none 0 0,.slice none 0 0]) (by go_simp) (by go_simp)) rfl ?_;exact ⟨.slice none 0 0,.slice none 0 0,ret_two (by rw [HA2.out]; rfl) (by rw [HA2.out]; rfl),by rw [HA2.out]; exact RowG.nil _ _,by rw [HA2.out]; exact RowG.nil _ _,(Below.setCell (Below.setCell (Below.setCell hbel (by simp) _) (by simp) _) (by simp) _)⟩
theorem r7enum_any {w : World} {snm nm : ByteArray} {am at' : Option Addr} {M cm T ct : Nat} {ve : Value} {ms : List EnS} (hr : EnIn w ve ms)  :
  Calls Try.prog 27 #[.agg #[.string snm,.slice am M cm,ve,.slice at' T ct],.string nm] w fun e w' => ∃ vv,e = .returned (.tuple #[.agg #[.string ((ms.find? (fun m => decide (m.name = nm))).getD zeroN).name,vv],.bool (ms.find? (fun m => decide (m.name = nm))).isSome]) ∧ RowG w' vv 2 (nmRows ((ms.find? (fun m => decide (m.name = nm))).getD zeroN).values) ∧ Below w.heap.size w w' := by
 obtain ⟨a,c,rfl,q1,q2⟩ := hr.form2;have HR : Hid (EnIn w (.slice a ms.length c) ms) := hr;obtain ⟨N,hN⟩ : ∃ N,ms.length = N := ⟨_,rfl⟩;rw [hN] at HR q1 ⊢;have HN : Hid (ms.length = N) := hN;clear hN hr;obtain ⟨A,hA⟩ : ∃ A,(ms.find? (fun m => decide (m.name = nm))) = A := ⟨_,rfl⟩;rw [hA];have HA : Hid (A = ((ms.drop 0).find? (fun m => decide (m.name = nm)))) := hA.symm;clear hA;have BX0 : Blk ((w.alloc (.cells #[.string snm,.slice am M cm,.slice a N c,.slice at' T ct] 26)).alloc (.cells #[.string ⟨#[]⟩,.slice none 0 0] 51)) w.heap.size #[.string snm,.slice am M cm,.slice a N c,.slice at' T ct] 26 := (Blk.new w _ _).below ((Below.refl _ _).alloc (Nat.le_refl _) _)
 have BR0 : Blk ((w.alloc (.cells #[.string snm,.slice am M cm,.slice a N c,.slice at' T ct] 26)).alloc (.cells #[.string ⟨#[]⟩,.slice none 0 0] 51)) (w.heap.size + 1) #[.string ⟨#[]⟩,.slice none 0 0] 51 := by
  have := Blk.new (w.alloc (.cells #[.string snm,.slice am M cm,.slice a N c,.slice at' T ct] 26)) #[.string ⟨#[]⟩,.slice none 0 0] 51
  rwa [show (w.alloc (.cells #[.string snm,.slice am M cm,.slice a N c,.slice at' T ct] 26)).heap.size = w.heap.size + 1 by simp] at this
 have hb0 : Below w.heap.size w ((w.alloc (.cells #[.string snm,.slice am M cm,.slice a N c,.slice at' T ct] 26)).alloc (.cells #[.string ⟨#[]⟩,.slice none 0 0] 51)) := ((Below.refl _ _).alloc (Nat.le_refl _) _).alloc (by simp) _
 go_enter Try.func27,Try.ntmps27
 go_wp2_with fail
 go_loopw [6] (fun iv wr => ∃ k : Nat,iv = .int .i64 (k : Int) ∧ k ≤ N ∧ Hid (A = ((ms.drop k).find? (fun m => decide (m.name = nm)))) ∧ Below w.heap.size w wr ∧ Blk wr (w.heap.size + 1) #[.string ⟨#[]⟩,.slice none 0 0] 51 ∧ Blk wr w.heap.size #[.string snm,.slice am M cm,.slice a N c,.slice at' T ct] 26) (fun iv _ => N - (intOf iv).toNat)
 case atStart => exact ⟨0,rfl,by omega,HA,hb0,BR0,BX0⟩
 case round =>
  obtain ⟨k,rfl,hk,HAk,hbel,BR,BX⟩ := hrel;clear BX0 BR0 hb0;have hlt2 : w.heap.size + 1 < wr.heap.size := BR.lt;have r0 := (BR.cell 0).trans rfl;have z0 := BR.froz 0;have r1 := (BR.cell 1).trans rfl;have z1 := BR.froz 1;have x1 : wr.cell? ⟨w.heap.size,2,none⟩ = some (.slice a N c) := BX.cell 2
  by_cases hlt : k < N
  ·obtain ⟨f,hf⟩ : ∃ n,ms[k]? = some n := ⟨_,List.getElem?_eq_getElem (by rw [HN.out]; exact hlt)⟩;obtain ⟨g,off,vv,rfl,c0',c1',hrf⟩ := HR.out.get hf;have c0 := (hbel.cell (World.block_lt_of_cell? _ _ c0')).trans c0';have c1 := (hbel.cell (World.block_lt_of_cell? _ _ c1')).trans c1';clear c0' c1';have HF : Hid (RowG w vv 2 (nmRows f.values)) := hrf;obtain ⟨a3,c3,rfl,_,_⟩ := hrf.form2;have HF : Hid (RowG w (.slice a3 (nmRows f.values).length c3) 2 (nmRows f.values)) := HF
   have HA2 : Hid (A = if decide (f.name = nm) = true then some f else ((ms.drop (k + 1)).find? (fun m => decide (m.name = nm)))) := by
    show _ = _
    rw [HAk.out,drop_at hf,List.find?_cons]
    cases decide (f.name = nm) <;> rfl
   obtain ⟨f0,ff⟩ := f;simp only at c0 c1 HA2 HF;generalize hnF : (nmRows ff).length = nF at *;clear hrf hf HAk hnF
   by_cases he : f0 = nm
   ·subst he
    have HA3 : Hid (A = some ⟨f0,ff⟩) := by show _ = _; rw [HA2.out,if_pos (by simp)]
    clear HA2;go_wp2_with fail;refine bodyPost_ret (results_two rfl _ _ _ ⟨w.heap.size + 1,0,none⟩ (.agg #[.string f0,.slice a3 nF c3]) (by go_simp) (by go_simp)) rfl ?_;refine ⟨.slice a3 nF c3,ret_two (by rw [HA3.out]; rfl) (by rw [HA3.out]; rfl),?_,(Below.setCell (Below.setCell hbel (by simp) _) (by simp) _)⟩;rw [HA3.out]; exact HF.out.below (Below.setCell (Below.setCell hbel (by simp) _) (by simp) _)
   ·have hq := bytes_ne he
    have HA3 : Hid (A = ((ms.drop (k + 1)).find? (fun m => decide (m.name = nm)))) := by show _ = _; rw [HA2.out,if_neg (by simpa using he)]
    go_wp2_with fail
    go_roundw
    case rel => exact ⟨k + 1,by go_num,by omega,HA3,hbel,BR,BX⟩
    case measure => simp [intOf]; omega
  ·have HA2 : Hid (A = none) := by show _ = _; rw [HAk.out,drop_end (by rw [HN.out]; omega)]; rfl
   go_wp2_with fail;refine bodyPost_ret (results_two rfl _ _ _ ⟨w.heap.size + 1,0,none⟩ (.agg #[.string ⟨#[]⟩,.slice none 0 0]) (by go_simp) (by go_simp)) rfl ?_;exact ⟨.slice none 0 0,ret_two (by rw [HA2.out]; rfl) (by rw [HA2.out]; rfl),by rw [HA2.out]; exact RowG.nil _ _,(Below.setCell (Below.setCell hbel (by simp) _) (by simp) _)⟩
end
section
open Go.ChangeShapes Go.WideShapes Go.ChangeAt Go.RowKit
def tlL : List UInt8 → Int
 | [] => -1
 | a :: _ => if ctU a = true then (a.toNat : Int) - 128 else -1
theorem tl_in (s : ByteArray) (i : Nat) (h : i < s.size) (a : 128 ≤ (s[i].toNat : Int)) (b : (s[i].toNat : Int) ≤ 191) : (s[i].toNat : Int) - 128 = tlL (s.data.toList.drop i) := by
 rw [drop_cons s i h]; simp only [tlL]; rw [if_pos (by simp [ctU]; omega)]
theorem tl_out (s : ByteArray) (i : Nat) (h : i < s.size) (a : (s[i].toNat : Int) < 128 ∨ 191 < (s[i].toNat : Int)) : -1 = tlL (s.data.toList.drop i) := by
 rw [drop_cons s i h]; simp only [tlL]; rw [if_neg (by simp [ctU]; omega)]
theorem tl_end (s : ByteArray) (i : Nat) (h : s.size ≤ i) : -1 = tlL (s.data.toList.drop i) := by
 rw [drop_none s i h]; rfl
theorem tail_any (s : ByteArray) (i : Int) (w : World) (hs : s.size ≤ 140737488351232) (hi : 0 ≤ i) :
  Calls Try.prog 79 #[.string s,.int .i64 i] w fun e w' => e = .returned (.int .i64 (tlL (s.data.toList.drop i.toNat))) ∧ w' = w := by
 by_cases h : i < s.size
 ·have hn : i.toNat < s.size := by omega
  go_enter Try.func79,Try.ntmps79
  go_wp2
  all_goals
   go_ret
   first
   | exact ⟨ret_int (tl_in s i.toNat hn (by omega) (by omega)),rfl⟩
   | exact ⟨ret_int (tl_out s i.toNat hn (by omega)),rfl⟩
 ·go_enter Try.func79,Try.ntmps79
  go_wp2
  go_ret;exact ⟨ret_int (tl_end s i.toNat (by omega)),rfl⟩
theorem rnext_out (s : ByteArray) (i : Int) (w : World) (h : i < 0 ∨ (s.size : Int) ≤ i) :
  Calls Try.prog 66 #[.string s,.int .i64 i] w fun e w' => e = .returned (nxV (nxL (atL s i))) ∧ w' = w := by
 have hx := atL_out s i h;have HX : Hid (nxL (atL s i) = none) := hx;clear hx
 rcases h with h | h
 ·go_enter Try.func66,Try.ntmps66
  go_wp2
  go_ret3
  exact ⟨ret_none HX.out,rfl⟩
 ·by_cases h0 : i < 0
  all_goals
   go_enter Try.func66,Try.ntmps66
   go_wp2
   go_ret3
   exact ⟨ret_none HX.out,rfl⟩
def accv (v0 : Int) (l : List UInt8) : Nat → Int
 | 0 => v0
 | k + 1 => 64 * accv v0 l k + tlL (l.drop (k + 1))
theorem nxL_lead1 (s : ByteArray) (i : Nat) (h : i < s.size) (ha : (s[i].toNat : Int) < 128) : nxL (atL s i) = some (s[i].toNat,1) := by
 rw [atL_in s i (by omega),Int.toNat_natCast,drop_cons s i h];simp only [nxL]; rw [if_pos (by omega)]
theorem nxL_lead0 (s : ByteArray) (i : Nat) (h : i < s.size) (h0 : 128 ≤ (s[i].toNat : Int)) (h1 : (s[i].toNat : Int) < 192 ∨ 248 ≤ (s[i].toNat : Int)) : nxL (atL s i) = none := by
 rw [atL_in s i (by omega),Int.toNat_natCast,drop_cons s i h];simp only [nxL]; rw [if_neg (by omega),if_neg (by omega),if_neg (by omega),if_neg (by omega)]
theorem rnext_lead1 (s : ByteArray) (i : Nat) (w : World) (hs : s.size ≤ 140737488351232) (h : i < s.size) (ha : (s[i].toNat : Int) < 128) :
  Calls Try.prog 66 #[.string s,.int .i64 (i : Int)] w fun e w' => e = .returned (nxV (nxL (atL s i))) ∧ w' = w := by
 have HX : Hid (nxL (atL s i) = some (s[i].toNat,1)) := nxL_lead1 s i h ha
 have hb : 0 ≤ (s[i].toNat : Int) := by omega
 go_enter Try.func66,Try.ntmps66
 go_wp2
 go_ret3
 exact ⟨ret_some _ _ HX.out rfl rfl,rfl⟩
theorem rnext_lead0 (s : ByteArray) (i : Nat) (w : World) (hs : s.size ≤ 140737488351232) (h : i < s.size) (h0 : 128 ≤ (s[i].toNat : Int)) (h1 : (s[i].toNat : Int) < 192 ∨ 248 ≤ (s[i].toNat : Int)) :
  Calls Try.prog 66 #[.string s,.int .i64 (i : Int)] w fun e w' => e = .returned (nxV (nxL (atL s i))) ∧ w' = w := by
 have HX : Hid (nxL (atL s i) = none) := nxL_lead0 s i h h0 h1
 have hb : (s[i].toNat : Int) < 256 := by have := s[i].toNat_lt; omega
 rcases h1 with h1 | h1
 all_goals
  go_enter Try.func66,Try.ntmps66
  go_wp2
  go_ret3
  exact ⟨ret_none HX.out,rfl⟩
theorem tl_neg {r : List UInt8} (h : tlL r < 0) : ∀ b r',r = b :: r' → ctU b = false := by
 rintro b r' rfl
 cases e : ctU b with
 | false => rfl
 | true => simp only [tlL,e,if_true] at h; simp [ctU] at e; omega
theorem tl_pos {r : List UInt8} (h : 0 ≤ tlL r) : ∃ b r',r = b :: r' ∧ ctU b = true ∧ tlL r = (b.toNat : Int) - 128 := by
 match r with
 | [] => simp [tlL] at h
 | b :: r' =>
  cases e : ctU b with
  | false => simp [tlL,e] at h
  | true => exact ⟨b,r',rfl,e,by simp [tlL,e]⟩
theorem tl_bd (r : List UInt8) : -1 ≤ tlL r ∧ tlL r ≤ 63 := by
 match r with
 | [] => simp [tlL]
 | b :: r' =>
  simp only [tlL]
  split
  ·rename_i e; simp [ctU] at e; omega
  ·omega
def okVr (v : Int) : Prop := v ≤ 1114111 ∧ ¬ (55296 ≤ v ∧ v ≤ 57343)
theorem bad_2 {a : UInt8} {r : List UInt8} (h0 : 192 ≤ a.toNat) (h1 : a.toNat < 224) (m : Nat) (hm : 1 ≤ m) (hn : m < 2) (h : tlL ((a :: r).drop m) < 0) : nxL (a :: r) = none := by
 obtain rfl : m = 1 := by omega
 have hc := tl_neg (r := r) h;simp only [nxL];rw [if_neg (by omega),if_pos ⟨h0,h1⟩]
 match r with
 | [] => rfl
 | b :: r' => simp [hc b r' rfl]
theorem bad_3 {a : UInt8} {r : List UInt8} (h0 : 224 ≤ a.toNat) (h1 : a.toNat < 240) (m : Nat) (hm : 1 ≤ m) (hn : m < 3) (h : tlL ((a :: r).drop m) < 0) : nxL (a :: r) = none := by
 simp only [nxL];rw [if_neg (by omega),if_neg (by omega),if_pos ⟨h0,h1⟩]
 match r with
 | [] => rfl
 | [b] => rfl
 | b :: c :: r' =>
  obtain rfl | rfl : m = 1 ∨ m = 2 := by omega
  ·have hc := tl_neg (r := b :: c :: r') h; simp [hc b _ rfl]
  ·have hc := tl_neg (r := c :: r') h; simp [hc c _ rfl]
theorem bad_4 {a : UInt8} {r : List UInt8} (h0 : 240 ≤ a.toNat) (h1 : a.toNat < 248) (m : Nat) (hm : 1 ≤ m) (hn : m < 4) (h : tlL ((a :: r).drop m) < 0) : nxL (a :: r) = none := by
 simp only [nxL];rw [if_neg (by omega),if_neg (by omega),if_neg (by omega),if_pos ⟨h0,h1⟩]
 match r with
 | [] => rfl
 | [b] => rfl
 | [b,c] => rfl
 | b :: c :: d :: r' =>
  obtain rfl | rfl | rfl : m = 1 ∨ m = 2 ∨ m = 3 := by omega
  ·have hc := tl_neg (r := b :: c :: d :: r') h; simp [hc b _ rfl]
  ·have hc := tl_neg (r := c :: d :: r') h; simp [hc c _ rfl]
  ·have hc := tl_neg (r := d :: r') h; simp [hc d _ rfl]
theorem good_2 {a : UInt8} {r : List UInt8} (h0 : 192 ≤ a.toNat) (h1 : a.toNat < 224) (h : ∀ m,1 ≤ m → m < 2 → 0 ≤ tlL ((a :: r).drop m)) :
  ∃ v : Nat,accv ((a.toNat : Int) - 192) (a :: r) 1 = v ∧ v ≤ 1000000000 ∧ (128 ≤ v ∧ okVr v → nxL (a :: r) = some (v,2)) ∧ (¬ (128 ≤ v ∧ okVr v) → nxL (a :: r) = none) := by
 obtain ⟨b,r',rfl,hb,eb⟩ := tl_pos (r := r) (h 1 (by omega) (by omega));have hl := two_lt h1 hb;have hb' := hb;simp only [ctU,Bool.and_eq_true,decide_eq_true_eq] at hb';refine ⟨two a b,?_,by omega,?_,?_⟩
 ·show 64 * ((a.toNat : Int) - 192) + tlL (b :: r') = _
  rw [eb]; simp only [two]; omega
 ·rintro ⟨g,_⟩;simp only [nxL];rw [if_neg (by omega),if_pos ⟨h0,h1⟩,if_pos ⟨hb,g⟩]
 ·intro g;simp only [nxL];rw [if_neg (by omega),if_pos ⟨h0,h1⟩,if_neg (fun x => g ⟨x.2,by simp only [okVr]; omega⟩)]
theorem good_3 {a : UInt8} {r : List UInt8} (h0 : 224 ≤ a.toNat) (h1 : a.toNat < 240) (h : ∀ m,1 ≤ m → m < 3 → 0 ≤ tlL ((a :: r).drop m)) :
  ∃ v : Nat,accv ((a.toNat : Int) - 224) (a :: r) 2 = v ∧ v ≤ 1000000000 ∧ (2048 ≤ v ∧ okVr v → nxL (a :: r) = some (v,3)) ∧ (¬ (2048 ≤ v ∧ okVr v) → nxL (a :: r) = none) := by
 obtain ⟨b,r1,rfl,hb,eb⟩ := tl_pos (r := r) (h 1 (by omega) (by omega));obtain ⟨c,r',rfl,hc,ec⟩ := tl_pos (r := r1) (h 2 (by omega) (by omega));have hl := three_lt h1 hb hc;have hb' := hb;have hc' := hc;simp only [ctU,Bool.and_eq_true,decide_eq_true_eq] at hb' hc';refine ⟨three a b c,?_,by omega,?_,?_⟩
 ·show 64 * (64 * ((a.toNat : Int) - 224) + tlL (b :: c :: r')) + tlL (c :: r') = _
  rw [eb,ec]; simp only [three]; omega
 ·rintro ⟨g,g2⟩;simp only [nxL];rw [if_neg (by omega),if_neg (by omega),if_pos ⟨h0,h1⟩,if_pos ⟨hb,hc,g,by simp only [okVr] at g2; omega⟩]
 ·intro g;simp only [nxL];rw [if_neg (by omega),if_neg (by omega),if_pos ⟨h0,h1⟩,if_neg (fun x => g ⟨x.2.2.1,by simp only [okVr]; omega⟩)]
theorem good_4 {a : UInt8} {r : List UInt8} (h0 : 240 ≤ a.toNat) (h1 : a.toNat < 248) (h : ∀ m,1 ≤ m → m < 4 → 0 ≤ tlL ((a :: r).drop m)) :
  ∃ v : Nat,accv ((a.toNat : Int) - 240) (a :: r) 3 = v ∧ v ≤ 1000000000 ∧ (65536 ≤ v ∧ okVr v → nxL (a :: r) = some (v,4)) ∧ (¬ (65536 ≤ v ∧ okVr v) → nxL (a :: r) = none) := by
 obtain ⟨b,r1,rfl,hb,eb⟩ := tl_pos (r := r) (h 1 (by omega) (by omega));obtain ⟨c,r2,rfl,hc,ec⟩ := tl_pos (r := r1) (h 2 (by omega) (by omega));obtain ⟨d,r',rfl,hd,ed⟩ := tl_pos (r := r2) (h 3 (by omega) (by omega));have hb' := hb;have hc' := hc;have hd' := hd;simp only [ctU,Bool.and_eq_true,decide_eq_true_eq] at hb' hc' hd';refine ⟨four a b c d,?_,by simp only [four]; omega,?_,?_⟩
 ·show 64 * (64 * (64 * ((a.toNat : Int) - 240) + tlL (b :: c :: d :: r')) + tlL (c :: d :: r')) + tlL (d :: r') = _
  rw [eb,ec,ed]; simp only [four]; omega
 ·rintro ⟨g,g2⟩;simp only [nxL];rw [if_neg (by omega),if_neg (by omega),if_neg (by omega),if_pos ⟨h0,h1⟩,if_pos ⟨hb,hc,hd,g,by simp only [okVr] at g2; omega⟩]
 ·intro g;simp only [nxL];rw [if_neg (by omega),if_neg (by omega),if_neg (by omega),if_pos ⟨h0,h1⟩,if_neg (fun x => g ⟨x.2.2.2.1,by simp only [okVr]; omega⟩)]
theorem accv_bd (v0 : Int) (l : List UInt8) (h0 : 0 ≤ v0) (h1 : v0 ≤ 31) (k : Nat) (hk : k ≤ 3) (h : ∀ m,1 ≤ m → m < k + 1 → 0 ≤ tlL (l.drop m)) : 0 ≤ accv v0 l k ∧ accv v0 l k ≤ 10000000 := by
 have b1 := tl_bd (l.drop 1);have b2 := tl_bd (l.drop 2);have b3 := tl_bd (l.drop 3)
 obtain rfl | rfl | rfl | rfl : k = 0 ∨ k = 1 ∨ k = 2 ∨ k = 3 := by omega
 ·simp only [accv]; omega
 ·have := h 1 (by omega) (by omega); simp only [accv,Nat.zero_add,Nat.reduceAdd]; omega
 ·have := h 1 (by omega) (by omega); have := h 2 (by omega) (by omega); simp only [accv,Nat.zero_add,Nat.reduceAdd]; omega
 ·have := h 1 (by omega) (by omega); have := h 2 (by omega) (by omega); have := h 3 (by omega) (by omega); simp only [accv,Nat.zero_add,Nat.reduceAdd]; omega
theorem rest_at (s : ByteArray) (i m : Nat) : s.data.toList.drop ((i : Int) + (m : Int)).toNat = (s.data.toList.drop i).drop m := by
 rw [List.drop_drop]; congr 1
theorem rnext_lead2 (s : ByteArray) (i : Nat) (w : World) (hs : s.size ≤ 140737488351232) (h : i < s.size) (h0 : 192 ≤ (s[i].toNat : Int)) (h1 : (s[i].toNat : Int) < 224) :
  Calls Try.prog 66 #[.string s,.int .i64 (i : Int)] w fun e w' => e = .returned (nxV (nxL (atL s i))) ∧ w' = w := by
 have hl0 : Hid (atL s i = s[i] :: s.data.toList.drop (i + 1)) := by rw [atL_in s i (by omega),Int.toNat_natCast,drop_cons s i h]; rfl
 have hl1 : Hid (atL s i = s.data.toList.drop i) := by rw [atL_in s i (by omega),Int.toNat_natCast]; rfl
 generalize atL s i = l at *
 have hd1 : decide (s.size ≤ i) = false := by simp; omega
 have hd2 : decide ((i : Int) < 0) = false := by simp
 have hd3 : decide ((s[i].toNat : Int) < 128) = false := by simp; omega
 go_enter Try.func66,Try.ntmps66
 go_wp2
 go_loop [9,11] (fun v j => ∃ m : Nat,1 ≤ m ∧ m ≤ 2 ∧ j = .int .i64 m ∧ v = .int .i64 (accv ((s[i].toNat : Int) - 192) l (m - 1)) ∧ Hid (∀ q,1 ≤ q → q < m → 0 ≤ tlL (l.drop q))) (fun _ j => 2 - (intOf j).toNat)
 case atStart => exact ⟨1,by omega,by omega,rfl,rfl,by intro q; omega⟩
 case round =>
  obtain ⟨m,hm1,hm2,rfl,rfl,H⟩ := hrel;have hbd := accv_bd ((s[i].toNat : Int) - 192) l (by omega) (by omega) (m - 1) (by omega) (fun q a b => H.out q a (by omega))
  by_cases hlt : m < 2
  ·have ht := tl_bd (l.drop m)
   have HT : Hid (tlL (s.data.toList.drop ((i : Int) + (m : Int)).toNat) = tlL (l.drop m)) := by rw [rest_at,← hl1.out]; rfl
   have HS : Hid (64 * accv ((s[i].toNat : Int) - 192) l (m - 1) + tlL (l.drop m) = accv ((s[i].toNat : Int) - 192) l m) := by
    obtain ⟨k,rfl⟩ : ∃ k,m = k + 1 := ⟨m - 1,by omega⟩
    rfl
   have HB : Hid (tlL (l.drop m) < 0 → nxL l = none) := fun hh => by
    have hx := hh;rw [hl0.out] at hx ⊢;exact bad_2 (by omega) (by omega) m hm1 hlt hx
   have HN : Hid (0 ≤ tlL (l.drop m) → ∀ q,1 ≤ q → q < m + 1 → 0 ≤ tlL (l.drop q)) := fun hh q a b => by
    by_cases e : q = m
    ·rw [e]; exact hh
    ·exact H.out q a (by omega)
   generalize accv ((s[i].toNat : Int) - 192) l (m - 1) = v at *;go_wp2_with fail;refine (tail_any s _ _ hs (by omega)).mono ?_;rintro e w' ⟨rfl,rfl⟩;rw [HT.out];generalize tlL (l.drop m) = t at *
   by_cases hneg : t < 0
   ·go_wp2
    go_ret3
    exact ⟨ret_none (HB.out hneg),rfl⟩
   ·go_wp2
    go_round
    case rel => exact ⟨m + 1,by omega,by omega,by go_num,by rw [HS.out]; rfl,HN.out (by omega)⟩
    case measure => simp [intOf]; omega
  ·obtain rfl : m = 2 := by omega
   obtain ⟨v,ev,hv,hyes,hno⟩ : ∃ v : Nat,accv ((s[i].toNat : Int) - 192) l (2 - 1) = v ∧ v ≤ 1000000000 ∧ (128 ≤ v ∧ okVr v → nxL l = some (v,2)) ∧ (¬ (128 ≤ v ∧ okVr v) → nxL l = none) := by
    have hg := H.out;rw [hl0.out] at hg ⊢;exact good_2 (by omega) (by omega) hg
   rw [ev];have HY : Hid (128 ≤ v ∧ okVr v → nxL l = some (v,2)) := hyes;have HNO : Hid (¬ (128 ≤ v ∧ okVr v) → nxL l = none) := hno;clear hyes hno ev hbd H
   go_wp2
   all_goals
    go_ret3
    first
    | exact ⟨ret_none (HNO.out (by simp only [okVr]; omega)),rfl⟩
    | exact ⟨ret_some _ _ (HY.out (by simp only [okVr]; omega)) rfl rfl,rfl⟩
theorem rnext_lead3 (s : ByteArray) (i : Nat) (w : World) (hs : s.size ≤ 140737488351232) (h : i < s.size) (h0 : 224 ≤ (s[i].toNat : Int)) (h1 : (s[i].toNat : Int) < 240) :
  Calls Try.prog 66 #[.string s,.int .i64 (i : Int)] w fun e w' => e = .returned (nxV (nxL (atL s i))) ∧ w' = w := by
 have hl0 : Hid (atL s i = s[i] :: s.data.toList.drop (i + 1)) := by rw [atL_in s i (by omega),Int.toNat_natCast,drop_cons s i h]; rfl
 have hl1 : Hid (atL s i = s.data.toList.drop i) := by rw [atL_in s i (by omega),Int.toNat_natCast]; rfl
 generalize atL s i = l at *
 have hd1 : decide (s.size ≤ i) = false := by simp; omega
 have hd2 : decide ((i : Int) < 0) = false := by simp
 have hd3 : decide ((s[i].toNat : Int) < 128) = false := by simp; omega
 go_enter Try.func66,Try.ntmps66
 go_wp2
 go_loop [9,11] (fun v j => ∃ m : Nat,1 ≤ m ∧ m ≤ 3 ∧ j = .int .i64 m ∧ v = .int .i64 (accv ((s[i].toNat : Int) - 224) l (m - 1)) ∧ Hid (∀ q,1 ≤ q → q < m → 0 ≤ tlL (l.drop q))) (fun _ j => 3 - (intOf j).toNat)
 case atStart => exact ⟨1,by omega,by omega,rfl,rfl,by intro q; omega⟩
 case round =>
  obtain ⟨m,hm1,hm2,rfl,rfl,H⟩ := hrel;have hbd := accv_bd ((s[i].toNat : Int) - 224) l (by omega) (by omega) (m - 1) (by omega) (fun q a b => H.out q a (by omega))
  by_cases hlt : m < 3
  ·have ht := tl_bd (l.drop m)
   have HT : Hid (tlL (s.data.toList.drop ((i : Int) + (m : Int)).toNat) = tlL (l.drop m)) := by rw [rest_at,← hl1.out]; rfl
   have HS : Hid (64 * accv ((s[i].toNat : Int) - 224) l (m - 1) + tlL (l.drop m) = accv ((s[i].toNat : Int) - 224) l m) := by
    obtain ⟨k,rfl⟩ : ∃ k,m = k + 1 := ⟨m - 1,by omega⟩
    rfl
   have HB : Hid (tlL (l.drop m) < 0 → nxL l = none) := fun hh => by
    have hx := hh;rw [hl0.out] at hx ⊢;exact bad_3 (by omega) (by omega) m hm1 hlt hx
   have HN : Hid (0 ≤ tlL (l.drop m) → ∀ q,1 ≤ q → q < m + 1 → 0 ≤ tlL (l.drop q)) := fun hh q a b => by
    by_cases e : q = m
    ·rw [e]; exact hh
    ·exact H.out q a (by omega)
   generalize accv ((s[i].toNat : Int) - 224) l (m - 1) = v at *;go_wp2_with fail;refine (tail_any s _ _ hs (by omega)).mono ?_;rintro e w' ⟨rfl,rfl⟩;rw [HT.out];generalize tlL (l.drop m) = t at *
   by_cases hneg : t < 0
   ·go_wp2
    go_ret3
    exact ⟨ret_none (HB.out hneg),rfl⟩
   ·go_wp2
    go_round
    case rel => exact ⟨m + 1,by omega,by omega,by go_num,by rw [HS.out]; rfl,HN.out (by omega)⟩
    case measure => simp [intOf]; omega
  ·obtain rfl : m = 3 := by omega
   obtain ⟨v,ev,hv,hyes,hno⟩ : ∃ v : Nat,accv ((s[i].toNat : Int) - 224) l (3 - 1) = v ∧ v ≤ 1000000000 ∧ (2048 ≤ v ∧ okVr v → nxL l = some (v,3)) ∧ (¬ (2048 ≤ v ∧ okVr v) → nxL l = none) := by
    have hg := H.out;rw [hl0.out] at hg ⊢;exact good_3 (by omega) (by omega) hg
   rw [ev];have HY : Hid (2048 ≤ v ∧ okVr v → nxL l = some (v,3)) := hyes;have HNO : Hid (¬ (2048 ≤ v ∧ okVr v) → nxL l = none) := hno;clear hyes hno ev hbd H
   go_wp2
   all_goals
    go_ret3
    first
    | exact ⟨ret_none (HNO.out (by simp only [okVr]; omega)),rfl⟩
    | exact ⟨ret_some _ _ (HY.out (by simp only [okVr]; omega)) rfl rfl,rfl⟩
theorem rnext_lead4 (s : ByteArray) (i : Nat) (w : World) (hs : s.size ≤ 140737488351232) (h : i < s.size) (h0 : 240 ≤ (s[i].toNat : Int)) (h1 : (s[i].toNat : Int) < 248) :
  Calls Try.prog 66 #[.string s,.int .i64 (i : Int)] w fun e w' => e = .returned (nxV (nxL (atL s i))) ∧ w' = w := by
 have hl0 : Hid (atL s i = s[i] :: s.data.toList.drop (i + 1)) := by rw [atL_in s i (by omega),Int.toNat_natCast,drop_cons s i h]; rfl
 have hl1 : Hid (atL s i = s.data.toList.drop i) := by rw [atL_in s i (by omega),Int.toNat_natCast]; rfl
 generalize atL s i = l at *
 have hd1 : decide (s.size ≤ i) = false := by simp; omega
 have hd2 : decide ((i : Int) < 0) = false := by simp
 have hd3 : decide ((s[i].toNat : Int) < 128) = false := by simp; omega
 go_enter Try.func66,Try.ntmps66
 go_wp2
 go_loop [9,11] (fun v j => ∃ m : Nat,1 ≤ m ∧ m ≤ 4 ∧ j = .int .i64 m ∧ v = .int .i64 (accv ((s[i].toNat : Int) - 240) l (m - 1)) ∧ Hid (∀ q,1 ≤ q → q < m → 0 ≤ tlL (l.drop q))) (fun _ j => 4 - (intOf j).toNat)
 case atStart => exact ⟨1,by omega,by omega,rfl,rfl,by intro q; omega⟩
 case round =>
  obtain ⟨m,hm1,hm2,rfl,rfl,H⟩ := hrel;have hbd := accv_bd ((s[i].toNat : Int) - 240) l (by omega) (by omega) (m - 1) (by omega) (fun q a b => H.out q a (by omega))
  by_cases hlt : m < 4
  ·have ht := tl_bd (l.drop m)
   have HT : Hid (tlL (s.data.toList.drop ((i : Int) + (m : Int)).toNat) = tlL (l.drop m)) := by rw [rest_at,← hl1.out]; rfl
   have HS : Hid (64 * accv ((s[i].toNat : Int) - 240) l (m - 1) + tlL (l.drop m) = accv ((s[i].toNat : Int) - 240) l m) := by
    obtain ⟨k,rfl⟩ : ∃ k,m = k + 1 := ⟨m - 1,by omega⟩
    rfl
   have HB : Hid (tlL (l.drop m) < 0 → nxL l = none) := fun hh => by
    have hx := hh;rw [hl0.out] at hx ⊢;exact bad_4 (by omega) (by omega) m hm1 hlt hx
   have HN : Hid (0 ≤ tlL (l.drop m) → ∀ q,1 ≤ q → q < m + 1 → 0 ≤ tlL (l.drop q)) := fun hh q a b => by
    by_cases e : q = m
    ·rw [e]; exact hh
    ·exact H.out q a (by omega)
   generalize accv ((s[i].toNat : Int) - 240) l (m - 1) = v at *;go_wp2_with fail;refine (tail_any s _ _ hs (by omega)).mono ?_;rintro e w' ⟨rfl,rfl⟩;rw [HT.out];generalize tlL (l.drop m) = t at *
   by_cases hneg : t < 0
   ·go_wp2
    go_ret3
    exact ⟨ret_none (HB.out hneg),rfl⟩
   ·go_wp2
    go_round
    case rel => exact ⟨m + 1,by omega,by omega,by go_num,by rw [HS.out]; rfl,HN.out (by omega)⟩
    case measure => simp [intOf]; omega
  ·obtain rfl : m = 4 := by omega
   obtain ⟨v,ev,hv,hyes,hno⟩ : ∃ v : Nat,accv ((s[i].toNat : Int) - 240) l (4 - 1) = v ∧ v ≤ 1000000000 ∧ (65536 ≤ v ∧ okVr v → nxL l = some (v,4)) ∧ (¬ (65536 ≤ v ∧ okVr v) → nxL l = none) := by
    have hg := H.out;rw [hl0.out] at hg ⊢;exact good_4 (by omega) (by omega) hg
   rw [ev];have HY : Hid (65536 ≤ v ∧ okVr v → nxL l = some (v,4)) := hyes;have HNO : Hid (¬ (65536 ≤ v ∧ okVr v) → nxL l = none) := hno;clear hyes hno ev hbd H
   go_wp2
   all_goals
    go_ret3
    first
    | exact ⟨ret_none (HNO.out (by simp only [okVr]; omega)),rfl⟩
    | exact ⟨ret_some _ _ (HY.out (by simp only [okVr]; omega)) rfl rfl,rfl⟩
theorem rnext_any (s : ByteArray) (i : Int) (w : World) (hs : s.size ≤ 140737488351232) :
  Calls Try.prog 66 #[.string s,.int .i64 i] w fun e w' => e = .returned (nxV (nxL (atL s i))) ∧ w' = w := by
 by_cases h : i < 0 ∨ (s.size : Int) ≤ i
 ·exact rnext_out s i w h
 ·obtain ⟨n,rfl⟩ := Int.eq_ofNat_of_zero_le (a := i) (by omega)
  have hn : n < s.size := by omega
  by_cases h1 : (s[n].toNat : Int) < 128
  ·exact rnext_lead1 s n w hs hn h1
  ·by_cases h2 : (s[n].toNat : Int) < 192 ∨ 248 ≤ (s[n].toNat : Int)
   ·exact rnext_lead0 s n w hs hn (by omega) h2
   ·by_cases h3 : (s[n].toNat : Int) < 224
    ·exact rnext_lead2 s n w hs hn (by omega) h3
    ·by_cases h4 : (s[n].toNat : Int) < 240
     ·exact rnext_lead3 s n w hs hn (by omega) h4
     ·exact rnext_lead4 s n w hs hn (by omega) (by omega)
theorem rdigit_any (r : Int) (w : World) :
  Calls Try.prog 47 #[.int .i32 r] w fun e w' => e = .returned (.bool (digB r)) ∧ w' = w := by
 go_enter Try.func47,Try.ntmps47
 go_wp2
 all_goals
  go_ret;exact ⟨ret_bool (by simp [digB]; try omega),rfl⟩
theorem rletter_any (r : Int) (w : World) :
  Calls Try.prog 45 #[.int .i32 r] w fun e w' => e = .returned (.bool (letB r)) ∧ w' = w := by
 go_enter Try.func45,Try.ntmps45
 go_wp2
 all_goals
  go_ret;refine ⟨ret_bool ?_,rfl⟩;rw [Bool.eq_iff_iff]
  simp [letB]
  try omega
theorem infoRune : (Try.prog.info? 21).map (fun i => (i.zero,i.size,i.bytes)) = some (some (.int .i32 0),1,4) := by kernel_rfl
def runeCells (rs : List Nat) : List Value := rs.map fun (c : Nat) => Value.int .i32 (c : Int)
theorem owns_cast {w : World} {b e : Nat} {v : Value} {n n' : Nat} {xs xs' : List Value} (h : w.ownsRow b e 1 v n xs) (hn : n' = n) (hx : xs' = xs) : w.ownsRow b e 1 v n' xs' := by
 rw [hn,hx]; exact h
theorem all_len {l : List UInt8} {pos c k : Nat} (hn : nxL (l.drop pos) = some (c,k)) (hp : pos ≤ l.length) : pos + k ≤ l.length ∧ 1 ≤ k ∧ k ≤ 4 := by
 obtain ⟨_,_,_,h4,h5,h6,_⟩ := nxL_some _ _ _ hn
 simp at h5
 omega
theorem rall_any (s : ByteArray) (w : World) (hs : s.size ≤ 20000) :
  Calls Try.prog 44 #[.string s] w fun e w' => ∃ v,e = .returned (.tuple #[v,.bool (validB s.data.toList)]) ∧
   w'.ownsRow w.heap.size 21 1 v (countN s.data.toList) (runeCells ((runesOf s.data.toList).getD [])) ∧ Below w.heap.size w w' := by
 obtain ⟨i0,hi,hz0,hz1,hz2⟩ := info_parts infoRune
 go_enter Try.func44,Try.ntmps44
 go_wp2_with fail
 go_loopw [4,5] (fun v at' wr => ∃ (pos : Nat) (acc : List Nat),at' = .int .i64 pos ∧ pos ≤ s.size ∧ acc.length ≤ pos ∧ Hid (Gone s.data.toList pos acc) ∧ wr.ownsRow w.heap.size 21 1 v acc.length (runeCells acc) ∧ Below w.heap.size w wr)
  (fun _ at' _ => s.size - (intOf at').toNat)
 case atStart => exact ⟨0,[],rfl,by omega,by simp,Gone.start _,World.ownsRow_nil _ _ _ _,Below.refl _ _⟩
 case round =>
  obtain ⟨pos,acc,rfl,hps,hap,H,hown,hbel⟩ := hrel
  by_cases hp : pos < s.size
  ·have HA : Hid (atL s pos = s.data.toList.drop pos) := by rw [atL_in s pos (by omega),Int.toNat_natCast]; rfl
   go_wp2_with fail;refine (rnext_any s _ _ (by omega)).mono ?_;rintro e w1 ⟨rfl,rfl⟩;rw [HA.out];generalize hx : nxL (s.data.toList.drop pos) = x
   cases x with
   | none =>
    have HR : Hid (runesOf s.data.toList = none) := H.out.bad (by rw [len_data]; exact hp) hx
    have H1 : Hid (validB s.data.toList = false) := by show _ = _; unfold validB; rw [HR.out]; rfl
    have H2 : Hid (countN s.data.toList = 0) := by show _ = _; unfold countN; rw [HR.out]; rfl
    have H3 : Hid ((runesOf s.data.toList).getD [] = []) := by show _ = _; rw [HR.out]; rfl
    simp only [nxV];clear hx;go_wp2_with fail
    go_ret2
    refine ⟨.slice none 0 0,?_,?_,hbel⟩
    ·rw [H1.out]; rfl
    ·rw [H2.out,H3.out]; exact World.ownsRow_nil _ _ _ _
   | some x =>
    obtain ⟨c,k⟩ := x;obtain ⟨g1,g2,g3⟩ := all_len hx (by rw [len_data]; omega);rw [len_data] at g1;have HG : Hid (Gone s.data.toList (pos + k) (acc ++ [c])) := H.out.step hx;clear hx;simp only [nxV];have hws := hbel.size
    go_wp2_with (first
     | (at_builtin; refine wpList_append_own _ rfl _ _ 97 rfl w.heap.size 21 i0 (.int .i32 0) 1 4 Try.underlying97 hi hz0 hz1 hz2 rfl (by decide) _ _ _ rfl (hown.alloc _) ⟨w1.heap.size,0,none⟩ 1 1 [.int .i32 (c : Int)] rfl rfl ?c1 ?c2 ?c3 ?c4 ?c5 ?_)
     | fail)
    case c1 =>
     intro j u hj
     match j,hj with
     | 0,hj => simp at hj; subst hj; simp [Addr.add]
    case c2 => intro u hu; simp at hu; subst hu; rfl
    case c3 => unfold maxLen; omega
    case c4 => omega
    case c5 => simp; omega
    intro v' w2 hown' hgrow _;have hb2 : Below w.heap.size w w2 := (hbel.alloc hws _).grown hgrow (by simp; omega) (fun k hk => (hown.lt k hk).1)
    have HO : Hid (w2.ownsRow w.heap.size 21 1 v' (acc ++ [c]).length (runeCells (acc ++ [c]))) := by
     have e1 : (acc ++ [c]).length = acc.length + 1 := by simp
     have e2 : runeCells (acc ++ [c]) = runeCells acc ++ [.int .i32 (c : Int)] := by simp [runeCells]
     show World.ownsRow _ _ _ _ _ _ _
     rw [e1,e2];exact hown'
    clear hown hown' hgrow;go_wp2_with fail
    go_roundw
    case rel => exact ⟨pos + k,acc ++ [c],by go_num,by omega,by simp; omega,HG,HO.out,hb2⟩
    case measure => simp [intOf]; omega
  ·have HR : Hid (runesOf s.data.toList = some acc) := H.out.done (by rw [len_data]; omega)
   have H1 : Hid (validB s.data.toList = true) := by show _ = _; unfold validB; rw [HR.out]; rfl
   have H2 : Hid (countN s.data.toList = acc.length) := by show _ = _; unfold countN; rw [HR.out]; rfl
   have H3 : Hid ((runesOf s.data.toList).getD [] = acc) := by show _ = _; rw [HR.out]; rfl
   have HO := owns_cast hown H2.out (congrArg runeCells H3.out);clear hown;go_wp2_with fail
   go_ret2
   exact ⟨_,by rw [H1.out]; rfl,HO,hbel⟩
theorem owns_form {w : World} {base e : Nat} {v : Value} {n : Nat} {xs : List Value} (h : w.ownsRow base e 1 v n xs) :
  ∃ a cap,v = .slice a n cap ∧ (0 < n → ∃ g,a = some ⟨g,0,none⟩ ∧ ∀ j,j < n → w.cell? ⟨g,j,none⟩ = xs[j]?) := by
 have h0 := h;obtain ⟨h1,h2⟩ := h
 rcases h2 with ⟨rfl,rfl⟩ | ⟨g,cap,cur,rfl,_⟩
 ·exact ⟨none,0,rfl,by omega⟩
 ·exact ⟨some ⟨g,0,none⟩,cap,rfl,fun _ => ⟨g,rfl,fun j hj => h0.cellAt j (by omega)⟩⟩
theorem rkey_any (s : ByteArray) (w : World) :
  Calls Try.prog 46 #[.string s] w fun e w' => e = .returned (.bool (keyB s)) ∧ w' = w := by
 go_enter Try.func46,Try.ntmps46
 go_wp2
 all_goals
  go_ret;refine ⟨ret_bool ?_,rfl⟩
  first | (simp [keyB, *]; done) | simp_all
theorem nameB_some (s : ByteArray) (rs : List Nat) (h : runesOf s.data.toList = some rs) : nameB s = (decide (1 ≤ rs.length ∧ rs.length ≤ 20) && !keyB s && okFrom true rs) := by
 unfold nameB countN; rw [h]; rfl
theorem okFrom_bad {acc rest : List Nat} {c : Nat} (h1 : letB c = false) (h2 : digB c = false) (b : Bool) : okFrom b (acc ++ c :: rest) = false := by
 rw [okFrom_append]; simp [okFrom,h1,h2]
theorem split_at (rs : List Nat) (k : Nat) (h : k < rs.length) : rs = rs.take k ++ rs.getD k 0 :: rs.drop (k + 1) := by
 rw [List.getD_eq_getElem?_getD,List.getElem?_eq_getElem h,Option.getD_some];exact (List.take_append_drop k rs).symm.trans (by rw [List.drop_eq_getElem_cons h])
def okTo (rs : List Nat) (k : Nat) : Prop := okFrom true (rs.take k) = true
theorem okTo_step {rs : List Nat} {k : Nat} (h : okTo rs k) (h1 : 1 ≤ k) (hk : k < rs.length) (hc : letB (rs.getD k 0) = true ∨ digB (rs.getD k 0) = true) : okTo rs (k + 1) := by
  unfold okTo at h ⊢
  have e : rs.take (k + 1) = rs.take k ++ [rs.getD k 0] := by
    rw [List.take_succ_eq_append_getElem hk, List.getD_eq_getElem?_getD, List.getElem?_eq_getElem hk, Option.getD_some]
  rw [e, okFrom_append, h]
  have e2 : (rs.take k).isEmpty = false := by
    cases e3 : rs.take k with
    | nil => have : (rs.take k).length = 0 := by rw [e3]; rfl
             rw [List.length_take] at this; omega
    | cons a r => rfl
  generalize rs.getD k 0 = c at *
  rcases hc with hc | hc <;> simp [okFrom, e2, hc]
theorem okTo_bad {rs : List Nat} {k : Nat} (hk : k < rs.length) (h1 : letB (rs.getD k 0) = false) (h2 : digB (rs.getD k 0) = false) : okFrom true rs = false := by
 rw [split_at rs k hk]; exact okFrom_bad h1 h2 _
theorem rfname_any (s : ByteArray) (w : World) (hs : s.size ≤ 20000) :
  Calls Try.prog 28 #[.string s] w fun e w' => e = .returned (.bool (nameB s)) ∧ Below w.heap.size w w' := by
 cases hr : runesOf s.data.toList with
 | none =>
  have HX : Hid (false = nameB s) := by show false = _; unfold nameB countN; rw [hr]; rfl
  have HV : Hid (validB s.data.toList = false) := by show _ = _; unfold validB; rw [hr]; rfl
  clear hr
  go_enter Try.func28,Try.ntmps28
  go_wp2_with fail;refine (rall_any s _ hs).mono ?_;rintro e w1 ⟨v,rfl,_,h1⟩;rw [HV.out];go_wp2_with fail;go_ret;exact ⟨ret_bool HX.out,h1⟩
 | some rs =>
  have HX : Hid (nameB s = (decide (1 ≤ rs.length ∧ rs.length ≤ 20) && !keyB s && okFrom true rs)) := nameB_some s rs hr
  have HV : Hid (validB s.data.toList = true) := by show _ = _; unfold validB; rw [hr]; rfl
  have HC : Hid (countN s.data.toList = rs.length) := by show _ = _; unfold countN; rw [hr]; rfl
  have HR : Hid ((runesOf s.data.toList).getD [] = rs) := by show _ = _; rw [hr]; rfl
  clear hr
  go_enter Try.func28,Try.ntmps28
  go_wp2_with fail;refine (rall_any s _ hs).mono ?_;rintro e w1 ⟨v,rfl,ho,h1⟩;rw [HV.out];rw [HC.out,HR.out] at ho;obtain ⟨a,cap,rfl,hc⟩ := owns_form ho;clear ho
  by_cases g1 : rs.length < 1
  ·have hd1 : decide ((rs.length : Int) < 1) = true := by simp; omega
   have HF : Hid (false = nameB s) := by show false = _; rw [HX.out]; simp; omega
   generalize rs.length = n at *;clear hc;go_wp2_with fail;go_ret;exact ⟨ret_bool HF.out,h1⟩
  ·have hd1 : decide ((rs.length : Int) < 1) = false := by simp; omega
   by_cases g2 : 20 < rs.length
   ·have hd2 : decide (20 < (rs.length : Int)) = true := by simp; omega
    have HF : Hid (false = nameB s) := by show false = _; rw [HX.out]; simp; omega
    clear hc;generalize rs.length = n at *;go_wp2_with fail;go_ret;exact ⟨ret_bool HF.out,h1⟩
   ·have hd2 : decide (20 < (rs.length : Int)) = false := by simp; omega
    obtain ⟨g,rfl,hcell⟩ := hc (by omega)
    have hcl : ∀ j,j < rs.length → w1.cell? ⟨g,j,none⟩ = some (.int .i32 ((rs.getD j 0 : Nat) : Int)) := fun j hj => by
     rw [hcell j hj]; simp [runeCells,List.getD_eq_getElem?_getD,List.getElem?_eq_getElem hj]
    have HCL : Hid (∀ j,j < rs.length → w1.cell? ⟨g,j,none⟩ = some (.int .i32 ((rs.getD j 0 : Nat) : Int))) := hcl;have hc0 := hcl 0 (by omega);clear hcell hcl hc;have HL : Hid (rs.length = rs.length) := rfl
    have hn1 : 1 ≤ rs.length := by omega
    have hn2 : rs.length ≤ 20 := by omega
    have H0 : Hid (letB ((rs.getD 0 0 : Nat) : Int) = true → okTo rs 1) := fun hh => by
     unfold okTo
     have : rs.take 1 = [rs.getD 0 0] := by
      match rs,hn1 with
      | c :: r,_ => rfl
     rw [this];generalize rs.getD 0 0 = c at *
     simp [okFrom,hh]
    have H0f : Hid (letB ((rs.getD 0 0 : Nat) : Int) = false → okFrom true rs = false) := fun hh => by
     match rs,hn1,hh with
     | c :: r,_,hh => simp only [List.getD_cons_zero] at hh; simp [okFrom,hh]
    have HD : Hid (okTo rs rs.length → okFrom true rs = true) := fun hh => by unfold okTo at hh; simpa using hh
    have HK : Hid (∀ k,k < rs.length → letB ((rs.getD k 0 : Nat) : Int) = false → digB ((rs.getD k 0 : Nat) : Int) = false → okFrom true rs = false) := fun k hk a b => okTo_bad hk a b
    have HS : Hid (∀ k,okTo rs k → 1 ≤ k → k < rs.length → letB ((rs.getD k 0 : Nat) : Int) = true ∨ digB ((rs.getD k 0 : Nat) : Int) = true → okTo rs (k + 1)) := fun k a b c d => okTo_step a b c d
    have HF : Hid (okFrom true rs = false → false = nameB s) := fun hh => by rw [HX.out,hh]; simp
    have HFK : Hid (keyB s = true → false = nameB s) := fun hh => by rw [HX.out,hh]; simp
    have HT : Hid (keyB s = false → okFrom true rs = true → true = nameB s) := fun a b => by rw [HX.out,a,b]; simp; omega
    generalize rs.length = n at *;clear HX HV HC HR HL;generalize hc0e : ((rs.getD 0 0 : Nat) : Int) = c0 at hc0 H0 H0f;clear hc0e;go_wp2_with fail;refine (rletter_any _ _).mono ?_;rintro e w2 ⟨rfl,rfl⟩
    cases hl0 : letB c0 with
    | false =>
     go_wp2_with fail;go_ret;exact ⟨ret_bool (HF.out (H0f.out hl0)),h1⟩
    | true =>
     have HO : Hid (okTo rs 1) := H0.out hl0;go_wp2_with fail;refine (rkey_any _ _).mono ?_;rintro e w3 ⟨rfl,rfl⟩
     cases hk : keyB s with
     | true =>
      go_wp2_with fail;go_ret;exact ⟨ret_bool (HFK.out hk),h1⟩
     | false =>
      have HKF : Hid (keyB s = false) := hk;clear hk hl0 hc0;go_wp2_with fail
      go_loop [5] (fun i => ∃ k : Nat,1 ≤ k ∧ k ≤ n ∧ i = .int .i64 k ∧ Hid (okTo rs k)) (fun i => n - (intOf i).toNat)
      case atStart => exact ⟨1,by omega,by omega,rfl,HO⟩
      case round =>
       obtain ⟨k,hk1,hk2,rfl,HOk⟩ := hrel
       by_cases hlt : k < n
       ·have hck := HCL.out k hlt;have HSk : Hid (letB ((rs.getD k 0 : Nat) : Int) = true ∨ digB ((rs.getD k 0 : Nat) : Int) = true → okTo rs (k + 1)) := HS.out k HOk.out hk1 hlt;have HKk : Hid (letB ((rs.getD k 0 : Nat) : Int) = false → digB ((rs.getD k 0 : Nat) : Int) = false → okFrom true rs = false) := HK.out k hlt;generalize hce : ((rs.getD k 0 : Nat) : Int) = c at hck HSk HKk;clear hce;go_wp2_with fail;refine (rletter_any _ _).mono ?_;rintro e w4 ⟨rfl,rfl⟩
        cases hl : letB c with
        | true =>
         go_wp2_with fail
         go_round
         case rel => exact ⟨k + 1,by omega,by omega,by go_num,HSk.out (.inl hl)⟩
         case measure => simp [intOf]; omega
        | false =>
         go_wp2_with fail;refine (rdigit_any _ _).mono ?_;rintro e w5 ⟨rfl,rfl⟩
         cases hdg : digB c with
         | true =>
          go_wp2_with fail
          go_round
          case rel => exact ⟨k + 1,by omega,by omega,by go_num,HSk.out (.inr hdg)⟩
          case measure => simp [intOf]; omega
         | false =>
          go_wp2_with fail;go_ret;exact ⟨ret_bool (HF.out (HKk.out hl hdg)),h1⟩
       ·obtain rfl : k = n := by omega
        go_wp2_with fail;go_ret;exact ⟨ret_bool (HT.out HKF.out (HD.out HOk.out)),h1⟩
end
section
open Go.ChangeShapes Go.WideShapes Go.ChangeAt Go.RowKit Go.Maps
def stRows (ns : List ByteArray) : List (List Value) := ns.map fun n => [.string n]
theorem memB_cons (x y : ByteArray) (l : List ByteArray) : memB x (y :: l) = (decide (x = y) || memB x l) := by simp [memB]
theorem rfresh_any {w : World} {v : Value} {ns : List ByteArray} (nm : ByteArray) (hs : nm.size ≤ 20000) (hr : RowG w v 1 (stRows ns)) :
  Calls Try.prog 30 #[.string nm,v] w fun e w' => e = .returned (.bool (freshB nm ns)) ∧ Below w.heap.size w w' := by
 obtain ⟨a,c,rfl,q1,q2⟩ := hr.form2
 have hN : (stRows ns).length = ns.length := by simp [stRows]
 rw [hN] at hr q1 ⊢;clear hN;obtain ⟨N,hN⟩ : ∃ N,ns.length = N := ⟨_,rfl⟩;rw [hN] at hr q1 ⊢;have HN : Hid (ns.length = N) := hN;have HR : Hid (RowG w (.slice a N c) 1 (stRows ns)) := hr;clear hN hr;obtain ⟨A,hA⟩ : ∃ A,freshB nm ns = A := ⟨_,rfl⟩;rw [hA];have HA : Hid (A = (nameB nm && !memB nm (ns.drop 0))) := hA.symm;clear hA
 go_enter Try.func30,Try.ntmps30
 go_wp2_with fail
 go_loopw [5] (fun iv wr => ∃ k : Nat,iv = .int .i64 (k : Int) ∧ k ≤ N ∧ Hid (A = (nameB nm && !memB nm (ns.drop k))) ∧ Below w.heap.size w wr) (fun iv _ => N - (intOf iv).toNat)
 case atStart => exact ⟨0,rfl,by omega,HA,Below.refl _ _⟩
 case round =>
  obtain ⟨k,rfl,hk,HAk,hbel⟩ := hrel
  by_cases hlt : k < N
  ·obtain ⟨f,hf⟩ : ∃ n,ns[k]? = some n := ⟨_,List.getElem?_eq_getElem (by rw [HN.out]; exact hlt)⟩
   have hrr : (stRows ns)[k]? = some [.string f] := by simp [stRows,hf]
   obtain ⟨g,off,rfl,c1⟩ := (HR.out.below hbel).get hrr
   have HA2 : Hid (A = (nameB nm && !(decide (nm = f) || memB nm (ns.drop (k + 1))))) := by
    show _ = _
    rw [HAk.out,drop_at hf,memB_cons]
   have p0 := c1 0 _ rfl;simp only [Nat.mul_one,Nat.add_zero] at p0;clear c1 hrr hf HAk
   by_cases he : f = nm
   ·subst he
    have HA3 : Hid (A = false) := by show _ = _; rw [HA2.out,decide_eq_true rfl]; simp
    clear HA2;go_wp2_with fail;go_ret;exact ⟨ret_bool HA3.out.symm,hbel⟩
   ·have hq := bytes_ne he
    have HA3 : Hid (A = (nameB nm && !memB nm (ns.drop (k + 1)))) := by show _ = _; rw [HA2.out,decide_eq_false (Ne.symm he)]; rfl
    go_wp2_with fail
    go_roundw
    case rel => exact ⟨k + 1,by go_num,by omega,HA3,hbel⟩
    case measure => simp [intOf]; omega
  ·have HA2 : Hid (A = nameB nm) := by show _ = _; rw [HAk.out,drop_end (by rw [HN.out]; omega),memB_nil]; simp
   clear HAk;go_wp2_with fail;refine (rfname_any nm _ hs).mono ?_;rintro e w1 ⟨rfl,hb⟩;go_wp2_with fail;go_ret;exact ⟨ret_bool HA2.out.symm,hbel.trans (hb.mono hbel.size)⟩
theorem find_mn (ms : List MsS) (t : ByteArray) : (ms.find? fun m => decide (m.name = t)).isSome = memB t (ms.map MsS.name) := by
 rw [Bool.eq_iff_iff,List.find?_isSome,memB_iff,List.mem_map]
 simp
theorem find_en (ms : List EnS) (t : ByteArray) : (ms.find? fun m => decide (m.name = t)).isSome = memB t (ms.map EnS.name) := by
 rw [Bool.eq_iff_iff,List.find?_isSome,memB_iff,List.mem_map]
 simp
theorem r7kind_any {w : World} {snm t : ByteArray} {am ae at' : Option Addr} {M cm E ce T ct : Nat} {ms : List MsS} {es : List EnS} (k : Int) (hm : MsIn w (.slice am M cm) ms) (he : EnIn w (.slice ae E ce) es) :
  Calls Try.prog 67 #[.agg #[.string snm,.slice am M cm,.slice ae E ce,.slice at' T ct],.agg #[.int .i64 k,.string t]] w fun e w' => e = .returned (.bool (typeB (ms.map MsS.name) (es.map EnS.name) k t)) ∧ Below w.heap.size w w' := by
 have HM : Hid (MsIn w (.slice am M cm) ms) := hm;have HE : Hid (EnIn w (.slice ae E ce) es) := he;clear hm he;have hb0 : Below w.heap.size w ((w.alloc (.cells #[.string snm,.slice am M cm,.slice ae E ce,.slice at' T ct] 26)).alloc (.cells #[.int .i64 k,.string t] 28)) := ((Below.refl _ _).alloc (Nat.le_refl _) _).alloc (by simp) _;obtain ⟨A,hA⟩ : ∃ A,typeB (ms.map MsS.name) (es.map EnS.name) k t = A := ⟨_,rfl⟩;rw [hA];have HA : Hid (A = typeB (ms.map MsS.name) (es.map EnS.name) k t) := hA.symm;clear hA
 by_cases hk : 1 ≤ k ∧ k ≤ 5
 ·have HA2 : Hid (A = decide (t = ⟨#[]⟩)) := by
   show _ = _
   rw [HA.out];unfold typeB;rw [decide_eq_true hk,decide_eq_false (by omega : ¬ k = 6),decide_eq_false (by omega : ¬ k = 7)]
   simp
  clear HA
  have hc : k = 1 ∨ k = 2 ∨ k = 3 ∨ k = 4 ∨ k = 5 := by omega
  clear hk
  by_cases ht : t = ⟨#[]⟩
  ·have HA3 : Hid (A = true) := by show _ = _; rw [HA2.out]; simp [ht]
   clear HA2;subst ht
   rcases hc with rfl | rfl | rfl | rfl | rfl
   all_goals
    go_enter Try.func67,Try.ntmps67
    go_wp2_with fail;go_ret;exact ⟨ret_bool HA3.out.symm,hb0⟩
  ·have HA3 : Hid (A = false) := by show _ = _; rw [HA2.out]; simp [ht]
   have hq : Hid (t.toList.isEmpty = false) := by
    show _ = _
    cases h : t.toList.isEmpty with
    | false => rfl
    | true =>
     rw [List.isEmpty_iff] at h;refine absurd ((bytes_eq_iff _ _).2 ?_) ht;rw [← ByteArray.toList_eq,h]
   clear HA2 ht
   rcases hc with rfl | rfl | rfl | rfl | rfl
   all_goals
    go_enter Try.func67,Try.ntmps67
    go_wp2_with fail;go_ret;exact ⟨ret_bool (hq.out.trans HA3.out.symm),hb0⟩
 by_cases hk6 : k = 6
 ·subst hk6
  have HA2 : Hid (A = (es.find? fun m => decide (m.name = t)).isSome) := by
   show _ = _
   rw [HA.out,find_en];unfold typeB
   simp
  clear HA hk
  go_enter Try.func67,Try.ntmps67
  go_wp2_with fail;refine (r7enum_any (HE.out.below hb0)).mono ?_;rintro e w1 ⟨vv,rfl,h1,hb⟩;obtain ⟨xa,xc,rfl,_,_⟩ := h1.form2;rw [← HA2.out];generalize ((es.find? fun m => decide (m.name = t)).getD zeroN).name = xn at *;generalize (nmRows ((es.find? fun m => decide (m.name = t)).getD zeroN).values).length = xl at *;have hb1 : Below w.heap.size w (w1.alloc (.cells #[.string xn,.slice xa xl xc] 51)) := (hb0.trans (hb.mono hb0.size)).alloc (hb0.trans (hb.mono hb0.size)).size _;clear h1 hb;go_wp2_with fail;go_ret;exact ⟨rfl,hb1⟩
 by_cases hk7 : k = 7
 ·subst hk7
  have HA2 : Hid (A = (ms.find? fun m => decide (m.name = t)).isSome) := by
   show _ = _
   rw [HA.out,find_mn];unfold typeB
   simp
  clear HA hk hk6
  go_enter Try.func67,Try.ntmps67
  go_wp2_with fail;refine (r7message_any (HM.out.below hb0)).mono ?_;rintro e w1 ⟨vf,vr,rfl,h1,h2,hb⟩;obtain ⟨xa,xc,rfl,_,_⟩ := h1.form2;obtain ⟨ya,yc,rfl,_,_⟩ := h2.form2;rw [← HA2.out];generalize ((ms.find? fun m => decide (m.name = t)).getD zeroM).name = xn at *;generalize (flRows ((ms.find? fun m => decide (m.name = t)).getD zeroM).fields).length = xl at *;generalize (inRows ((ms.find? fun m => decide (m.name = t)).getD zeroM).reserved).length = yl at *;have hb1 : Below w.heap.size w (w1.alloc (.cells #[.string xn,.slice xa xl xc,.slice ya yl yc] 40)) := (hb0.trans (hb.mono hb0.size)).alloc (hb0.trans (hb.mono hb0.size)).size _;clear h1 h2 hb;go_wp2_with fail;go_ret;exact ⟨rfl,hb1⟩
 have HA2 : Hid (A = false) := by
  show _ = _
  rw [HA.out];unfold typeB;rw [decide_eq_false hk,decide_eq_false hk6,decide_eq_false hk7]
  simp
 have k1 : (k == 1) = false := by rw [beq_eq_false_iff_ne]; omega
 have k2 : (k == 2) = false := by rw [beq_eq_false_iff_ne]; omega
 have k3 : (k == 3) = false := by rw [beq_eq_false_iff_ne]; omega
 have k4 : (k == 4) = false := by rw [beq_eq_false_iff_ne]; omega
 have k5 : (k == 5) = false := by rw [beq_eq_false_iff_ne]; omega
 have k6 : (k == 6) = false := by rw [beq_eq_false_iff_ne]; omega
 have k7 : (k == 7) = false := by rw [beq_eq_false_iff_ne]; omega
 clear HA hk hk6 hk7
 go_enter Try.func67,Try.ntmps67
 go_wp2_with fail;go_ret;exact ⟨ret_bool HA2.out.symm,hb0⟩
theorem ret_e {a b : Int} (h : a = b) : Ending.returned (.int .i64 a) = .returned (.int .i64 b) := by rw [h]
theorem infoSt : (Try.prog.info? 9).map (fun i => (i.zero,i.size,i.bytes)) = some (some (.string ⟨#[]⟩),1,16) := by kernel_rfl
theorem str_len (ns : List ByteArray) : ∀ r ∈ stRows ns,r.length = 1 := fun r hr => by simp only [stRows,List.mem_map] at hr; obtain ⟨_,_,rfl⟩ := hr; rfl
def Seen (w : World) (B : Nat) (v : Value) (al : List ByteArray) : Prop := w.ownsRow B 9 1 v al.length (stRows al).flatten
theorem Seen.nil (w : World) (B : Nat) : Seen w B (.slice none 0 0) [] := World.ownsRow_nil _ _ _ _
theorem Seen.row {w : World} {B : Nat} {v : Value} {al : List ByteArray} (h : Seen w B v al) : RowG w v 1 (stRows al) := (RowG.own (str_len al) (by decide) h).1
theorem Seen.below {w w' : World} {B : Nat} {v : Value} {al : List ByteArray} (h : Seen w B v al) (hb : Below w.heap.size w w') : Seen w' B v al := own_below h hb
theorem Seen.form {w : World} {B : Nat} {v : Value} {al : List ByteArray} (h : Seen w B v al) : ∃ a c,v = .slice a al.length c := own_form h
theorem Seen.snoc {w : World} {B : Nat} {v : Value} {al : List ByteArray} {x : ByteArray} (h : w.ownsRow B 9 1 v (al.length + 1) ((stRows al).flatten ++ [.string x])) : Seen w B v (al ++ [x]) := by
 show World.ownsRow _ _ _ _ _ _ _
 rw [show (al ++ [x]).length = al.length + 1 by simp,show (stRows (al ++ [x])).flatten = (stRows al).flatten ++ [.string x] by simp [stRows]];exact h
theorem wpList_seen {w : World} {ops : Array Oper} {rest : List Oper} {o : Oper} {a : Act} {Q : Exit → Act → World → Prop} {B : Nat} {v : Value} {al : List ByteArray} {x : ByteArray} (hgd : o.guard = none) (s y : Operand)
  (ho : o.op = .call { callee := .builtin .append,args := #[s,y],argTypes := #[76,76] }) (hs : a.eval s = v) (hy : a.eval y = .slice (some ⟨w.heap.size,0,none⟩) 1 1) (hown : Seen w B v al) (hB : B ≤ w.heap.size) (hn : al.length ≤ 100000)
  (h : ∀ v' w',Seen w' B v' (al ++ [x]) → Kp (fun k => v.ownBlock = some k) w w' → Below B w w' → wpList Try.prog ops Q rest (a.put o.dst v') w') : wpList Try.prog ops Q (o :: rest) a (w.alloc (.cells #[.string x] 9)) := by
 have hba : Below w.heap.size w (w.alloc (.cells #[.string x] 9)) := (Below.refl _ _).alloc (Nat.le_refl _) _;refine wpList_joinG hgd s y 76 9 1 16 _ ho Try.underlying76 infoSt rfl (by decide) B v al.length (stRows al).flatten hs (own_below hown hba) (.slice (some ⟨w.heap.size,0,none⟩) 1 1) [[.string x]] hy (RowG.blk (Blk.new w _ _) rfl (by simp) rfl (by omega)) (by simp) (by simp [Value.oneCell']) (by simp; omega) (by decide) (Nat.le_trans hB hba.size) ?_;intro v' w' ho' hg;refine h v' w' (Seen.snoc (by simpa using ho')) ?_ ?_
 ·exact (Kp.ofBelow hba).trans ((Kp.refl _ _).grown hg (fun k hk _ => hk))
 ·exact ((Below.refl B w).alloc hB _).grown hg (by have := hba.size; omega) (fun k hk => ((own_below hown hba).lt k hk).1)
theorem chkEb_big {e : EnS} (h : 16 < e.values.length) : chkEb e = 4 := by unfold chkEb; rw [if_pos h]
theorem rfenum_any {w : World} {vv : Value} {nm : ByteArray} {vs : List NmS} (hr : RowG w vv 2 (nmRows vs)) (hl : vs.length ≤ 30000) (hw : ∀ f ∈ vs,f.name.size ≤ 20000) :
  Calls Try.prog 49 #[.agg #[.string nm,vv]] w fun e w' => e = .returned (.int .i64 (chkEb ⟨nm,vs⟩)) ∧ Below w.heap.size w w' := by
 obtain ⟨a,c,rfl,q1,q2⟩ := hr.form2
 have hN : (nmRows vs).length = vs.length := by simp [nmRows]
 rw [hN] at q1 hr ⊢;obtain ⟨N,hN2⟩ : ∃ N,vs.length = N := ⟨_,rfl⟩;rw [hN2] at q1 hr hl ⊢;have HN : Hid (vs.length = N) := hN2;have HR : Hid (RowG w (.slice a N c) 2 (nmRows vs)) := hr;have HW : Hid (∀ f ∈ vs,f.name.size ≤ 20000) := hw;clear hr hN hN2 hw;obtain ⟨A,hA⟩ : ∃ A,chkEb ⟨nm,vs⟩ = A := ⟨_,rfl⟩;rw [hA];have HA : Hid (A = chkEb ⟨nm,vs⟩) := hA.symm;clear hA;have hba : Below w.heap.size w (w.alloc (.cells #[.string nm,.slice a N c] 51)) := (Below.refl _ _).alloc (Nat.le_refl _) _;have BX := Blk.new w #[.string nm,.slice a N c] 51
 by_cases hbig : 16 < N
 ·have HA2 : Hid (A = 4) := by show _ = _; rw [HA.out]; exact chkEb_big (by show 16 < vs.length; rw [HN.out]; exact hbig)
  go_enter Try.func49,Try.ntmps49
  go_wp2_with fail;go_ret;exact ⟨ret_e HA2.out.symm,hba⟩
 have HA1 : Hid (A = if zeroV vs = false then 12 else chkVs [] [] vs) := by
  show _ = _
  rw [HA.out]; unfold chkEb;rw [if_neg (by show ¬ 16 < vs.length; rw [HN.out]; exact hbig)]
  rfl
 clear HA
 go_enter Try.func49,Try.ntmps49
 go_wp2_with fail;generalize w.alloc (.cells #[.string nm,.slice a N c] 51) = wb at *
 go_loopw [3,4] (fun zv iv wr => ∃ (k : Nat) (z : Bool),zv = .bool z ∧ iv = .int .i64 (k : Int) ∧ k ≤ N ∧ Hid (zeroV vs = (z || zeroV (vs.drop k))) ∧ wr = wb) (fun _ iv _ => N - (intOf iv).toNat)
 case atStart => exact ⟨0,false,rfl,rfl,by omega,by show _ = _; simp,rfl⟩
 case round =>
  obtain ⟨k,z,rfl,rfl,hk,HZ,rfl⟩ := hrel;have x1 : wr.cell? ⟨w.heap.size,1,none⟩ = some (.slice a N c) := BX.cell 1
  by_cases hlt : k < N
  ·obtain ⟨f,hf⟩ : ∃ n,vs[k]? = some n := ⟨_,List.getElem?_eq_getElem (by rw [HN.out]; exact hlt)⟩
   have hrr : (nmRows vs)[k]? = some f.cells := by simp [nmRows,hf]
   obtain ⟨g,off,rfl,c1⟩ := (HR.out.below hba).get hrr;obtain ⟨f0,f1⟩ := f
   have HZ2 : Hid (zeroV vs = (z || (decide (f1 = 0) || zeroV (vs.drop (k + 1))))) := by
    show _ = _
    rw [HZ.out,drop_at hf]; rfl
   have p1 := c1 1 _ rfl;clear c1 hrr hf HZ
   cases z with
   | true =>
    have HZ3 : Hid (zeroV vs = (true || zeroV (vs.drop (k + 1)))) := by show _ = _; rw [HZ2.out]; rfl
    go_wp2_with fail
    go_roundw
    case rel => exact ⟨k + 1,true,rfl,by go_num,by omega,HZ3,trivial⟩
    case measure => simp [intOf]; omega
   | false =>
    by_cases h0 : f1 = 0
    ·subst h0
     have HZ3 : Hid (zeroV vs = (true || zeroV (vs.drop (k + 1)))) := by show _ = _; rw [HZ2.out]; rfl
     go_wp2_with fail
     go_roundw
     case rel => exact ⟨k + 1,true,rfl,by go_num,by omega,HZ3,trivial⟩
     case measure => simp [intOf]; omega
    ·have hq : (f1 == 0) = false := by rw [beq_eq_false_iff_ne]; exact h0
     have HZ3 : Hid (zeroV vs = (false || zeroV (vs.drop (k + 1)))) := by show _ = _; rw [HZ2.out,decide_eq_false h0]; rfl
     go_wp2_with fail
     go_roundw
     case rel => exact ⟨k + 1,false,rfl,by go_num,by omega,HZ3,trivial⟩
     case measure => simp [intOf]; omega
  ·have HZ2 : Hid (zeroV vs = z) := by show _ = _; rw [HZ.out,drop_end (by rw [HN.out]; omega)]; simp [zeroV]
   clear HZ
   cases z with
   | false =>
    have HA2 : Hid (A = 12) := by show _ = _; rw [HA1.out,HZ2.out]; rfl
    clear HA1 HZ2;go_wp2_with fail;go_ret;exact ⟨ret_e HA2.out.symm,hba⟩
   | true =>
    have HA2 : Hid (A = chkVs [] ((vs.take 0).map NmS.n) (vs.drop 0)) := by show _ = _; rw [HA1.out,HZ2.out]; rfl
    clear HA1 HZ2;go_wp2_with fail;clear x1;have HS0 : Hid (Seen wr w.heap.size (.slice none 0 0) []) := Seen.nil _ _
    go_loopw [5,6] (fun nv iv wr => ∃ (k : Nat) (al : List ByteArray) (sa : Option Addr) (sc : Nat),nv = .slice sa k sc ∧ iv = .int .i64 (k : Int) ∧ k ≤ N ∧ Hid (al.length = k) ∧ Hid (A = chkVs al ((vs.take k).map NmS.n) (vs.drop k)) ∧ Hid (Seen wr w.heap.size (.slice sa k sc) al) ∧ Below w.heap.size w wr ∧ Blk wr w.heap.size #[.string nm,.slice a N c] 51) (fun _ iv _ => N - (intOf iv).toNat)
    case atStart => exact ⟨0,[],none,0,rfl,rfl,by omega,rfl,HA2,HS0,hba,BX⟩
    case round =>
     clear HA2 HS0 hba BX hlt hk;obtain ⟨k,al,sa,sc,rfl,rfl,hk,HK,HAk,HSE,hbel,BX⟩ := hrel;have x1 : wr.cell? ⟨w.heap.size,1,none⟩ = some (.slice a N c) := BX.cell 1
     by_cases hlt : k < N
     ·obtain ⟨f,hf⟩ : ∃ n,vs[k]? = some n := ⟨_,List.getElem?_eq_getElem (by rw [HN.out]; exact hlt)⟩
      have hrr : (nmRows vs)[k]? = some f.cells := by simp [nmRows,hf]
      obtain ⟨g,off,rfl,c1⟩ := (HR.out.below hbel).get hrr;have hsz := HW.out _ (List.mem_of_getElem? hf);obtain ⟨f0,f1⟩ := f;simp only at hsz
      have HA3 : Hid (A = if freshB f0 al = false then 6 else if numB f1 ((vs.take k).map NmS.n) = false then 11 else chkVs (al ++ [f0]) ((vs.take k).map NmS.n ++ [f1]) (vs.drop (k + 1))) := by
       show _ = _
       rw [HAk.out,drop_at hf]; rfl
      have HT : Hid ((vs.take (k + 1)).map NmS.n = (vs.take k).map NmS.n ++ [f1]) := by
       show _ = _
       rw [List.take_add_one,hf]; simp
      have p0 := c1 0 _ rfl;have p1 := c1 1 _ rfl;simp only [Nat.add_zero] at p0 p1;have ha : Below wr.heap.size wr (wr.alloc (.cells #[.string f0,.int .i64 f1] 53)) := (Below.refl _ _).alloc (Nat.le_refl _) _;have BV := Blk.new wr #[.string f0,.int .i64 f1] 53;clear c1 hrr hf HAk;go_wp2_with fail;clear x1 p0 p1;refine (rfresh_any f0 hsz (HSE.out.below ha).row).mono ?_;rintro e w1 ⟨rfl,hb1⟩;have hbw1 : Below w.heap.size w w1 := (hbel.trans (ha.mono hbel.size)).trans (hb1.mono (hbel.trans (ha.mono hbel.size)).size);have HS1 : Hid (Seen w1 w.heap.size (.slice sa k sc) al) := (HSE.out.below ha).below hb1;have BX1 := (BX.below ha).below hb1;have BV1 := BV.below hb1;clear BV ha hb1 HSE
      cases hfr : freshB f0 al with
      | false =>
       have HA4 : Hid (A = 6) := by show _ = _; rw [HA3.out,if_pos hfr]
       clear HA3;go_wp2_with fail;go_ret;exact ⟨ret_e HA4.out.symm,hbw1⟩
      | true =>
       have HA4 : Hid (A = if numB f1 ((vs.take k).map NmS.n) = false then 11 else chkVs (al ++ [f0]) ((vs.take k).map NmS.n ++ [f1]) (vs.drop (k + 1))) := by show _ = _; rw [HA3.out,if_neg (by rw [hfr]; decide)]
       clear HA3 hfr;obtain ⟨bv,hbv⟩ : ∃ n,wr.heap.size = n := ⟨_,rfl⟩;rw [hbv] at BV1 ⊢;clear hbv hbel BX;have v0 : w1.cell? ⟨bv,0,none⟩ = some (.string f0) := BV1.cell 0
       go_wp2_with (first
        | (at_builtin; refine wpList_seen (al := al) (x := f0) rfl _ _ rfl rfl rfl HS1.out ?c1 ?c2 ?_)
        | fail)
       case c1 => exact hbw1.size
       case c2 => rw [HK.out]; omega
       intro v' w2 hS2 hK2 hB2;obtain ⟨ta,tc,rfl⟩ := hS2.form
       have hl2 : (al ++ [f0]).length = k + 1 := by rw [List.length_append,HK.out]; rfl
       rw [hl2] at hS2 ⊢;have HS2 : Hid (Seen w2 w.heap.size (.slice ta (k + 1) tc) (al ++ [f0])) := hS2;have HK2 : Hid ((al ++ [f0]).length = k + 1) := hl2;have hb2 : Below w.heap.size w w2 := hbw1.trans hB2;have BX2 := BX1.kp hK2 (fun e => absurd (own_type HS1.out e BX1) (by decide));have BV2 := BV1.kp hK2 (fun e => absurd (own_type HS1.out e BV1) (by decide));have v1 : w2.cell? ⟨bv,1,none⟩ = some (.int .i64 f1) := BV2.cell 1;clear v0 hS2 hl2 hK2 hB2 BX1 BV1 HS1 hbw1 HK
       by_cases hlo : f1 < 0
       ·have HA5 : Hid (A = 11) := by show _ = _; rw [HA4.out,if_pos (by unfold numB; rw [numR_low hlo]; rfl)]
        clear HA4;go_wp2_with fail;go_ret;exact ⟨ret_e HA5.out.symm,hb2⟩
       by_cases hhi : 2147483647 < f1
       ·have HA5 : Hid (A = 11) := by show _ = _; rw [HA4.out,if_pos (by unfold numB; rw [numR_high hhi]; rfl)]
        clear HA4;go_wp2_with fail;go_ret;exact ⟨ret_e HA5.out.symm,hb2⟩
       have HNR : Hid (numR f1 = true) := numR_in hlo hhi;go_wp2_with fail;clear v1
       go_loopw [8] (fun jv wr => ∃ j : Nat,jv = .int .i64 (j : Int) ∧ j ≤ k ∧ Hid (memI f1 ((vs.take j).map NmS.n) = false) ∧ Below w2.heap.size w2 wr) (fun jv _ => k - (intOf jv).toNat)
       case atStart => exact ⟨0,rfl,by omega,by show _ = _; simp [memI],Below.refl _ _⟩
       case round =>
        obtain ⟨j,rfl,hj,HJ,hb3⟩ := hrel;have hbw3 : Below w.heap.size w wr := hb2.trans (hb3.mono hb2.size)
        by_cases hltj : j < k
        ·obtain ⟨f',hf'⟩ : ∃ n,vs[j]? = some n := ⟨_,List.getElem?_eq_getElem (by rw [HN.out]; omega)⟩
         have hrr : (nmRows vs)[j]? = some f'.cells := by simp [nmRows,hf']
         obtain ⟨g',off',heq,c1⟩ := (HR.out.below hbw3).get hrr;simp only [Option.some.injEq,Addr.mk.injEq,and_true] at heq;obtain ⟨rfl,rfl⟩ := heq;obtain ⟨e0,e1⟩ := f'
         have HJ2 : Hid (memI f1 ((vs.take (j + 1)).map NmS.n) = (memI f1 ((vs.take j).map NmS.n) || decide (f1 = e1))) := by
          show _ = _
          rw [List.take_add_one,hf']; simp only [List.map_append,Option.toList_some,List.map_cons,List.map_nil]; exact memI_snoc _ _ _
         have HJM : Hid (e1 ∈ (vs.take k).map NmS.n) := List.mem_map.2 ⟨⟨e0,e1⟩,List.mem_of_getElem? (i := j) (by rw [List.getElem?_take_of_lt hltj]; exact hf'),rfl⟩;have p1 := c1 1 _ rfl;have x1 : wr.cell? ⟨w.heap.size,1,none⟩ = some (.slice (some ⟨g,off,none⟩) N c) := (BX2.below hb3).cell 1;have v1 : wr.cell? ⟨bv,1,none⟩ = some (.int .i64 f1) := (BV2.below hb3).cell 1;clear c1 hrr hf'
         by_cases he : e1 = f1
         ·subst he
          have HA5 : Hid (A = 11) := by show _ = _; rw [HA4.out,if_pos (by unfold numB memI; rw [decide_eq_true HJM.out]; simp)]
          clear HA4;go_wp2_with fail
          go_quiet (fail)
          go_wp2_with fail;go_ret;exact ⟨ret_e HA5.out.symm,below_drewN nq hbw3⟩
         ·have hq : (e1 == f1) = false := by rw [beq_eq_false_iff_ne]; exact he
          have HJ3 : Hid (memI f1 ((vs.take (j + 1)).map NmS.n) = false) := by show _ = _; rw [HJ2.out,HJ.out,decide_eq_false (Ne.symm he)]; rfl
          go_wp2_with fail
          go_quiet (fail)
          go_wp2_with fail
          go_roundw
          case rel => exact ⟨j + 1,by go_num,by omega,HJ3,below_drewN nq hb3⟩
          case measure => simp [intOf]; omega
        ·have hjk : j = k := by omega
         rw [hjk] at HJ
         have HA5 : Hid (A = chkVs (al ++ [f0]) ((vs.take (k + 1)).map NmS.n) (vs.drop (k + 1))) := by
          show _ = _
          rw [HA4.out,if_neg (by unfold numB; rw [HNR.out,HJ.out]; decide),HT.out]
         have HS3 : Hid (Seen wr w.heap.size (.slice ta (k + 1) tc) (al ++ [f0])) := HS2.out.below hb3;have BX3 := BX2.below hb3;clear hjk HA4 HJ BX2 BV2 HS2 hb3 hb2;go_wp2_with fail
         go_roundw
         case rel => exact ⟨k + 1,al ++ [f0],ta,tc,rfl,by go_num,by omega,HK2,HA5,HS3,hbw3,BX3⟩
         case measure => simp [intOf]; omega
     ·have HA3 : Hid (A = 0) := by show _ = _; rw [HAk.out,drop_end (by rw [HN.out]; omega)]; rfl
      clear HAk;go_wp2_with fail;go_ret;exact ⟨ret_e HA3.out.symm,hbel⟩
theorem memI_cons' (x y : Int) (l : List Int) : memI x (y :: l) = (decide (x = y) || memI x l) := by simp [memI,Bool.decide_or]
theorem rreserved_any {w : World} {v : Value} {ns : List Int} {snm : ByteArray} {af : Option Addr} {F cf : Nat} (t : Int) (hr : RowG w v 1 (inRows ns)) :
  Calls Try.prog 40 #[.agg #[.string snm,.slice af F cf,v],.int .i64 t] w fun e w' => e = .returned (.bool (memI t ns)) ∧ Below w.heap.size w w' := by
 obtain ⟨a,c,rfl,q1,q2⟩ := hr.form2
 have hN : (inRows ns).length = ns.length := by simp [inRows]
 rw [hN] at hr q1 ⊢;clear hN;obtain ⟨N,hN⟩ : ∃ N,ns.length = N := ⟨_,rfl⟩;rw [hN] at hr q1 ⊢;have HN : Hid (ns.length = N) := hN;have HR : Hid (RowG w (.slice a N c) 1 (inRows ns)) := hr;clear hN hr;obtain ⟨A,hA⟩ : ∃ A,memI t ns = A := ⟨_,rfl⟩;rw [hA];have HA : Hid (A = memI t ns) := hA.symm;clear hA;have hb0 : Below w.heap.size w (w.alloc (.cells #[.string snm,.slice af F cf,.slice a N c] 40)) := (Below.refl _ _).alloc (Nat.le_refl _) _;have BX0 := Blk.new w #[.string snm,.slice af F cf,.slice a N c] 40
 go_enter Try.func40,Try.ntmps40
 go_wp2_with fail
 go_loopw [5] (fun iv wr => ∃ k : Nat,iv = .int .i64 (k : Int) ∧ k ≤ N ∧ Hid (A = memI t (ns.drop k)) ∧ Below w.heap.size w wr ∧ Blk wr w.heap.size #[.string snm,.slice af F cf,.slice a N c] 40) (fun iv _ => N - (intOf iv).toNat)
 case atStart => exact ⟨0,rfl,by omega,HA,hb0,BX0⟩
 case round =>
  obtain ⟨k,rfl,hk,HAk,hbel,BX⟩ := hrel;clear hb0 BX0;have b2 : wr.cell? ⟨w.heap.size,2,none⟩ = some (.slice a N c) := BX.cell 2
  by_cases hlt : k < N
  ·obtain ⟨f,hf⟩ : ∃ n,ns[k]? = some n := ⟨_,List.getElem?_eq_getElem (by rw [HN.out]; exact hlt)⟩
   have hrr : (inRows ns)[k]? = some [.int .i64 f] := by simp [inRows,hf]
   obtain ⟨g,off,rfl,c1⟩ := (HR.out.below hbel).get hrr
   have HA2 : Hid (A = (decide (t = f) || memI t (ns.drop (k + 1)))) := by
    show _ = _
    rw [HAk.out,drop_at hf,memI_cons']
   have p0 := c1 0 _ rfl;simp only [Nat.mul_one,Nat.add_zero] at p0;clear c1 hrr hf HAk
   by_cases he : t = f
   ·subst he
    have HA3 : Hid (A = true) := by show _ = _; rw [HA2.out,decide_eq_true rfl]; rfl
    clear HA2;go_wp2_with fail;go_ret;exact ⟨ret_bool HA3.out.symm,hbel⟩
   ·have hq : (f == t) = false := by simpa using Ne.symm he
    have HA3 : Hid (A = memI t (ns.drop (k + 1))) := by show _ = _; rw [HA2.out,decide_eq_false he]; rfl
    go_wp2_with fail
    go_roundw
    case rel => exact ⟨k + 1,by go_num,by omega,HA3,hbel,BX⟩
    case measure => simp [intOf]; omega
  ·go_wp2_with fail;go_ret;exact ⟨ret_bool (by rw [HAk.out,drop_end (by rw [HN.out]; omega)]; rfl),hbel⟩
end
end Go.Proofs.Ytdkolhfpfimeoaa
