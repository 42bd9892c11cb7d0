/- Part 10 of what the proof stands on. -/
import Derived.Test.YtiajaocckkghgabGreatPkSAI
import Derived.Laws.MakeOwn
namespace Go.Proofs.YtiajaocckkghgabGreat
set_option maxHeartbeats 8000000
set_option linter.unusedVariables false
set_option linter.unusedSimpArgs false
set_option maxRecDepth 20000
section
open Go.ChangeShapes Go.WideShapes Go.ChangeAt Go.RowKit
theorem OutAt.holds {w : World} {g m : Nat} {l : List Fd} (h : OutAt w g l m) : HoldsR w (some ⟨g,0,none⟩) l := by
 obtain ⟨junk,h1,h2⟩ := h;intro b hb j u hu
 obtain rfl : ⟨g,0,none⟩ = b := by simpa using hb
 rw [Addr.add_lit,Nat.zero_add];simp only [World.cell?,h1];have hj := (List.getElem?_eq_some_iff.1 hu).1
 simp [List.getElem?_append_left hj,hu]
theorem below_drew (w : World) : Below w.heap.size w w.drew := (Below.refl _ _).drew
theorem HoldsR.cut' {w : World} {a : Option Addr} {rs : List Fd} (h : HoldsR w a rs) (k : Nat) : HoldsR w a (rs.take k) := by
 have : HoldsR w a (rs.take k ++ rs.drop k) := by rw [List.take_append_drop]; exact h
 exact this.take
theorem sorted_step (rs : List Fd) (a : Option Addr) (N cap : Nat) (w : World) (hN : rs.length = N) (hl : N ≤ 1000000) (hadr : rs = [] ∨ ∃ g off,a = some ⟨g,off,none⟩) (hc : N ≤ cap) (hm : cap ≤ maxLen) (hh : HoldsR w a rs)
  (IH0 : ∀ (rs' : List Fd) (a : Option Addr) (M cap : Nat) (w : World),rs'.length < N → rs'.length = M → (rs' = [] ∨ ∃ g off,a = some ⟨g,off,none⟩) → M ≤ cap → cap ≤ maxLen → HoldsR w a rs' →
   Calls Tryz.prog 61 #[.slice a M cap] w fun e w' => ∃ g,e = .returned (.slice (some ⟨g,0,none⟩) M M) ∧ w.heap.size ≤ g ∧ g < w'.heap.size ∧ HoldsR w' (some ⟨g,0,none⟩) (sortF rs') ∧ Below w.heap.size w w') :
  Calls Tryz.prog 61 #[.slice a N cap] w fun e w' => ∃ g,e = .returned (.slice (some ⟨g,0,none⟩) N N) ∧ w.heap.size ≤ g ∧ g < w'.heap.size ∧ OutAt w' g (sortF rs) 0 ∧ Below w.heap.size w w' := by
 obtain ⟨i0,hi,hz0,hz1,hz2⟩ := info_parts infoRaw;have hmk := fun W => run_make (P := Tryz.prog) W 37 44 i0 _ Tryz.underlying37 hi hz0 .i64 .i64 (N : Int) (N : Int) (by omega) (Int.le_refl _) (by rw [hz2]; omega) (by omega)
 simp only [Int.toNat_natCast,hz1] at hmk;obtain ⟨Z,hZ⟩ : ∃ Z,madeCells (Value.agg #[.int .i64 0,.int .i64 0,.int .i64 0,.string ⟨#[]⟩]).cells (N * 4) = Z := ⟨_,rfl⟩
 have hZs : Z.size = N * 4 := by rw [← hZ,size_madeCells]
 rw [hZ] at hmk;have HOUT : Hid (OutAt (w.alloc (.cells Z 44)) w.heap.size [] N) := ⟨Z.toList,by rw [rawCells_nil,List.nil_append]; exact heap_alloc_new w _,by simpa using hZs⟩;have HRS : Hid (Calls Tryz.prog 88 #[.slice a N cap] (w.alloc (.cells Z 44)) fun e w' => e = .returned (.bool (risesB rs)) ∧ Below (w.alloc (.cells Z 44)).heap.size (w.alloc (.cells Z 44)) w') := rising_any a rs N cap _ hN hadr hc hm (hh.below (below_one w _));have HN : Hid (rs.length = N) := hN;have HH : Hid (HoldsR w a rs) := hh;have HADR : Hid (rs = [] ∨ ∃ g off,a = some ⟨g,off,none⟩) := hadr;have HM : Hid (cap ≤ maxLen) := hm
 have IH : Hid (∀ (rs' : List Fd) (a : Option Addr) (M cap : Nat) (w : World),rs'.length < N → rs'.length = M → (rs' = [] ∨ ∃ g off,a = some ⟨g,off,none⟩) → M ≤ cap → cap ≤ maxLen → HoldsR w a rs' →
   Calls Tryz.prog 61 #[.slice a M cap] w fun e w' => ∃ g,e = .returned (.slice (some ⟨g,0,none⟩) M M) ∧ w.heap.size ≤ g ∧ g < w'.heap.size ∧ HoldsR w' (some ⟨g,0,none⟩) (sortF rs') ∧ Below w.heap.size w w') := IH0
 obtain ⟨R,hR⟩ : ∃ R,risesB rs = R := ⟨_,rfl⟩;rw [hR] at HRS;have HR : Hid (risesB rs = R) := hR;unfold maxLen at hm;clear hN hadr hh IH0 hZ hZs hR hi hz0 hz1 hz2
 go_enter Tryz.func61,Tryz.ntmps61
 go_wp2_with fail;refine HRS.out.mono ?_;rintro e w2 ⟨rfl,hb2⟩;have HO2 : Hid (OutAt w2 w.heap.size [] N) := HOUT.out.below hb2;have hG2 : w.heap.size < w2.heap.size := HO2.out.lt;have hbw2 : Below w.heap.size w w2 := (below_one w _).trans (hb2.mono (by simp));clear HRS HOUT hb2 hmk
 cases R with
 | true =>
  go_wp2_with (first
   | (refine wpList_copyR rfl _ _ rfl _ _ _ _ _ _ rfl rfl w.heap.size [] N HO2.out rs ?c1 ?c2 ?c3 ?_)
   | fail)
  case c1 => rw [HN.out]; simp
  case c2 => rw [HN.out]; exact Nat.le_refl _
  case c3 =>
   intro hne
   rcases HADR.out with h | ⟨g,off,h⟩
   ·exact absurd h hne
   ·exact ⟨rfl,_,h,by rw [← h]; exact HH.out.below hbw2⟩
  intro w3 HO3 hg3;have hb3 : Below w.heap.size w w3 := hbw2.grown hg3 hbw2.size (fun k hk => by cases hk; exact Nat.le_refl _)
  have HF : Hid (OutAt w3 w.heap.size (sortF rs) 0) := by
   rw [sortF_id HR.out];have := HO3.out
   try rw [List.nil_append] at this
   have hs := HN.out;refine (?_ : OutAt w3 w.heap.size rs 0)
   first | exact this | (rw [hs] at this; simpa using this)
  have hlt3 := HO3.out.lt;clear HO3 hg3 HO2;go_wp2_with fail;go_ret;exact ⟨_,rfl,Nat.le_refl _,hlt3,HF.out,hb3⟩
 | false =>
  have hN2 : 2 ≤ N := by rw [← HN.out]; exact rises_short HR.out
  rcases HADR.out with h | ⟨b,off,rfl⟩
  ·exact absurd hN2 (by rw [← HN.out,h]; simp)
  obtain ⟨half,hhalf⟩ : ∃ h,N / 2 = h := ⟨_,rfl⟩
  have hq : (N : Int) / 2 = (half : Int) := by omega
  have hq' : (N : Int).tdiv 2 = (half : Int) := by rw [Int.tdiv_eq_ediv_of_nonneg (by omega)]; exact hq
  have hh1 : half < N := by omega
  have hh2 : 0 < half := by omega
  obtain ⟨LO,hLO⟩ : ∃ l,rs.take half = l := ⟨_,rfl⟩;obtain ⟨HI,hHI⟩ : ∃ l,rs.drop half = l := ⟨_,rfl⟩
  have HLL : Hid (LO.length = half) := by show _ = _; rw [← hLO,List.length_take,HN.out]; omega
  have HHL : Hid (HI.length = N - half) := by show _ = _; rw [← hHI,List.length_drop,HN.out]
  have HSR : Hid (sortF rs = mergeF (sortF LO) (sortF HI)) := by show _ = _; rw [sortF_on HR.out,HN.out,hhalf,hLO,hHI]
  have CL : Hid (∀ W,Below w.heap.size w W → Calls Tryz.prog 61 #[.slice (some ⟨b,off,none⟩) half cap] W fun e w' => ∃ g,e = .returned (.slice (some ⟨g,0,none⟩) half half) ∧ W.heap.size ≤ g ∧ g < w'.heap.size ∧ HoldsR w' (some ⟨g,0,none⟩) (sortF LO) ∧ Below W.heap.size W w') := fun W hW => IH.out LO _ half cap W (by rw [HLL.out]; exact hh1) HLL.out (.inr ⟨_,_,rfl⟩) (by omega) HM.out (by rw [← hLO]; exact (HH.out.below hW).cut' half)
  have CH : Hid (∀ W,Below w.heap.size w W → Calls Tryz.prog 61 #[.slice (some ⟨b,off + half * 4,none⟩) (N - half) (cap - half)] W fun e w' => ∃ g,e = .returned (.slice (some ⟨g,0,none⟩) (N - half) (N - half)) ∧ W.heap.size ≤ g ∧ g < w'.heap.size ∧ HoldsR w' (some ⟨g,0,none⟩) (sortF HI) ∧ Below W.heap.size W w') := fun W hW => IH.out HI _ (N - half) (cap - half) W (by rw [HHL.out]; omega) HHL.out (.inr ⟨_,_,rfl⟩) (by omega) (by unfold maxLen; omega) (by rw [← hHI]; exact (HH.out.below hW).drop half)
  have e1 : ¬ half = cap := by omega
  have e1' : ¬ cap = half := by omega
  have e2 : (half : Int) ≤ (cap : Int) := by omega
  have e3 : (half : Int) ≤ (N : Int) := by omega
  have e4 : half ≤ N := by omega
  have e5 : half ≤ cap := by omega
  clear hhalf hLO hHI HH IH HADR HR;go_wp2_with fail;have hS : Below w.heap.size w w2.drew := hbw2.drew;refine wp_region_held_drew (S := fun w' => Below w.heap.size w w') (by kernel_rfl) hS (fun hS => ?_);refine rg_take 0 17 (.slice (some ⟨w.heap.size,0,none⟩) N N) _ rfl rfl (by kernel_rfl) (by kernel_rfl) (by kernel_rfl) (fun _ _ _ h => h) (by rfl) (fun w' hw' => ?_) hS (listed' := bts 10 1) (by kernel_rfl) rfl ?_
  ·go_simp
  simp only [zsA,zsZ,zsS];refine rg_take 1 18 (.slice (some ⟨b,off,none⟩) N cap) _ rfl rfl (by kernel_rfl) (by kernel_rfl) (by kernel_rfl) (fun _ _ _ h => h) (by rfl) (fun w' hw' => ?_) hS (listed' := bts 10 3) (by kernel_rfl) rfl ?_
  ·go_simp
  simp only [zsA,zsZ,zsS];refine rg_take 2 19 (.int .i64 (half : Int)) _ rfl rfl (by kernel_rfl) (by kernel_rfl) (by kernel_rfl) (fun _ _ _ h => h) (by rfl) (fun w' hw' => ?_) hS (listed' := bts 10 7) (by kernel_rfl) rfl ?_
  ·go_simp
  simp only [zsA,zsZ,zsS];refine rg_take 3 20 (.slice (some ⟨b,off,none⟩) half cap) _ rfl rfl (by kernel_rfl) (by kernel_rfl) (by kernel_rfl) (fun _ _ _ h => h) (by rfl) (fun w' hw' => ?_) hS (listed' := bts 10 15) (by kernel_rfl) rfl ?_
  ·go_simp
  simp only [zsA,zsZ,zsS];refine rg_take 5 22 (.slice (some ⟨b,off,none⟩) N cap) _ rfl rfl (by kernel_rfl) (by kernel_rfl) (by kernel_rfl) (fun _ _ _ h => h) (by rfl) (fun w' hw' => ?_) hS (listed' := bts 10 47) (by kernel_rfl) rfl ?_
  ·go_simp
  simp only [zsA,zsZ,zsS];refine rg_take 6 23 (.int .i64 (half : Int)) _ rfl rfl (by kernel_rfl) (by kernel_rfl) (by kernel_rfl) (fun _ _ _ h => h) (by rfl) (fun w' hw' => ?_) hS (listed' := bts 10 111) (by kernel_rfl) rfl ?_
  ·go_simp
  simp only [zsA,zsZ,zsS];refine rg_take 7 24 (.slice (some ⟨b,off + half * 4,none⟩) (N - half) (cap - half)) _ rfl rfl (by kernel_rfl) (by kernel_rfl) (by kernel_rfl) (fun _ _ _ h => h) (by rfl) (fun w' hw' => ?_) hS (listed' := bts 10 239) (by kernel_rfl) rfl ?_
  ·go_simp
  simp only [zsA,zsZ,zsS];refine rg_call 4 21 61 #[.slice (some ⟨b,off,none⟩) half cap] rfl rfl (by kernel_rfl) (by rfl) (listed' := bts 10 255) (by kernel_rfl) (fun w' => by go_simp) ?_;refine (CL.out _ hS).mono ?_;rintro e w3 ⟨g1,rfl,n1,m1,hh1,hb1⟩;have hO3 := HO2.out.below ((below_drew w2).trans (hb1.mono (by simp)));have hS3 : Below w.heap.size w w3 := hS.trans (hb1.mono hS.size);refine ⟨_,rfl,hS3,?_⟩;have hS := hS3;simp only [zsA,zsZ,zsS];refine rg_call 8 25 61 #[.slice (some ⟨b,off + half * 4,none⟩) (N - half) (cap - half)] rfl rfl (by kernel_rfl) (by rfl) (listed' := bts 10 511) (by kernel_rfl) (fun w' => by go_simp) ?_;refine (CH.out _ hS).mono ?_;rintro e w4 ⟨g2,rfl,n2,m2,hh2,hb2⟩;have hO4 := hO3.below hb2;have hh1' := hh1.below hb2;have hS4 : Below w.heap.size w w4 := hS3.trans (hb2.mono hS3.size);refine ⟨_,rfl,hS4,?_⟩
  have hG1 : g1 ≠ w.heap.size := by have := hG2; have : w2.heap.size ≤ g1 := n1; omega
  have hG2' : g2 ≠ w.heap.size := by have := hG2; have := hb1.size; have : w2.heap.size ≤ w3.heap.size := this; omega
  have hM := merge_any w.heap.size (.slice (some ⟨g1,0,none⟩) half half) (.slice (some ⟨g2,0,none⟩) (N - half) (N - half)) (sortF LO) (sortF HI) w4 N (by rw [(sortF_all _ LO (Nat.le_refl _)).2.1,(sortF_all _ HI (Nat.le_refl _)).2.1,HLL.out,HHL.out]; omega) hl hO4
   ⟨g1,0,half,by rw [(sortF_all _ LO (Nat.le_refl _)).2.1,HLL.out],by rw [(sortF_all _ LO (Nat.le_refl _)).2.1,HLL.out]; exact Nat.le_refl _,by omega,hh1',hG1⟩
   ⟨g2,0,N - half,by rw [(sortF_all _ HI (Nat.le_refl _)).2.1,HHL.out],by rw [(sortF_all _ HI (Nat.le_refl _)).2.1,HHL.out]; exact Nat.le_refl _,by omega,hh2,hG2'⟩
  simp only [zsA,zsZ,zsS];refine rg_call 9 26 89 #[.slice (some ⟨w.heap.size,0,none⟩) N N,.slice (some ⟨g1,0,none⟩) half half,.slice (some ⟨g2,0,none⟩) (N - half) (N - half)] rfl rfl (by kernel_rfl) (by rfl) (listed' := bts 10 1023) (by kernel_rfl) (fun w' => by go_simp) ?_;refine hM.mono ?_;rintro e w5 ⟨rfl,hO5,hg5⟩;have hS5 : Below w.heap.size w w5 := hS4.grown hg5 hS4.size (fun k hk => by cases hk; exact Nat.le_refl _);refine ⟨_,rfl,hS5,?_⟩;simp only [zsA,zsZ,zsS];refine wpAnyH_done (by kernel_rfl) ?_ _
  have HF : Hid (OutAt w5 w.heap.size (sortF rs) 0) := by
   rw [HSR.out];exact hO5
  have hlt5 := hO5.lt;clear hM hO5 hg5 hO4 hO3 hh1 hh1' hh2;go_wp2_with fail;go_ret;exact ⟨_,rfl,Nat.le_refl _,hlt5,HF.out,hS5⟩
theorem SortP.weak {N : Nat} {rs : List Fd} {w : World} (e : Ending) (w' : World) (h : ∃ g,e = .returned (.slice (some ⟨g,0,none⟩) N N) ∧ w.heap.size ≤ g ∧ g < w'.heap.size ∧ OutAt w' g (sortF rs) 0 ∧ Below w.heap.size w w') :
  ∃ g,e = .returned (.slice (some ⟨g,0,none⟩) N N) ∧ w.heap.size ≤ g ∧ g < w'.heap.size ∧ HoldsR w' (some ⟨g,0,none⟩) (sortF rs) ∧ Below w.heap.size w w' := by
 obtain ⟨g,h1,h2,h3,h4,h5⟩ := h;exact ⟨g,h1,h2,h3,h4.holds,h5⟩
theorem sorted_any : ∀ (K : Nat) (rs : List Fd) (a : Option Addr) (N cap : Nat) (w : World),rs.length ≤ K → rs.length = N → N ≤ 1000000 → (rs = [] ∨ ∃ g off,a = some ⟨g,off,none⟩) → N ≤ cap → cap ≤ maxLen → HoldsR w a rs →
  Calls Tryz.prog 61 #[.slice a N cap] w fun e w' => ∃ g,e = .returned (.slice (some ⟨g,0,none⟩) N N) ∧ w.heap.size ≤ g ∧ g < w'.heap.size ∧ HoldsR w' (some ⟨g,0,none⟩) (sortF rs) ∧ Below w.heap.size w w'
 | 0,rs,a,N,cap,w,hK,hN,hl,hadr,hc,hm,hh => sorted_step rs a N cap w hN hl hadr hc hm hh (fun rs' _ _ _ _ h => absurd h (by omega)) |>.mono SortP.weak
 | K + 1,rs,a,N,cap,w,hK,hN,hl,hadr,hc,hm,hh => sorted_step rs a N cap w hN hl hadr hc hm hh (fun rs' a' M cap' w' h1 h2 h3 h4 h5 h6 => sorted_any K rs' a' M cap' w' (by omega) h2 (by omega) h3 h4 h5 h6) |>.mono SortP.weak
theorem sorted_out (rs : List Fd) (a : Option Addr) (N cap : Nat) (w : World) (hN : rs.length = N) (hl : N ≤ 1000000) (hadr : rs = [] ∨ ∃ g off,a = some ⟨g,off,none⟩) (hc : N ≤ cap) (hm : cap ≤ maxLen) (hh : HoldsR w a rs) :
  Calls Tryz.prog 61 #[.slice a N cap] w fun e w' => ∃ g,e = .returned (.slice (some ⟨g,0,none⟩) N N) ∧ w.heap.size ≤ g ∧ g < w'.heap.size ∧ OutAt w' g (sortF rs) 0 ∧ Below w.heap.size w w' :=
 sorted_step rs a N cap w hN hl hadr hc hm hh (fun rs' a' M cap' w' h1 h2 h3 h4 h5 h6 => sorted_any rs'.length rs' a' M cap' w' (Nat.le_refl _) h2 (by omega) h3 h4 h5 h6)
end
section
def fldT (label : Int) (xs : List Tr) : List Tr :=
 if label = 3 then xs else match xs.getLast? with
  | none => []
  | some x => if label = 1 ∧ zroB x = true then [] else [x]
theorem fldT_snoc (label : Int) (xs : List Tr) (x : Tr) : fldT label (xs ++ [x]) = if label = 3 then xs ++ [x] else if label = 1 ∧ zroB x = true then [] else [x] := by
 simp [fldT,List.getLast?_append]
theorem und_mem {es : List (Int × List Tr)} (h : RisE es) {p : Int × List Tr} (hp : p ∈ es) : undE es p.1 = p.2 := by
 simp [undE,find_mem h hp]
theorem und_none {es : List (Int × List Tr)} {t : Int} (h : ∀ e ∈ es,e.1 ≠ t) : undE es t = [] := by
 have : es.find? (fun e => decide (e.1 = t)) = none := List.find?_eq_none.2 fun e he => by simpa using h e he
 simp [undE,this]
theorem und_in {es : List (Int × List Tr)} {t : Int} (h : undE es t ≠ []) : (t,undE es t) ∈ es := by
 unfold undE at h ⊢
 cases hf : es.find? (fun e => decide (e.1 = t)) with
 | none => rw [hf] at h; exact absurd rfl h
 | some p =>
  have h1 := List.mem_of_find?_eq_some hf
  have h2 : p.1 = t := by simpa using List.find?_some hf
  simp only [Option.map_some,Option.getD_some];rw [← h2]; exact h1
theorem und_set {es : List (Int × List Tr)} (h : RisE es) (t : Int) (x : List Tr) (u : Int) : undE (setE t x es) u = if u = t then x else undE es u := by
 by_cases hu : u = t
 ·subst hu;rw [if_pos rfl];exact und_mem (h.set u x) (p := (u,x)) (mem_setE.2 (.inl rfl))
 ·rw [if_neg hu]
  by_cases hk : ∃ p ∈ es,p.1 = u
  ·obtain ⟨p,hp,rfl⟩ := hk;rw [und_mem (h.set t x) (p := p) (mem_setE.2 (.inr ⟨hp,hu⟩)),und_mem h hp]
  ·have h1 : ∀ e ∈ es,e.1 ≠ u := fun e he e1 => hk ⟨e,he,e1⟩
   rw [und_none h1,und_none];intro e he
   rcases mem_setE.1 he with rfl | ⟨he,_⟩
   ·exact fun e => hu e.symm
   ·exact h1 e he
theorem und_del {es : List (Int × List Tr)} (h : RisE es) (t : Int) (u : Int) : undE (delE t es) u = if u = t then [] else undE es u := by
 by_cases hu : u = t
 ·subst hu;rw [if_pos rfl];exact und_none fun e he => (mem_delE.1 he).2
 ·rw [if_neg hu]
  by_cases hk : ∃ p ∈ es,p.1 = u
  ·obtain ⟨p,hp,rfl⟩ := hk;rw [und_mem (h.del t) (p := p) (mem_delE.2 ⟨hp,hu⟩),und_mem h hp]
  ·have h1 : ∀ e ∈ es,e.1 ≠ u := fun e he e1 => hk ⟨e,he,e1⟩
   rw [und_none h1,und_none];exact fun e he => h1 e (mem_delE.1 he).1
theorem ris_uniq {α : Type} : ∀ {a b : List (Int × α)},RisE a → RisE b → (∀ p,p ∈ a ↔ p ∈ b) → a = b
 | [],[],_,_,_ => rfl
 | [],y :: b,_,_,h => absurd ((h y).2 (List.mem_cons_self ..)) (by simp)
 | x :: a,[],_,_,h => absurd ((h x).1 (List.mem_cons_self ..)) (by simp)
 | x :: a,y :: b,ha,hb,h => by
  rw [RisE,List.pairwise_cons] at ha hb
  have hxy : x = y := by
   rcases List.mem_cons.1 ((h x).1 (List.mem_cons_self ..)) with e | hx
   ·exact e
   ·rcases List.mem_cons.1 ((h y).2 (List.mem_cons_self ..)) with e | hy
    ·exact e.symm
    ·have := hb.1 x hx;have := ha.1 y hy
     omega
  subst hxy
  congr 1
  refine ris_uniq ha.2 hb.2 fun p => ⟨fun hp => ?_,fun hp => ?_⟩
  ·rcases List.mem_cons.1 ((h p).1 (List.mem_cons_of_mem _ hp)) with rfl | h1
   ·have := ha.1 p hp; omega
   ·exact h1
  ·rcases List.mem_cons.1 ((h p).2 (List.mem_cons_of_mem _ hp)) with rfl | h1
   ·have := hb.1 p hp; omega
   ·exact h1
theorem es_uniq {a b : List (Int × List Tr)} (ha : RisE a) (hb : RisE b) (na : ∀ e ∈ a,e.2 ≠ []) (nb : ∀ e ∈ b,e.2 ≠ []) (h : ∀ t,undE a t = undE b t) : a = b := by
 refine ris_uniq ha hb fun p => ⟨fun hp => ?_,fun hp => ?_⟩
 ·have h1 := und_mem ha hp;have h2 : undE b p.1 = p.2 := (h p.1).symm.trans h1;have h3 := und_in (es := b) (t := p.1) (by rw [h2]; exact na p hp);rw [h2] at h3; exact h3
 ·have h1 := und_mem hb hp;have h2 : undE a p.1 = p.2 := (h p.1).trans h1;have h3 := und_in (es := a) (t := p.1) (by rw [h2]; exact nb p hp);rw [h2] at h3; exact h3
def ofT (l : List Fd) (tag : Int) : List Fd := l.filter fun r => decide (r.tag = tag)
theorem ofT_app (a b : List Fd) (t : Int) : ofT (a ++ b) t = ofT a t ++ ofT b t := List.filter_append ..
theorem ofT_one (r : Fd) (t : Int) : ofT [r] t = if r.tag = t then [r] else [] := by
 by_cases h : r.tag = t <;> simp [ofT,h]
structure Ran (M : ByteArray → List Nat → Tr × Int) (fs : List FlS) (l : List Fd) (st : Ds) : Prop where
 ris : RisE st.es
 ne : ∀ e ∈ st.es,e.2 ≠ []
 und : ∀ tag f,fldOf fs tag = some f → undE st.es tag = fldT f.label ((ofT l tag).map fun r => (treeD M f r).1)
 kn : ∀ e ∈ st.es,∃ f,fldOf fs e.1 = some f
 rest : st.rest = l.filter fun r => (fldOf fs r.tag).isNone
theorem Ran.nil (M : ByteArray → List Nat → Tr × Int) (fs : List FlS) : Ran M fs [] ⟨[],[]⟩ :=
 ⟨List.Pairwise.nil,by simp,fun tag f _ => by simp [undE,ofT,fldT],by simp,rfl⟩
theorem fld_tag {fs : List FlS} {t : Int} {f : FlS} (h : fldOf fs t = some f) : f.tag = t := by simpa using List.find?_some h
def FitR (M : ByteArray → List Nat → Tr × Int) (fs : List FlS) (l : List Fd) : Prop :=
 (∀ r ∈ l,∀ f,fldOf fs r.tag = some f → (treeD M f r).2 = 0) ∧ ∀ tag f,fldOf fs tag = some f → f.label = 3 → (ofT l tag).length ≤ 64
theorem FitR.app {M : ByteArray → List Nat → Tr × Int} {fs : List FlS} {a b : List Fd} (h : FitR M fs (a ++ b)) : FitR M fs a :=
 ⟨fun r hr => h.1 r (List.mem_append.2 (.inl hr)),fun t f h1 h2 => by have := h.2 t f h1 h2; rw [ofT_app,List.length_append] at this; omega⟩
theorem Ran.step {M : ByteArray → List Nat → Tr × Int} {fs : List FlS} {l : List Fd} {st : Ds} (h : Ran M fs l st) (hl : FitR M fs l) (r : Fd) :
  ((oneD M fs st r).2 = 0 ↔ FitR M fs (l ++ [r])) ∧ ((oneD M fs st r).2 = 0 → Ran M fs (l ++ [r]) (oneD M fs st r).1) := by
 cases hf : fldOf fs r.tag with
 | none =>
  have e1 : oneD M fs st r = (⟨st.es,st.rest ++ [r]⟩,0) := by simp [oneD,hf]
  rw [e1];refine ⟨⟨fun _ => ⟨fun x hx f hxf => ?_,fun t f h1 h2 => ?_⟩,fun _ => rfl⟩,fun _ => ⟨h.ris,h.ne,fun t f htf => ?_,h.kn,?_⟩⟩
  ·rcases List.mem_append.1 hx with hx | hx
   ·exact hl.1 x hx f hxf
   ·obtain rfl : x = r := by simpa using hx
    rw [hf] at hxf; cases hxf
  ·have hne : r.tag ≠ t := fun e => by rw [e,h1] at hf; cases hf
   rw [ofT_app,ofT_one,if_neg hne,List.append_nil];exact hl.2 t f h1 h2
  ·have hne : r.tag ≠ t := fun e => by rw [e,htf] at hf; cases hf
   rw [ofT_app,ofT_one,if_neg hne,List.append_nil];exact h.und t f htf
  ·simp [h.rest,hf]
 | some f =>
  have hft := fld_tag hf
  by_cases ht : (treeD M f r).2 ≠ 0
  ·have e1 : oneD M fs st r = (st,(treeD M f r).2) := by simp [oneD,hf,ht]
   rw [e1];exact ⟨⟨fun e => absurd e ht,fun g => absurd (g.1 r (by simp) f hf) ht⟩,fun e => absurd e ht⟩
  ·have ht0 : (treeD M f r).2 = 0 := by omega
   have e1 : oneD M fs st r = (⟨(putD f (treeD M f r).1 st.es).1,st.rest⟩,(putD f (treeD M f r).1 st.es).2) := by simp [oneD,hf,ht0]
   have hu := h.und r.tag f hf
   have hrest : st.rest = (l ++ [r]).filter fun r => (fldOf fs r.tag).isNone := by simp [h.rest,hf]
   have hfit : (f.label = 3 → (ofT l r.tag).length + 1 ≤ 64) → FitR M fs (l ++ [r]) := fun hlen => ⟨fun x hx g hg => by
    rcases List.mem_append.1 hx with hx | hx
    ·exact hl.1 x hx g hg
    ·obtain rfl : x = r := by simpa using hx
     rw [hf] at hg; cases hg; exact ht0,fun t g h1 h2 => by
    rw [ofT_app,ofT_one]
    by_cases e : r.tag = t
    ·subst e;rw [hf] at h1; cases h1;rw [if_pos rfl,List.length_append];exact hlen h2
    ·rw [if_neg e,List.append_nil]; exact hl.2 t g h1 h2⟩
   have hund : ∀ (es' : List (Int × List Tr)),(∀ u,undE es' u = if u = r.tag then fldT f.label ((ofT (l ++ [r]) r.tag).map fun r => (treeD M f r).1) else undE st.es u) → ∀ tag g,fldOf fs tag = some g → undE es' tag = fldT g.label ((ofT (l ++ [r]) tag).map fun r => (treeD M g r).1) := fun es' he t g hg => by
    rw [he t]
    by_cases e : t = r.tag
    ·subst e;rw [hf] at hg; cases hg;rw [if_pos rfl]
    ·rw [if_neg e,ofT_app,ofT_one,if_neg (fun e' => e e'.symm),List.append_nil];exact h.und t g hg
   have hx : (ofT (l ++ [r]) r.tag).map (fun r => (treeD M f r).1) = (ofT l r.tag).map (fun r => (treeD M f r).1) ++ [(treeD M f r).1] := by
    rw [ofT_app,ofT_one,if_pos rfl,List.map_append]; rfl
   rw [e1]
   by_cases h3 : f.label = 3
   ·have hu3 : undE st.es f.tag = (ofT l r.tag).map fun r => (treeD M f r).1 := by rw [hft,hu,fldT,if_pos h3]
    by_cases h64 : (undE st.es f.tag).length = 64
    ·have e2 : putD f (treeD M f r).1 st.es = (st.es,4) := by simp [putD,h3,h64]
     rw [e2];refine ⟨⟨fun e => absurd e (by simp),fun g => ?_⟩,fun e => absurd e (by simp)⟩;have := g.2 r.tag f hf h3;rw [ofT_app,ofT_one,if_pos rfl,List.length_append] at this;rw [hu3,List.length_map] at h64
     simp at this; omega
    ·have e2 : putD f (treeD M f r).1 st.es = (setE f.tag (undE st.es f.tag ++ [(treeD M f r).1]) st.es,0) := by simp [putD,h3,h64]
     rw [e2];refine ⟨⟨fun _ => hfit fun _ => ?_,fun _ => rfl⟩,fun _ => ⟨h.ris.set _ _,fun e he => ?_,hund _ fun u => ?_,fun e he => ?_,hrest⟩⟩
     ·have := hl.2 r.tag f hf h3;rw [hu3,List.length_map] at h64
      omega
     ·rcases mem_setE.1 he with rfl | ⟨he,_⟩
      ·simp
      ·exact h.ne e he
     ·rw [und_set h.ris,hft]
      by_cases e : u = r.tag
      ·rw [if_pos e,if_pos e,hx,fldT_snoc,if_pos h3,← hu3,hft]
      ·rw [if_neg e,if_neg e]
     ·rcases mem_setE.1 he with rfl | ⟨he,_⟩
      ·exact ⟨f,by rw [hft]; exact hf⟩
      ·exact h.kn e he
   ·by_cases h1 : f.label = 1 ∧ zroB (treeD M f r).1 = true
    ·have e2 : putD f (treeD M f r).1 st.es = (delE f.tag st.es,0) := by simp [putD,h3,h1]
     rw [e2];refine ⟨⟨fun _ => hfit fun e => absurd e h3,fun _ => rfl⟩,fun _ => ⟨h.ris.del _,fun e he => h.ne e (mem_delE.1 he).1,hund _ fun u => ?_,fun e he => h.kn e (mem_delE.1 he).1,hrest⟩⟩;rw [und_del h.ris,hft]
     by_cases e : u = r.tag
     ·rw [if_pos e,if_pos e,hx,fldT_snoc,if_neg h3,if_pos h1]
     ·rw [if_neg e,if_neg e]
    ·have e2 : putD f (treeD M f r).1 st.es = (setE f.tag [(treeD M f r).1] st.es,0) := by rw [putD,if_neg h3,if_neg h1]
     rw [e2];refine ⟨⟨fun _ => hfit fun e => absurd e h3,fun _ => rfl⟩,fun _ => ⟨h.ris.set _ _,fun e he => ?_,hund _ fun u => ?_,fun e he => ?_,hrest⟩⟩
     ·rcases mem_setE.1 he with rfl | ⟨he,_⟩
      ·simp
      ·exact h.ne e he
     ·rw [und_set h.ris,hft]
      by_cases e : u = r.tag
      ·rw [if_pos e,if_pos e,hx,fldT_snoc,if_neg h3,if_neg h1]
      ·rw [if_neg e,if_neg e]
     ·rcases mem_setE.1 he with rfl | ⟨he,_⟩
      ·exact ⟨f,by rw [hft]; exact hf⟩
      ·exact h.kn e he
theorem Ran.run {M : ByteArray → List Nat → Tr × Int} {fs : List FlS} : ∀ (l pre : List Fd) (st : Ds),Ran M fs pre st → FitR M fs pre → ((runD M fs st l).2 = 0 ↔ FitR M fs (pre ++ l)) ∧ ((runD M fs st l).2 = 0 → Ran M fs (pre ++ l) (runD M fs st l).1)
 | [],pre,st,h,hf => by rw [List.append_nil]; exact ⟨⟨fun _ => hf,fun _ => rfl⟩,fun _ => h⟩
 | r :: l,pre,st,h,hf => by
  obtain ⟨s1,s2⟩ := h.step hf r
  have ea : pre ++ r :: l = (pre ++ [r]) ++ l := by simp
  by_cases h1 : (oneD M fs st r).2 ≠ 0
  ·simp only [runD,if_pos h1];refine ⟨⟨fun e => absurd e h1,fun g => absurd (s1.2 ?_) h1⟩,fun e => absurd e h1⟩;rw [ea] at g; exact g.app
  ·have h0 : (oneD M fs st r).2 = 0 := by omega
   simp only [runD,if_neg h1];rw [ea];exact Ran.run l (pre ++ [r]) _ (s2 h0) (s1.1 h0)
theorem FitR.nil (M : ByteArray → List Nat → Tr × Int) (fs : List FlS) : FitR M fs [] := ⟨by simp,by simp [ofT]⟩
theorem run_fit {M : ByteArray → List Nat → Tr × Int} {fs : List FlS} (l : List Fd) : (runD M fs ⟨[],[]⟩ l).2 = 0 ↔ FitR M fs l := by
 have := (Ran.run l [] ⟨[],[]⟩ (Ran.nil M fs) (FitR.nil M fs)).1
 simpa using this
theorem run_ran {M : ByteArray → List Nat → Tr × Int} {fs : List FlS} {l : List Fd} (h : (runD M fs ⟨[],[]⟩ l).2 = 0) : Ran M fs l (runD M fs ⟨[],[]⟩ l).1 := by
 have := (Ran.run l [] ⟨[],[]⟩ (Ran.nil M fs) (FitR.nil M fs)).2
 simpa using this h
def flE (B : Tr → List Nat × Nat) (tag : Int) (x : Tr) : Fd × Nat :=
 if x.kind = 1 then (⟨tag,0,x.n,⟨#[]⟩⟩,0)
 else if x.kind = 2 then (if 4096 < x.s.size then (fd0,4) else (⟨tag,1,0,x.s⟩,0))
 else if (B x).2 ≠ 0 then (fd0,(B x).2) else (⟨tag,1,0,strN (B x).1⟩,0)
def errE : List (Fd × Nat) → Nat
 | [] => 0
 | p :: l => if p.2 = 0 then errE l else p.2
def enE (B : Tr → List Nat × Nat) (e : Int × List Tr) : List (Fd × Nat) := e.2.map (flE B e.1)
def fsE (B : Tr → List Nat × Nat) (es : List (Int × List Tr)) : List (Fd × Nat) := es.flatMap (enE B)
def rwE (B : Tr → List Nat × Nat) (t : Tr) : List Fd × Nat :=
 if errE (fsE B t.es) ≠ 0 then ([],errE (fsE B t.es)) else (sortF ((fsE B t.es).map (·.1) ++ t.rest),0)
def ofR (r : List Fd × Nat) : List Nat × Nat := if r.2 ≠ 0 then ([],r.2) else putL r.1
def bytE : Nat → Tr → List Nat × Nat
 | 0,_ => ([],0)
 | n + 1,t => ofR (rwE (bytE n) t)
def rawsA (n : Nat) (t : Tr) : List Fd × Nat := if t.kind = 3 ∧ chkN n t = true then rwE (bytE (n - 1)) t else ([],1)
def encA (n : Nat) (t : Tr) : List Nat × Nat := ofR (rawsA n t)
theorem flE_congr {B B' : Tr → List Nat × Nat} {tag : Int} {x : Tr} (h : B x = B' x) : flE B tag x = flE B' tag x := by
 unfold flE; rw [h]
theorem fsE_congr {B B' : Tr → List Nat × Nat} {es : List (Int × List Tr)} (h : ∀ e ∈ es,∀ x ∈ e.2,B x = B' x) : fsE B es = fsE B' es := by
 unfold fsE
 induction es with
 | nil => rfl
 | cons e l ih =>
  rw [List.flatMap_cons,List.flatMap_cons,ih fun e' he => h e' (List.mem_cons_of_mem _ he)]
  congr 1
  unfold enE;exact List.map_congr_left fun x hx => flE_congr (h e (List.mem_cons_self ..) x hx)
theorem rwE_congr {B B' : Tr → List Nat × Nat} {t : Tr} (h : ∀ e ∈ t.es,∀ x ∈ e.2,B x = B' x) : rwE B t = rwE B' t := by
 unfold rwE; rw [fsE_congr h]
theorem bytE_more : ∀ (n m : Nat) (t : Tr),DpN n t → DpN m t → bytE n t = bytE m t
 | 0,_,_,h,_ => h.elim
 | _ + 1,0,_,_,h => h.elim
 | n + 1,m + 1,t,h,k => by
  simp only [bytE];rw [rwE_congr fun e he x hx => bytE_more n m x (h e he x hx) (k e he x hx)]
theorem bytE_parts {n : Nat} {t u : Tr} (h1 : t.es = u.es) (h2 : t.rest = u.rest) : bytE n t = bytE n u := by
 cases n with
 | zero => rfl
 | succ n => simp only [bytE,rwE,h1,h2]
theorem DpN.parts {n : Nat} {t u : Tr} (h1 : t.es = u.es) (h : DpN n t) : DpN n u := by
 cases n with
 | zero => exact h
 | succ n =>
  intro e he;rw [← h1] at he;exact h e he
theorem errE_app (a b : List (Fd × Nat)) : errE (a ++ b) = if errE a = 0 then errE b else errE a := by
 induction a with
 | nil => rfl
 | cons p a ih =>
  have h1 : ∀ l,errE (p :: l) = if p.2 = 0 then errE l else p.2 := fun _ => rfl
  rw [List.cons_append,h1,h1]
  by_cases h : p.2 = 0
  ·simp [h,ih]
  ·simp [h]
theorem errE_one (p : Fd × Nat) : errE [p] = p.2 := by
 simp only [errE]; split <;> simp_all
theorem errE_all {l : List (Fd × Nat)} (h : errE l = 0) : ∀ p ∈ l,p.2 = 0 := by
 induction l with
 | nil => intro p hp; cases hp
 | cons q l ih =>
  intro p hp;simp only [errE] at h
  split at h
  ·rcases List.mem_cons.1 hp with rfl | hp
   ·assumption
   ·exact ih h p hp
  ·exact absurd h (by assumption)
theorem fsE_app (B : Tr → List Nat × Nat) (a b : List (Int × List Tr)) : fsE B (a ++ b) = fsE B a ++ fsE B b := by simp [fsE]
theorem fsE_one (B : Tr → List Nat × Nat) (e : Int × List Tr) : fsE B [e] = enE B e := by simp [fsE]
theorem fsE_len (B : Tr → List Nat × Nat) (es : List (Int × List Tr)) : (fsE B es).length = (subs es).length := by
 induction es with
 | nil => rfl
 | cons e l ih =>
  unfold fsE subs at *;rw [List.flatMap_cons,List.flatMap_cons,List.length_append,List.length_append,ih]
  simp [enE]
def uptE (B : Tr → List Nat × Nat) (es : List (Int × List Tr)) (i k : Nat) : List (Fd × Nat) := fsE B (es.take i) ++ ((es[i]?.map fun e => (e.2.take k).map (flE B e.1)).getD [])
theorem uptE_zero (B : Tr → List Nat × Nat) (es : List (Int × List Tr)) (i : Nat) : uptE B es i 0 = fsE B (es.take i) := by
 unfold uptE; cases es[i]? <;> simp
theorem uptE_step {B : Tr → List Nat × Nat} {es : List (Int × List Tr)} {i k : Nat} {e : Int × List Tr} {x : Tr} (hi : es[i]? = some e) (hk : e.2[k]? = some x) : uptE B es i (k + 1) = uptE B es i k ++ [flE B e.1 x] := by
 obtain ⟨hl,rfl⟩ := List.getElem?_eq_some_iff.1 hk;unfold uptE;rw [hi];simp only [Option.map_some,Option.getD_some,List.append_assoc];rw [List.take_succ_eq_append_getElem hl,List.map_append]
 rfl
theorem uptE_end {B : Tr → List Nat × Nat} {es : List (Int × List Tr)} {i : Nat} {e : Int × List Tr} (hi : es[i]? = some e) : uptE B es i e.2.length = fsE B (es.take (i + 1)) := by
 obtain ⟨hl,rfl⟩ := List.getElem?_eq_some_iff.1 hi;unfold uptE;rw [hi,List.take_succ_eq_append_getElem hl,fsE_app,fsE_one];simp only [Option.map_some,Option.getD_some,List.take_length,enE]
theorem errE_hit {B : Tr → List Nat × Nat} {es : List (Int × List Tr)} {i k : Nat} {e : Int × List Tr} {x : Tr} (hi : es[i]? = some e) (hk : e.2[k]? = some x) (h0 : errE (uptE B es i k) = 0) (hx : (flE B e.1 x).2 ≠ 0) : errE (fsE B es) = (flE B e.1 x).2 := by
 have h1 : fsE B es = fsE B (es.take i) ++ enE B e ++ fsE B (es.drop (i + 1)) := by
  obtain ⟨hl,rfl⟩ := List.getElem?_eq_some_iff.1 hi;rw [← fsE_one,← fsE_app,← fsE_app]
  congr 1
  rw [List.append_assoc,List.singleton_append,← List.drop_eq_getElem_cons hl,List.take_append_drop]
 have h2 : enE B e = (e.2.take k).map (flE B e.1) ++ flE B e.1 x :: (e.2.drop (k + 1)).map (flE B e.1) := by
  obtain ⟨hl,rfl⟩ := List.getElem?_eq_some_iff.1 hk
  have h3 : e.2 = e.2.take k ++ (e.2[k] :: e.2.drop (k + 1)) := by rw [← List.drop_eq_getElem_cons hl,List.take_append_drop]
  unfold enE
  conv => lhs; rw [h3]
  rw [List.map_append,List.map_cons]
 have h3 : fsE B es = uptE B es i k ++ (flE B e.1 x :: ((e.2.drop (k + 1)).map (flE B e.1) ++ fsE B (es.drop (i + 1)))) := by
  rw [h1,h2];unfold uptE;rw [hi]
  simp
 rw [h3,errE_app,if_pos h0,errE,if_neg hx]
theorem rwE_ok {B : Tr → List Nat × Nat} {t : Tr} (h : errE (fsE B t.es) = 0) : rwE B t = (sortF ((fsE B t.es).map (·.1) ++ t.rest),0) := by
 unfold rwE; rw [if_neg (by omega)]
theorem rwE_no {B : Tr → List Nat × Nat} {t : Tr} (h : errE (fsE B t.es) ≠ 0) : rwE B t = ([],errE (fsE B t.es)) := by
 unfold rwE; rw [if_pos h]
theorem putL_none {rs : List Fd} (h : (putL rs).2 ≠ 0) : (putL rs).1 = [] := by
 unfold putL at h ⊢
 split
 ·split
  ·rename_i h1 h2; rw [if_pos h1,if_pos h2] at h; exact absurd rfl h
  ·rfl
 ·rfl
theorem putL_le (rs : List Fd) : (putL rs).1.length ≤ 4096 := by
 unfold putL
 split
 ·split
  ·assumption
  ·simp
 ·simp
theorem bytE_le (n : Nat) (t : Tr) : (bytE n t).1.length ≤ 4096 := by
 cases n with
 | zero => simp [bytE]
 | succ n =>
  simp only [bytE,ofR]
  split
  ·simp
  ·exact putL_le _
theorem flE_64 {B : Tr → List Nat × Nat} {tag : Int} {x : Tr} (h : Is64 x.n) : Is64 (flE B tag x).1.n := by
 unfold flE
 split
 ·exact h
 ·split
  ·split <;> (unfold Is64; simp [fd0])
  ·split <;> (unfold Is64; simp [fd0])
end
section
open Go.ChangeShapes Go.WideShapes Go.ChangeAt Go.RowKit
theorem rises_uniq : ∀ (l m : List Fd),Rises l → Rises m → (∀ t : Int,l.filter (fun x => x.tag == t) = m.filter (fun x => x.tag == t)) → l = m
 | [],m,_,_,h => by
  cases m with
  | nil => rfl
  | cons y m => have := h y.tag; simp at this
 | x :: l,m,h1,h2,h => by
  cases m with
  | nil => have := h x.tag; simp at this
  | cons y m =>
   have p1 := List.pairwise_cons.1 h1;have p2 := List.pairwise_cons.1 h2
   have hx : x ∈ y :: m := by
    have : x ∈ (y :: m).filter (fun z => z.tag == x.tag) := by rw [← h x.tag]; simp
    exact (List.mem_filter.1 this).1
   have hy : y ∈ x :: l := by
    have : y ∈ (x :: l).filter (fun z => z.tag == y.tag) := by rw [h y.tag]; simp
    exact (List.mem_filter.1 this).1
   have e1 : y.tag ≤ x.tag := by
    rcases List.mem_cons.1 hx with rfl | hx
    ·exact Int.le_refl _
    ·exact p2.1 x hx
   have e2 : x.tag ≤ y.tag := by
    rcases List.mem_cons.1 hy with rfl | hy
    ·exact Int.le_refl _
    ·exact p1.1 y hy
   have e : x.tag = y.tag := by omega
   have hf := h x.tag;rw [List.filter_cons,List.filter_cons,if_pos (by simp),if_pos (by simp [e])] at hf;obtain rfl : x = y := (List.cons.inj hf).1
   congr 1
   refine rises_uniq l m p1.2 p2.2 fun t => ?_
   have := h t;rw [List.filter_cons,List.filter_cons] at this
   by_cases ht : (x.tag == t) = true
   ·rw [if_pos ht,if_pos ht] at this; exact (List.cons.inj this).2
   ·rw [if_neg ht,if_neg ht] at this; exact this
end
section
def DOne (P : ByteArray → Tr → Prop) (f : FlS) (x : Tr) : Prop :=
 (wirK f.kind = 0 ∧ x = ⟨1,x.n,⟨#[]⟩,[],[]⟩ ∧ (f.kind = 3 ∨ f.kind = 6 → nmrB f.kind x.n = true)) ∨
 ((f.kind = 4 ∨ f.kind = 5) ∧ x = ⟨2,0,x.s,[],[]⟩ ∧ (f.kind = 4 → validB x.s.data.toList = true)) ∨
 (f.kind = 7 ∧ P f.tname x)
def DFit : Nat → ScS → ByteArray → Tr → Prop
 | 0,_,_,_ => False
 | k + 1,s,nm,t => ∃ m,msgOf s nm = some m ∧ (t.kind = 3 ∧ t.n = 0 ∧ t.s = ⟨#[]⟩) ∧ RisE t.es ∧
   (∀ e ∈ t.es,∃ f,fldOf m.fields e.1 = some f ∧ e.2 ≠ [] ∧ e.2.length ≤ (if f.label = 3 then 64 else 1) ∧ ∀ x ∈ e.2,DOne (DFit k s) f x ∧ ¬ (f.label = 1 ∧ zroB x = true)) ∧
   Rises t.rest ∧ ∀ r ∈ t.rest,fldOf m.fields r.tag = none ∧ okF r = true
def N64 : Nat → Tr → Prop
 | 0,_ => True
 | n + 1,t => Is64 t.n ∧ (∀ r ∈ t.rest,Is64 r.n) ∧ ∀ e ∈ t.es,∀ x ∈ e.2,N64 n x
theorem flE_tagD {B : Tr → List Nat × Nat} {tag : Int} {x : Tr} (h : (flE B tag x).2 = 0) : (flE B tag x).1.tag = tag := by
 unfold flE at h ⊢
 split
 ·rfl
 ·split
  ·split
   ·rename_i h1 h2 h3; rw [if_neg h1,if_pos h2,if_pos h3] at h; exact absurd h (by decide)
   ·rfl
  ·split
   ·rename_i h1 h2 h3; rw [if_neg h1,if_neg h2,if_pos h3] at h; exact absurd h h3
   ·rfl
theorem bytE_lt (n : Nat) (t : Tr) : ∀ k ∈ (bytE n t).1,k < 256 := by
 cases n with
 | zero => simp [bytE]
 | succ n =>
  simp only [bytE,ofR]
  split
  ·simp
  ·unfold putL
   split
   ·split
    ·exact flatN_lt _
    ·simp
   ·simp
theorem fsE_ofT {B : Tr → List Nat × Nat} (tag : Int) : ∀ {es : List (Int × List Tr)},RisE es → (∀ p ∈ fsE B es,p.2 = 0) → ofT ((fsE B es).map (·.1)) tag = (undE es tag).map fun x => (flE B tag x).1
 | [],_,_ => by simp [fsE,ofT,undE]
 | e :: l,hr,he => by
  have hr' := hr;rw [RisE,List.pairwise_cons] at hr
  have e1 : fsE B (e :: l) = enE B e ++ fsE B l := by simp [fsE]
  rw [e1] at he ⊢;have ih := fsE_ofT (B := B) tag hr.2 fun p hp => he p (List.mem_append.2 (.inr hp))
  rw [List.map_append,ofT_app,ih]
  have ht : ∀ r ∈ (enE B e).map (·.1),r.tag = e.1 := fun r hr => by
   obtain ⟨p,hp,rfl⟩ := List.mem_map.1 hr;obtain ⟨x,hx,rfl⟩ := List.mem_map.1 hp;exact flE_tagD (he _ (List.mem_append.2 (.inl (List.mem_map.2 ⟨x,hx,rfl⟩))))
  by_cases h1 : e.1 = tag
  ·have h2 : undE l tag = [] := und_none fun p hp => by have := hr.1 p hp; omega
   have h3 : undE (e :: l) tag = e.2 := by rw [← h1]; exact und_mem hr' (List.mem_cons_self ..)
   have h4 : ofT ((enE B e).map (·.1)) tag = (enE B e).map (·.1) := List.filter_eq_self.2 fun r hr => by simp [ht r hr,h1]
   rw [h2,h3,h4,enE,h1]
   simp
  ·have h3 : undE (e :: l) tag = undE l tag := by simp [undE,List.find?_cons,h1]
   have h4 : ofT ((enE B e).map (·.1)) tag = [] := List.filter_eq_nil_iff.2 fun r hr => by simp [ht r hr,h1]
   rw [h3,h4,List.nil_append]
theorem mem_fsE {B : Tr → List Nat × Nat} {es : List (Int × List Tr)} {p : Fd × Nat} (h : p ∈ fsE B es) : ∃ e ∈ es,∃ x ∈ e.2,p = flE B e.1 x := by
 obtain ⟨e,he,hp⟩ := List.mem_flatMap.1 h;obtain ⟨x,hx,rfl⟩ := List.mem_map.1 hp;exact ⟨e,he,x,hx,rfl⟩
theorem tree_back {P : ByteArray → Tr → Prop} {M : ByteArray → List Nat → Tr × Int} {B : Tr → List Nat × Nat} {f : FlS} {x : Tr} {tag : Int} (h : DOne P f x) (he : (flE B tag x).2 = 0) (h3 : ∀ nm,P nm x → x.kind = 3) (hb : ∀ k ∈ (B x).1,k < 256) (hP : P f.tname x → (B x).2 = 0 → M f.tname (B x).1 = (x,0)) : treeD M f (flE B tag x).1 = (x,0) := by
 rcases h with ⟨h1,h2,hn⟩ | ⟨h1,h2,hv⟩ | ⟨h1,h2⟩
 ·have e1 : flE B tag x = (⟨tag,0,x.n,⟨#[]⟩⟩,0) := by rw [flE,if_pos (by rw [h2])]
  have hw : ¬ (f.kind = 4 ∨ f.kind = 5 ∨ f.kind = 7) := fun e => by simp [wirK,e] at h1
  rw [e1,treeD];simp only;rw [if_neg (by rw [h1]; simp),if_neg (fun e => by rw [hn e.1] at e; exact absurd e.2 (by simp)),if_neg (fun e => hw (.inl e.1)),if_neg (fun e => hw (.inr (.inr e)))];rw [leafD,if_neg (by simp)];rw [← h2]
 ·have hk : x.kind = 2 := by rw [h2]
  have hs : ¬ 4096 < x.s.size := fun e => by
   rw [flE,if_neg (by rw [hk]; decide),if_pos hk,if_pos e] at he;exact absurd he (by decide)
  have e1 : flE B tag x = (⟨tag,1,0,x.s⟩,0) := by rw [flE,if_neg (by rw [hk]; decide),if_pos hk,if_neg hs]
  have hw : wirK f.kind = 1 := by rcases h1 with e | e <;> simp [wirK,e]
  rw [e1,treeD];simp only;rw [if_neg (by rw [hw]; simp),if_neg (fun e => by rcases h1 with h | h <;> rcases e.1 with e | e <;> omega),if_neg (fun e => by rw [hv e.1] at e; exact absurd e.2 (by simp)),if_neg (fun e => by rcases h1 with h | h <;> omega)];rw [leafD,if_pos rfl,← h2]
 ·have hk := h3 _ h2
  have hs : (B x).2 = 0 := by
   by_cases e : (B x).2 = 0
   ·exact e
   ·rw [flE,if_neg (by rw [hk]; decide),if_neg (by rw [hk]; decide),if_pos e] at he;exact absurd he e
  have e1 : flE B tag x = (⟨tag,1,0,strN (B x).1⟩,0) := by rw [flE,if_neg (by rw [hk]; decide),if_neg (by rw [hk]; decide),if_neg (by simpa using hs)]
  have hw : wirK f.kind = 1 := by simp [wirK,h1]
  rw [e1,treeD];simp only;rw [if_neg (by rw [hw]; simp),if_neg (fun e => by rcases e.1 with e | e <;> omega),if_neg (fun e => by omega),if_pos h1,bytesN_strN _ hb];exact hP h2 hs
theorem DFit.kind {k : Nat} {s : ScS} {nm : ByteArray} {t : Tr} (h : DFit k s nm t) : t.kind = 3 := by
 cases k with
 | zero => exact h.elim
 | succ k => obtain ⟨m,_,h1,_⟩ := h; exact h1.1
theorem tr_eta (t : Tr) : (⟨t.kind,t.n,t.s,t.es,t.rest⟩ : Tr) = t := by cases t; rfl
theorem ofT_sort (l : List Fd) (t : Int) : ofT (sortF l) t = ofT l t := by
 have h := (sortF_all l.length l (Nat.le_refl _)).2.2.2 t
 have e : ∀ m : List Fd,ofT m t = m.filter (fun x => x.tag == t) := fun m => List.filter_congr fun x _ => by rw [Bool.eq_iff_iff]; simp
 rw [e,e,h]
theorem sort_rest {F rest l : List Fd} {fs : List FlS} (hF : ∀ r ∈ F,(fldOf fs r.tag).isSome) (hr : ∀ r ∈ rest,fldOf fs r.tag = none) (h1 : Rises rest) (hl : ∀ t,ofT l t = ofT (F ++ rest) t) : sortF (l.filter fun r => (fldOf fs r.tag).isNone) = rest := by
 refine rises_uniq _ _ (sortF_all _ _ (Nat.le_refl _)).1 h1 fun t => ?_
 have e : ∀ m : List Fd,m.filter (fun x => x.tag == t) = ofT m t := fun m => List.filter_congr fun x _ => by rw [Bool.eq_iff_iff]; simp
 rw [e,e,ofT_sort]
 have e2 : ofT (l.filter fun r => (fldOf fs r.tag).isNone) t = (ofT l t).filter fun r => (fldOf fs r.tag).isNone := by
  simp only [ofT,List.filter_filter,Bool.and_comm]
 rw [e2,hl t,ofT_app,List.filter_append]
 have e3 : (ofT F t).filter (fun r => (fldOf fs r.tag).isNone) = [] := List.filter_eq_nil_iff.2 fun r hr => by
  have := hF r (List.mem_filter.1 hr).1
  cases hq : fldOf fs r.tag with
  | none => rw [hq] at this; cases this
  | some f => simp
 have e4 : (ofT rest t).filter (fun r => (fldOf fs r.tag).isNone) = ofT rest t := List.filter_eq_self.2 fun r h => by
  rw [hr r (List.mem_filter.1 h).1]; rfl
 rw [e3,e4,List.nil_append]
theorem run_back {k n : Nat} {s : ScS} {t : Tr} {m : MsS} (hr : RisE t.es) (hes : ∀ e ∈ t.es,∃ f,fldOf m.fields e.1 = some f ∧ e.2 ≠ [] ∧ e.2.length ≤ (if f.label = 3 then 64 else 1) ∧ ∀ x ∈ e.2,DOne (DFit k s) f x ∧ ¬ (f.label = 1 ∧ zroB x = true))
  (h1 : Rises t.rest) (h2 : ∀ r ∈ t.rest,fldOf m.fields r.tag = none) (he : errE (fsE (bytE n) t.es) = 0) (IH : ∀ e ∈ t.es,∀ x ∈ e.2,∀ nm,DFit k s nm x → (bytE n x).2 = 0 → decM k s nm (bytE n x).1 = (x,0))
  {l : List Fd} (hl : ∀ tag,ofT l tag = ofT ((fsE (bytE n) t.es).map (·.1) ++ t.rest) tag) : ∃ st,runD (decM k s) m.fields ⟨[],[]⟩ l = (st,0) ∧ st.es = t.es ∧ sortF st.rest = t.rest := by
 have hall := errE_all he
 have hof : ∀ tag f,fldOf m.fields tag = some f → ofT l tag = (undE t.es tag).map fun x => (flE (bytE n) tag x).1 := fun tag f hf => by
  rw [hl tag,ofT_app,fsE_ofT tag hr hall]
  have : ofT t.rest tag = [] := List.filter_eq_nil_iff.2 fun r hr => by
   have := h2 r hr;simp only [decide_eq_true_eq];intro e;rw [e,hf] at this; cases this
  rw [this,List.append_nil]
 have htr : ∀ tag f,fldOf m.fields tag = some f → ∀ x ∈ undE t.es tag,treeD (decM k s) f (flE (bytE n) tag x).1 = (x,0) := fun tag f hf x hx => by
  have hin := und_in (es := t.es) (t := tag) (fun e => by rw [e] at hx; cases hx);obtain ⟨g,hg,_,_,hx2⟩ := hes _ hin;rw [hf] at hg; cases hg;have hp : flE (bytE n) tag x ∈ fsE (bytE n) t.es := List.mem_flatMap.2 ⟨_,hin,List.mem_map.2 ⟨x,hx,rfl⟩⟩;exact tree_back (hx2 x hx).1 (hall _ hp) (fun nm h => h.kind) (bytE_lt n x) (fun h3 h4 => IH _ hin x hx _ h3 h4)
 have hmap : ∀ tag f,fldOf m.fields tag = some f → (ofT l tag).map (fun r => (treeD (decM k s) f r).1) = undE t.es tag := fun tag f hf => by
  rw [hof tag f hf,List.map_map]
  conv => rhs; rw [← List.map_id (undE t.es tag)]
  exact List.map_congr_left fun x hx => by simp [htr tag f hf x hx]
 have hlab : ∀ tag f,fldOf m.fields tag = some f → (undE t.es tag).length ≤ (if f.label = 3 then 64 else 1) ∧ ∀ x ∈ undE t.es tag,¬ (f.label = 1 ∧ zroB x = true) := fun tag f hf => by
  by_cases e : undE t.es tag = []
  ·rw [e]; simp
  ·obtain ⟨g,hg,_,h3,hx2⟩ := hes _ (und_in e);rw [hf] at hg; cases hg;exact ⟨h3,fun x hx => (hx2 x hx).2⟩
 have hfit : FitR (decM k s) m.fields l := by
  refine ⟨fun r hr' f hf => ?_,fun tag f hf hf3 => ?_⟩
  ·have hm : r ∈ ofT l r.tag := List.mem_filter.2 ⟨hr',by simp⟩;rw [hof r.tag f hf] at hm;obtain ⟨x,hx,e⟩ := List.mem_map.1 hm;have := htr r.tag f hf x hx;rw [e] at this;rw [this]
  ·rw [hof tag f hf,List.length_map];have := (hlab tag f hf).1;rw [if_pos hf3] at this; exact this
 have h0 := (run_fit l).2 hfit;have hran := run_ran h0;obtain ⟨st,hst⟩ : ∃ st,(runD (decM k s) m.fields ⟨[],[]⟩ l).1 = st := ⟨_,rfl⟩;rw [hst] at hran;refine ⟨st,Prod.ext hst h0,?_,?_⟩
 ·refine es_uniq hran.ris hr hran.ne (fun e he => ?_) fun tag => ?_
  ·obtain ⟨f,_,h3,_⟩ := hes e he; exact h3
  ·cases hf : fldOf m.fields tag with
   | some f =>
    rw [hran.und tag f hf,hmap tag f hf];obtain ⟨g1,g2⟩ := hlab tag f hf;unfold fldT
    by_cases h3 : f.label = 3
    ·rw [if_pos h3]
    ·rw [if_neg h3];rw [if_neg h3] at g1
     match hu : undE t.es tag,g1,g2 with
     | [],_,_ => rfl
     | [x],_,g2 =>
      simp only [List.getLast?_singleton];rw [if_neg (g2 x (by simp))]
     | _ :: _ :: _,g1,_ => simp at g1
   | none =>
    rw [und_none,und_none]
    ·intro e he e1;obtain ⟨f,h3,_⟩ := hes e he;rw [e1,hf] at h3; cases h3
    ·intro e he e1;obtain ⟨f,h3⟩ := hran.kn e he;rw [e1,hf] at h3; cases h3
 ·rw [hran.rest];refine sort_rest (F := (fsE (bytE n) t.es).map (·.1)) (fun r hr' => ?_) h2 h1 hl;obtain ⟨p,hp,rfl⟩ := List.mem_map.1 hr';obtain ⟨e,he',x,hx,rfl⟩ := mem_fsE hp;rw [flE_tagD (hall _ hp)];obtain ⟨f,h3,_⟩ := hes e he';rw [h3]; rfl
theorem dec_back : ∀ (k n : Nat) (s : ScS) (nm : ByteArray) (t : Tr),DFit k s nm t → N64 n t → DpN n t → (bytE n t).2 = 0 → decM k s nm (bytE n t).1 = (t,0)
 | 0,_,_,_,_,h,_,_,_ => h.elim
 | _,0,_,_,_,_,_,h,_ => h.elim
 | k + 1,n + 1,s,nm,t,h,h64,hd,hb => by
  obtain ⟨m,hm,⟨g1,g2,g3⟩,hr,hes,h1,h2⟩ := h
  have he : errE (fsE (bytE n) t.es) = 0 := by
   simp only [bytE,ofR] at hb
   by_cases e : errE (fsE (bytE n) t.es) = 0
   ·exact e
   ·unfold rwE at hb;rw [if_pos e] at hb;rw [if_pos (by exact e)] at hb;exact absurd hb e
  have eb : bytE (n + 1) t = putL (sortF ((fsE (bytE n) t.es).map (·.1) ++ t.rest)) := by
   simp only [bytE,ofR,rwE_ok he];rw [if_neg (by simp)]
  rw [eb] at hb ⊢;obtain ⟨l,hl⟩ : ∃ l,sortF ((fsE (bytE n) t.es).map (·.1) ++ t.rest) = l := ⟨_,rfl⟩
  have hmem : ∀ r ∈ l,Is64 r.n := fun r hr' => by
   rw [← hl] at hr'
   rcases List.mem_append.1 ((sortF_all _ _ (Nat.le_refl _)).2.2.1 r hr') with hr' | hr'
   ·obtain ⟨p,hp,rfl⟩ := List.mem_map.1 hr';obtain ⟨e,he',x,hx,rfl⟩ := mem_fsE hp;refine flE_64 ?_;have := h64.2.2 e he' x hx
    cases n with
    | zero => exact (hd e he' x hx).elim
    | succ n => exact this.1
   ·exact h64.2.1 r hr'
  have hof : ∀ tag,ofT l tag = ofT ((fsE (bytE n) t.es).map (·.1) ++ t.rest) tag := fun tag => by rw [← hl,ofT_sort]
  rw [hl] at hb ⊢
  have ho : l.all okF = true := by
   unfold putL at hb
   split at hb
   ·assumption
   ·exact absurd hb (by decide)
  have hlen : (flatN l).length ≤ 4096 := by
   unfold putL at hb;rw [if_pos ho] at hb
   split at hb
   ·assumption
   ·exact absurd hb (by decide)
  have ep : putL l = (flatN l,0) := by unfold putL; rw [if_pos ho,if_pos hlen]
  rw [ep];obtain ⟨st,hst,e1,e2⟩ := run_back (k := k) (s := s) hr hes h1 (fun r hr => (h2 r hr).1) he (fun e he' x hx nm' hx1 hx2 => dec_back k n s nm' x hx1 (h64.2.2 e he' x hx) (hd e he' x hx) hx2) hof;have hg := getL_put ho hmem hlen;simp only [decM,hm,hg,hst];simp only [ne_eq,not_true_eq_false,if_false];rw [e1,e2,← g1,← g2,← g3]
  simp [tr_eta]
theorem digs_up (a : Nat) : ∀ b,a ≤ b → (digs a).length ≤ (digs b).length := by
 refine digs_ind (M := fun a => ∀ b,a ≤ b → (digs a).length ≤ (digs b).length) (fun a ha b hb => ?_) (fun a ha ih b hb => ?_) a
 ·rw [digs_small ha];exact List.length_pos_iff.2 (digs_ne b)
 ·rw [digs_big ha,digs_big (show ¬ b < 128 by omega),List.length_cons,List.length_cons];have := ih (b / 128) (Nat.div_le_div_right hb)
  omega
theorem mergeF_perm : ∀ (high low : List Fd),(mergeF low high).Perm (low ++ high)
 | [],low => by simp [mergeF]
 | h :: hs,low => by
  have ih := mergeF_perm hs (low.drop (upN low h.tag));rw [mergeF];have h1 : (low.take (upN low h.tag) ++ h :: mergeF (low.drop (upN low h.tag)) hs).Perm (low.take (upN low h.tag) ++ h :: (low.drop (upN low h.tag) ++ hs)) := List.Perm.append_left _ (ih.cons h);have h2 : (low.take (upN low h.tag) ++ h :: (low.drop (upN low h.tag) ++ hs)).Perm (low.take (upN low h.tag) ++ (low.drop (upN low h.tag) ++ h :: hs)) := List.Perm.append_left _ List.perm_middle.symm;refine (h1.trans h2).trans ?_;rw [← List.append_assoc,List.take_append_drop]
theorem sortF_permK : ∀ (k : Nat) (l : List Fd),l.length ≤ k → (sortF l).Perm l
 | 0,l,h => by
  obtain rfl : l = [] := List.eq_nil_of_length_eq_zero (by omega);rw [sortF_id rfl]
 | k + 1,l,h => by
  cases hr : risesB l with
  | true => rw [sortF_id hr]
  | false =>
   have h2 := rises_short hr;have a := sortF_permK k (l.take (l.length / 2)) (by rw [List.length_take]; omega);have b := sortF_permK k (l.drop (l.length / 2)) (by rw [List.length_drop]; omega);rw [sortF_on hr];refine (mergeF_perm _ _).trans ?_;have := a.append b
   rwa [List.take_append_drop] at this
theorem sortF_perm (l : List Fd) : (sortF l).Perm l := sortF_permK _ l (Nat.le_refl _)
def wid (l : List Fd) : Nat := (l.map fun r => (fieldN r).length).sum
theorem wid_flat (l : List Fd) : (flatN l).length = wid l := by
 induction l with
 | nil => rfl
 | cons r l ih => rw [flatN_cons,List.length_append,ih]; simp [wid]
theorem wid_app (a b : List Fd) : wid (a ++ b) = wid a + wid b := by simp [wid]
theorem wid_perm {a b : List Fd} (h : a.Perm b) : wid a = wid b := (h.map _).sum_nat
def widE (B : Tr → List Nat × Nat) (es : List (Int × List Tr)) : Nat := wid ((fsE B es).map (·.1))
theorem widE_app (B : Tr → List Nat × Nat) (a b : List (Int × List Tr)) : widE B (a ++ b) = widE B a + widE B b := by simp [widE,fsE,wid_app]
theorem widE_one (B : Tr → List Nat × Nat) (e : Int × List Tr) (es : List (Int × List Tr)) : widE B (e :: es) = wid ((enE B e).map (·.1)) + widE B es := by simp [widE,fsE,wid_app]
theorem widE_two (B : Tr → List Nat × Nat) (t : Int) (es : List (Int × List Tr)) : widE B (es.filter fun e => decide (e.1 < t)) + widE B (es.filter fun e => decide (t < e.1)) = widE B (delE t es) := by
 induction es with
 | nil => simp [widE,fsE,delE,wid]
 | cons a l ih =>
  simp only [delE] at ih ⊢;simp only [List.filter_cons]
  by_cases h1 : a.1 < t
  ·have h2 : ¬ t < a.1 := by omega
   have h3 : a.1 ≠ t := by omega
   simp only [h1,h2,h3,decide_true,decide_false,if_true,ne_eq,not_false_eq_true,Bool.false_eq_true,if_false,widE_one] at ih ⊢
   omega
  ·by_cases h2 : t < a.1
   ·have h3 : a.1 ≠ t := by omega
    simp only [h1,h2,h3,decide_true,decide_false,if_true,ne_eq,not_false_eq_true,Bool.false_eq_true,if_false,widE_one] at ih ⊢
    omega
   ·have h3 : a.1 = t := by omega
    simp only [h3,Int.lt_irrefl,decide_false,ne_eq,not_true_eq_false,Bool.false_eq_true,if_false] at ih ⊢;exact ih
theorem widE_set (B : Tr → List Nat × Nat) (t : Int) (x : List Tr) (es : List (Int × List Tr)) : widE B (setE t x es) = wid ((enE B (t,x)).map (·.1)) + widE B (delE t es) := by
 rw [← widE_two B t es];unfold setE;rw [widE_app,widE_one]
 omega
theorem del_none {α : Type} {es : List (Int × α)} {t : Int} (h : ∀ e ∈ es,e.1 ≠ t) : delE t es = es := List.filter_eq_self.2 fun e he => by simpa using h e he
theorem widE_del (B : Tr → List Nat × Nat) (t : Int) : ∀ {es : List (Int × List Tr)},RisE es → widE B (delE t es) + wid ((enE B (t,undE es t)).map (·.1)) = widE B es
 | [],_ => by simp [widE,fsE,delE,wid,undE,enE]
 | e :: l,hr => by
  have hr' := hr;rw [RisE,List.pairwise_cons] at hr;have ih := widE_del B t hr.2
  by_cases h1 : e.1 = t
  ·have h2 : ∀ p ∈ l,p.1 ≠ t := fun p hp => by have := hr.1 p hp; omega
   have h3 : undE (e :: l) t = e.2 := by rw [← h1]; exact und_mem hr' (List.mem_cons_self ..)
   have h4 : delE t (e :: l) = l := by
    have : delE t (e :: l) = delE t l := by simp [delE,h1]
    rw [this,del_none h2]
   have h5 : enE B (e.1,e.2) = enE B e := rfl;rw [h3,h4,widE_one,← h1,h5]
   omega
  ·have h3 : undE (e :: l) t = undE l t := by simp [undE,List.find?_cons,h1]
   have h4 : delE t (e :: l) = e :: delE t l := by simp [delE,h1]
   rw [h3,h4,widE_one,widE_one]
   omega
structure Cost (B : Tr → List Nat × Nat) (l : List Fd) (st : Ds) : Prop where
 ris : RisE st.es
 ok : ∀ e ∈ st.es,∀ x ∈ e.2,(flE B e.1 x).2 = 0 ∧ okF (flE B e.1 x).1 = true
 wid : widE B st.es + wid st.rest ≤ wid l
 rest : ∀ r ∈ st.rest,okF r = true
theorem ok_num {r : Fd} (h : okF r = true) (hw : r.wire = 0) : r = ⟨r.tag,0,r.n,⟨#[]⟩⟩ := by
 obtain ⟨t,k,n,b⟩ := r;simp only at hw;subst hw;simp only [okF,okV,Bool.and_eq_true,Bool.or_eq_true,decide_eq_true_eq,beq_iff_eq,toList_empty] at h
 rcases h.2 with h1 | h1
 ·rw [h1.2]
 ·exact absurd h1.1.1 (by decide)
theorem ok_txt {r : Fd} (h : okF r = true) (hw : r.wire = 1) : r = ⟨r.tag,1,0,r.b⟩ ∧ r.b.size ≤ 4096 := by
 obtain ⟨t,k,n,b⟩ := r;simp only at hw;subst hw;simp only [okF,okV,Bool.and_eq_true,Bool.or_eq_true,decide_eq_true_eq,beq_iff_eq,toList_empty] at h
 rcases h.2 with h1 | h1
 ·exact absurd h1.1 (by decide)
 ·rw [h1.1.2]; exact ⟨rfl,by have := h1.2; simp only; omega⟩
theorem ok_put {r : Fd} (h : okF r = true) (b : ByteArray) (hb : b.size ≤ 4096) : okF ⟨r.tag,1,0,b⟩ = true := by
 simp only [okF,okV,Bool.and_eq_true,Bool.or_eq_true,decide_eq_true_eq,beq_iff_eq] at h ⊢;exact ⟨h.1,.inr ⟨⟨trivial,trivial⟩,by omega⟩⟩
theorem tree_cost {M : ByteArray → List Nat → Tr × Int} {B : Tr → List Nat × Nat} {f : FlS} {r : Fd} (ho : okF r = true) (h : (treeD M f r).2 = 0) (h3 : ∀ nm ns,(M nm ns).2 = 0 → (M nm ns).1.kind = 3) (hB : ∀ x,(B x).1.length ≤ 4096)
  (IH : ∀ nm ns,(∀ k ∈ ns,k < 256) → (M nm ns).2 = 0 → (B (M nm ns).1).2 = 0 ∧ (B (M nm ns).1).1.length ≤ ns.length) :
  (flE B r.tag (treeD M f r).1).2 = 0 ∧ okF (flE B r.tag (treeD M f r).1).1 = true ∧ (fieldN (flE B r.tag (treeD M f r).1).1).length ≤ (fieldN r).length := by
 have hf : r.wire = wirK f.kind := by
  by_cases e : r.wire = wirK f.kind
  ·exact e
  ·simp [treeD,e] at h
 unfold treeD at h ⊢;rw [if_neg (by simpa using hf)] at h ⊢
 split at h
 ·exact absurd h (by decide)
 rename_i h1
 rw [if_neg h1]
 split at h
 ·exact absurd h (by decide)
 rename_i h2
 rw [if_neg h2]
 split at h
 ·rename_i h7
  rw [if_pos h7];have hk := h3 _ _ h;obtain ⟨g1,g2⟩ := IH f.tname (bytesN r.b) (bytesN_lt _) h;generalize (M f.tname (bytesN r.b)).1 = x at hk g1 g2 ⊢
  have hw : r.wire = 1 := by rw [hf]; simp [wirK,h7]
  obtain ⟨e1,e2⟩ := ok_txt ho hw
  have ef : flE B r.tag x = (⟨r.tag,1,0,strN (B x).1⟩,0) := by rw [flE,if_neg (by rw [hk]; decide),if_neg (by rw [hk]; decide),if_neg (by simpa using g1)]
  rw [ef];have hsz : (strN (B x).1).size = (B x).1.length := strN_size _;refine ⟨rfl,ok_put ho _ (by rw [hsz]; exact hB x),?_⟩;rw [bytesN_len] at g2
  conv => rhs; rw [e1]
  have hm := digs_up _ _ g2;simp only [fieldN,List.length_append,bytesN_len,hsz];rw [if_neg (by decide),if_neg (by decide)];simp only [List.length_append,bytesN_len,hsz]
  omega
 ·rename_i h7
  rw [if_neg h7];simp only [leafD]
  by_cases hw : r.wire = 1
  ·rw [if_pos hw];obtain ⟨e1,e2⟩ := ok_txt ho hw
   have ef : flE B r.tag ⟨2,0,r.b,[],[]⟩ = (r,0) := by rw [flE,if_neg (by simp),if_pos rfl,if_neg (by simp only; omega),← e1]
   rw [ef];exact ⟨rfl,ho,Nat.le_refl _⟩
  ·rw [if_neg hw]
   have hw0 : r.wire = 0 := by
    rw [hf] at hw ⊢;unfold wirK at hw ⊢
    split
    ·rename_i e; rw [if_pos e] at hw; exact absurd rfl hw
    ·rfl
   have e1 := ok_num ho hw0
   have ef : flE B r.tag ⟨1,r.n,⟨#[]⟩,[],[]⟩ = (r,0) := by rw [flE,if_pos rfl,← e1]
   rw [ef];exact ⟨rfl,ho,Nat.le_refl _⟩
theorem Cost.nil (B : Tr → List Nat × Nat) : Cost B [] ⟨[],[]⟩ := ⟨List.Pairwise.nil,by simp,by simp [widE,fsE,Go.Proofs.YtiajaocckkghgabGreat.wid],by simp⟩
theorem Cost.step {M : ByteArray → List Nat → Tr × Int} {B : Tr → List Nat × Nat} {fs : List FlS} {l : List Fd} {st : Ds} {r : Fd} (h : Cost B l st) (ho : okF r = true) (h3 : ∀ nm ns,(M nm ns).2 = 0 → (M nm ns).1.kind = 3) (hB : ∀ x,(B x).1.length ≤ 4096)
  (IH : ∀ nm ns,(∀ k ∈ ns,k < 256) → (M nm ns).2 = 0 → (B (M nm ns).1).2 = 0 ∧ (B (M nm ns).1).1.length ≤ ns.length) (h0 : (oneD M fs st r).2 = 0) : Cost B (l ++ [r]) (oneD M fs st r).1 := by
 have hw := h.wid
 have hw1 : Go.Proofs.YtiajaocckkghgabGreat.wid (l ++ [r]) = Go.Proofs.YtiajaocckkghgabGreat.wid l + (fieldN r).length := by simp [Go.Proofs.YtiajaocckkghgabGreat.wid]
 cases hf : fldOf fs r.tag with
 | none =>
  have e1 : oneD M fs st r = (⟨st.es,st.rest ++ [r]⟩,0) := by simp [oneD,hf]
  rw [e1];refine ⟨h.ris,h.ok,?_,fun x hx => ?_⟩
  ·have : Go.Proofs.YtiajaocckkghgabGreat.wid (st.rest ++ [r]) = Go.Proofs.YtiajaocckkghgabGreat.wid st.rest + (fieldN r).length := by simp [Go.Proofs.YtiajaocckkghgabGreat.wid]
   simp only; omega
  ·rcases List.mem_append.1 hx with hx | hx
   ·exact h.rest x hx
   ·obtain rfl : x = r := by simpa using hx
    exact ho
 | some f =>
  have hft := fld_tag hf
  by_cases ht : (treeD M f r).2 ≠ 0
  ·have e1 : oneD M fs st r = (st,(treeD M f r).2) := by simp [oneD,hf,ht]
   rw [e1] at h0;exact absurd h0 ht
  ·have ht0 : (treeD M f r).2 = 0 := by omega
   have e1 : oneD M fs st r = (⟨(putD f (treeD M f r).1 st.es).1,st.rest⟩,(putD f (treeD M f r).1 st.es).2) := by simp [oneD,hf,ht0]
   rw [e1] at h0 ⊢;simp only at h0;obtain ⟨t1,t2,t3⟩ := tree_cost (B := B) ho ht0 h3 hB IH;obtain ⟨x,hx⟩ : ∃ x,(treeD M f r).1 = x := ⟨_,rfl⟩;rw [hx] at h0 t1 t2 t3 ⊢;have hd := widE_del B r.tag h.ris
   by_cases hl3 : f.label = 3
   ·by_cases h64 : (undE st.es f.tag).length = 64
    ·simp [putD,hl3,h64] at h0
    ·have e2 : putD f x st.es = (setE f.tag (undE st.es f.tag ++ [x]) st.es,0) := by simp [putD,hl3,h64]
     rw [e2,hft];refine ⟨h.ris.set _ _,fun e he y hy => ?_,?_,h.rest⟩
     ·rcases mem_setE.1 he with rfl | ⟨he,_⟩
      ·rcases List.mem_append.1 hy with hy | hy
       ·exact h.ok _ (und_in (fun e => by rw [e] at hy; cases hy)) y hy
       ·obtain rfl : y = x := by simpa using hy
        exact ⟨t1,t2⟩
      ·exact h.ok e he y hy
     ·simp only;rw [widE_set]
      have : Go.Proofs.YtiajaocckkghgabGreat.wid ((enE B (r.tag,undE st.es r.tag ++ [x])).map (·.1)) = Go.Proofs.YtiajaocckkghgabGreat.wid ((enE B (r.tag,undE st.es r.tag)).map (·.1)) + (fieldN (flE B r.tag x).1).length := by simp [enE,Go.Proofs.YtiajaocckkghgabGreat.wid]
      omega
   ·by_cases hl1 : f.label = 1 ∧ zroB x = true
    ·have e2 : putD f x st.es = (delE f.tag st.es,0) := by simp [putD,hl3,hl1]
     rw [e2,hft];refine ⟨h.ris.del _,fun e he y hy => h.ok e (mem_delE.1 he).1 y hy,?_,h.rest⟩;simp only
     omega
    ·have e2 : putD f x st.es = (setE f.tag [x] st.es,0) := by rw [putD,if_neg hl3,if_neg hl1]
     rw [e2,hft];refine ⟨h.ris.set _ _,fun e he y hy => ?_,?_,h.rest⟩
     ·rcases mem_setE.1 he with rfl | ⟨he,_⟩
      ·obtain rfl : y = x := by simpa using hy
       exact ⟨t1,t2⟩
      ·exact h.ok e he y hy
     ·simp only;rw [widE_set]
      have : Go.Proofs.YtiajaocckkghgabGreat.wid ((enE B (r.tag,[x])).map (·.1)) = (fieldN (flE B r.tag x).1).length := by simp [enE,Go.Proofs.YtiajaocckkghgabGreat.wid]
      omega
theorem Cost.run {M : ByteArray → List Nat → Tr × Int} {B : Tr → List Nat × Nat} {fs : List FlS} (h3 : ∀ nm ns,(M nm ns).2 = 0 → (M nm ns).1.kind = 3) (hB : ∀ x,(B x).1.length ≤ 4096)
  (IH : ∀ nm ns,(∀ k ∈ ns,k < 256) → (M nm ns).2 = 0 → (B (M nm ns).1).2 = 0 ∧ (B (M nm ns).1).1.length ≤ ns.length) : ∀ (l pre : List Fd) (st : Ds),Cost B pre st → (∀ r ∈ l,okF r = true) → (runD M fs st l).2 = 0 → Cost B (pre ++ l) (runD M fs st l).1
 | [],pre,st,h,_,_ => by rw [List.append_nil]; exact h
 | r :: l,pre,st,h,ho,h0 => by
  have ea : pre ++ r :: l = (pre ++ [r]) ++ l := by simp
  by_cases h1 : (oneD M fs st r).2 ≠ 0
  ·simp only [runD,if_pos h1] at h0;exact absurd h0 h1
  ·simp only [runD,if_neg h1] at h0 ⊢;rw [ea];exact Cost.run h3 hB IH l (pre ++ [r]) _ (h.step (ho r (List.mem_cons_self ..)) h3 hB IH (by omega)) (fun x hx => ho x (List.mem_cons_of_mem _ hx)) h0
theorem dec_inv {k : Nat} {s : ScS} {nm : ByteArray} {ns : List Nat} (h : (decM (k + 1) s nm ns).2 = 0) : ∃ m l,msgOf s nm = some m ∧ getL ns = (l,0) ∧ (runD (decM k s) m.fields ⟨[],[]⟩ l).2 = 0 ∧
  (decM (k + 1) s nm ns).1 = ⟨3,0,⟨#[]⟩,(runD (decM k s) m.fields ⟨[],[]⟩ l).1.es,sortF (runD (decM k s) m.fields ⟨[],[]⟩ l).1.rest⟩ := by
 simp only [decM] at h ⊢
 cases hm : msgOf s nm with
 | none => rw [hm] at h; simp at h
 | some m =>
  rw [hm] at h;simp only at h ⊢
  by_cases h1 : (getL ns).2 ≠ 0
  ·rw [if_pos h1] at h; simp only at h; omega
  ·rw [if_neg h1] at h ⊢
   by_cases h2 : (runD (decM k s) m.fields ⟨[],[]⟩ (getL ns).1).2 ≠ 0
   ·rw [if_pos h2] at h; exact absurd h h2
   ·rw [if_neg h2];refine ⟨m,(getL ns).1,rfl,Prod.ext rfl (by simp only; omega),by omega,rfl⟩
theorem dec_kind {k : Nat} {s : ScS} {nm : ByteArray} {ns : List Nat} (h : (decM k s nm ns).2 = 0) : (decM k s nm ns).1.kind = 3 := by
 cases k with
 | zero => exact absurd h (by simp [decM])
 | succ k =>
  obtain ⟨m,l,_,_,_,e⟩ := dec_inv h;rw [e]
theorem putL_inv {rs : List Fd} (h : (putL rs).2 = 0) : rs.all okF = true ∧ (flatN rs).length ≤ 4096 ∧ putL rs = (flatN rs,0) := by
 unfold putL at h ⊢
 split at h
 ·rename_i h1
  split at h
  ·rename_i h2; rw [if_pos h1,if_pos h2]; exact ⟨h1,h2,rfl⟩
  ·exact absurd h (by decide)
 ·exact absurd h (by decide)
theorem errE_of {l : List (Fd × Nat)} (h : ∀ p ∈ l,p.2 = 0) : errE l = 0 := by
 induction l with
 | nil => rfl
 | cons a l ih => rw [errE,if_pos (h a (List.mem_cons_self ..))]; exact ih fun p hp => h p (List.mem_cons_of_mem _ hp)
theorem dcd_len : ∀ (k n : Nat) (s : ScS) (nm : ByteArray) (ns : List Nat),k < n → (∀ b ∈ ns,b < 256) → (decM k s nm ns).2 = 0 → (bytE n (decM k s nm ns).1).2 = 0 ∧ (bytE n (decM k s nm ns).1).1.length ≤ ns.length
 | 0,_,_,_,_,_,_,h => absurd h (by simp [decM])
 | _,0,_,_,_,h,_,_ => absurd h (by omega)
 | k + 1,n + 1,s,nm,ns,hk,hb,h => by
  obtain ⟨m,l,hm,hg,hr,e⟩ := dec_inv h;obtain ⟨hp,h64⟩ := putL_get hb hg;obtain ⟨ho,hlen,hpe⟩ := putL_inv (rs := l) (by rw [hp])
  have hns : flatN l = ns := by rw [hp] at hpe; exact (congrArg Prod.fst hpe).symm
  have hc := Cost.run (B := bytE n) (fs := m.fields) (fun nm ns h => dec_kind h) (fun x => bytE_le n x) (fun nm' ns' hb' h' => dcd_len k n s nm' ns' (by omega) hb' h') l [] ⟨[],[]⟩ (Cost.nil _) (fun r hr => List.all_eq_true.1 ho r hr) hr;rw [List.nil_append] at hc;rw [e];generalize (runD (decM k s) m.fields ⟨[],[]⟩ l).1 = st at hc ⊢
  have he : errE (fsE (bytE n) st.es) = 0 := errE_of fun p hp => by
   obtain ⟨e,he,x,hx,rfl⟩ := mem_fsE hp;exact (hc.ok e he x hx).1
  have eb : bytE (n + 1) ⟨3,0,⟨#[]⟩,st.es,sortF st.rest⟩ = putL (sortF ((fsE (bytE n) st.es).map (·.1) ++ sortF st.rest)) := by
   simp only [bytE,ofR];rw [rwE_ok (t := ⟨3,0,⟨#[]⟩,st.es,sortF st.rest⟩) he];rw [if_neg (by simp)]
  have hall : (sortF ((fsE (bytE n) st.es).map (·.1) ++ sortF st.rest)).all okF = true := List.all_eq_true.2 fun r hr => by
   rcases List.mem_append.1 ((sortF_perm _).mem_iff.1 hr) with hr | hr
   ·obtain ⟨p,hp,rfl⟩ := List.mem_map.1 hr;obtain ⟨e,he,x,hx,rfl⟩ := mem_fsE hp;exact (hc.ok e he x hx).2
   ·exact hc.rest r ((sortF_perm _).mem_iff.1 hr)
  have hw : (flatN (sortF ((fsE (bytE n) st.es).map (·.1) ++ sortF st.rest))).length ≤ ns.length := by
   rw [wid_flat,wid_perm (sortF_perm _),wid_app,wid_perm (sortF_perm st.rest),← hns,wid_flat];exact hc.wid
  have hl2 : (flatN (sortF ((fsE (bytE n) st.es).map (·.1) ++ sortF st.rest))).length ≤ 4096 := by rw [hns] at hlen; omega
  rw [eb,putL,if_pos hall,if_pos hl2];exact ⟨rfl,hw⟩
theorem leaf_num {r : Fd} {k : Int} (hf : r.wire = wirK k) (hw : wirK k = 0) : leafD r = ⟨1,r.n,⟨#[]⟩,[],[]⟩ := by
 rw [leafD,if_neg (by rw [hf,hw]; decide)]
theorem tree_fit {P : ByteArray → Tr → Prop} {M : ByteArray → List Nat → Tr × Int} {f : FlS} {r : Fd} (h : (treeD M f r).2 = 0) (IH : ∀ nm ns,(∀ k ∈ ns,k < 256) → (M nm ns).2 = 0 → P nm (M nm ns).1) : DOne P f (treeD M f r).1 := by
 have hf : r.wire = wirK f.kind := by
  by_cases e : r.wire = wirK f.kind
  ·exact e
  ·simp [treeD,e] at h
 unfold treeD at h ⊢;rw [if_neg (by simpa using hf)] at h ⊢
 split at h
 ·exact absurd h (by decide)
 rename_i h1
 rw [if_neg h1]
 split at h
 ·exact absurd h (by decide)
 rename_i h2
 rw [if_neg h2]
 split at h
 ·rename_i h7
  rw [if_pos h7];exact .inr (.inr ⟨h7,IH _ _ (bytesN_lt _) h⟩)
 ·rename_i h7
  rw [if_neg h7]
  by_cases hw : f.kind = 4 ∨ f.kind = 5
  ·have hw1 : r.wire = 1 := by rw [hf]; rcases hw with e | e <;> simp [wirK,e]
   refine .inr (.inl ⟨hw,?_,fun h4 => ?_⟩)
   ·simp [leafD,hw1]
   ·simp only [leafD,hw1,if_true]
    cases hv : validB r.b.data.toList with
    | true => rfl
    | false => exact absurd ⟨h4,hv⟩ h2
  ·have hw0 : wirK f.kind = 0 := by
    unfold wirK;rw [if_neg (fun e => by rcases e with e | e | e; exact hw (.inl e); exact hw (.inr e); exact h7 e)]
   rw [leaf_num hf hw0];refine .inl ⟨hw0,rfl,fun h36 => ?_⟩;simp only
   cases hv : nmrB f.kind r.n with
   | true => rfl
   | false => exact absurd ⟨h36,hv⟩ h1
theorem getLast_mem {α : Type} {l : List α} {x : α} (h : l.getLast? = some x) : x ∈ l := List.mem_of_getLast? h
theorem fldT_mem {label : Int} {xs : List Tr} {x : Tr} (h : x ∈ fldT label xs) : x ∈ xs ∧ (label ≠ 3 → ¬ (label = 1 ∧ zroB x = true)) := by
 unfold fldT at h
 split at h
 ·rename_i h3; exact ⟨h,fun e => absurd h3 e⟩
 ·split at h
  ·cases h
  ·rename_i y hy
   split at h
   ·cases h
   ·rename_i hz
    obtain rfl : x = y := by simpa using h
    exact ⟨getLast_mem hy,fun _ => hz⟩
theorem fldT_len {label : Int} {xs : List Tr} (h : label = 3 → xs.length ≤ 64) : (fldT label xs).length ≤ (if label = 3 then 64 else 1) := by
 unfold fldT
 by_cases h3 : label = 3
 ·rw [if_pos h3,if_pos h3]; exact h h3
 ·rw [if_neg h3,if_neg h3]
  split
  ·simp
  ·split <;> simp
theorem dec_fit : ∀ (k : Nat) (s : ScS) (nm : ByteArray) (ns : List Nat),(∀ b ∈ ns,b < 256) → (decM k s nm ns).2 = 0 → DFit k s nm (decM k s nm ns).1 ∧ ∀ n,N64 n (decM k s nm ns).1
 | 0,_,_,_,_,h => absurd h (by simp [decM])
 | k + 1,s,nm,ns,hb,h => by
  obtain ⟨m,l,hm,hg,hr,e⟩ := dec_inv h;obtain ⟨hp,h64⟩ := putL_get hb hg;obtain ⟨ho,hlen,hpe⟩ := putL_inv (rs := l) (by rw [hp]);have hfit := (run_fit l).1 hr;have hran := run_ran hr;rw [e];generalize (runD (decM k s) m.fields ⟨[],[]⟩ l).1 = st at hran ⊢
  have hrm : ∀ r ∈ sortF st.rest,r ∈ l ∧ fldOf m.fields r.tag = none := fun r hr => by
   have := (sortF_perm _).mem_iff.1 hr;rw [hran.rest] at this;obtain ⟨h1,h2⟩ := List.mem_filter.1 this;exact ⟨h1,by simpa using h2⟩
  have hxs : ∀ e ∈ st.es,∃ f,fldOf m.fields e.1 = some f ∧ e.2 = fldT f.label ((ofT l e.1).map fun r => (treeD (decM k s) f r).1) := fun e he => by
   obtain ⟨f,hf⟩ := hran.kn e he;exact ⟨f,hf,by rw [← hran.und e.1 f hf,und_mem hran.ris he]⟩
  have hx1 : ∀ e ∈ st.es,∀ f,fldOf m.fields e.1 = some f → ∀ x ∈ e.2,∃ r ∈ l,(treeD (decM k s) f r).2 = 0 ∧ x = (treeD (decM k s) f r).1 ∧ (f.label ≠ 3 → ¬ (f.label = 1 ∧ zroB x = true)) := fun e he f hf x hx => by
   obtain ⟨g,hg,e2⟩ := hxs e he;rw [hf] at hg; cases hg;rw [e2] at hx;obtain ⟨h1,h2⟩ := fldT_mem hx;obtain ⟨r,hr,rfl⟩ := List.mem_map.1 h1;obtain ⟨hrl,hrt⟩ := List.mem_filter.1 hr;simp only [decide_eq_true_eq] at hrt;exact ⟨r,hrl,hfit.1 r hrl f (by rw [hrt]; exact hf),rfl,h2⟩
  refine ⟨⟨m,hm,⟨rfl,rfl,rfl⟩,hran.ris,fun e he => ?_,(sortF_all _ _ (Nat.le_refl _)).1,fun r hr => ⟨(hrm r hr).2,List.all_eq_true.1 ho r (hrm r hr).1⟩⟩,fun n => ?_⟩
  ·obtain ⟨f,hf,e2⟩ := hxs e he;refine ⟨f,hf,hran.ne e he,?_,fun x hx => ?_⟩
   ·rw [e2];refine fldT_len fun h3 => ?_
    rw [List.length_map];exact hfit.2 e.1 f hf h3
   ·obtain ⟨r,hrl,h0,rfl,hz⟩ := hx1 e he f hf x hx;refine ⟨tree_fit h0 fun nm' ns' hb' h' => (dec_fit k s nm' ns' hb' h').1,fun hz1 => ?_⟩
    by_cases h3 : f.label = 3
    ·omega
    ·exact hz h3 hz1
  ·cases n with
   | zero => trivial
   | succ n =>
    refine ⟨by show Is64 0; unfold Is64; omega,fun r hr => h64 r (hrm r hr).1,fun e he x hx => ?_⟩;obtain ⟨f,hf,e2⟩ := hxs e he;obtain ⟨r,hrl,h0,rfl,_⟩ := hx1 e he f hf x hx;have hone := tree_fit (P := fun nm t => ∀ n,N64 n t) h0 fun nm' ns' hb' h' => (dec_fit k s nm' ns' hb' h').2
    rcases hone with ⟨hw,h2,_⟩ | ⟨_,h2,_⟩ | ⟨_,h2⟩
    ·cases n with
     | zero => trivial
     | succ n =>
      rw [h2];refine ⟨?_,by simp,by simp⟩
      have h7 : f.kind ≠ 7 := fun e => by rw [e] at hw; simp [wirK] at hw
      have hn : (treeD (decM k s) f r).1.n = r.n := by
       unfold treeD at h0 ⊢
       split at h0
       ·exact absurd h0 (by decide)
       rename_i g1
       rw [if_neg g1]
       split at h0
       ·exact absurd h0 (by decide)
       rename_i g2
       rw [if_neg g2]
       split at h0
       ·exact absurd h0 (by decide)
       rename_i g3
       rw [if_neg g3,if_neg h7,leaf_num (by simpa using g1) hw]
      simp only;rw [hn];exact h64 r hrl
    ·cases n with
     | zero => trivial
     | succ n =>
      rw [h2];exact ⟨by show Is64 0; unfold Is64; omega,by simp,by simp⟩
    ·exact h2 n
theorem DFit.mono : ∀ {k k' : Nat} {s : ScS} {nm : ByteArray} {t : Tr},DFit k s nm t → k ≤ k' → DFit k' s nm t
 | 0,_,_,_,_,h,_ => h.elim
 | k + 1,0,_,_,_,_,h => absurd h (by omega)
 | k + 1,k' + 1,s,nm,t,h,hk => by
  obtain ⟨m,hm,g,hr,hes,h1,h2⟩ := h;refine ⟨m,hm,g,hr,fun e he => ?_,h1,h2⟩;obtain ⟨f,hf,h3,h4,h5⟩ := hes e he;refine ⟨f,hf,h3,h4,fun x hx => ⟨?_,(h5 x hx).2⟩⟩
  rcases (h5 x hx).1 with h | h | ⟨h7,h⟩
  ·exact .inl h
  ·exact .inr (.inl h)
  ·exact .inr (.inr ⟨h7,h.mono (by omega)⟩)
theorem leaf_dp {n : Nat} {k v : Int} {b : ByteArray} : DpN (n + 1) ⟨k,v,b,[],[]⟩ := fun e he => by cases he
theorem DFit.dp : ∀ {k n : Nat} {s : ScS} {nm : ByteArray} {t : Tr},DFit k s nm t → k < n → DpN n t
 | 0,_,_,_,_,h,_ => h.elim
 | k + 1,0,_,_,_,_,h => absurd h (by omega)
 | k + 1,n + 1,s,nm,t,h,hk => by
  obtain ⟨m,hm,g,hr,hes,h1,h2⟩ := h;intro e he x hx;obtain ⟨f,hf,h3,h4,h5⟩ := hes e he;obtain ⟨n,rfl⟩ : ∃ n',n = n' + 1 := ⟨n - 1,by omega⟩
  rcases (h5 x hx).1 with ⟨_,h,_⟩ | ⟨_,h,_⟩ | ⟨_,h⟩
  ·rw [h]; exact leaf_dp
  ·rw [h]; exact leaf_dp
  ·exact h.dp (by omega)
theorem DFit.dpN : ∀ {k n : Nat} {s : ScS} {nm : ByteArray} {t : Tr},DFit k s nm t → dpN n t ≤ k
 | 0,_,_,_,_,h => h.elim
 | k + 1,0,_,_,_,_ => Nat.zero_le _
 | k + 1,n + 1,s,nm,t,h => by
  obtain ⟨m,hm,g,hr,hes,h1,h2⟩ := h;rw [Go.Proofs.YtiajaocckkghgabGreat.dpN,if_pos g.1]
  have : ((subs t.es).map (Go.Proofs.YtiajaocckkghgabGreat.dpN n)).foldr max 0 ≤ k := foldr_max_le fun y hy => by
   obtain ⟨x,hx,rfl⟩ := List.mem_map.1 hy;obtain ⟨e,he,hxe⟩ := mem_subs.1 hx;obtain ⟨f,hf,h3,h4,h5⟩ := hes e he
   rcases (h5 x hxe).1 with ⟨_,h,_⟩ | ⟨_,h,_⟩ | ⟨_,h⟩
   ·rw [h]; cases n <;> simp [Go.Proofs.YtiajaocckkghgabGreat.dpN]
   ·rw [h]; cases n <;> simp [Go.Proofs.YtiajaocckkghgabGreat.dpN]
   ·exact h.dpN
  omega
theorem msg_mem {s : ScS} {nm : ByteArray} {m : MsS} (h : msgOf s nm = some m) : m ∈ s.msgs := List.mem_of_find?_eq_some h
theorem fld_mem {fs : List FlS} {t : Int} {f : FlS} (h : fldOf fs t = some f) : f ∈ fs := List.mem_of_find?_eq_some h
theorem ok_field {s : ScS} (hs : OkS s) {nm : ByteArray} {m : MsS} {t : Int} {f : FlS} (hm : msgOf s nm = some m) (hf : fldOf m.fields t = some f) : fieldOk s.mn s.en f := by
 have := ((hs.msgs m (msg_mem hm)).2).2.2.2.1 f (fld_mem hf);exact this.1
theorem ok_kind {s : ScS} {f : FlS} (h : fieldOk s.mn s.en f) : f.kind = 1 ∨ f.kind = 2 ∨ f.kind = 3 ∨ f.kind = 4 ∨ f.kind = 5 ∨ f.kind = 6 ∨ f.kind = 7 := by
 have h4 := h.2.2.2;unfold typeB at h4;simp only [Bool.or_eq_true,Bool.and_eq_true,decide_eq_true_eq] at h4
 omega
theorem ok_msgT {s : ScS} {f : FlS} (h : fieldOk s.mn s.en f) (h7 : f.kind = 7) : (msgOf s f.tname).isSome = true := by
 have h4 := h.2.2.2
 have hm : f.tname ∈ s.mn := by
  unfold typeB at h4
  simpa [h7,memB_iff] using h4
 obtain ⟨m,hm,e⟩ := List.mem_map.1 hm;unfold msgOf;rw [List.find?_isSome];exact ⟨m,hm,by simpa using e⟩
theorem DOne.kindT {P : ByteArray → Tr → Prop} {f : FlS} {x : Tr} (h : DOne P f x) (h3 : ∀ nm,P nm x → x.kind = 3) (hk : f.kind = 1 ∨ f.kind = 2 ∨ f.kind = 3 ∨ f.kind = 4 ∨ f.kind = 5 ∨ f.kind = 6 ∨ f.kind = 7) : x.kind = kindT f.kind := by
 rcases h with ⟨h1,h2,_⟩ | ⟨h1,h2,_⟩ | ⟨h1,h2⟩
 ·have hw : ¬ (f.kind = 4 ∨ f.kind = 5 ∨ f.kind = 7) := fun e => by simp [wirK,e] at h1
  have : f.kind = 1 ∨ f.kind = 2 ∨ f.kind = 3 ∨ f.kind = 6 := by omega
  rw [h2,Go.Proofs.YtiajaocckkghgabGreat.kindT,if_pos this]
 ·rw [h2,Go.Proofs.YtiajaocckkghgabGreat.kindT,if_neg (by omega),if_pos h1]
 ·rw [h3 _ h2,Go.Proofs.YtiajaocckkghgabGreat.kindT,if_neg (by omega),if_neg (by omega),if_pos h1]
theorem ents_of : ∀ {es : List (Int × List Tr)} (last : Int),RisE es → (∀ e ∈ es,last < e.1 ∧ e.1 ≤ 500 ∧ 1 ≤ e.2.length ∧ e.2.length ≤ 64 ∧ ∀ x ∈ e.2,∀ y ∈ e.2,x.kind = y.kind) → entsB last es = true
 | [],_,_,_ => rfl
 | e :: l,last,hr,h => by
  rw [RisE,List.pairwise_cons] at hr;obtain ⟨g1,g2,g3,g4,g5⟩ := h e (List.mem_cons_self ..);have ih := ents_of (es := l) e.1 hr.2 fun p hp => ⟨hr.1 p hp,(h p (List.mem_cons_of_mem _ hp)).2⟩
  simp only [entsB,Bool.and_eq_true,decide_eq_true_eq,List.all_eq_true,beq_iff_eq];refine ⟨⟨⟨⟨⟨g1,g2⟩,g3⟩,g4⟩,fun x hx => ?_⟩,ih⟩
  cases hl : e.2 with
  | nil => rw [hl] at hx; cases hx
  | cons a b =>
   rw [hl] at g5 hx;simp only [List.head?_cons,Option.map_some,Option.getD_some];exact g5 x hx a (List.mem_cons_self ..)
theorem DFit.ok : ∀ {k n : Nat} {s : ScS} {nm : ByteArray} {t : Tr},OkS s → DFit k s nm t → okN n t = true
 | 0,_,_,_,_,_,h => h.elim
 | k + 1,0,_,_,_,_,_ => rfl
 | k + 1,n + 1,s,nm,t,hs,h => by
  obtain ⟨m,hm,g,hr,hes,h1,h2⟩ := h
  have hlv : lvB t = true := by
   unfold lvB;rw [if_neg (by rw [g.1]; decide),if_neg (by rw [g.1]; decide),if_pos g.1]
   have he : entsB 0 t.es = true := ents_of 0 hr fun e he => by
    obtain ⟨f,hf,h3,h4,h5⟩ := hes e he;have hok := ok_field hs hm hf;have ht : f.tag = e.1 := fld_tag hf;have htr := hok.2.1;simp only [tagR,decide_eq_true_eq,ht] at htr;have hpos : 0 < e.2.length := List.length_pos_iff.2 h3;refine ⟨by omega,by omega,by omega,by split at h4 <;> omega,fun x hx y hy => ?_⟩;rw [(h5 x hx).1.kindT (fun nm h => h.kind) (ok_kind hok),(h5 y hy).1.kindT (fun nm h => h.kind) (ok_kind hok)]
   have hrest : restB t.rest t.es = true := by
    unfold restB;simp only [Bool.and_eq_true,List.all_eq_true,Bool.not_eq_true'];refine ⟨fun r hr' => ⟨(h2 r hr').2,?_⟩,(rises_iff _).2 h1⟩;unfold hasB;rw [List.any_eq_false];intro e he hq;obtain ⟨f,hf,_⟩ := hes e he;rw [beq_iff_eq.1 hq,(h2 r hr').1] at hf
    cases hf
   rw [g.2.1,g.2.2,he,hrest]
   rfl
  rw [okN,hlv,if_pos g.1,Bool.true_and,List.all_eq_true];intro x hx;obtain ⟨e,he,hxe⟩ := mem_subs.1 hx;obtain ⟨f,hf,h3,h4,h5⟩ := hes e he
  rcases (h5 x hxe).1 with ⟨_,h,_⟩ | ⟨_,h,_⟩ | ⟨_,h⟩
  ·rw [h]; cases n with
   | zero => rfl
   | succ n => simp [okN,lvB]; rfl
  ·rw [h]; cases n with
   | zero => rfl
   | succ n => simp [okN,lvB]
  ·exact h.ok hs
theorem DFit.chk {k n : Nat} {s : ScS} {nm : ByteArray} {t : Tr} (hs : OkS s) (h : DFit k s nm t) (hk : k ≤ 10) : chkN n t = true := by
 simp only [chkN,Bool.and_eq_true,decide_eq_true_eq];exact ⟨Nat.le_trans h.dpN hk,h.ok hs⟩
theorem errF_all0 {l : List Int} (h : errF l = 0) : ∀ x ∈ l,x = 0 := by
 induction l with
 | nil => simp
 | cons a l ih =>
  rw [errF] at h
  split at h
  ·rename_i h0
   intro x hx
   rcases List.mem_cons.1 hx with rfl | hx
   ·exact h0
   ·exact ih h x hx
  ·rename_i h0; exact absurd h h0
theorem lv_leaf {x : Tr} (h : lvB x = true) : (x.kind = 1 → x = ⟨1,x.n,⟨#[]⟩,[],[]⟩) ∧ (x.kind = 2 → x = ⟨2,0,x.s,[],[]⟩) := by
 obtain ⟨k,n,b,es,rest⟩ := x
 have hb : b.size = 0 → b = ⟨#[]⟩ := fun h => by
  obtain ⟨⟨l⟩⟩ := b
  cases l with
  | nil => rfl
  | cons a l => exact absurd h (by simp [ByteArray.size])
 refine ⟨fun h1 => ?_,fun h1 => ?_⟩
 ·simp only at h1;subst h1;simp only [lvB,if_true,Bool.and_eq_true,beq_iff_eq,List.isEmpty_iff] at h;obtain ⟨⟨g1,rfl⟩,rfl⟩ := h;rw [hb g1]
 ·simp only at h1;subst h1;simp only [lvB] at h
  simp at h
  obtain ⟨⟨rfl,rfl⟩,rfl⟩ := h
  rfl
theorem ents_risD : ∀ {es : List (Int × List Tr)} {last : Int},entsB last es = true → RisE es ∧ ∀ e ∈ es,last < e.1 ∧ 1 ≤ e.2.length ∧ e.2.length ≤ 64
 | [],_,_ => ⟨List.Pairwise.nil,by simp⟩
 | e :: l,last,h => by
  simp only [entsB,Bool.and_eq_true,decide_eq_true_eq] at h;obtain ⟨ih1,ih2⟩ := ents_risD h.2;refine ⟨List.pairwise_cons.2 ⟨fun p hp => (ih2 p hp).1,ih1⟩,fun p hp => ?_⟩
  rcases List.mem_cons.1 hp with rfl | hp
  ·exact ⟨h.1.1.1.1.1,h.1.1.1.2,h.1.1.2⟩
  ·have := (ih2 p hp).1;exact ⟨by have := h.1.1.1.1.1; omega,(ih2 p hp).2⟩
theorem valid_fit : ∀ (n : Nat) (s : ScS) (nm : ByteArray) (t : Tr),OkS s → (msgOf s nm).isSome = true → msgV n s nm t = 0 → okN n t = true → SmN n t → t.kind = 3 → DFit n s nm t
 | 0,_,_,_,_,_,_,_,h,_ => h.elim
 | n + 1,s,nm,t,hs,hm,hv,ho,hsm,hk => by
  obtain ⟨m,hm⟩ := Option.isSome_iff_exists.1 hm;rw [okN,if_pos hk,Bool.and_eq_true] at ho;obtain ⟨hlv,hsub⟩ := ho;rw [List.all_eq_true] at hsub;have hlv0 := hlv;unfold lvB at hlv;rw [if_neg (by rw [hk]; decide),if_neg (by rw [hk]; decide),if_pos hk] at hlv;simp only [Bool.and_eq_true,beq_iff_eq] at hlv;obtain ⟨⟨⟨g1,g2⟩,g3⟩,g4⟩ := hlv
  have hb : t.s = ⟨#[]⟩ := by
   generalize t.s = b at g2;obtain ⟨⟨l⟩⟩ := b
   cases l with
   | nil => rfl
   | cons a l => exact absurd g2 (by simp [ByteArray.size])
  unfold restB at g4;simp only [Bool.and_eq_true,List.all_eq_true,Bool.not_eq_true'] at g4;obtain ⟨hris,hents⟩ := ents_risD g3;rw [Go.Proofs.YtiajaocckkghgabGreat.msgV,hm,Option.getD_some] at hv
  have he0 : errF (t.es.map (entV (Go.Proofs.YtiajaocckkghgabGreat.msgV n s) m.fields)) = 0 := by
   by_cases e : errF (t.es.map (entV (Go.Proofs.YtiajaocckkghgabGreat.msgV n s) m.fields)) = 0
   ·exact e
   ·rw [if_pos e] at hv; exact absurd hv e
  rw [he0,if_neg (by simp)] at hv
  have hrest : ∀ r ∈ t.rest,fldOf m.fields r.tag = none := fun r hr => by
   cases hq : fldOf m.fields r.tag with
   | none => rfl
   | some f =>
    have : (t.rest.any fun f => (fldOf m.fields f.tag).isSome) = true := List.any_eq_true.2 ⟨r,hr,by rw [hq]; rfl⟩;rw [if_pos this] at hv;exact absurd hv (by decide)
  refine ⟨m,hm,⟨hk,g1,hb⟩,hris,fun e he => ?_,(rises_iff _).1 g4.2,fun r hr => ⟨hrest r hr,(g4.1 r hr).1⟩⟩;have hent := errF_all0 he0 _ (List.mem_map.2 ⟨e,he,rfl⟩);unfold entV at hent
  cases hf : fldOf m.fields e.1 with
  | none => rw [hf] at hent; simp at hent
  | some f =>
   rw [hf] at hent;simp only at hent;have hok := ok_field hs hm hf;obtain ⟨_,q1,q2⟩ := hents e he
   by_cases hl : f.label ≠ 3 ∧ 1 < e.2.length
   ·rw [if_pos hl] at hent; exact absurd hent (by decide)
   rw [if_neg hl] at hent;refine ⟨f,rfl,fun e0 => by rw [e0] at q1; simp at q1,?_,fun x hx => ?_⟩
   ·split
    ·exact q2
    ·rename_i h3
     by_cases h1 : 1 < e.2.length
     ·exact absurd ⟨h3,h1⟩ hl
     ·omega
   ·have h1 := errF_all0 hent _ (List.mem_map.2 ⟨x,hx,rfl⟩);unfold oneV at h1
    have ht : treeV (Go.Proofs.YtiajaocckkghgabGreat.msgV n s) f.kind f.tname x = 0 := by
     by_cases e : treeV (Go.Proofs.YtiajaocckkghgabGreat.msgV n s) f.kind f.tname x = 0
     ·exact e
     ·rw [if_pos e] at h1; exact absurd h1 e
    rw [ht,if_neg (by simp)] at h1
    have hz : ¬ (f.label = 1 ∧ zroB x = true) := fun e => by rw [if_pos e] at h1; exact absurd h1 (by decide)
    refine ⟨?_,hz⟩;have hokx := hsub x (mem_subs.2 ⟨e,he,hx⟩);have hsmx := (hsm.2.2.2.2 e he).2 x hx
    obtain ⟨n,rfl⟩ : ∃ n',n = n' + 1 := by
     cases n with
     | zero => exact hsmx.elim
     | succ n => exact ⟨n,rfl⟩
    have hlx : lvB x = true := by
     rw [okN,Bool.and_eq_true] at hokx; exact hokx.1
    obtain ⟨lf1,lf2⟩ := lv_leaf hlx;unfold treeV at ht
    by_cases hkx : x.kind ≠ kindT f.kind
    ·rw [if_pos hkx] at ht; exact absurd ht (by decide)
    rw [if_neg hkx] at ht
    have hkx' : x.kind = kindT f.kind := by omega
    by_cases hn1 : x.kind = 1 ∧ nmrB f.kind x.n = false
    ·rw [if_pos hn1] at ht; exact absurd ht (by decide)
    rw [if_neg hn1] at ht
    by_cases hv4 : f.kind = 4 ∧ validB x.s.data.toList = false
    ·rw [if_pos hv4] at ht; exact absurd ht (by decide)
    rw [if_neg hv4] at ht
    rcases ok_kind hok with h | h | h | h | h | h | h
    ·have hk1 : x.kind = 1 := by rw [hkx',h]; decide
     exact .inl ⟨by rw [h]; decide,lf1 hk1,fun e => by omega⟩
    ·have hk1 : x.kind = 1 := by rw [hkx',h]; decide
     exact .inl ⟨by rw [h]; decide,lf1 hk1,fun e => by omega⟩
    ·have hk1 : x.kind = 1 := by rw [hkx',h]; decide
     refine .inl ⟨by rw [h]; decide,lf1 hk1,fun _ => ?_⟩
     cases hq : nmrB f.kind x.n with
     | true => rfl
     | false => exact absurd ⟨hk1,hq⟩ hn1
    ·have hk2 : x.kind = 2 := by rw [hkx',h]; decide
     refine .inr (.inl ⟨.inl h,lf2 hk2,fun _ => ?_⟩)
     cases hq : validB x.s.data.toList with
     | true => rfl
     | false => exact absurd ⟨h,hq⟩ hv4
    ·have hk2 : x.kind = 2 := by rw [hkx',h]; decide
     exact .inr (.inl ⟨.inr h,lf2 hk2,fun e => by omega⟩)
    ·have hk1 : x.kind = 1 := by rw [hkx',h]; decide
     refine .inl ⟨by rw [h]; decide,lf1 hk1,fun _ => ?_⟩
     cases hq : nmrB f.kind x.n with
     | true => rfl
     | false => exact absurd ⟨hk1,hq⟩ hn1
    ·have hk3 : x.kind = 3 := by rw [hkx',h]; decide
     rw [if_pos hk3] at ht;exact .inr (.inr ⟨h,valid_fit (n + 1) s f.tname x hs (ok_msgT hok h) ht hokx hsmx hk3⟩)
end
section
open Go.ChangeShapes Go.WideShapes Go.ChangeAt Go.RowKit
theorem own_adr {B : Nat} {w : World} {a : Option Addr} {cap : Nat} {ns : List Nat} (h : (a = none ∧ ns = [] ∧ cap = 0) ∨ ∃ g,a = some ⟨g,0,none⟩ ∧ B ≤ g ∧ g < w.heap.size) : ns = [] ∨ ∃ g off,a = some ⟨g,off,none⟩ := by
 rcases h with h | ⟨g,h,_⟩
 ·exact .inl h.2.1
 ·exact .inr ⟨g,0,h⟩
theorem own_nil {B : Nat} {w : World} {a : Option Addr} {cap : Nat} {ns : List Nat} (h : (a = none ∧ ns = [] ∧ cap = 0) ∨ ∃ g,a = some ⟨g,0,none⟩ ∧ B ≤ g ∧ g < w.heap.size) : a = none → ns = [] := by
 rcases h with h | ⟨g,h,_⟩
 ·exact fun _ => h.2.1
 ·exact fun e => by rw [h] at e; cases e
theorem own_adrR {B : Nat} {w : World} {a : Option Addr} {cap : Nat} {rs : List Fd} (h : (a = none ∧ rs = [] ∧ cap = 0) ∨ ∃ g,a = some ⟨g,0,none⟩ ∧ B ≤ g ∧ g < w.heap.size) : rs = [] ∨ ∃ g off,a = some ⟨g,off,none⟩ := by
 rcases h with h | ⟨g,h,_⟩
 ·exact .inl h.2.1
 ·exact .inr ⟨g,0,h⟩
theorem conv_own {B : Nat} {w : World} {r : Value} {n : Nat} {ns : List Nat} (ho : w.ownsRow B 5 1 r n (byteCells ns)) : (convert 45 9 r).run Tryz.prog w = .ok (.string (strN ns)) w := by
 obtain ⟨a,cap,rfl, -,h1,h2,h3,h4⟩ := own_open ho;exact conv_holds w a ns cap (own_nil h1) h4
end
end Go.Proofs.YtiajaocckkghgabGreat
