/- Part 4 of what the proof stands on. -/
import Derived.Test.YtdkolhfpfimeoabPkHAC
import Derived.Shelf.SortM.Plain
import Derived.Shelf.SortM.SortNone
import Derived.Ground.SlgmProg
import Derived.Sort.OwnSortedInts
namespace Go.Proofs.Ytdkolhfpfimeoab
set_option maxHeartbeats 8000000
set_option linter.unusedVariables false
set_option linter.unusedSimpArgs false
set_option maxRecDepth 20000
section
open Go.ChangeShapes Go.WideShapes Go.ChangeAt Go.RowKit Go.Maps
theorem cmessage_any {w : World} {snm nm : ByteArray} {ae at' : Option Addr} {E ce T ct : Nat} {vm : Value} {ms : List MsS} (hr : MsIn w vm ms) (hl : ∀ m ∈ ms,m.fields.length ≤ 20 ∧ m.reserved.length ≤ 40) :
  Calls Try.prog 27 #[.agg #[.string snm,vm,.slice ae E ce,.slice at' T ct],.string nm] w fun e w' => ∃ vf vr,e = .returned (.tuple #[.agg #[.string ((ms.find? (fun m => decide (m.name = nm))).getD zeroM).name,vf,vr],.bool (ms.find? (fun m => decide (m.name = nm))).isSome]) ∧ w'.ownsRow w.heap.size 38 5 vf ((ms.find? (fun m => decide (m.name = nm))).getD zeroM).fields.length (flRows ((ms.find? (fun m => decide (m.name = nm))).getD zeroM).fields).flatten ∧ w'.ownsRow w.heap.size 3 1 vr ((ms.find? (fun m => decide (m.name = nm))).getD zeroM).reserved.length (inRows ((ms.find? (fun m => decide (m.name = nm))).getD zeroM).reserved).flatten ∧ Below w.heap.size w w' := by
 obtain ⟨a,c,rfl,q1,q2⟩ := hr.form2;have HR : Hid (MsIn w (.slice a ms.length c) ms) := hr;obtain ⟨N,hN⟩ : ∃ N,ms.length = N := ⟨_,rfl⟩;rw [hN] at HR q1 ⊢;have HN : Hid (ms.length = N) := hN;clear hN hr;have HL : Hid (∀ m ∈ ms,m.fields.length ≤ 20 ∧ m.reserved.length ≤ 40) := hl;clear hl;obtain ⟨A,hA⟩ : ∃ A,(ms.find? (fun m => decide (m.name = nm))) = A := ⟨_,rfl⟩;rw [hA];have HA : Hid (A = ((ms.drop 0).find? (fun m => decide (m.name = nm)))) := hA.symm;clear hA;have BX0 : Blk ((w.alloc (.cells #[.string snm,.slice a N c,.slice ae E ce,.slice at' T ct] 34)).alloc (.cells #[.string ⟨#[]⟩,.slice none 0 0,.slice none 0 0] 41)) w.heap.size #[.string snm,.slice a N c,.slice ae E ce,.slice at' T ct] 34 := (Blk.new w _ _).below ((Below.refl _ _).alloc (Nat.le_refl _) _)
 have BR0 : Blk ((w.alloc (.cells #[.string snm,.slice a N c,.slice ae E ce,.slice at' T ct] 34)).alloc (.cells #[.string ⟨#[]⟩,.slice none 0 0,.slice none 0 0] 41)) (w.heap.size + 1) #[.string ⟨#[]⟩,.slice none 0 0,.slice none 0 0] 41 := by
  have := Blk.new (w.alloc (.cells #[.string snm,.slice a N c,.slice ae E ce,.slice at' T ct] 34)) #[.string ⟨#[]⟩,.slice none 0 0,.slice none 0 0] 41
  rwa [show (w.alloc (.cells #[.string snm,.slice a N c,.slice ae E ce,.slice at' T ct] 34)).heap.size = w.heap.size + 1 by simp] at this
 have hb0 : Below w.heap.size w ((w.alloc (.cells #[.string snm,.slice a N c,.slice ae E ce,.slice at' T ct] 34)).alloc (.cells #[.string ⟨#[]⟩,.slice none 0 0,.slice none 0 0] 41)) := ((Below.refl _ _).alloc (Nat.le_refl _) _).alloc (by simp) _
 go_enter Try.func27,Try.ntmps27
 go_wp2_with fail
 go_loopw [11] (fun iv wr => ∃ k : Nat,iv = .int .i64 (k : Int) ∧ k ≤ N ∧ Hid (A = ((ms.drop k).find? (fun m => decide (m.name = nm)))) ∧ Below w.heap.size w wr ∧ Blk wr (w.heap.size + 1) #[.string ⟨#[]⟩,.slice none 0 0,.slice none 0 0] 41) (fun iv _ => N - (intOf iv).toNat)
 case atStart => exact ⟨0,rfl,by omega,HA,hb0,BR0⟩
 case round =>
  obtain ⟨k,rfl,hk,HAk,hbel,BR⟩ := hrel;clear BX0 BR0 hb0;have hlt2 : w.heap.size + 1 < wr.heap.size := BR.lt;have r0 := (BR.cell 0).trans rfl;have z0 := BR.froz 0;have r1 := (BR.cell 1).trans rfl;have z1 := BR.froz 1;have r2 := (BR.cell 2).trans rfl;have z2 := BR.froz 2
  by_cases hlt : k < N
  ·obtain ⟨f,hf⟩ : ∃ n,ms[k]? = some n := ⟨_,List.getElem?_eq_getElem (by rw [HN.out]; exact hlt)⟩;obtain ⟨g,off,vf,vr,rfl,c0',c1',c2',hrf,hrr⟩ := HR.out.get hf;have c0 := (hbel.cell (World.block_lt_of_cell? _ _ c0')).trans c0';have c1 := (hbel.cell (World.block_lt_of_cell? _ _ c1')).trans c1';have c2 := (hbel.cell (World.block_lt_of_cell? _ _ c2')).trans c2';clear c0' c1' c2';have HF : Hid (RowG w vf 5 (flRows f.fields)) := hrf;have HV : Hid (RowG w vr 1 (inRows f.reserved)) := hrr;obtain ⟨a3,c3,rfl,_,_⟩ := hrf.form2;obtain ⟨a4,c4,rfl,_,_⟩ := hrr.form2;have HF : Hid (RowG w (.slice a3 (flRows f.fields).length c3) 5 (flRows f.fields)) := HF;have HV : Hid (RowG w (.slice a4 (inRows f.reserved).length c4) 1 (inRows f.reserved)) := HV;have HLf : Hid _ := HL.out f (List.mem_of_getElem? hf)
   have HA2 : Hid (A = if decide (f.name = nm) = true then some f else ((ms.drop (k + 1)).find? (fun m => decide (m.name = nm)))) := by
    show _ = _
    rw [HAk.out,drop_at hf,List.find?_cons]
    cases decide (f.name = nm) <;> rfl
   obtain ⟨f0,ff,fr⟩ := f;simp only at c0 c1 c2 HA2 HF HV HLf;generalize hnF : (flRows ff).length = nF at *;generalize hnR : (inRows fr).length = nR at *;clear hrf hrr hf HAk hnF hnR
   by_cases he : f0 = nm
   ·subst he
    have HA3 : Hid (A = some ⟨f0,ff,fr⟩) := by show _ = _; rw [HA2.out,if_pos (by simp)]
    clear HA2;go_wp2_with fail;refine wp_region_held_drew (S := fun _ => True) (by kernel_rfl) trivial (fun hS => ?_);have hba : Below w.heap.size w (wr.alloc (.cells #[.string f0,.slice a3 nF c3,.slice a4 nR c4] 41)).drew := below_drewN 1 (hbel.alloc (by omega) _);have BT : Blk (wr.alloc (.cells #[.string f0,.slice a3 nF c3,.slice a4 nR c4] 41)).drew wr.heap.size #[.string f0,.slice a3 nF c3,.slice a4 nR c4] 41 := Blk.new wr #[.string f0,.slice a3 nF c3,.slice a4 nR c4] 41;have BR2 : Blk (wr.alloc (.cells #[.string f0,.slice a3 nF c3,.slice a4 nR c4] 41)).drew (w.heap.size + 1) #[.string ⟨#[]⟩,.slice none 0 0,.slice none 0 0] 41 := BR.below (below_drewN 1 ((Below.refl _ _).alloc (Nat.le_refl _) _))
    have HSZ : Hid ((wr.alloc (.cells #[.string f0,.slice a3 nF c3,.slice a4 nR c4] 41)).drew.heap.size = wr.heap.size + 1) := by show _ = _; simp [World.drew]
    generalize (wr.alloc (.cells #[.string f0,.slice a3 nF c3,.slice a4 nR c4] 41)).drew = W0 at *;obtain ⟨bt,hbt⟩ : ∃ n,wr.heap.size = n := ⟨_,rfl⟩;rw [hbt] at BT HSZ hlt2 ⊢;clear hbt c0 c1 c2 r0 r1 r2 z0 z1 z2 hS;have t1 : W0.cell? ⟨bt,1,none⟩ = some (.slice a3 nF c3) := BT.cell 1;have t2 : W0.cell? ⟨bt,2,none⟩ = some (.slice a4 nR c4) := BT.cell 2;refine rg_take 0 19 (.pointer (some ⟨bt,1,none⟩)) _ rfl rfl (by kernel_rfl) (by kernel_rfl) (by kernel_rfl) (fun _ _ _ h => h) (by rfl) (fun w' hw' => ?_) trivial (listed' := bts 10 1) (by kernel_rfl) rfl ?_
    ·go_simp
    simp only [zsA,zsZ,zsS];refine rg_take 3 22 (.pointer (some ⟨bt,2,none⟩)) _ rfl rfl (by kernel_rfl) (by kernel_rfl) (by kernel_rfl) (fun _ _ _ h => h) (by rfl) (fun w' hw' => ?_) trivial (listed' := bts 10 9) (by kernel_rfl) rfl ?_
    ·go_simp
    simp only [zsA,zsZ,zsS];refine rg_llc 1 4 2 20 23 21 (.slice a3 nF c3) (.slice a4 nR c4) 45 #[.slice a3 nF c3] (fun W => W.cell? ⟨bt,2,none⟩ = some (.slice a4 nR c4)) rfl rfl rfl rfl rfl rfl (by kernel_rfl) (by kernel_rfl) (by kernel_rfl) (by kernel_rfl) (by kernel_rfl) (fun _ => rfl) (fun _ => rfl) (fun _ => rfl) (by decide) (by decide) (by decide) (by decide) (by go_simp) (by go_simp) (by go_simp) (by go_simp) (fun v W hLD => by go_simp) (fun W => by go_simp) (fun W => by go_simp) ?_;refine (freshF_any (HF.out.below hba) (by have := HLf.out; omega)).mono ?_;rintro e w2 ⟨rv,rfl,ho,hb2⟩;have BT2 := BT.below hb2;have BR3 := BR2.below hb2;have hbw2 : Below w.heap.size w w2 := hba.trans (hb2.mono hba.size);refine ⟨_,rfl,BT2.cell 2,?_⟩;simp only [zsA,zsZ,zsS];clear t1 t2;refine rg_take 6 25 (.pointer (some ⟨bt,1,none⟩)) _ rfl rfl (by kernel_rfl) (by kernel_rfl) (by kernel_rfl) (fun _ _ _ h => h) (by rfl) (fun w' hw' => ?_) trivial (listed' := bts 10 95) (by kernel_rfl) rfl ?_
    ·go_simp
    simp only [zsA,zsZ,zsS];refine rg_call 5 24 46 #[.slice a4 nR c4] rfl rfl (by kernel_rfl) (by rfl) (listed' := bts 10 127) (by kernel_rfl) (fun W => by go_simp) ?_;refine (freshI_any (HV.out.below hbw2) (by have := HLf.out; omega)).mono ?_;rintro e w3 ⟨rw,rfl,ho2,hb3⟩;refine ⟨_,rfl,trivial,?_⟩;simp only [zsA,zsZ,zsS];have BT3 := BT2.below hb3;have BR4 := BR3.below hb3;have hbw : Below w.heap.size w w3 := hbw2.trans (hb3.mono hbw2.size)
    have HO1 : Hid (w3.ownsRow (bt + 1) 38 5 rv ff.length (flRows ff).flatten) := by show World.ownsRow _ _ _ _ _ _ _; rw [HSZ.out] at ho; exact own_below ho hb3
    have HO2 : Hid (w3.ownsRow (bt + 1) 3 1 rw fr.length (inRows fr).flatten) := own_base ho2 (by have := hb2.size; have := HSZ.out; omega);obtain ⟨ra,rc,hrv⟩ := own_form ho;obtain ⟨qa,qc,hqv⟩ := own_form ho2;subst hrv hqv;have HO1 : Hid (w3.ownsRow (bt + 1) 38 5 (.slice ra ff.length rc) ff.length (flRows ff).flatten) := HO1;have HO2 : Hid (w3.ownsRow (bt + 1) 3 1 (.slice qa fr.length qc) fr.length (inRows fr).flatten) := HO2;obtain ⟨nFF,hNL⟩ : ∃ x,ff.length = x := ⟨_,rfl⟩;obtain ⟨nRR,hRL⟩ : ∃ x,fr.length = x := ⟨_,rfl⟩;rw [hNL] at HO1 ⊢;rw [hRL] at HO2 ⊢;have HNL : Hid (ff.length = nFF) := hNL;have HRL : Hid (fr.length = nRR) := hRL;clear hNL hRL;have hlt3 : bt < w3.heap.size := BT3.lt;clear ho ho2 hb2 hb3 BT BT2 BR2 BR3 hba hbw2 hbel HSZ BR;have t0 : w3.cell? ⟨bt,0,none⟩ = some (.string f0) := BT3.cell 0;have t1 : w3.cell? ⟨bt,1,none⟩ = some (.slice a3 nF c3) := BT3.cell 1;have t2 : w3.cell? ⟨bt,2,none⟩ = some (.slice a4 nR c4) := BT3.cell 2;have y1 := BT3.froz 1;have y2 := BT3.froz 2;have r0 := (BR4.cell 0).trans rfl;have r1 := (BR4.cell 1).trans rfl;have r2 := (BR4.cell 2).trans rfl;have z0 := BR4.froz 0;have z1 := BR4.froz 1;have z2 := BR4.froz 2
    have hdd : w.heap.size + 1 ≠ bt := by omega
    refine rg_store 7 (w3.setCell ⟨bt,1,none⟩ (.slice ra nFF rc)) rfl rfl (by kernel_rfl) (by rfl) (listed' := bts 10 255) (by kernel_rfl) (by go_simp) trivial ?_;refine rg_take 8 26 (.pointer (some ⟨bt,2,none⟩)) _ rfl rfl (by kernel_rfl) (by kernel_rfl) (by kernel_rfl) (fun _ _ _ h => h) (by rfl) (fun w' hw' => ?_) trivial (listed' := bts 10 511) (by kernel_rfl) rfl ?_
    ·go_simp
    simp only [zsA,zsZ,zsS];refine rg_store 9 ((w3.setCell ⟨bt,1,none⟩ (.slice ra nFF rc)).setCell ⟨bt,2,none⟩ (.slice qa nRR qc)) rfl rfl (by kernel_rfl) (by rfl) (listed' := bts 10 1023) (by kernel_rfl) (by go_simp) trivial ?_;refine wpAnyH_done (by kernel_rfl) ?_ _;go_wp2_with fail;refine bodyPost_ret (results_two rfl _ _ _ ⟨w.heap.size + 1,0,none⟩ (.agg #[.string f0,.slice ra nFF rc,.slice qa nRR qc]) (by go_simp) (by go_simp)) rfl ?_;refine ⟨.slice ra nFF rc,.slice qa nRR qc,ret_two (by rw [HA3.out]; rfl) (by rw [HA3.out]; rfl),?_,?_,?_⟩
    ·rw [HA3.out];rw [show ((some (⟨f0,ff,fr⟩ : MsS)).getD zeroM).fields.length = nFF from HNL.out];refine own_base (own_kp HO1.out (S := fun k => k = bt ∨ k = w.heap.size + 1) ?_ (fun k hk => by omega)) (by omega)
     repeat' first | exact Kp.refl _ _ | refine Kp.setCell ?_ (fun _ => by simp) _
    ·rw [HA3.out];rw [show ((some (⟨f0,ff,fr⟩ : MsS)).getD zeroM).reserved.length = nRR from HRL.out];refine own_base (own_kp HO2.out (S := fun k => k = bt ∨ k = w.heap.size + 1) ?_ (fun k hk => by omega)) (by omega)
     repeat' first | exact Kp.refl _ _ | refine Kp.setCell ?_ (fun _ => by simp) _
    ·repeat' first | exact hbw | refine Below.setCell ?_ (by first | (simp; done) | (simp; omega)) _
   ·have hq := bytes_ne he
    have HA3 : Hid (A = ((ms.drop (k + 1)).find? (fun m => decide (m.name = nm)))) := by show _ = _; rw [HA2.out,if_neg (by simpa using he)]
    have hb2 : Below w.heap.size w (wr.alloc (.cells #[.string f0,.slice a3 nF c3,.slice a4 nR c4] 41)) := hbel.alloc (by omega) _;have BR2 : Blk (wr.alloc (.cells #[.string f0,.slice a3 nF c3,.slice a4 nR c4] 41)) (w.heap.size + 1) #[.string ⟨#[]⟩,.slice none 0 0,.slice none 0 0] 41 := BR.below ((Below.refl _ _).alloc (Nat.le_refl _) _);go_wp2_with fail
    go_roundw
    case rel => exact ⟨k + 1,by go_num,by omega,HA3,hb2,BR2⟩
    case measure => simp [intOf]; omega
  ·have HA2 : Hid (A = none) := by show _ = _; rw [HAk.out,drop_end (by rw [HN.out]; omega)]; rfl
   go_wp2_with fail;refine bodyPost_ret (results_two rfl _ _ _ ⟨w.heap.size + 1,0,none⟩ (.agg #[.string ⟨#[]⟩,.slice none 0 0,.slice none 0 0]) (by go_simp) (by go_simp)) rfl ?_;exact ⟨.slice none 0 0,.slice none 0 0,ret_two (by rw [HA2.out]; rfl) (by rw [HA2.out]; rfl),by rw [HA2.out]; exact World.ownsRow_nil _ _ _ _,by rw [HA2.out]; exact World.ownsRow_nil _ _ _ _,(Below.setCell (Below.setCell (Below.setCell hbel (by simp) _) (by simp) _) (by simp) _)⟩
theorem cenumf_any {w : World} {snm nm : ByteArray} {am at' : Option Addr} {M cm T ct : Nat} {ve : Value} {ms : List EnS} (hr : EnIn w ve ms) (hl : ∀ m ∈ ms,m.values.length ≤ 24) :
  Calls Try.prog 85 #[.agg #[.string snm,.slice am M cm,ve,.slice at' T ct],.string nm] w fun e w' => ∃ vv,e = .returned (.tuple #[.agg #[.string ((ms.find? (fun m => decide (m.name = nm))).getD zeroN).name,vv],.bool (ms.find? (fun m => decide (m.name = nm))).isSome]) ∧ w'.ownsRow w.heap.size 27 2 vv ((ms.find? (fun m => decide (m.name = nm))).getD zeroN).values.length (nmRows ((ms.find? (fun m => decide (m.name = nm))).getD zeroN).values).flatten ∧ Below w.heap.size w w' := by
 obtain ⟨a,c,rfl,q1,q2⟩ := hr.form2;have HR : Hid (EnIn w (.slice a ms.length c) ms) := hr;obtain ⟨N,hN⟩ : ∃ N,ms.length = N := ⟨_,rfl⟩;rw [hN] at HR q1 ⊢;have HN : Hid (ms.length = N) := hN;clear hN hr;have HL : Hid (∀ m ∈ ms,m.values.length ≤ 24) := hl;clear hl;obtain ⟨A,hA⟩ : ∃ A,(ms.find? (fun m => decide (m.name = nm))) = A := ⟨_,rfl⟩;rw [hA];have HA : Hid (A = ((ms.drop 0).find? (fun m => decide (m.name = nm)))) := hA.symm;clear hA;have BX0 : Blk ((w.alloc (.cells #[.string snm,.slice am M cm,.slice a N c,.slice at' T ct] 34)).alloc (.cells #[.string ⟨#[]⟩,.slice none 0 0] 25)) w.heap.size #[.string snm,.slice am M cm,.slice a N c,.slice at' T ct] 34 := (Blk.new w _ _).below ((Below.refl _ _).alloc (Nat.le_refl _) _)
 have BR0 : Blk ((w.alloc (.cells #[.string snm,.slice am M cm,.slice a N c,.slice at' T ct] 34)).alloc (.cells #[.string ⟨#[]⟩,.slice none 0 0] 25)) (w.heap.size + 1) #[.string ⟨#[]⟩,.slice none 0 0] 25 := by
  have := Blk.new (w.alloc (.cells #[.string snm,.slice am M cm,.slice a N c,.slice at' T ct] 34)) #[.string ⟨#[]⟩,.slice none 0 0] 25
  rwa [show (w.alloc (.cells #[.string snm,.slice am M cm,.slice a N c,.slice at' T ct] 34)).heap.size = w.heap.size + 1 by simp] at this
 have hb0 : Below w.heap.size w ((w.alloc (.cells #[.string snm,.slice am M cm,.slice a N c,.slice at' T ct] 34)).alloc (.cells #[.string ⟨#[]⟩,.slice none 0 0] 25)) := ((Below.refl _ _).alloc (Nat.le_refl _) _).alloc (by simp) _
 go_enter Try.func85,Try.ntmps85
 go_wp2_with fail
 go_loopw [11] (fun iv wr => ∃ k : Nat,iv = .int .i64 (k : Int) ∧ k ≤ N ∧ Hid (A = ((ms.drop k).find? (fun m => decide (m.name = nm)))) ∧ Below w.heap.size w wr ∧ Blk wr (w.heap.size + 1) #[.string ⟨#[]⟩,.slice none 0 0] 25) (fun iv _ => N - (intOf iv).toNat)
 case atStart => exact ⟨0,rfl,by omega,HA,hb0,BR0⟩
 case round =>
  obtain ⟨k,rfl,hk,HAk,hbel,BR⟩ := hrel;clear BX0 BR0 hb0;have hlt2 : w.heap.size + 1 < wr.heap.size := BR.lt;have r0 := (BR.cell 0).trans rfl;have z0 := BR.froz 0;have r1 := (BR.cell 1).trans rfl;have z1 := BR.froz 1
  by_cases hlt : k < N
  ·obtain ⟨f,hf⟩ : ∃ n,ms[k]? = some n := ⟨_,List.getElem?_eq_getElem (by rw [HN.out]; exact hlt)⟩;obtain ⟨g,off,vv,rfl,c0',c1',hrf⟩ := HR.out.get hf;have c0 := (hbel.cell (World.block_lt_of_cell? _ _ c0')).trans c0';have c1 := (hbel.cell (World.block_lt_of_cell? _ _ c1')).trans c1';clear c0' c1';have HF : Hid (RowG w vv 2 (nmRows f.values)) := hrf;obtain ⟨a3,c3,rfl,_,_⟩ := hrf.form2;have HF : Hid (RowG w (.slice a3 (nmRows f.values).length c3) 2 (nmRows f.values)) := HF;have HLf : Hid _ := HL.out f (List.mem_of_getElem? hf)
   have HA2 : Hid (A = if decide (f.name = nm) = true then some f else ((ms.drop (k + 1)).find? (fun m => decide (m.name = nm)))) := by
    show _ = _
    rw [HAk.out,drop_at hf,List.find?_cons]
    cases decide (f.name = nm) <;> rfl
   obtain ⟨f0,ff⟩ := f;simp only at c0 c1 HA2 HF HLf;generalize hnF : (nmRows ff).length = nF at *;clear hrf hf HAk hnF
   by_cases he : f0 = nm
   ·subst he
    have HA3 : Hid (A = some ⟨f0,ff⟩) := by show _ = _; rw [HA2.out,if_pos (by simp)]
    clear HA2;go_wp2_with fail;have hba : Below w.heap.size w (wr.alloc (.cells #[.string f0,.slice a3 nF c3] 25)) := hbel.alloc (by omega) _;have hbn : Below wr.heap.size wr (wr.alloc (.cells #[.string f0,.slice a3 nF c3] 25)) := (Below.refl _ _).alloc (Nat.le_refl _) _;have BT := Blk.new wr #[.string f0,.slice a3 nF c3] 25;have BR2 := BR.below hbn;clear c0 c1 r0 r1 z0 z1;refine (freshN_any (HF.out.below hba) (by have := HLf.out; omega)).mono ?_;rintro e w2 ⟨r,rfl,ho,hb2⟩;have hbw : Below w.heap.size w w2 := hba.trans (hb2.mono hba.size);have BT2 := BT.below hb2;have BR3 := BR2.below hb2;have hlt3 : wr.heap.size < w2.heap.size := BT2.lt
    have hnb : ∀ k,(wr.alloc (.cells #[.string f0,.slice a3 nF c3] 25)).heap.size ≤ k → ¬ (k = wr.heap.size ∨ k = w.heap.size + 1) := fun k hk => by simp at hk; omega
    have HO : Hid (w2.ownsRow (wr.alloc (.cells #[.string f0,.slice a3 nF c3] 25)).heap.size 27 2 r ff.length (nmRows ff).flatten) := ho;have HB : Hid (∀ k,(wr.alloc (.cells #[.string f0,.slice a3 nF c3] 25)).heap.size ≤ k → ¬ (k = wr.heap.size ∨ k = w.heap.size + 1)) := hnb;obtain ⟨ra,rc,hrv⟩ := own_form ho;subst hrv;have HO : Hid (w2.ownsRow (wr.alloc (.cells #[.string f0,.slice a3 nF c3] 25)).heap.size 27 2 (.slice ra ff.length rc) ff.length (nmRows ff).flatten) := HO;have t0 := (BT2.cell 0).trans rfl;have t1 := (BT2.cell 1).trans rfl;have y0 := BT2.froz 0;have y1 := BT2.froz 1;have r0 := (BR3.cell 0).trans rfl;have r1 := (BR3.cell 1).trans rfl;have z0 := BR3.froz 0;have z1 := BR3.froz 1
    have hWB0 : (wr.alloc (.cells #[.string f0,.slice a3 nF c3] 25)).heap.size = wr.heap.size + 1 := by simp
    generalize (wr.alloc (.cells #[.string f0,.slice a3 nF c3] 25)).heap.size = WB at *
    have HWB : Hid (w.heap.size ≤ WB) := by show _ ≤ _; omega
    obtain ⟨nFF,hNL⟩ : ∃ x,ff.length = x := ⟨_,rfl⟩;rw [hNL] at HO ⊢;have HNL : Hid (ff.length = nFF) := hNL;clear hNL;clear ho hb2 hnb BT BR2 BT2 BR3 hba hbn hbel;go_wp2_with fail;refine bodyPost_ret (results_two rfl _ _ _ ⟨w.heap.size + 1,0,none⟩ (.agg #[.string f0,.slice ra nFF rc]) (by go_simp) (by go_simp)) rfl ?_;refine ⟨.slice ra nFF rc,ret_two (by rw [HA3.out]; rfl) (by rw [HA3.out]; rfl),?_,?_⟩
    ·rw [HA3.out];rw [show ((some (⟨f0,ff⟩ : EnS)).getD zeroN).values.length = nFF from HNL.out];refine own_base (own_kp HO.out (S := fun k => k = wr.heap.size ∨ k = w.heap.size + 1) ?_ HB.out) HWB.out
     repeat' first | exact Kp.refl _ _ | refine Kp.setCell ?_ (fun _ => by simp) _
    ·repeat' first | exact hbw | refine Below.setCell ?_ (by first | (simp; done) | (simp; omega)) _
   ·have hq := bytes_ne he
    have HA3 : Hid (A = ((ms.drop (k + 1)).find? (fun m => decide (m.name = nm)))) := by show _ = _; rw [HA2.out,if_neg (by simpa using he)]
    have hb2 : Below w.heap.size w (wr.alloc (.cells #[.string f0,.slice a3 nF c3] 25)) := hbel.alloc (by omega) _;have BR2 : Blk (wr.alloc (.cells #[.string f0,.slice a3 nF c3] 25)) (w.heap.size + 1) #[.string ⟨#[]⟩,.slice none 0 0] 25 := BR.below ((Below.refl _ _).alloc (Nat.le_refl _) _);go_wp2_with fail
    go_roundw
    case rel => exact ⟨k + 1,by go_num,by omega,HA3,hb2,BR2⟩
    case measure => simp [intOf]; omega
  ·have HA2 : Hid (A = none) := by show _ = _; rw [HAk.out,drop_end (by rw [HN.out]; omega)]; rfl
   go_wp2_with fail;refine bodyPost_ret (results_two rfl _ _ _ ⟨w.heap.size + 1,0,none⟩ (.agg #[.string ⟨#[]⟩,.slice none 0 0]) (by go_simp) (by go_simp)) rfl ?_;exact ⟨.slice none 0 0,ret_two (by rw [HA2.out]; rfl) (by rw [HA2.out]; rfl),by rw [HA2.out]; exact World.ownsRow_nil _ _ _ _,(Below.setCell (Below.setCell hbel (by simp) _) (by simp) _)⟩
theorem SIn.open {w : World} {v : Value} {s : ScS} (h : SIn w v s) : ∃ am M cm ae E ce at' T ct,v = .agg #[.string s.name,.slice am M cm,.slice ae E ce,.slice at' T ct] ∧ MsIn w (.slice am M cm) s.msgs ∧ EnIn w (.slice ae E ce) s.enums ∧ RowG w (.slice at' T ct) 3 (mtRows s.methods) := by
 obtain ⟨vm,ve,vt,rfl,h1,h2,h3⟩ := h.row;obtain ⟨am,cm,rfl, -, -⟩ := h1.form2;obtain ⟨ae,ce,rfl, -, -⟩ := h2.form2;obtain ⟨at',ct,rfl, -, -⟩ := h3.form2;exact ⟨_,_,_,_,_,_,_,_,_,rfl,h1,h2,h3⟩
theorem enm_few {s : ScS} (h : FewL s) (nm : ByteArray) : ((enmOf s nm).getD zEn).values.length ≤ 30000 := by
 cases hq : enmOf s nm with
 | none => simp [zEn]
 | some e => exact Nat.le_trans (h.vals e (List.mem_of_find?_eq_some hq)) (by decide)
theorem enm_w {s : ScS} (h : ScW s) (nm : ByteArray) : ∀ x ∈ ((enmOf s nm).getD zEn).values,NmW x := by
 cases hq : enmOf s nm with
 | none => simp [zEn]
 | some e => exact (h.enums e (List.mem_of_find?_eq_some hq)).2
theorem cenumf2 {s t : ScS} {sv tv : Value} {w : World} (hs : SIn w sv s) (ht : SIn w tv t) (n1 n2 : ByteArray) : Calls Try.prog 67 #[sv,tv,.string n1,.string n2] w fun e w' => e = .returned (.bool (fitsY s t 6 n1 6 n2)) ∧ Below w.heap.size w w' := by
 have HF1 := enm_few hs.few n1;have HF2 := enm_few ht.few n2;have HW1 := enm_w hs.wf n1;have HW2 := enm_w ht.wf n2;have HL1 : Hid (∀ m ∈ s.enums,m.values.length ≤ 24) := hs.few.vals;have HL2 : Hid (∀ m ∈ t.enums,m.values.length ≤ 24) := ht.few.vals;have HR : Hid (fitsY s t 6 n1 6 n2 = ((enmOf s n1).isSome && (enmOf t n2).isSome && ((enmOf s n1).getD zEn).values.all fun v => inVs v ((enmOf t n2).getD zEn).values)) := (by simp [fitsY] : _ = _);obtain ⟨am,M,cm,ae,E,ce,at',T,ct,rfl, -,hE1, -⟩ := hs.open;obtain ⟨am2,M2,cm2,ae2,E2,ce2,at2,T2,ct2,rfl, -,hE2, -⟩ := ht.open;have HC1 : Hid (∀ W,Below w.heap.size w W → Calls Try.prog 85 #[.agg #[.string s.name,.slice am M cm,.slice ae E ce,.slice at' T ct],.string n1] W fun e w' => ∃ vv,e = .returned (.tuple #[.agg #[.string ((enmOf s n1).getD zEn).name,vv],.bool (enmOf s n1).isSome]) ∧ w'.ownsRow W.heap.size 27 2 vv ((enmOf s n1).getD zEn).values.length (nmRows ((enmOf s n1).getD zEn).values).flatten ∧ Below W.heap.size W w') := fun W hW => cenumf_any (hE1.below hW) HL1.out
 have HC2 : Hid (∀ W,Below w.heap.size w W → Calls Try.prog 85 #[.agg #[.string t.name,.slice am2 M2 cm2,.slice ae2 E2 ce2,.slice at2 T2 ct2],.string n2] W fun e w' => ∃ vv,e = .returned (.tuple #[.agg #[.string ((enmOf t n2).getD zEn).name,vv],.bool (enmOf t n2).isSome]) ∧ w'.ownsRow W.heap.size 27 2 vv ((enmOf t n2).getD zEn).values.length (nmRows ((enmOf t n2).getD zEn).values).flatten ∧ Below W.heap.size W w') := fun W hW => cenumf_any (hE2.below hW) HL2.out
 rw [HR.out];generalize enmOf s n1 = X at *;generalize enmOf t n2 = Y at *;generalize s.name = sn at *;generalize t.name = tn at *;clear hs ht hE1 hE2 HL1 HL2 HR;have HAI : Hid (∀ W va vb B1 B2,Below w.heap.size w W → W.ownsRow B1 27 2 va (X.getD zEn).values.length (nmRows (X.getD zEn).values).flatten → W.ownsRow B2 27 2 vb (Y.getD zEn).values.length (nmRows (Y.getD zEn).values).flatten → Calls Try.prog 86 #[va,vb] W fun e w' => e = .returned (.bool ((X.getD zEn).values.all fun v => inVs v (Y.getD zEn).values)) ∧ Below W.heap.size W w') := fun W va vb B1 B2 _ h1 h2 => allin_any (own_rowN h1) (own_rowN h2) HF1 HF2 HW1 HW2
 clear HF1 HF2 HW1 HW2;generalize ((X.getD zEn).values.all fun v => inVs v (Y.getD zEn).values) = Z at *;obtain ⟨XE,hXE⟩ : ∃ z,X.getD zEn = z := ⟨_,rfl⟩;obtain ⟨YE,hYE⟩ : ∃ z,Y.getD zEn = z := ⟨_,rfl⟩;rw [hXE] at HC1 HAI;rw [hYE] at HC2 HAI;obtain ⟨xb,hxb⟩ : ∃ z,X.isSome = z := ⟨_,rfl⟩;obtain ⟨yb,hyb⟩ : ∃ z,Y.isSome = z := ⟨_,rfl⟩;rw [hxb] at HC1 ⊢;rw [hyb] at HC2 ⊢;clear hXE hYE hxb hyb;have hba : Below w.heap.size w ((w.alloc (.cells #[.string sn,.slice am M cm,.slice ae E ce,.slice at' T ct] 34)).alloc (.cells #[.string tn,.slice am2 M2 cm2,.slice ae2 E2 ce2,.slice at2 T2 ct2] 34)) := ((Below.refl _ _).alloc (Nat.le_refl _) _).alloc (by simp) _
 have BY : Blk ((w.alloc (.cells #[.string sn,.slice am M cm,.slice ae E ce,.slice at' T ct] 34)).alloc (.cells #[.string tn,.slice am2 M2 cm2,.slice ae2 E2 ce2,.slice at2 T2 ct2] 34)) (w.heap.size + 1) #[.string tn,.slice am2 M2 cm2,.slice ae2 E2 ce2,.slice at2 T2 ct2] 34 := by
  have := Blk.new (w.alloc (.cells #[.string sn,.slice am M cm,.slice ae E ce,.slice at' T ct] 34)) #[.string tn,.slice am2 M2 cm2,.slice ae2 E2 ce2,.slice at2 T2 ct2] 34
  rwa [show (w.alloc (.cells #[.string sn,.slice am M cm,.slice ae E ce,.slice at' T ct] 34)).heap.size = w.heap.size + 1 by simp] at this
 go_enter Try.func67,Try.ntmps67
 go_wp2_with fail;refine (HC1.out _ hba).mono ?_;rintro e w1 ⟨v1,rfl,ho1,hb1⟩;obtain ⟨p1,r1,rfl⟩ := own_form ho1;have BY1 := BY.below hb1;have hbw1 := hba.trans (hb1.mono hba.size);have y0 := (BY1.cell 0).trans rfl;have y1 := (BY1.cell 1).trans rfl;have y2 := (BY1.cell 2).trans rfl;have y3 := (BY1.cell 3).trans rfl;have hbl : w.heap.size + 1 < w1.heap.size := BY1.lt;obtain ⟨xn,xv⟩ := XE;obtain ⟨yn,yv⟩ := YE;simp only at HC1 HC2 HAI ho1;have HO1 : Hid _ := ho1;clear hba BY hb1 HC1 ho1 BY1;generalize xv.length = XL at *;go_wp2_with fail;have hal : Below w1.heap.size w1 (w1.alloc (.cells #[.string xn,.slice p1 XL r1] 25)) := (Below.refl _ _).alloc (Nat.le_refl _) _;have hbw1a := hbw1.trans (hal.mono hbw1.size);refine Calls.mono (HC2.out _ hbw1a) ?_;rintro e w2 ⟨v2,rfl,ho2,hb2⟩;obtain ⟨p2,r2,rfl⟩ := own_form ho2;have hbw2 := hbw1a.trans (hb2.mono hbw1a.size);have BX2 := (Blk.new w1 #[.string xn,.slice p1 XL r1] 25).below hb2;have HO1' : Hid _ := own_below (own_below HO1.out hal) hb2;have HO2 : Hid _ := ho2;clear hal hb2 HC2 ho2 HO1 hbw1 hbw1a y0 y1 y2 y3 hbl;obtain ⟨bx,hbx⟩ : ∃ z,w1.heap.size = z := ⟨_,rfl⟩;rw [hbx] at BX2;simp only [hbx];generalize yv.length = YL at *;have x1 := (BX2.cell 1).trans rfl;have hbl : bx < w2.heap.size := BX2.lt;clear hbx BX2
 cases xb with
 | false =>
  go_wp2_with fail;go_ret;exact ⟨rfl,hbw2.alloc hbw2.size _⟩
 | true =>
  cases yb with
  | false =>
   go_wp2_with fail;go_ret;exact ⟨rfl,hbw2.alloc hbw2.size _⟩
  | true =>
   go_wp2_with fail;have hal : Below w2.heap.size w2 (w2.alloc (.cells #[.string yn,.slice p2 YL r2] 25)) := (Below.refl _ _).alloc (Nat.le_refl _) _;have hbw3 := hbw2.trans (hal.mono hbw2.size);refine Calls.mono (HAI.out _ _ _ _ _ hbw3 (own_below HO1'.out hal) (own_below HO2.out hal)) ?_;rintro e w3 ⟨rfl,hb3⟩;have hbw4 := hbw3.trans (hb3.mono hbw3.size);go_wp2_with fail;go_ret;exact ⟨rfl,hbw4⟩
theorem cfits_any : FitsC := by
 intro s t sv tv k1 k2 n1 n2 w hs ht;have HEF : Hid (∀ W,Below w.heap.size w W → Calls Try.prog 67 #[sv,tv,.string n1,.string n2] W fun e w' => e = .returned (.bool (fitsY s t 6 n1 6 n2)) ∧ Below W.heap.size W w') := fun W hW => cenumf2 (hs.below hW) (ht.below hW) n1 n2
 obtain ⟨am,M,cm,ae,E,ce,at',T,ct,rfl, -, -, -⟩ := hs.open;obtain ⟨am2,M2,cm2,ae2,E2,ce2,at2,T2,ct2,rfl, -, -, -⟩ := ht.open;obtain ⟨R,hR⟩ : ∃ z,fitsY s t k1 n1 k2 n2 = z := ⟨_,rfl⟩;rw [hR]
 have HR : Hid (R = if k1 = 1 ∧ k2 = 2 then true else if k1 ≠ k2 then false else if k1 ≠ 6 then true else fitsY s t 6 n1 6 n2) := (by
  rw [← hR]
  by_cases h1 : k1 = 1 ∧ k2 = 2
  ·simp [fitsY,h1]
  ·by_cases h2 : k1 = k2
   ·subst h2
    by_cases h3 : k1 = 6
    ·subst h3; simp [h1]
    ·simp [fitsY,h1,h3]
   ·simp [fitsY,h1,h2] : R = _)
 generalize fitsY s t 6 n1 6 n2 = G at *;generalize s.name = sn at *;generalize t.name = tn at *;clear hs ht hR;have hba : Below w.heap.size w ((((w.alloc (.cells #[.string sn,.slice am M cm,.slice ae E ce,.slice at' T ct] 34)).alloc (.cells #[.string tn,.slice am2 M2 cm2,.slice ae2 E2 ce2,.slice at2 T2 ct2] 34)).alloc (.cells #[.int .i64 k1,.string n1] 36)).alloc (.cells #[.int .i64 k2,.string n2] 36)) := ((((Below.refl _ _).alloc (Nat.le_refl _) _).alloc (by simp) _).alloc (by simp; omega) _).alloc (by simp; omega) _
 by_cases h1 : k1 = 1
 ·subst h1
  by_cases h2 : k2 = 2
  ·subst h2;have HR2 : Hid (R = true) := (by rw [HR.out]; simp : R = true)
   go_enter Try.func51,Try.ntmps51
   go_wp2_with fail;go_ret;exact ⟨ret_bool HR2.out.symm,hba⟩
  ·by_cases h3 : k2 = 1
   ·subst h3;have HR2 : Hid (R = true) := (by rw [HR.out]; simp : R = true)
    go_enter Try.func51,Try.ntmps51
    go_wp2_with fail;go_ret;exact ⟨ret_bool HR2.out.symm,hba⟩
   ·have HR2 : Hid (R = false) := (by rw [HR.out]; simp [h2,Ne.symm h3] : R = false)
    have e1 : (k2 == 2) = false := by simpa using h2
    have e2 : ((1 : Int) != k2) = true := by simpa using Ne.symm h3
    go_enter Try.func51,Try.ntmps51
    go_wp2_with fail;go_ret;exact ⟨ret_bool HR2.out.symm,hba⟩
 ·have e1 : (k1 == 1) = false := by simpa using h1
  by_cases h3 : k1 = k2
  ·subst h3
   by_cases h6 : k1 = 6
   ·subst h6;have HR2 : Hid (R = G) := (by rw [HR.out]; simp : R = G)
    go_enter Try.func51,Try.ntmps51
    go_wp2_with fail;refine (HEF.out _ hba).mono ?_;rintro e w1 ⟨rfl,hb1⟩;have hb2 := hba.trans (hb1.mono hba.size);go_wp2_with fail;go_ret;exact ⟨ret_bool HR2.out.symm,hb2⟩
   ·have HR2 : Hid (R = true) := (by rw [HR.out]; simp [h1,h6] : R = true)
    have e2 : (k1 == 6) = false := by simpa using h6
    have e3 : (k1 != k1) = false := by simp
    go_enter Try.func51,Try.ntmps51
    go_wp2_with fail;go_ret;exact ⟨ret_bool HR2.out.symm,hba⟩
  ·have HR2 : Hid (R = false) := (by rw [HR.out]; simp [h1,h3] : R = false)
   have e2 : (k1 != k2) = true := by simpa using h3
   go_enter Try.func51,Try.ntmps51
   go_wp2_with fail;go_ret;exact ⟨ret_bool HR2.out.symm,hba⟩
end
section
structure Clo (s t : ScS) (R : Pr → Prop) : Prop where
 meth : ∀ m ∈ s.methods,∃ k,mtOf t m.name = some k ∧ R (m.inn,k.inn) ∧ R (m.out,k.out)
 pair : ∀ p,R p → ∀ tag : Int,1 ≤ tag → tag ≤ 500 → OkAt s t R p tag
theorem msG_field {s : ScS} (hs : OkS s) {A : ByteArray} {tag : Int} {f : FlS} (h : fldOf (msG s A).fields tag = some f) : typeB s.mn s.en f.kind f.tname = true := by
 have hm := (fldP h).2;unfold msG at hm
 cases hq : msgOf s A with
 | none => rw [hq] at hm; cases hm
 | some m =>
  rw [hq] at hm;exact ((hs.msgs m (List.mem_of_find?_eq_some hq)).2.2.2.2.1 f hm).1.2.2.2
theorem type7 {mn en : List ByteArray} {n : ByteArray} (h : typeB mn en 7 n = true) : n ∈ mn := by
 simp [typeB,memB_iff] at h
 exact h
theorem fits_kind {s t : ScS} {k1 k2 : Int} {n1 n2 : ByteArray} (h : fitsY s t k1 n1 k2 n2 = true) : k1 = 1 ∧ k2 = 2 ∨ k1 = k2 := by
 unfold fitsY at h
 split at h
 ·rename_i h1; exact .inl h1
 ·split at h
  ·cases h
  ·rename_i h2; exact .inr (by simpa using h2)
theorem at_pair {s t : ScS} (hs : OkS s) (ht : OkS t) {A B : ByteArray} {tag : Int} {q : Pr} (h : atE s t (msG s A) (msG t B) tag = some (some q)) : q.1 ∈ s.mn ∧ q.2 ∈ t.mn := by
 unfold atE at h
 split at h
 ·split at h <;> simp at h
 ·cases hf : fldOf (msG s A).fields tag with
  | none => rw [hf] at h; simp at h
  | some f =>
   rw [hf] at h;simp only at h
   split at h
   ·simp at h
   ·cases hg : fldOf (msG t B).fields tag with
    | none => rw [hg] at h; simp at h
    | some g =>
     rw [hg] at h;simp only at h
     split at h
     ·rename_i hc
      by_cases h7 : f.kind = 7
      ·rw [if_pos h7] at h;simp only [Option.some.injEq] at h;subst h;have h1 := msG_field hs hf;have h2 := msG_field ht hg
       have hk : g.kind = 7 := by rcases fits_kind hc.2 with h3 | h3 <;> omega
       rw [h7] at h1;rw [hk] at h2;exact ⟨type7 h1,type7 h2⟩
      ·rw [if_neg h7] at h; simp at h
     ·cases h
theorem rowE_all {s t : ScS} {m n : MsS} {Q : Pr → Prop} (hq : ∀ tag q,atE s t m n tag = some (some q) → Q q) : ∀ (k : Nat) (tag : Int) (l : List Pr),(∀ x ∈ l,Q x) → ∀ x ∈ (rowE s t m n k tag l).1,Q x
 | 0,_,l,h => h
 | k + 1,tag,l,h => by
  unfold rowE
  cases ha : atE s t m n tag with
  | none => exact h
  | some o => exact rowE_all hq k (tag + 1) (addO l o) (addO_of h fun q e => hq tag q (e ▸ ha))
theorem rowE_nodup {s t : ScS} {m n : MsS} : ∀ (k : Nat) (tag : Int) (l : List Pr),l.Nodup → (rowE s t m n k tag l).1.Nodup
 | 0,_,l,h => h
 | k + 1,tag,l,h => by
  unfold rowE
  cases ha : atE s t m n tag with
  | none => exact h
  | some o => exact rowE_nodup k (tag + 1) (addO l o) (addO_nodup h)
theorem row_inE {s t : ScS} (hs : OkS s) (ht : OkS t) {A B : ByteArray} (k : Nat) (tag : Int) {l : List Pr} (h : PrIn s t l) : PrIn s t (rowE s t (msG s A) (msG t B) k tag l).1 :=
 ⟨rowE_nodup k tag l h.1,rowE_all (Q := fun p => p.1 ∈ s.mn ∧ p.2 ∈ t.mn) (fun tag q e => at_pair hs ht e) k tag l h.2⟩
theorem rowE_pre {s t : ScS} {m n : MsS} : ∀ (k : Nat) (tag : Int) (l : List Pr),∃ r,(rowE s t m n k tag l).1 = l ++ r
 | 0,_,l => ⟨[],by simp [rowE]⟩
 | k + 1,tag,l => by
  unfold rowE
  cases ha : atE s t m n tag with
  | none => exact ⟨[],by simp⟩
  | some o =>
   obtain ⟨r,hr⟩ := rowE_pre (s := s) (t := t) (m := m) (n := n) k (tag + 1) (addO l o);obtain ⟨r0,hr0⟩ := addO_pre (l := l) (o := o);exact ⟨r0 ++ r,by simp only; rw [hr,hr0,List.append_assoc]⟩
theorem okS_len {s : ScS} (h : OkS s) : s.msgs.length ≤ 15 := by
 have := h.big
 simp [bigS] at this
 omega
theorem loop_in {s t : ScS} {R : Pr → Prop} (hR : ∀ p,R p → ∀ tag : Int,1 ≤ tag → tag ≤ 500 → OkAt s t R p tag) : ∀ (k i : Nat) (l : List Pr),(∀ x ∈ l,R x) → loopE s t k i l = (⟨#[]⟩,0,true)
 | 0,i,l,_ => rfl
 | k + 1,i,l,h => by
  unfold loopE
  cases hl : l[i]? with
  | none => rfl
  | some p =>
   obtain ⟨l',h1,h2⟩ := rowE_in 500 1 l h fun j g1 g2 => hR p (h p (List.mem_of_getElem? hl)) j g1 (by omega)
   simp only [h1];exact loop_in hR k (i + 1) l' h2
theorem loop_bad {s t : ScS} (hs : OkS s) (ht : OkS t) {R : Pr → Prop} {p0 : Pr} {tag0 : Int} (hR : ∀ p,R p → p ≠ p0 → ∀ tag : Int,1 ≤ tag → tag ≤ 500 → OkAt s t R p tag) (h0 : ∀ tag : Int,1 ≤ tag → tag < tag0 → OkAt s t R p0 tag) (hb : atE s t (msG s p0.1) (msG t p0.2) tag0 = none) (ht1 : 1 ≤ tag0) (ht2 : tag0 ≤ 500) :
  ∀ (k i : Nat) (l : List Pr),PrIn s t l → 226 ≤ k + i → (∀ x ∈ l,R x) → (∃ j,i ≤ j ∧ l[j]? = some p0) → loopE s t k i l = (p0.1,tag0,false)
 | 0,i,l,hp,hk,_,⟨j,hj,hj2⟩ => by
  have := hp.len (okS_len hs) (okS_len ht);have := (List.getElem?_eq_some_iff.1 hj2).1
  omega
 | k + 1,i,l,hp,hk,h,⟨j,hj,hj2⟩ => by
  have hil : i < l.length := Nat.lt_of_le_of_lt hj (List.getElem?_eq_some_iff.1 hj2).1;unfold loopE;obtain ⟨p,hl⟩ : ∃ p,l[i]? = some p := ⟨_,List.getElem?_eq_getElem hil⟩;simp only [hl]
  by_cases hpp : p = p0
  ·subst hpp;have hrow := rowE_bad (s := s) (t := t) (R := R) (p := p) (tag0 := tag0) 500 1 l h0 hb ht1 (by omega)
   cases hr : rowE s t (msG s p.1) (msG t p.2) 500 1 l with
   | mk l1 o =>
    rw [hr] at hrow;simp only at hrow;subst hrow
    rfl
  ·obtain ⟨l',g1,g2⟩ := rowE_in 500 1 l h fun j g1 g2 => hR p (h p (List.mem_of_getElem? hl)) hpp j g1 (by omega)
   simp only [g1];have hpr := row_inE hs ht (A := p.1) (B := p.2) 500 1 hp;obtain ⟨r0,hr0⟩ := rowE_pre (s := s) (t := t) (m := msG s p.1) (n := msG t p.2) 500 1 l;rw [g1] at hpr hr0;simp only at hpr hr0;refine loop_bad hs ht hR h0 hb ht1 ht2 k (i + 1) l' hpr (by omega) g2 ⟨j,?_,by rw [hr0,List.getElem?_append_left (List.getElem?_eq_some_iff.1 hj2).1]; exact hj2⟩
   rcases Nat.lt_or_ge i j with h5 | h5
   ·exact h5
   ·have : i = j := by omega
    subst this;rw [hl] at hj2;exact absurd (Option.some.inj hj2) hpp
theorem start_ok {t : ScS} : ∀ (ms : List MtS) (l l' : List Pr),startE t ms l = (l',none) → (∀ x ∈ l,x ∈ l') ∧ ∀ m ∈ ms,∃ k,mtOf t m.name = some k ∧ (m.inn,k.inn) ∈ l' ∧ (m.out,k.out) ∈ l'
 | [],l,l',h => by
  simp only [startE,Prod.mk.injEq,and_true] at h;subst h;exact ⟨fun _ e => e,fun m hm => by cases hm⟩
 | m :: ms,l,l',h => by
  unfold startE at h
  cases hm : mtOf t m.name with
  | none => rw [hm] at h; simp at h
  | some k =>
   rw [hm] at h;simp only at h;obtain ⟨h1,h2⟩ := start_ok ms _ l' h;refine ⟨fun x hx => h1 x (addP_sub _ (addP_sub _ hx)),fun q hq => ?_⟩
   rcases List.mem_cons.1 hq with rfl | hq
   ·exact ⟨k,hm,h1 _ (addP_sub _ addP_mem),h1 _ addP_mem⟩
   ·exact h2 q hq
theorem start_in {t : ScS} {R : Pr → Prop} : ∀ (ms : List MtS) (l : List Pr),(∀ x ∈ l,R x) → (∀ m ∈ ms,∃ k,mtOf t m.name = some k ∧ R (m.inn,k.inn) ∧ R (m.out,k.out)) → ∃ l',startE t ms l = (l',none) ∧ ∀ x ∈ l',R x
 | [],l,h,_ => ⟨l,rfl,h⟩
 | m :: ms,l,h,hm => by
  obtain ⟨k,h1,h2,h3⟩ := hm m (List.mem_cons_self ..);unfold startE;simp only [h1];exact start_in ms _ (addP_of (addP_of h h2) h3) fun q hq => hm q (List.mem_cons_of_mem _ hq)
theorem mt_inE {t : ScS} (ht : OkS t) {nm : ByteArray} {k : MtS} (h : mtOf t nm = some k) : k.inn ∈ t.mn ∧ k.out ∈ t.mn := (ht.meths k (List.mem_of_find?_eq_some h)).2
theorem start_pr {s t : ScS} (ht : OkS t) : ∀ (ms : List MtS) (l : List Pr),(∀ m ∈ ms,m.inn ∈ s.mn ∧ m.out ∈ s.mn) → PrIn s t l → PrIn s t (startE t ms l).1
 | [],l,_,h => h
 | m :: ms,l,hm,h => by
  unfold startE
  cases hk : mtOf t m.name with
  | none => exact h
  | some k =>
   have h1 := hm m (List.mem_cons_self ..);have h2 := mt_inE ht hk;exact start_pr ht ms _ (fun q hq => hm q (List.mem_cons_of_mem _ hq)) ⟨addP_nodup (addP_nodup h.1),addP_of (R := fun p => p.1 ∈ s.mn ∧ p.2 ∈ t.mn) (addP_of (R := fun p => p.1 ∈ s.mn ∧ p.2 ∈ t.mn) h.2 ⟨h1.1,h2.1⟩) ⟨h1.2,h2.2⟩⟩
theorem PrIn.nil (s t : ScS) : PrIn s t [] := ⟨List.nodup_nil,by simp⟩
theorem evol_of {s t : ScS} {R : Pr → Prop} (hs : OkS s) (ht : OkS t) (h : Clo s t R) : evolA s t = (⟨#[]⟩,0,true) := by
 obtain ⟨l,h1,h2⟩ := start_in (t := t) (R := R) s.methods [] (by simp) h.meth;unfold evolA;rw [if_pos ⟨(checkA_ok s).2 hs,(checkA_ok t).2 ht⟩,h1];exact loop_in h.pair 300 0 l h2
theorem okAt_iff {s t : ScS} {R : Pr → Prop} {p : Pr} {tag : Int} : OkAt s t R p tag ↔ (tag ∈ (msG s p.1).reserved → tag ∈ (msG t p.2).reserved) ∧ (tag ∉ (msG s p.1).reserved → ∀ f,fldOf (msG s p.1).fields tag = some f → tag ∉ (msG t p.2).reserved → ∃ g,fldOf (msG t p.2).fields tag = some g ∧ f.label = g.label ∧ fitsY s t f.kind f.tname g.kind g.tname = true ∧ (f.kind = 7 → R (f.tname,g.tname))) := by
 unfold OkAt atE
 by_cases h1 : tag ∈ (msG s p.1).reserved
 ·rw [if_pos h1]
  by_cases h2 : tag ∈ (msG t p.2).reserved
  ·rw [if_pos h2]; simp [h1,h2]
  ·rw [if_neg h2]; simp [h1,h2]
 ·rw [if_neg h1]
  cases hf : fldOf (msG s p.1).fields tag with
  | none => simp [h1]
  | some f =>
   simp only
   by_cases h2 : tag ∈ (msG t p.2).reserved
   ·rw [if_pos h2]; simp [h1,h2]
   ·rw [if_neg h2]
    cases hg : fldOf (msG t p.2).fields tag with
    | none => simp [h1,h2]
    | some g =>
     simp only
     by_cases h3 : f.label = g.label ∧ fitsY s t f.kind f.tname g.kind g.tname = true
     ·rw [if_pos h3]
      by_cases h7 : f.kind = 7
      ·have h4 := h3.2;rw [h7] at h4;rw [if_pos h7]; simp [h1,h2,h3.1,h4,h7]
      ·rw [if_neg h7]; simp [h1,h2,h3.1,h3.2,h7]
     ·rw [if_neg h3];simp only [reduceCtorEq,false_and,exists_false,false_iff];rintro ⟨-,h4⟩;obtain ⟨g',e1,e2,e3, -⟩ := h4 h1 f rfl h2;obtain rfl : g = g' := Option.some.inj e1;exact h3 ⟨e2,e3⟩
theorem inVs_of {v : NmS} {l : List NmS} (h : v ∈ l) : inVs v l = true := by
 unfold inVs;rw [List.any_eq_true];exact ⟨v,h,by simp⟩
theorem evol_bad {s t : ScS} {R : Pr → Prop} {p0 : Pr} {tag0 : Int} (hs : OkS s) (ht : OkS t) (hm : ∀ m ∈ s.methods,∃ k,mtOf t m.name = some k ∧ R (m.inn,k.inn) ∧ R (m.out,k.out)) (hR : ∀ p,R p → p ≠ p0 → ∀ tag : Int,1 ≤ tag → tag ≤ 500 → OkAt s t R p tag) (h0 : ∀ tag : Int,1 ≤ tag → tag < tag0 → OkAt s t R p0 tag) (hb : atE s t (msG s p0.1) (msG t p0.2) tag0 = none) (ht1 : 1 ≤ tag0) (ht2 : tag0 ≤ 500)
  (hin : ∃ m k,m ∈ s.methods ∧ mtOf t m.name = some k ∧ p0 = (m.inn,k.inn)) : evolA s t = (p0.1,tag0,false) := by
 obtain ⟨l,g1,g2⟩ := start_in (t := t) (R := R) s.methods [] (by simp) hm;have hpr := start_pr (s := s) ht s.methods [] (fun m hm => (hs.meths m hm).2) (PrIn.nil s t);obtain ⟨-,g3⟩ := start_ok _ _ _ g1;rw [g1] at hpr;obtain ⟨m,k,e1,e2,e3⟩ := hin;obtain ⟨k',q1,q2, -⟩ := g3 m e1;rw [e2] at q1;obtain rfl := Option.some.inj q1;rw [← e3] at q2;obtain ⟨j,hj⟩ := List.getElem?_of_mem q2;unfold evolA;rw [if_pos ⟨(checkA_ok s).2 hs,(checkA_ok t).2 ht⟩,g1];exact loop_bad hs ht hR h0 hb ht1 ht2 300 0 l hpr (by omega) g2 ⟨j,Nat.zero_le _,hj⟩
def tagsM (m : MsS) : List Int := (m.reserved ++ m.fields.map FlS.tag).mergeSort fun x y => decide (x ≤ y)
def rowT (s t : ScS) (m n : MsS) : List Int → List Pr → List Pr × Option Int
 | [],l => (l,none)
 | tag :: ts,l => match atE s t m n tag with
  | none => (l,some tag)
  | some o => rowT s t m n ts (addO l o)
theorem row_at {s t : ScS} {m n : MsS} : ∀ (k : Nat) (tag : Int) (ts : List Int) (l : List Pr),ts.Pairwise (· < ·) → (∀ x ∈ ts,tag ≤ x ∧ x < tag + k) → (∀ j : Int,tag ≤ j → j < tag + k → j ∉ ts → atE s t m n j = some none) → rowE s t m n k tag l = rowT s t m n ts l
 | 0,tag,ts,l,_,h,_ => by
  cases ts with
  | nil => rfl
  | cons x ts => have := h x (List.mem_cons_self ..); omega
 | k + 1,tag,ts,l,hp,h,hn => by
  cases ts with
  | nil =>
   unfold rowE;rw [hn tag (Int.le_refl _) (by omega) (by simp)];exact row_at k (tag + 1) [] l hp (by simp) fun j h1 h2 _ => hn j (by omega) (by omega) (by simp)
  | cons x ts =>
   rw [List.pairwise_cons] at hp;have hx := h x (List.mem_cons_self ..)
   by_cases he : x = tag
   ·subst he;unfold rowE rowT
    cases ha : atE s t m n x with
    | none => rfl
    | some o =>
     simp only;refine row_at k (x + 1) ts _ hp.2 (fun y hy => ?_) fun j h1 h2 h3 => hn j (by omega) (by omega) ?_
     ·have := hp.1 y hy;have := h y (List.mem_cons_of_mem _ hy)
      omega
     ·intro hj
      rcases List.mem_cons.1 hj with hj | hj
      ·omega
      ·exact h3 hj
   ·have hnt : tag ∉ x :: ts := by
     intro hj
     rcases List.mem_cons.1 hj with hj | hj
     ·exact he hj.symm
     ·have := hp.1 tag hj; omega
    unfold rowE;rw [hn tag (Int.le_refl _) (by omega) hnt];refine row_at k (tag + 1) (x :: ts) l (List.pairwise_cons.2 hp) (fun y hy => ?_) fun j h1 h2 h3 => hn j (by omega) (by omega) h3
    have h4 := h y hy;have : y ≠ tag := fun e => hnt (e ▸ hy)
    omega
structure TagOk (m : MsS) : Prop where
 rng : ∀ x ∈ m.reserved ++ m.fields.map FlS.tag,1 ≤ x ∧ x ≤ 500
 once : (m.reserved ++ m.fields.map FlS.tag).Nodup
theorem tagOk_of {mn en : List ByteArray} {m : MsS} (h : msgOk mn en m) : TagOk m := by
 obtain ⟨h1,h2,h3,h4,h5,h6⟩ := h;refine ⟨fun x hx => ?_,?_⟩
 ·rcases List.mem_append.1 hx with hx | hx
  ·have := h2 x hx
   simpa [tagR] using this
  ·obtain ⟨f,hf,rfl⟩ := List.mem_map.1 hx;have := (h4 f hf).1
   simpa [fieldOk,tagR] using this.2.1
 ·rw [List.nodup_append];refine ⟨h3,h6,fun a ha b hb e => ?_⟩;obtain ⟨f,hf,rfl⟩ := List.mem_map.1 hb;exact (h4 f hf).2 (e ▸ ha)
theorem tagOk_msG {s : ScS} (hs : OkS s) (A : ByteArray) : TagOk (msG s A) := by
 unfold msG
 cases hq : msgOf s A with
 | none => exact ⟨by simp [zMs],by simp [zMs]⟩
 | some m => exact tagOk_of (hs.msgs m (List.mem_of_find?_eq_some hq)).2
theorem tagsM_perm (m : MsS) : (tagsM m).Perm (m.reserved ++ m.fields.map FlS.tag) := List.mergeSort_perm _ _
theorem tagsM_mem {m : MsS} {x : Int} : x ∈ tagsM m ↔ x ∈ m.reserved ∨ ∃ f ∈ m.fields,f.tag = x := by
 rw [(tagsM_perm m).mem_iff,List.mem_append,List.mem_map]
theorem tagsM_len (m : MsS) : (tagsM m).length = m.reserved.length + m.fields.length := by
 rw [(tagsM_perm m).length_eq,List.length_append,List.length_map]
theorem tagsM_rise {m : MsS} (h : TagOk m) : (tagsM m).Pairwise (· < ·) := by
 have h1 : (tagsM m).Pairwise fun x y => decide (x ≤ y) = true := List.pairwise_mergeSort (fun a b c h1 h2 => by simp at h1 h2 ⊢; omega) (fun a b => by simp; omega) _
 have h2 : (tagsM m).Pairwise (· ≠ ·) := (tagsM_perm m).symm.nodup h.once;refine (h1.and h2).imp fun ⟨h3,h4⟩ => ?_
 simp at h3
 omega
theorem row_tags {s t : ScS} {m n : MsS} (h : TagOk m) (l : List Pr) : rowE s t m n 500 1 l = rowT s t m n (tagsM m) l := by
 refine row_at 500 1 _ l (tagsM_rise h) (fun x hx => ?_) fun j h1 h2 h3 => ?_
 ·have := h.rng x ((tagsM_perm m).mem_iff.1 hx)
  omega
 ·rw [tagsM_mem] at h3;unfold atE;rw [if_neg fun e => h3 (.inl e)]
  cases hf : fldOf m.fields j with
  | none => rfl
  | some f => exact absurd (.inr ⟨f,(fldP hf).2,(fldP hf).1⟩) h3
def keepA (s t : ScS) (m n : MsS) (tag : Int) : Option (Option Pr) :=
 if tag ∈ n.reserved then some none else match fldOf m.fields tag,fldOf n.fields tag with
  | some f,some g => if f.label = g.label ∧ fitsY s t f.kind f.tname g.kind g.tname = true then some (if f.kind = 7 then some (f.tname,g.tname) else none) else none
  | _,_ => none
theorem keep_at {s t : ScS} {m n : MsS} {tag : Int} (h : TagOk m) (hx : tag ∈ tagsM m) : keepA s t m n tag = atE s t m n tag := by
 rw [tagsM_mem] at hx;unfold keepA atE
 by_cases hr : tag ∈ m.reserved
 ·have hf : fldOf m.fields tag = none := by
   cases hf : fldOf m.fields tag with
   | none => rfl
   | some f =>
    have h1 := fldP hf;have h2 := h.once;rw [List.nodup_append] at h2;exact absurd h1.1.symm (h2.2.2 tag hr f.tag (List.mem_map.2 ⟨f,h1.2,rfl⟩))
  rw [if_pos hr,hf]
 ·rw [if_neg hr]
  cases hf : fldOf m.fields tag with
  | none =>
   rcases hx with hx | ⟨f,hf1,hf2⟩
   ·exact absurd hx hr
   ·have := List.find?_eq_none.1 hf f hf1
    simp [hf2] at this
  | some f =>
   simp only
   split
   ·rfl
   ·cases hg : fldOf n.fields tag <;> rfl
end
section
open Go.ChangeShapes Go.WideShapes Go.ChangeAt Go.RowKit Go.Maps
theorem memI_cons (x y : Int) (l : List Int) : memI x (y :: l) = (decide (x = y) || memI x l) := by simp [memI,Bool.decide_or]
theorem index_any {w : World} {v : Value} {ns : List Int} (t : Int) (hr : RowG w v 1 (inRows ns)) :
  Calls Try.prog 84 #[v,.int .i64 t] w fun e w' => (∃ n : Int,e = .returned (.int .i64 n) ∧ decide (0 ≤ n) = memI t ns) ∧ Below w.heap.size w w' := by
 obtain ⟨a,c,rfl,q1,q2⟩ := hr.form2
 have hN : (inRows ns).length = ns.length := by simp [inRows]
 rw [hN] at hr q1 ⊢;clear hN;obtain ⟨N,hN⟩ : ∃ N,ns.length = N := ⟨_,rfl⟩;rw [hN] at hr q1 ⊢;have HN : Hid (ns.length = N) := hN;have HR : Hid (RowG w (.slice a N c) 1 (inRows ns)) := hr;clear hN hr;obtain ⟨A,hA⟩ : ∃ A,memI t ns = A := ⟨_,rfl⟩;rw [hA];have HA : Hid (A = memI t ns) := hA.symm;clear hA
 go_enter Try.func84,Try.ntmps84
 go_wp2_with fail
 go_loopw [8] (fun iv wr => ∃ k : Nat,iv = .int .i64 (k : Int) ∧ k ≤ N ∧ Hid (A = memI t (ns.drop k)) ∧ Below w.heap.size w wr) (fun iv _ => N - (intOf iv).toNat)
 case atStart => exact ⟨0,rfl,by omega,HA,Below.refl _ _⟩
 case round =>
  obtain ⟨k,rfl,hk,HAk,hbel⟩ := hrel
  by_cases hlt : k < N
  ·obtain ⟨f,hf⟩ : ∃ n,ns[k]? = some n := ⟨_,List.getElem?_eq_getElem (by rw [HN.out]; exact hlt)⟩
   have hrr : (inRows ns)[k]? = some [.int .i64 f] := by simp [inRows,hf]
   obtain ⟨g,off,rfl,c1⟩ := (HR.out.below hbel).get hrr
   have HA2 : Hid (A = (decide (t = f) || memI t (ns.drop (k + 1)))) := by
    show _ = _
    rw [HAk.out,drop_at hf,memI_cons]
   have p0 := c1 0 _ rfl;simp only [Nat.mul_one,Nat.add_zero] at p0;clear c1 hrr hf HAk
   by_cases he : t = f
   ·subst he
    have HA3 : Hid (A = true) := by show _ = _; rw [HA2.out,decide_eq_true rfl]; rfl
    clear HA2;go_wp2_with fail;go_ret;exact ⟨⟨(k : Int),rfl,by rw [HA3.out,decide_eq_true (by omega)]⟩,hbel⟩
   ·have hq : (t == f) = false := by simpa using he
    have HA3 : Hid (A = memI t (ns.drop (k + 1))) := by show _ = _; rw [HA2.out,decide_eq_false he]; rfl
    go_wp2_with fail
    go_roundw
    case rel => exact ⟨k + 1,by go_num,by omega,HA3,hbel⟩
    case measure => simp [intOf]; omega
  ·go_wp2_with fail;go_ret;exact ⟨⟨-1,rfl,by rw [HAk.out,drop_end (by rw [HN.out]; omega)]; rfl⟩,hbel⟩
theorem contains_any {w : World} {v : Value} {ns : List Int} (t : Int) (hr : RowG w v 1 (inRows ns)) :
  Calls Try.prog 66 #[v,.int .i64 t] w fun e w' => e = .returned (.bool (memI t ns)) ∧ Below w.heap.size w w' := by
 have HC := index_any t hr;clear hr
 go_enter Try.func66,Try.ntmps66
 go_wp2_with fail;refine HC.mono ?_;rintro e w1 ⟨⟨n,rfl,hn⟩,hb1⟩;have HN : Hid _ := hn;clear hn;go_wp2_with fail;go_ret;exact ⟨ret_bool HN.out,hb1⟩
theorem creserved_any {w : World} {v : Value} {ns : List Int} {snm : ByteArray} {af : Option Addr} {F cf : Nat} (t : Int) (hr : RowG w v 1 (inRows ns)) :
  Calls Try.prog 49 #[.agg #[.string snm,.slice af F cf,v],.int .i64 t] w fun e w' => e = .returned (.bool (memI t ns)) ∧ Below w.heap.size w w' := by
 obtain ⟨a,c,rfl,q1,q2⟩ := hr.form2;have HR : Hid (RowG w (.slice a (inRows ns).length c) 1 (inRows ns)) := hr;clear hr;generalize (inRows ns).length = N at *;have hba : Below w.heap.size w (w.alloc (.cells #[.string snm,.slice af F cf,.slice a N c] 41)) := (Below.refl _ _).alloc (Nat.le_refl _) _
 go_enter Try.func49,Try.ntmps49
 go_wp2_with fail;refine (contains_any t (HR.out.below hba)).mono ?_;rintro e w1 ⟨rfl,hb1⟩;go_wp2_with fail;go_ret;exact ⟨rfl,hba.trans (hb1.mono hba.size)⟩
def MKeepP (S1 S2 : List Value) (W0 : World) (b mb : Nat) (vp : Value) (l : List Pr) (o : Option (Option Pr)) (w : World) (e : Ending) (w' : World) : Prop := e = .returned (.bool o.isSome) ∧ ∃ vp',Meet S1 S2 W0 w' b mb vp' (addO l (o.getD none)) ∧ Kp (MeB b mb vp) w w'
theorem MKeepP.same {S1 S2 : List Value} {W0 : World} {b mb : Nat} {vp : Value} {l : List Pr} {o : Option (Option Pr)} {w w' : World} {r : Bool} (h : Meet S1 S2 W0 w b mb vp l) (hb : Below w.heap.size w w') (h1 : o.isSome = r) (h2 : o.getD none = none) : MKeepP S1 S2 W0 b mb vp l o w (.returned (.bool r)) w' :=
 ⟨by rw [h1],vp,by rw [h2]; exact h.bel hb,Kp.ofBelow hb⟩
theorem memI_iffE {x : Int} {l : List Int} : memI x l = true ↔ x ∈ l := by simp [memI]
theorem mkeeps_any {s t : ScS} {sn tn : ByteArray} {sa ea ta sa2 ea2 ta2 : Option Addr} {sl sc el ec tl tc sl2 sc2 el2 ec2 tl2 tc2 : Nat} {W0 w : World} {b mb : Nat} {vp : Value} {l : List Pr} (hs : SIn W0 (.agg #[.string sn,.slice sa sl sc,.slice ea el ec,.slice ta tl tc]) s) (ht : SIn W0 (.agg #[.string tn,.slice sa2 sl2 sc2,.slice ea2 el2 ec2,.slice ta2 tl2 tc2]) t)
  (h : Meet [.string sn,.slice sa sl sc,.slice ea el ec,.slice ta tl tc] [.string tn,.slice sa2 sl2 sc2,.slice ea2 el2 ec2,.slice ta2 tl2 tc2] W0 w b mb vp l) (hl : l.length ≤ 1000) {m n : MsS} {an bn : ByteArray} {vf vg vr : Value} {ra : Option Addr} {rl rc : Nat} (tag : Int) (hfa : RowG w vf 5 (flRows m.fields)) (hfb : RowG w vg 5 (flRows n.fields)) (hrb : RowG w vr 1 (inRows n.reserved))
  (hwa : ∀ f ∈ m.fields,f.tname.size ≤ 140737488351232) (hwb : ∀ f ∈ n.fields,f.tname.size ≤ 140737488351232) :
  Calls Try.prog 29 #[.pointer (some ⟨b,0,none⟩),.agg #[.string an,vf,.slice ra rl rc],.agg #[.string bn,vg,vr],.int .i64 tag] w (MKeepP [.string sn,.slice sa sl sc,.slice ea el ec,.slice ta tl tc] [.string tn,.slice sa2 sl2 sc2,.slice ea2 el2 ec2,.slice ta2 tl2 tc2] W0 b mb vp l (keepA s t m n tag) w) := by
 have HC1 : Hid (∀ W,Below w.heap.size w W → Calls Try.prog 49 #[.agg #[.string bn,vg,vr],.int .i64 tag] W fun e w' => e = .returned (.bool (memI tag n.reserved)) ∧ Below W.heap.size W w') := fun W hW => by
  obtain ⟨fb,gc,rfl, -, -⟩ := hfb.form2;exact creserved_any tag (hrb.below hW)
 have HC2 : Hid (∀ W,Below w.heap.size w W → Calls Try.prog 50 #[.agg #[.string an,vf,.slice ra rl rc],.int .i64 tag] W fun e w' => e = .returned (.tuple #[flV ((fldOf m.fields tag).getD zeroF),.bool (fldOf m.fields tag).isSome]) ∧ Below W.heap.size W w') := fun W hW => cfield_any (hfa.below hW)
 have HC3 : Hid (∀ W,Below w.heap.size w W → Calls Try.prog 50 #[.agg #[.string bn,vg,vr],.int .i64 tag] W fun e w' => e = .returned (.tuple #[flV ((fldOf n.fields tag).getD zeroF),.bool (fldOf n.fields tag).isSome]) ∧ Below W.heap.size W w') := fun W hW => by
  obtain ⟨rb,qc,rfl, -, -⟩ := hrb.form2;exact cfield_any (hfb.below hW)
 have HFT : Hid (∀ W k1 k2 n1 n2,Below W0.heap.size W0 W → Calls Try.prog 51 #[.agg #[.string sn,.slice sa sl sc,.slice ea el ec,.slice ta tl tc],.agg #[.string tn,.slice sa2 sl2 sc2,.slice ea2 el2 ec2,.slice ta2 tl2 tc2],.agg #[.int .i64 k1,.string n1],.agg #[.int .i64 k2,.string n2]] W fun e w' => e = .returned (.bool (fitsY s t k1 n1 k2 n2)) ∧ Below W.heap.size W w') := fun W k1 k2 n1 n2 hW => cfits_any s t _ _ k1 k2 n1 n2 W (hs.below hW) (ht.below hW)
 obtain ⟨X,hX⟩ : ∃ z,fldOf m.fields tag = z := ⟨_,rfl⟩;obtain ⟨Y,hY⟩ : ∃ z,fldOf n.fields tag = z := ⟨_,rfl⟩;obtain ⟨R,hR⟩ : ∃ z,memI tag n.reserved = z := ⟨_,rfl⟩;have HWX : Hid (∀ f,X = some f → f.tname.size ≤ 140737488351232) := fun f e => hwa f (fldP (hX.trans e)).2
 have HWY : Hid (∀ f,Y = some f → f.tname.size ≤ 140737488351232) := fun f e => hwb f (fldP (hY.trans e)).2
 have HKA : Hid (keepA s t m n tag = if R = true then some none else match X,Y with
  | some f,some g => if f.label = g.label ∧ fitsY s t f.kind f.tname g.kind g.tname = true then some (if f.kind = 7 then some (f.tname,g.tname) else none) else none
  | _,_ => none) := (by
  unfold keepA;rw [hX,hY]
  cases R with
  | true => rw [if_pos (memI_iffE.1 hR),if_pos rfl]
  | false =>
   refine (if_neg (fun e => by rw [memI_iffE.2 e] at hR; cases hR)).trans ?_
   cases X <;> cases Y <;> rfl : _ = _)
 rw [hX] at HC2;rw [hY] at HC3;rw [hR] at HC1;generalize keepA s t m n tag = KA at *;obtain ⟨fa,fc,rfl, -, -⟩ := hfa.form2;obtain ⟨fb,gc,rfl, -, -⟩ := hfb.form2;obtain ⟨rb,qc,rfl, -, -⟩ := hrb.form2;generalize (flRows m.fields).length = fl at *;generalize (flRows n.fields).length = gl at *;generalize (inRows n.reserved).length = ql at *;clear hfa hfb hrb hwa hwb hX hY hR;have HM : Hid (Meet [.string sn,.slice sa sl sc,.slice ea el ec,.slice ta tl tc] [.string tn,.slice sa2 sl2 sc2,.slice ea2 el2 ec2,.slice ta2 tl2 tc2] W0 w b mb vp l) := h;have HL : Hid (l.length ≤ 1000) := hl;obtain ⟨pa,pc,rfl⟩ := h.form;obtain ⟨K,hK⟩ : ∃ z,l.length = z := ⟨_,rfl⟩;rw [hK] at HM ⊢;have BB := h.blk;rw [hK] at BB;clear h hl hs ht hK;have hba : Below w.heap.size w ((w.alloc (Obj.cells #[.string an,.slice fa fl fc,.slice ra rl rc] 41)).alloc (Obj.cells #[.string bn,.slice fb gl gc,.slice rb ql qc] 41)) := ((Below.refl _ _).alloc (Nat.le_refl _) _).alloc (by simp) _;have BA : Blk ((w.alloc (Obj.cells #[.string an,.slice fa fl fc,.slice ra rl rc] 41)).alloc (Obj.cells #[.string bn,.slice fb gl gc,.slice rb ql qc] 41)) w.heap.size #[.string an,.slice fa fl fc,.slice ra rl rc] 41 := (Blk.new w _ _).below ((Below.refl _ _).alloc (Nat.le_refl _) _)
 have BE : Blk ((w.alloc (Obj.cells #[.string an,.slice fa fl fc,.slice ra rl rc] 41)).alloc (Obj.cells #[.string bn,.slice fb gl gc,.slice rb ql qc] 41)) (w.heap.size + 1) #[.string bn,.slice fb gl gc,.slice rb ql qc] 41 := by
  have := Blk.new (w.alloc (Obj.cells #[.string an,.slice fa fl fc,.slice ra rl rc] 41)) #[.string bn,.slice fb gl gc,.slice rb ql qc] 41
  rwa [show (w.alloc (Obj.cells #[.string an,.slice fa fl fc,.slice ra rl rc] 41)).heap.size = w.heap.size + 1 by simp] at this
 go_enter Try.func29,Try.ntmps29
 go_wp2_with fail;refine (HC1.out _ hba).mono ?_;rintro e w1 ⟨rfl,hb1⟩;have hbw1 := hba.trans (hb1.mono hba.size);have BA1 := BA.below hb1;have BE1 := BE.below hb1;clear hb1 hba BA BE HC1
 cases R with
 | true =>
  have HK2 : Hid (KA = some none) := (by rw [HKA.out]; rfl : _ = _);go_wp2_with fail;go_ret;exact MKeepP.same HM.out hbw1 (by rw [HK2.out]; rfl) (by rw [HK2.out]; rfl)
 | false =>
  obtain ⟨sz,hsz⟩ : ∃ z,w.heap.size = z := ⟨_,rfl⟩;have HSZ : Hid (w.heap.size = sz) := hsz;rw [hsz] at BA1 BE1;simp only [hsz];clear hsz;have a0 := (BA1.cell 0).trans rfl;have a1 := (BA1.cell 1).trans rfl;have a2 := (BA1.cell 2).trans rfl;have hl1 : sz < w1.heap.size := BA1.lt;go_wp2_with fail;refine Calls.mono (HC2.out _ hbw1) ?_;rintro e w2 ⟨rfl,hb2⟩;have hbw2 := hbw1.trans (hb2.mono hbw1.size);have BE2 := BE1.below hb2;clear hb2 hbw1 BE1 BA1 a0 a1 a2 hl1 HC2;obtain ⟨XF,hXF⟩ : ∃ z,X.getD zeroF = z := ⟨_,rfl⟩;obtain ⟨xb,hxb⟩ : ∃ z,X.isSome = z := ⟨_,rfl⟩;have HX : Hid (X.getD zeroF = XF ∧ X.isSome = xb) := ⟨hXF,hxb⟩;rw [hXF,hxb];clear hXF hxb;obtain ⟨x1,x2,x3,x4,x5⟩ := XF;simp only [flV];have al2 : Below w2.heap.size w2 (w2.alloc (Obj.cells #[.string x1,.int .i64 x2,.int .i64 x3,.int .i64 x4,.string x5] 38)) := (Below.refl _ _).alloc (Nat.le_refl _) _;have hbw3 := hbw2.trans (al2.mono hbw2.size);have BE3 := BE2.below al2;have BX3 := Blk.new w2 #[.string x1,.int .i64 x2,.int .i64 x3,.int .i64 x4,.string x5] 38;have hl2 : sz + 1 < w2.heap.size := BE2.lt;have c0 := (BE2.cell 0).trans rfl;have c1 := (BE2.cell 1).trans rfl;have c2 := (BE2.cell 2).trans rfl;go_wp2_with fail;refine Calls.mono (HC3.out _ hbw3) ?_;rintro e w3 ⟨rfl,hb3⟩;have hbw3 := hbw3.trans (hb3.mono hbw3.size);have BX3 := BX3.below hb3;clear hb3 BE2 BE3 c0 c1 c2 hl2 HC3 al2 hbw2;obtain ⟨bx,hbx⟩ : ∃ z,w2.heap.size = z := ⟨_,rfl⟩;rw [hbx] at BX3;simp only [hbx];clear hbx;obtain ⟨YF,hYF⟩ : ∃ z,Y.getD zeroF = z := ⟨_,rfl⟩;obtain ⟨yb,hyb⟩ : ∃ z,Y.isSome = z := ⟨_,rfl⟩;have HY : Hid (Y.getD zeroF = YF ∧ Y.isSome = yb) := ⟨hYF,hyb⟩;rw [hYF,hyb];clear hYF hyb;obtain ⟨y1,y2,y3,y4,y5⟩ := YF;simp only [flV];have al3 : Below w3.heap.size w3 (w3.alloc (Obj.cells #[.string y1,.int .i64 y2,.int .i64 y3,.int .i64 y4,.string y5] 38)) := (Below.refl _ _).alloc (Nat.le_refl _) _;have hbw4 := hbw3.trans (al3.mono hbw3.size);have BX4 := BX3.below al3;have BY4 := Blk.new w3 #[.string y1,.int .i64 y2,.int .i64 y3,.int .i64 y4,.string y5] 38
  go_upto_region 5 with fail
  obtain ⟨byy,hby⟩ : ∃ z,w3.heap.size = z := ⟨_,rfl⟩;rw [hby] at BY4;simp only [hby];clear hby al3 BX3 hbw3;generalize (w3.alloc (Obj.cells #[.string y1,.int .i64 y2,.int .i64 y3,.int .i64 y4,.string y5] 38)) = w4 at *
  cases xb with
  | false =>
   have HK2 : Hid (KA = none) := (by
    have h1 := HX.out.2
    cases X with
    | none => rw [HKA.out]; rfl
    | some f => simp at h1 : _ = _)
   go_quiet (fail)
   go_wp2_with fail;go_ret;exact MKeepP.same HM.out (below_drewN _ hbw4) (by rw [HK2.out]; rfl) (by rw [HK2.out]; rfl)
  | true =>
   obtain ⟨f,rfl⟩ : ∃ f,X = some f := Option.isSome_iff_exists.1 HX.out.2;have h1 := HX.out.1;simp only [Option.getD_some] at h1;subst h1
   cases yb with
   | false =>
    have HK2 : Hid (KA = none) := (by
     have h1 := HY.out.2
     cases Y with
     | none => rw [HKA.out]; rfl
     | some f => simp at h1 : _ = _)
    go_quiet (fail)
    go_wp2_with fail;go_ret;exact MKeepP.same HM.out (below_drewN _ hbw4) (by rw [HK2.out]; rfl) (by rw [HK2.out]; rfl)
   | true =>
    obtain ⟨g,rfl⟩ : ∃ f,Y = some f := Option.isSome_iff_exists.1 HY.out.2;have h1 := HY.out.1;simp only [Option.getD_some] at h1;subst h1;have HK1 : Hid (KA = if x3 = y3 ∧ fitsY s t x4 x5 y4 y5 = true then some (if x4 = 7 then some (x5,y5) else none) else none) := (by rw [HKA.out]; rfl : _ = _);have d3 := (BX4.cell 2).trans rfl;have e3 := (BY4.cell 2).trans rfl
    by_cases h3 : x3 = y3
    rotate_left
    ·have HK2 : Hid (KA = none) := (by rw [HK1.out,if_neg fun e => h3 e.1] : _ = _)
     have h4 : (x3 != y3) = true := by simpa using h3
     go_quiet (fail)
     go_wp2_with fail;go_ret;exact MKeepP.same HM.out (below_drewN _ hbw4) (by rw [HK2.out]; rfl) (by rw [HK2.out]; rfl)
    ·subst h3;have HK2 : Hid (KA = if fitsY s t x4 x5 y4 y5 = true then some (if x4 = 7 then some (x5,y5) else none) else none) := (by rw [HK1.out]; simp : _ = _);clear HK1 d3 e3;have BB4 : Blk w4 b #[.string sn,.slice sa sl sc,.slice ea el ec,.slice ta tl tc,.string tn,.slice sa2 sl2 sc2,.slice ea2 el2 ec2,.slice ta2 tl2 tc2,.slice pa K pc,.map (some mb)] 57 := BB.below hbw4;have HFF : Hid (∀ W,Below w4.heap.size w4 W → Calls Try.prog 51 #[.agg #[.string sn,.slice sa sl sc,.slice ea el ec,.slice ta tl tc],.agg #[.string tn,.slice sa2 sl2 sc2,.slice ea2 el2 ec2,.slice ta2 tl2 tc2],.agg #[.int .i64 x4,.string x5],.agg #[.int .i64 y4,.string y5]] W fun e w' => e = .returned (.bool (fitsY s t x4 x5 y4 y5)) ∧ Below W.heap.size W w') := fun W hW => HFT.out W x4 y4 x5 y5 (HM.out.below.trans ((hbw4.trans (hW.mono hbw4.size)).mono HM.out.below.size))
     clear HFT;generalize fitsY s t x4 x5 y4 y5 = F at *;have hS : Below w4.heap.size w4 w4.drew := (Below.refl _ _).drew;refine wp_region_held_drew (S := fun w' => Below w4.heap.size w4 w') (by kernel_rfl) hS (fun hS => ?_);refine rg_take 0 28 (.bool true) _ rfl rfl (by kernel_rfl) (by kernel_rfl) (by kernel_rfl) (fun _ _ _ h => h) (by rfl) (fun w' hw' => ?_) hS (listed' := bts 29 1) (by kernel_rfl) rfl ?_
     ·go_simp
     simp only [zsA,zsZ,zsS];refine rg_take 1 29 (.bool false) _ rfl rfl (by kernel_rfl) (by kernel_rfl) (by kernel_rfl) (fun _ _ _ h => h) (by rfl) (fun w' hw' => ?_) hS (listed' := bts 29 3) (by kernel_rfl) rfl ?_
     ·go_simp
     simp only [zsA,zsZ,zsS];refine rg_take 2 30 (.bool false) _ rfl rfl (by kernel_rfl) (by kernel_rfl) (by kernel_rfl) (fun _ _ _ h => h) (by rfl) (fun w' hw' => ?_) hS (listed' := bts 29 7) (by kernel_rfl) rfl ?_
     ·go_simp
     simp only [zsA,zsZ,zsS];refine rg_take 3 31 (.bool true) _ rfl rfl (by kernel_rfl) (by kernel_rfl) (by kernel_rfl) (fun _ _ _ h => h) (by rfl) (fun w' hw' => ?_) hS (listed' := bts 29 15) (by kernel_rfl) rfl ?_
     ·go_simp
     simp only [zsA,zsZ,zsS];refine rg_take 4 32 (.bool false) _ rfl rfl (by kernel_rfl) (by kernel_rfl) (by kernel_rfl) (fun _ _ _ h => h) (by rfl) (fun w' hw' => ?_) hS (listed' := bts 29 31) (by kernel_rfl) rfl ?_
     ·go_simp
     simp only [zsA,zsZ,zsS];refine rg_take 5 33 (.bool false) _ rfl rfl (by kernel_rfl) (by kernel_rfl) (by kernel_rfl) (fun _ _ _ h => h) (by rfl) (fun w' hw' => ?_) hS (listed' := bts 29 63) (by kernel_rfl) rfl ?_
     ·go_simp
     simp only [zsA,zsZ,zsS];refine rg_take 6 34 (.bool false) _ rfl rfl (by kernel_rfl) (by kernel_rfl) (by kernel_rfl) (fun _ _ _ h => h) (by rfl) (fun w' hw' => ?_) hS (listed' := bts 29 127) (by kernel_rfl) rfl ?_
     ·go_simp
     simp only [zsA,zsZ,zsS];refine rg_take 7 35 (.pointer (some ⟨bx,2,none⟩)) _ rfl rfl (by kernel_rfl) (by kernel_rfl) (by kernel_rfl) (fun _ _ _ h => h) (by rfl) (fun w' hw' => ?_) hS (listed' := bts 29 255) (by kernel_rfl) rfl ?_
     ·go_simp
     simp only [zsA,zsZ,zsS];refine rg_take 8 36 (.int .i64 x3) _ rfl rfl (by kernel_rfl) (by kernel_rfl) (by kernel_rfl) (fun _ _ _ h => h) (by rfl) (fun w' hw' => ?_) hS (listed' := bts 29 511) (by kernel_rfl) rfl ?_
     ·have f2 := ((BX4.below hw').cell 2).trans rfl; go_simp
     simp only [zsA,zsZ,zsS];refine rg_take 9 37 (.pointer (some ⟨byy,2,none⟩)) _ rfl rfl (by kernel_rfl) (by kernel_rfl) (by kernel_rfl) (fun _ _ _ h => h) (by rfl) (fun w' hw' => ?_) hS (listed' := bts 29 1023) (by kernel_rfl) rfl ?_
     ·go_simp
     simp only [zsA,zsZ,zsS];refine rg_take 10 38 (.int .i64 x3) _ rfl rfl (by kernel_rfl) (by kernel_rfl) (by kernel_rfl) (fun _ _ _ h => h) (by rfl) (fun w' hw' => ?_) hS (listed' := bts 29 2047) (by kernel_rfl) rfl ?_
     ·have f2 := ((BY4.below hw').cell 2).trans rfl; go_simp
     simp only [zsA,zsZ,zsS];refine rg_take 11 39 (.bool false) _ rfl rfl (by kernel_rfl) (by kernel_rfl) (by kernel_rfl) (fun _ _ _ h => h) (by rfl) (fun w' hw' => ?_) hS (listed' := bts 29 4095) (by kernel_rfl) rfl ?_
     ·go_simp
     simp only [zsA,zsZ,zsS];refine rg_take 12 40 (.bool false) _ rfl rfl (by kernel_rfl) (by kernel_rfl) (by kernel_rfl) (fun _ _ _ h => h) (by rfl) (fun w' hw' => ?_) hS (listed' := bts 29 8191) (by kernel_rfl) rfl ?_
     ·go_simp
     simp only [zsA,zsZ,zsS];refine rg_take 13 41 (.bool false) _ rfl rfl (by kernel_rfl) (by kernel_rfl) (by kernel_rfl) (fun _ _ _ h => h) (by rfl) (fun w' hw' => ?_) hS (listed' := bts 29 16383) (by kernel_rfl) rfl ?_
     ·go_simp
     simp only [zsA,zsZ,zsS];refine rg_take 14 42 (.pointer (some ⟨b,0,none⟩)) _ rfl rfl (by kernel_rfl) (by kernel_rfl) (by kernel_rfl) (fun _ _ _ h => h) (by rfl) (fun w' hw' => ?_) hS (listed' := bts 29 32767) (by kernel_rfl) rfl ?_
     ·go_simp
     simp only [zsA,zsZ,zsS];refine rg_take 15 43 (.pointer (some ⟨b,0,none⟩)) _ rfl rfl (by kernel_rfl) (by kernel_rfl) (by kernel_rfl) (fun _ _ _ h => h) (by rfl) (fun w' hw' => ?_) hS (listed' := bts 29 65535) (by kernel_rfl) rfl ?_
     ·go_simp
     simp only [zsA,zsZ,zsS];refine rg_take 16 44 (.pointer (some ⟨b,0,none⟩)) _ rfl rfl (by kernel_rfl) (by kernel_rfl) (by kernel_rfl) (fun _ _ _ h => h) (by rfl) (fun w' hw' => ?_) hS (listed' := bts 29 131071) (by kernel_rfl) rfl ?_
     ·go_simp
     simp only [zsA,zsZ,zsS];refine rg_take 17 45 (.agg #[.string sn,.slice sa sl sc,.slice ea el ec,.slice ta tl tc]) _ rfl rfl (by kernel_rfl) (by kernel_rfl) (by kernel_rfl) (fun _ _ _ h => h) (by rfl) (fun w' hw' => ?_) hS (listed' := bts 29 262143) (by kernel_rfl) rfl ?_
     ·have f0 := ((BB4.below hw').cell 0).trans rfl; have f1 := ((BB4.below hw').cell 1).trans rfl; have f2 := ((BB4.below hw').cell 2).trans rfl; have f3 := ((BB4.below hw').cell 3).trans rfl; go_simp
     simp only [zsA,zsZ,zsS];refine rg_take 18 46 (.pointer (some ⟨b,0,none⟩)) _ rfl rfl (by kernel_rfl) (by kernel_rfl) (by kernel_rfl) (fun _ _ _ h => h) (by rfl) (fun w' hw' => ?_) hS (listed' := bts 29 524287) (by kernel_rfl) rfl ?_
     ·go_simp
     simp only [zsA,zsZ,zsS];refine rg_take 19 47 (.pointer (some ⟨b,0,none⟩)) _ rfl rfl (by kernel_rfl) (by kernel_rfl) (by kernel_rfl) (fun _ _ _ h => h) (by rfl) (fun w' hw' => ?_) hS (listed' := bts 29 1048575) (by kernel_rfl) rfl ?_
     ·go_simp
     simp only [zsA,zsZ,zsS];refine rg_take 20 48 (.pointer (some ⟨b,4,none⟩)) _ rfl rfl (by kernel_rfl) (by kernel_rfl) (by kernel_rfl) (fun _ _ _ h => h) (by rfl) (fun w' hw' => ?_) hS (listed' := bts 29 2097151) (by kernel_rfl) rfl ?_
     ·go_simp
     simp only [zsA,zsZ,zsS];refine rg_take 21 49 (.agg #[.string tn,.slice sa2 sl2 sc2,.slice ea2 el2 ec2,.slice ta2 tl2 tc2]) _ rfl rfl (by kernel_rfl) (by kernel_rfl) (by kernel_rfl) (fun _ _ _ h => h) (by rfl) (fun w' hw' => ?_) hS (listed' := bts 29 4194303) (by kernel_rfl) rfl ?_
     ·have f4 := ((BB4.below hw').cell 4).trans rfl; have f5 := ((BB4.below hw').cell 5).trans rfl; have f6 := ((BB4.below hw').cell 6).trans rfl; have f7 := ((BB4.below hw').cell 7).trans rfl; go_simp
     simp only [zsA,zsZ,zsS];refine rg_take 22 50 (.pointer (some ⟨bx,3,none⟩)) _ rfl rfl (by kernel_rfl) (by kernel_rfl) (by kernel_rfl) (fun _ _ _ h => h) (by rfl) (fun w' hw' => ?_) hS (listed' := bts 29 8388607) (by kernel_rfl) rfl ?_
     ·go_simp
     simp only [zsA,zsZ,zsS];refine rg_take 23 51 (.agg #[.int .i64 x4,.string x5]) _ rfl rfl (by kernel_rfl) (by kernel_rfl) (by kernel_rfl) (fun _ _ _ h => h) (by rfl) (fun w' hw' => ?_) hS (listed' := bts 29 16777215) (by kernel_rfl) rfl ?_
     ·have f3 := ((BX4.below hw').cell 3).trans rfl; have f4 := ((BX4.below hw').cell 4).trans rfl; go_simp
     simp only [zsA,zsZ,zsS];refine rg_take 24 52 (.pointer (some ⟨byy,3,none⟩)) _ rfl rfl (by kernel_rfl) (by kernel_rfl) (by kernel_rfl) (fun _ _ _ h => h) (by rfl) (fun w' hw' => ?_) hS (listed' := bts 29 33554431) (by kernel_rfl) rfl ?_
     ·go_simp
     simp only [zsA,zsZ,zsS];refine rg_take 25 53 (.agg #[.int .i64 y4,.string y5]) _ rfl rfl (by kernel_rfl) (by kernel_rfl) (by kernel_rfl) (fun _ _ _ h => h) (by rfl) (fun w' hw' => ?_) hS (listed' := bts 29 67108863) (by kernel_rfl) rfl ?_
     ·have f3 := ((BY4.below hw').cell 3).trans rfl; have f4 := ((BY4.below hw').cell 4).trans rfl; go_simp
     simp only [zsA,zsZ,zsS];refine rg_call 26 54 51 #[.agg #[.string sn,.slice sa sl sc,.slice ea el ec,.slice ta tl tc],.agg #[.string tn,.slice sa2 sl2 sc2,.slice ea2 el2 ec2,.slice ta2 tl2 tc2],.agg #[.int .i64 x4,.string x5],.agg #[.int .i64 y4,.string y5]] rfl rfl (by kernel_rfl) (by rfl) (listed' := bts 29 134217727) (by kernel_rfl) (fun W => by go_simp) ?_;refine Calls.mono (HFF.out _ hS) ?_;rintro ee w5 ⟨rfl,hb5⟩;have hS0 := hS;have hS : Below w4.heap.size w4 w5 := hS0.trans (hb5.mono hS0.size);clear hS0 hb5;refine ⟨_,rfl,hS,?_⟩;simp only [zsA,zsZ,zsS];refine rg_take 27 55 (.bool (!F)) _ rfl rfl (by kernel_rfl) (by kernel_rfl) (by kernel_rfl) (fun _ _ _ h => h) (by rfl) (fun w' hw' => ?_) hS (listed' := bts 29 268435455) (by kernel_rfl) rfl ?_
     ·go_simp
     simp only [zsA,zsZ,zsS];refine rg_take 28 56 (.bool (!F)) _ rfl rfl (by kernel_rfl) (by kernel_rfl) (by kernel_rfl) (fun _ _ _ h => h) (by rfl) (fun w' hw' => ?_) hS (listed' := bts 29 536870911) (by kernel_rfl) rfl ?_
     ·go_simp
     simp only [zsA,zsZ,zsS];refine wpAnyH_done (by kernel_rfl) ?_ _;have hbw5 : Below w.heap.size w w5 := hbw4.trans (hS.mono hbw4.size);have BX5 := BX4.below hS;have BY5 := BY4.below hS;have HW5 : Hid (x5.size ≤ 140737488351232 ∧ y5.size ≤ 140737488351232) := ⟨HWX.out _ rfl,HWY.out _ rfl⟩;clear hS BX4 BY4 BB4 HFF HX HY hbw4 HKA HWX HWY
     cases F with
     | false =>
      have HK3 : Hid (KA = none) := (by rw [HK2.out]; rfl : _ = _);go_wp2_with fail;go_ret;exact MKeepP.same HM.out hbw5 (by rw [HK3.out]; rfl) (by rw [HK3.out]; rfl)
     | true =>
      have g3 := (BX5.cell 3).trans rfl;have g4 := (BX5.cell 4).trans rfl;have k4 := (BY5.cell 4).trans rfl
      by_cases h7 : x4 = 7
      ·subst h7;have HK3 : Hid (KA = some (some (x5,y5))) := (by rw [HK2.out]; rfl : _ = _);have hM5 := HM.out.bel hbw5;have HAD : Hid _ := madd_any hM5 (x5,y5) HW5.out.1 HW5.out.2 HL.out;simp only at HAD;clear hM5;go_wp2_with fail;refine Calls.mono HAD.out ?_;rintro ee w6 ⟨rfl,vp',hM6,hk6⟩;have HP6 : Hid (MKeepP [.string sn,.slice sa sl sc,.slice ea el ec,.slice ta tl tc] [.string tn,.slice sa2 sl2 sc2,.slice ea2 el2 ec2,.slice ta2 tl2 tc2] W0 b mb (.slice pa K pc) l (some (some (x5,y5))) w (.returned (.bool true)) w6) := ⟨rfl,vp',hM6,(Kp.ofBelow hbw5).trans hk6⟩;clear hM6 hk6 HAD;go_wp2_with fail;go_ret;rw [HK3.out];exact HP6.out
      ·have e7 : (x4 == 7) = false := by simpa using h7
       have HK3 : Hid (KA = some none) := (by rw [HK2.out,if_pos rfl,if_neg h7] : _ = _);go_wp2_with fail;go_ret;exact MKeepP.same HM.out hbw5 (by rw [HK3.out]; rfl) (by rw [HK3.out]; rfl)
end
section
open Go.ChangeShapes Go.WideShapes Go.ChangeAt Go.RowKit
def set3E (w : World) (g o : Nat) (a b c : Value) : World := ((w.setCell ⟨g,o,none⟩ a).setCell ⟨g,o + 1,none⟩ b).setCell ⟨g,o + 2,none⟩ c
theorem set3_kp (w : World) (g o : Nat) (a b c : Value) : Kp (fun q => q = g) w (set3E w g o a b c) := by
 unfold set3E;refine Kp.setCell ?_ (fun _ => by simp) _;refine Kp.setCell ?_ (fun _ => by simp) _;refine Kp.setCell ?_ (fun _ => by simp) _;exact Kp.refl _ _
theorem blk_set3 {w : World} {b : Nat} {c0 c1 c2 x0 x1 x2 : Value} {t : TypeId} (h : Blk w b #[c0,c1,c2] t) : Blk (set3E w b 0 x0 x1 x2) b #[x0,x1,x2] t := ((h.set 0 x0 rfl).set 1 x1 rfl).set 2 x2 rfl
theorem own_set3 {w : World} {b : Nat} {cs : Array Value} {t e : TypeId} {x0 x1 x2 v : Value} {B s n : Nat} {xs : List Value} (hB : Blk w b cs t) (h : w.ownsRow B e s v n xs) (hne : e ≠ t) : (set3E w b 0 x0 x1 x2).ownsRow B e s v n xs :=
 own_kpV h (set3_kp _ _ _ _ _ _) fun k e1 e2 => by
  obtain ⟨cs',h3⟩ := own_blkE h e1;rw [e2] at h3;have h4 := h3.symm.trans hB;simp only [Option.some.injEq,Obj.cells.injEq] at h4;exact hne h4.2.1
def MsB (w : World) (b B : Nat) (m : MsS) : Prop := ∃ fa fc ra rc,Blk w b #[.string m.name,.slice fa m.fields.length fc,.slice ra m.reserved.length rc] 41 ∧ w.ownsRow B 38 5 (.slice fa m.fields.length fc) m.fields.length (flRows m.fields).flatten ∧ w.ownsRow B 3 1 (.slice ra m.reserved.length rc) m.reserved.length (inRows m.reserved).flatten
theorem MsB.below {w w1 : World} {b B : Nat} {m : MsS} (h : MsB w b B m) (hb : Below w.heap.size w w1) : MsB w1 b B m := by
 obtain ⟨fa,fc,ra,rc,h1,h2,h3⟩ := h;exact ⟨fa,fc,ra,rc,h1.below hb,own_below h2 hb,own_below h3 hb⟩
theorem MsB.meet {S1 S2 : List Value} {W0 w w1 : World} {b mb : Nat} {vp : Value} {l : List Pr} {bm B : Nat} {m : MsS} (h : MsB w bm B m) (hM : Meet S1 S2 W0 w b mb vp l) (hk : Kp (MeB b mb vp) w w1) : MsB w1 bm B m := by
 obtain ⟨fa,fc,ra,rc,h1,h2,h3⟩ := h;exact ⟨fa,fc,ra,rc,h1.kp hk (hM.no h1 (by decide) (by decide)),hM.own hk h2 (by decide) (by decide),hM.own hk h3 (by decide) (by decide)⟩
section
variable {s t : ScS}
theorem loop_end {k i : Nat} {l : List Pr} (h : l[i]? = none) : loopE s t k i l = (⟨#[]⟩,0,true) := by
 cases k with
 | zero => rfl
 | succ k => unfold loopE; rw [h]
theorem loop_step {k i : Nat} {l l' : List Pr} {p : Pr} (h : l[i]? = some p) (hr : rowT s t (msG s p.1) (msG t p.2) (tagsM (msG s p.1)) l = (l',none)) (ht : TagOk (msG s p.1)) : loopE s t (k + 1) i l = loopE s t k (i + 1) l' := by
 conv => lhs; unfold loopE
 rw [h];simp only;rw [row_tags ht,hr]
theorem loop_brk {k i : Nat} {l l' : List Pr} {p : Pr} {tag : Int} (h : l[i]? = some p) (hr : rowT s t (msG s p.1) (msG t p.2) (tagsM (msG s p.1)) l = (l',some tag)) (ht : TagOk (msG s p.1)) : loopE s t (k + 1) i l = (p.1,tag,false) := by
 unfold loopE;rw [h];simp only;rw [row_tags ht,hr]
theorem addO_in (hs : OkS s) (ht : OkS t) {A B : ByteArray} {tag : Int} {l : List Pr} {o : Option Pr} (h : PrIn s t l) (ha : atE s t (msG s A) (msG t B) tag = some o) : PrIn s t (addO l o) :=
 ⟨addO_nodup h.1,addO_of h.2 fun q hq => by subst hq; exact at_pair hs ht ha⟩
theorem msG_name {A : ByteArray} (h : A ∈ s.mn) : (msG s A).name = A := by
 unfold msG
 cases hq : msgOf s A with
 | none =>
  obtain ⟨m,hm,rfl⟩ := List.mem_map.1 h;have := List.find?_eq_none.1 hq m hm
  simp at this
 | some m => simpa using List.find?_some hq
theorem msG_few (h : FewL s) (A : ByteArray) : (msG s A).fields.length ≤ 100 ∧ (msG s A).reserved.length ≤ 100 := by
 unfold msG
 cases hq : msgOf s A with
 | none => simp [zMs]
 | some m =>
  have h1 := h.flds m (List.mem_of_find?_eq_some hq);exact ⟨Nat.le_trans h1.1 (by decide),Nat.le_trans h1.2 (by decide)⟩
theorem msG_w (h : ScW s) (A : ByteArray) : ∀ f ∈ (msG s A).fields,f.tname.size ≤ 140737488351232 := by
 unfold msG
 cases hq : msgOf s A with
 | none => simp [zMs]
 | some m => exact fun f hf => ((h.msgs m (List.mem_of_find?_eq_some hq)).2.1 f hf).2.1
end
end
section
open Go.Shelf
def laysSort_ren : Go.Shelf.Ren := ⟨fun | 5 => 48 | 8 => 65 | 7 => 64 | 19 => 82 | 20 => 83 | 10 => 73 | 11 => 74 | 12 => 75 | 13 => 76 | 14 => 77 | 15 => 78 | 16 => 79 | 17 => 80 | 18 => 81 | 30 => 88 | 31 => 89 | 32 => 90 | 33 => 91 | 34 => 92 | 35 => 93 | 40 => 96 | n => n,fun | 23 => 22 | 25 => 3 | 3 => 3 | 32 => 113 | 22 => 22 | 0 => 0 | 44 => 130 | 46 => 132 | 4 => 4 | 36 => 122 | 35 => 121 | 41 => 127 | 5 => 5 | 9 => 9 | 53 => 136 | 57 => 140 | 63 => 144 | 64 => 145 | n => n,fun | n => n⟩
theorem laysSort : Go.Proofs.SlLaysM.n5 Try.prog laysSort_ren := {
 mixed := by kernel_rfl
 f5 := ⟨Try.f48.name,by decide,Try.func48.trans (congrArg some (by kernel_rfl))⟩
 f7 := ⟨Try.f64.name,by decide,Try.func64.trans (congrArg some (by kernel_rfl))⟩
 f8 := Try.func65.trans (congrArg some (by kernel_rfl))
 f10 := ⟨Try.f73.name,by decide,Try.func73.trans (congrArg some (by kernel_rfl))⟩
 f11 := ⟨Try.f74.name,by decide,Try.func74.trans (congrArg some (by kernel_rfl))⟩
 f12 := ⟨Try.f75.name,by decide,Try.func75.trans (congrArg some (by kernel_rfl))⟩
 f13 := ⟨Try.f76.name,by decide,Try.func76.trans (congrArg some (by kernel_rfl))⟩
 f14 := ⟨Try.f77.name,by decide,Try.func77.trans (congrArg some (by kernel_rfl))⟩
 f15 := ⟨Try.f78.name,by decide,Try.func78.trans (congrArg some (by kernel_rfl))⟩
 f16 := ⟨Try.f79.name,by decide,Try.func79.trans (congrArg some (by kernel_rfl))⟩
 f17 := ⟨Try.f80.name,by decide,Try.func80.trans (congrArg some (by kernel_rfl))⟩
 f18 := ⟨Try.f81.name,by decide,Try.func81.trans (congrArg some (by kernel_rfl))⟩
 f19 := Try.func82.trans (congrArg some (by kernel_rfl))
 f20 := Try.func83.trans (congrArg some (by kernel_rfl))
 f30 := ⟨Try.f88.name,by decide,Try.func88.trans (congrArg some (by kernel_rfl))⟩
 f31 := Try.func89.trans (congrArg some (by kernel_rfl))
 f32 := Try.func90.trans (congrArg some (by kernel_rfl))
 f33 := ⟨Try.f91.name,by decide,Try.func91.trans (congrArg some (by kernel_rfl))⟩
 f34 := ⟨Try.f92.name,by decide,Try.func92.trans (congrArg some (by kernel_rfl))⟩
 f35 := ⟨Try.f93.name,by decide,Try.func93.trans (congrArg some (by kernel_rfl))⟩
 f40 := ⟨Try.f96.name,by decide,Try.func96.trans (congrArg some (by kernel_rfl))⟩
 t0 := Try.underlying0
 a0 := Try.isAgg0
 z0 := Try.sizeOf0
 v0 := Try.zeroValue0
 t3 := Try.underlying3
 a3 := Try.isAgg3
 z3 := Try.sizeOf3
 v3 := Try.zeroValue3
 t4 := Try.underlying4
 a4 := Try.isAgg4
 z4 := Try.sizeOf4
 v4 := Try.zeroValue4
 t5 := Try.underlying5
 a5 := Try.isAgg5
 z5 := Try.sizeOf5
 v5 := Try.zeroValue5
 t9 := Try.underlying9
 a9 := Try.isAgg9
 z9 := Try.sizeOf9
 v9 := Try.zeroValue9
 t22 := Try.underlying22
 a22 := Try.isAgg22
 z22 := Try.sizeOf22
 v22 := Try.zeroValue22
 t23 := Try.underlying22
 a23 := Try.isAgg22
 z23 := Try.sizeOf22
 v23 := Try.zeroValue22
 t25 := Try.underlying3
 a25 := Try.isAgg3
 z25 := Try.sizeOf3
 v25 := Try.zeroValue3
 t32 := Try.underlying113
 a32 := Try.isAgg113
 z32 := Try.sizeOf113
 v32 := Try.zeroValue113
 t35 := Try.underlying121
 a35 := Try.isAgg121
 z35 := Try.sizeOf121
 v35 := Try.zeroValue121
 t36 := Try.underlying122
 a36 := Try.isAgg122
 z36 := Try.sizeOf122
 v36 := Try.zeroValue122
 t41 := Try.underlying127
 a41 := Try.isAgg127
 z41 := Try.sizeOf127
 v41 := Try.zeroValue127
 t44 := Try.underlying130
 a44 := Try.isAgg130
 z44 := Try.sizeOf130
 v44 := Try.zeroValue130
 t46 := Try.underlying132
 a46 := Try.isAgg132
 z46 := Try.sizeOf132
 v46 := Try.zeroValue132
 t53 := Try.underlying136
 a53 := Try.isAgg136
 z53 := Try.sizeOf136
 v53 := Try.zeroValue136
 t57 := Try.underlying140
 a57 := Try.isAgg140
 z57 := Try.sizeOf140
 v57 := Try.zeroValue140
 t63 := Try.underlying144
 a63 := Try.isAgg144
 z63 := Try.sizeOf144
 v63 := Try.zeroValue144
 t64 := Try.underlying145
 a64 := Try.isAgg145
 z64 := Try.sizeOf145
 v64 := Try.zeroValue145 }
end
section
open Go.ChangeShapes Go.WideShapes Go.ChangeAt Go.RowKit Go.Maps
theorem own_emptyI {w : World} {g B : Nat} {e : TypeId} {s : Nat} (h : Blk w g #[] e) (hB : B ≤ g) : w.ownsRow B e s (.slice (some ⟨g,0,none⟩) 0 0) 0 [] :=
 ⟨by simp,.inr ⟨g,0,#[],rfl,hB,h,Nat.le_refl _,by decide,by simp,by simp⟩⟩
theorem inr_flat (l : List Int) : (inRows l).flatten = l.map (Value.int .i64) := by
 unfold inRows
 induction l with
 | nil => rfl
 | cons x l ih => simp only [List.map_cons,List.flatten_cons,ih]; rfl
theorem iclone_any {w : World} {v : Value} {l : List Int} (hr : RowG w v 1 (inRows l)) (hl : l.length ≤ 5000) :
  Calls Try.prog 47 #[v] w fun e w' => ∃ r,e = .returned r ∧ w'.ownsRow w.heap.size 3 1 r l.length (l.map (Value.int .i64)) ∧ Below w.heap.size w w' := by
 obtain ⟨a,cap,rfl,h1,h2,h3,h4⟩ := hr.form
 have hN : (inRows l).length = l.length := by simp [inRows]
 rw [hN] at h1 hr ⊢
 cases a with
 | none =>
  have hl0 : l = [] := by
   have h5 := h3 rfl
   have : l.length = 0 := by omega
   exact List.length_eq_zero_iff.1 this
  subst hl0;have := h3 rfl;subst this
  have hq : ∀ W,(binOp .eql 22 (.slice none 0 0) (.slice none 0 0)).run Try.prog W = .ok (.bool true) W := fun W => by kernel_rfl
  simp only [List.length_nil]
  go_enter Try.func47,Try.ntmps47
  go_wp2_with fail;go_ret;exact ⟨_,rfl,World.ownsRow_nil _ _ _ _,Below.refl _ _⟩
 | some a =>
  have hal : Below w.heap.size w (w.alloc (Obj.cells #[] 3)) := (Below.refl _ _).alloc (Nat.le_refl _) _;obtain ⟨v',W4,r1,r2,r3⟩ := run_joinG (w := w.alloc (Obj.cells #[] 3)) 22 22 3 1 8 _ Try.underlying22 infoIn rfl (by decide) w.heap.size (.slice (some ⟨w.heap.size,0,none⟩) 0 0) 0 [] (own_emptyI (Blk.new w _ _) (Nat.le_refl _)) (.slice (some a) l.length cap) (inRows l) (hr.below hal) (inr_len l) (inr_one l) (by omega) (by decide) hal.size;have HRUN : Hid _ := r1;rw [List.nil_append,hN,Nat.zero_add,inr_flat] at r2;have hb4 : Below w.heap.size w W4 := hal.grown r3 hal.size (fun q hq => by simp [Value.ownBlock] at hq; omega);have HO : Hid (W4.ownsRow w.heap.size 3 1 v' l.length (l.map (Value.int .i64))) := r2;obtain ⟨na,nc,hv'⟩ := own_form r2;subst hv';clear r1 r2 r3 hr h3 h4 hN hal;generalize hLn : l.length = Ln at *;have HLn : Hid (l.length = Ln) := hLn;clear hLn
  have hq : ∀ W,(binOp .eql 22 (.slice (some a) Ln cap) (.slice none 0 0)).run Try.prog W = .ok (.bool false) W := fun W => by kernel_rfl
  go_enter Try.func47,Try.ntmps47
  go_wp2_with (first | (at_builtin; refine wpList_ran rfl (append_run rfl rfl rfl HRUN.out) ?_) | fail)
  go_ret;exact ⟨_,rfl,HO.out,hb4⟩
theorem isort_any {w : World} {B : Nat} {v : Value} {l : List Int} (hr : w.ownsRow B 3 1 v l.length (l.map (Value.int .i64))) (hl : l.length ≤ 5000) :
  Calls Try.prog 48 #[v] w fun e w' => e = .returned (.tuple #[]) ∧ w'.ownsRow B 3 1 v l.length ((l.mergeSort fun x y => decide (x ≤ y)).map (Value.int .i64)) ∧ Kp (fun q => v.ownBlock = some q) w w' := by
 rcases hr.2 with ⟨rfl,h0⟩ | ⟨g,cap,cur,rfl,h1,h2,h3,h4,h5,h6⟩
 ·have hl0 : l = [] := List.length_eq_zero_iff.1 h0;subst hl0;have h := AnyM.slices_Sort_int_none laysSort none 0 w;refine Calls.mono h ?_;rintro e w' ⟨rfl,rfl⟩;exact ⟨rfl,by simpa using hr,Kp.refl _ _⟩
 ·have hlt := (Array.getElem?_eq_some_iff.1 h2).1;have h := AnyM.slices_Sort_int laysSort g 0 cap l w (holds_of_blockI h2 (by rw [← h6]; simp)) hlt (by omega);refine Calls.mono h ?_;rintro e w' ⟨rfl,n,os,rfl⟩;refine ⟨rfl,ownsRow_sortedI (List.length_mergeSort _) h1 h2 h3 h4 (by omega),(Kp.refl _ _).grown (grownBy_sortedI _) fun k hk _ => ?_⟩
  cases hk
  rfl
end
end Go.Proofs.Ytdkolhfpfimeoab
