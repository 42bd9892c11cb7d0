/- Part 12 of what the proof stands on. -/
import Derived.Test.YtcjfeandnmochaaGreatDoorPkAK
import Derived.Deep.QuietTactic
import Derived.Deep.RegionWith
namespace Go.Proofs.YtcjfeandnmochaaGreatDoor
open Go.ChangeShapes Go.WideShapes Go.ChangeAt Go.RowKit Go.Maps
set_option linter.unusedVariables false
set_option linter.unusedSimpArgs false
set_option maxRecDepth 20000
set_option maxHeartbeats 4000000 in
theorem r7message_any {w : World} {snm nm : ByteArray} {ae at' : Option Addr} {E ce T ct : Nat} {vm : Value} {ms : List MsS} (hr : MsIn w vm ms)  :
  Calls Tryz.prog 43 #[.agg #[.string snm, vm, .slice ae E ce, .slice at' T ct], .string nm] w fun e w' => ∃ vf vr, e = .returned (.tuple #[.agg #[.string ((ms.find? (fun m => decide (m.name = nm))).getD zeroM).name, vf, vr], .bool (ms.find? (fun m => decide (m.name = nm))).isSome]) ∧ RowG w' vf 5 (flRows ((ms.find? (fun m => decide (m.name = nm))).getD zeroM).fields) ∧ RowG w' vr 1 (inRows ((ms.find? (fun m => decide (m.name = nm))).getD zeroM).reserved) ∧ Below w.heap.size w w' := by
 obtain ⟨a, c, rfl, q1, q2⟩ := hr.form2
 have HR : Hid (MsIn w (.slice a ms.length c) ms) := hr
 obtain ⟨N, hN⟩ : ∃ N, ms.length = N := ⟨_, rfl⟩
 rw [hN] at HR q1 ⊢
 have HN : Hid (ms.length = N) := hN
 clear hN hr
 obtain ⟨A, hA⟩ : ∃ A, (ms.find? (fun m => decide (m.name = nm))) = A := ⟨_, rfl⟩
 rw [hA]
 have HA : Hid (A = ((ms.drop 0).find? (fun m => decide (m.name = nm)))) := hA.symm
 clear hA
 have BX0 : Blk ((w.alloc (.cells #[.string snm, .slice a N c, .slice ae E ce, .slice at' T ct] 27)).alloc (.cells #[.string ⟨#[]⟩, .slice none 0 0, .slice none 0 0] 40)) w.heap.size #[.string snm, .slice a N c, .slice ae E ce, .slice at' T ct] 27 := (Blk.new w _ _).below ((Below.refl _ _).alloc (Nat.le_refl _) _)
 have BR0 : Blk ((w.alloc (.cells #[.string snm, .slice a N c, .slice ae E ce, .slice at' T ct] 27)).alloc (.cells #[.string ⟨#[]⟩, .slice none 0 0, .slice none 0 0] 40)) (w.heap.size + 1) #[.string ⟨#[]⟩, .slice none 0 0, .slice none 0 0] 40 := by
  have := Blk.new (w.alloc (.cells #[.string snm, .slice a N c, .slice ae E ce, .slice at' T ct] 27)) #[.string ⟨#[]⟩, .slice none 0 0, .slice none 0 0] 40
  rwa [show (w.alloc (.cells #[.string snm, .slice a N c, .slice ae E ce, .slice at' T ct] 27)).heap.size = w.heap.size + 1 by simp] at this
 have hb0 : Below w.heap.size w ((w.alloc (.cells #[.string snm, .slice a N c, .slice ae E ce, .slice at' T ct] 27)).alloc (.cells #[.string ⟨#[]⟩, .slice none 0 0, .slice none 0 0] 40)) := ((Below.refl _ _).alloc (Nat.le_refl _) _).alloc (by simp) _
 go_enter Tryz.func43, Tryz.ntmps43
 go_wp2_with fail
 go_loopw [6] (fun iv wr => ∃ k : Nat, iv = .int .i64 (k : Int) ∧ k ≤ N ∧ Hid (A = ((ms.drop k).find? (fun m => decide (m.name = nm)))) ∧ Below w.heap.size w wr ∧ Blk wr (w.heap.size + 1) #[.string ⟨#[]⟩, .slice none 0 0, .slice none 0 0] 40 ∧ Blk wr w.heap.size #[.string snm, .slice a N c, .slice ae E ce, .slice at' T ct] 27) (fun iv _ => N - (intOf iv).toNat)
 case atStart => exact ⟨0, rfl, by omega, HA, hb0, BR0, BX0⟩
 case round =>
  obtain ⟨k, rfl, hk, HAk, hbel, BR, BX⟩ := hrel
  clear BX0 BR0 hb0
  have hlt2 : w.heap.size + 1 < wr.heap.size := BR.lt
  have r0 := (BR.cell 0).trans rfl
  have z0 := BR.froz 0
  have r1 := (BR.cell 1).trans rfl
  have z1 := BR.froz 1
  have r2 := (BR.cell 2).trans rfl
  have z2 := BR.froz 2
  have x1 : wr.cell? ⟨w.heap.size, 1, none⟩ = some (.slice a N c) := BX.cell 1
  by_cases hlt : k < N
  ·obtain ⟨f, hf⟩ : ∃ n, ms[k]? = some n := ⟨_, List.getElem?_eq_getElem (by rw [HN.out]; exact hlt)⟩
   obtain ⟨g, off, vf, vr, rfl, c0', c1', c2', hrf, hrr⟩ := HR.out.get hf
   have c0 := (hbel.cell (World.block_lt_of_cell? _ _ c0')).trans c0'
   have c1 := (hbel.cell (World.block_lt_of_cell? _ _ c1')).trans c1'
   have c2 := (hbel.cell (World.block_lt_of_cell? _ _ c2')).trans c2'
   clear c0' c1' c2'
   have HF : Hid (RowG w vf 5 (flRows f.fields)) := hrf
   have HV : Hid (RowG w vr 1 (inRows f.reserved)) := hrr
   obtain ⟨a3, c3, rfl, _, _⟩ := hrf.form2
   obtain ⟨a4, c4, rfl, _, _⟩ := hrr.form2
   have HF : Hid (RowG w (.slice a3 (flRows f.fields).length c3) 5 (flRows f.fields)) := HF
   have HV : Hid (RowG w (.slice a4 (inRows f.reserved).length c4) 1 (inRows f.reserved)) := HV
   have HA2 : Hid (A = if decide (f.name = nm) = true then some f else ((ms.drop (k + 1)).find? (fun m => decide (m.name = nm)))) := by
    show _ = _
    rw [HAk.out, drop_at hf, List.find?_cons]
    cases decide (f.name = nm) <;> rfl
   obtain ⟨f0, ff, fr⟩ := f
   simp only at c0 c1 c2 HA2 HF HV
   generalize hnF : (flRows ff).length = nF at *
   generalize hnR : (inRows fr).length = nR at *
   clear hrf hrr hf HAk hnF hnR
   by_cases he : f0 = nm
   ·subst he
    have HA3 : Hid (A = some ⟨f0, ff, fr⟩) := by show _ = _; rw [HA2.out, if_pos (by simp)]
    clear HA2
    go_wp2_with fail
    refine bodyPost_ret (results_two rfl _ _ _ ⟨w.heap.size + 1, 0, none⟩ (.agg #[.string f0, .slice a3 nF c3, .slice a4 nR c4]) (by go_simp) (by go_simp)) rfl ?_
    refine ⟨.slice a3 nF c3, .slice a4 nR c4, ret_two (by rw [HA3.out]; rfl) (by rw [HA3.out]; rfl), ?_, ?_, (Below.setCell (Below.setCell (Below.setCell hbel (by simp) _) (by simp) _) (by simp) _)⟩
    ·rw [HA3.out]; exact HF.out.below (Below.setCell (Below.setCell (Below.setCell hbel (by simp) _) (by simp) _) (by simp) _)
    ·rw [HA3.out]; exact HV.out.below (Below.setCell (Below.setCell (Below.setCell hbel (by simp) _) (by simp) _) (by simp) _)
   ·have hq := bytes_ne he
    have HA3 : Hid (A = ((ms.drop (k + 1)).find? (fun m => decide (m.name = nm)))) := by show _ = _; rw [HA2.out, if_neg (by simpa using he)]
    go_wp2_with fail
    go_roundw
    case rel => exact ⟨k + 1, by go_num, by omega, HA3, hbel, BR, BX⟩
    case measure => simp [intOf]; omega
  ·have HA2 : Hid (A = none) := by show _ = _; rw [HAk.out, drop_end (by rw [HN.out]; omega)]; rfl
   go_wp2_with fail
   refine bodyPost_ret (results_two rfl _ _ _ ⟨w.heap.size + 1, 0, none⟩ (.agg #[.string ⟨#[]⟩, .slice none 0 0, .slice none 0 0]) (by go_simp) (by go_simp)) rfl ?_
   exact ⟨.slice none 0 0, .slice none 0 0, ret_two (by rw [HA2.out]; rfl) (by rw [HA2.out]; rfl), by rw [HA2.out]; exact RowG.nil _ _, by rw [HA2.out]; exact RowG.nil _ _, (Below.setCell (Below.setCell (Below.setCell hbel (by simp) _) (by simp) _) (by simp) _)⟩
set_option maxHeartbeats 4000000 in
theorem r7enum_any {w : World} {snm nm : ByteArray} {am at' : Option Addr} {M cm T ct : Nat} {ve : Value} {ms : List EnS} (hr : EnIn w ve ms)  :
  Calls Tryz.prog 152 #[.agg #[.string snm, .slice am M cm, ve, .slice at' T ct], .string nm] w fun e w' => ∃ vv, e = .returned (.tuple #[.agg #[.string ((ms.find? (fun m => decide (m.name = nm))).getD zeroN).name, vv], .bool (ms.find? (fun m => decide (m.name = nm))).isSome]) ∧ RowG w' vv 2 (nmRows ((ms.find? (fun m => decide (m.name = nm))).getD zeroN).values) ∧ Below w.heap.size w w' := by
 obtain ⟨a, c, rfl, q1, q2⟩ := hr.form2
 have HR : Hid (EnIn w (.slice a ms.length c) ms) := hr
 obtain ⟨N, hN⟩ : ∃ N, ms.length = N := ⟨_, rfl⟩
 rw [hN] at HR q1 ⊢
 have HN : Hid (ms.length = N) := hN
 clear hN hr
 obtain ⟨A, hA⟩ : ∃ A, (ms.find? (fun m => decide (m.name = nm))) = A := ⟨_, rfl⟩
 rw [hA]
 have HA : Hid (A = ((ms.drop 0).find? (fun m => decide (m.name = nm)))) := hA.symm
 clear hA
 have BX0 : Blk ((w.alloc (.cells #[.string snm, .slice am M cm, .slice a N c, .slice at' T ct] 27)).alloc (.cells #[.string ⟨#[]⟩, .slice none 0 0] 44)) w.heap.size #[.string snm, .slice am M cm, .slice a N c, .slice at' T ct] 27 := (Blk.new w _ _).below ((Below.refl _ _).alloc (Nat.le_refl _) _)
 have BR0 : Blk ((w.alloc (.cells #[.string snm, .slice am M cm, .slice a N c, .slice at' T ct] 27)).alloc (.cells #[.string ⟨#[]⟩, .slice none 0 0] 44)) (w.heap.size + 1) #[.string ⟨#[]⟩, .slice none 0 0] 44 := by
  have := Blk.new (w.alloc (.cells #[.string snm, .slice am M cm, .slice a N c, .slice at' T ct] 27)) #[.string ⟨#[]⟩, .slice none 0 0] 44
  rwa [show (w.alloc (.cells #[.string snm, .slice am M cm, .slice a N c, .slice at' T ct] 27)).heap.size = w.heap.size + 1 by simp] at this
 have hb0 : Below w.heap.size w ((w.alloc (.cells #[.string snm, .slice am M cm, .slice a N c, .slice at' T ct] 27)).alloc (.cells #[.string ⟨#[]⟩, .slice none 0 0] 44)) := ((Below.refl _ _).alloc (Nat.le_refl _) _).alloc (by simp) _
 go_enter Tryz.func152, Tryz.ntmps152
 go_wp2_with fail
 go_loopw [6] (fun iv wr => ∃ k : Nat, iv = .int .i64 (k : Int) ∧ k ≤ N ∧ Hid (A = ((ms.drop k).find? (fun m => decide (m.name = nm)))) ∧ Below w.heap.size w wr ∧ Blk wr (w.heap.size + 1) #[.string ⟨#[]⟩, .slice none 0 0] 44 ∧ Blk wr w.heap.size #[.string snm, .slice am M cm, .slice a N c, .slice at' T ct] 27) (fun iv _ => N - (intOf iv).toNat)
 case atStart => exact ⟨0, rfl, by omega, HA, hb0, BR0, BX0⟩
 case round =>
  obtain ⟨k, rfl, hk, HAk, hbel, BR, BX⟩ := hrel
  clear BX0 BR0 hb0
  have hlt2 : w.heap.size + 1 < wr.heap.size := BR.lt
  have r0 := (BR.cell 0).trans rfl
  have z0 := BR.froz 0
  have r1 := (BR.cell 1).trans rfl
  have z1 := BR.froz 1
  have x1 : wr.cell? ⟨w.heap.size, 2, none⟩ = some (.slice a N c) := BX.cell 2
  by_cases hlt : k < N
  ·obtain ⟨f, hf⟩ : ∃ n, ms[k]? = some n := ⟨_, List.getElem?_eq_getElem (by rw [HN.out]; exact hlt)⟩
   obtain ⟨g, off, vv, rfl, c0', c1', hrf⟩ := HR.out.get hf
   have c0 := (hbel.cell (World.block_lt_of_cell? _ _ c0')).trans c0'
   have c1 := (hbel.cell (World.block_lt_of_cell? _ _ c1')).trans c1'
   clear c0' c1'
   have HF : Hid (RowG w vv 2 (nmRows f.values)) := hrf
   obtain ⟨a3, c3, rfl, _, _⟩ := hrf.form2
   have HF : Hid (RowG w (.slice a3 (nmRows f.values).length c3) 2 (nmRows f.values)) := HF
   have HA2 : Hid (A = if decide (f.name = nm) = true then some f else ((ms.drop (k + 1)).find? (fun m => decide (m.name = nm)))) := by
    show _ = _
    rw [HAk.out, drop_at hf, List.find?_cons]
    cases decide (f.name = nm) <;> rfl
   obtain ⟨f0, ff⟩ := f
   simp only at c0 c1 HA2 HF
   generalize hnF : (nmRows ff).length = nF at *
   clear hrf hf HAk hnF
   by_cases he : f0 = nm
   ·subst he
    have HA3 : Hid (A = some ⟨f0, ff⟩) := by show _ = _; rw [HA2.out, if_pos (by simp)]
    clear HA2
    go_wp2_with fail
    refine bodyPost_ret (results_two rfl _ _ _ ⟨w.heap.size + 1, 0, none⟩ (.agg #[.string f0, .slice a3 nF c3]) (by go_simp) (by go_simp)) rfl ?_
    refine ⟨.slice a3 nF c3, ret_two (by rw [HA3.out]; rfl) (by rw [HA3.out]; rfl), ?_, (Below.setCell (Below.setCell hbel (by simp) _) (by simp) _)⟩
    rw [HA3.out]; exact HF.out.below (Below.setCell (Below.setCell hbel (by simp) _) (by simp) _)
   ·have hq := bytes_ne he
    have HA3 : Hid (A = ((ms.drop (k + 1)).find? (fun m => decide (m.name = nm)))) := by show _ = _; rw [HA2.out, if_neg (by simpa using he)]
    go_wp2_with fail
    go_roundw
    case rel => exact ⟨k + 1, by go_num, by omega, HA3, hbel, BR, BX⟩
    case measure => simp [intOf]; omega
  ·have HA2 : Hid (A = none) := by show _ = _; rw [HAk.out, drop_end (by rw [HN.out]; omega)]; rfl
   go_wp2_with fail
   refine bodyPost_ret (results_two rfl _ _ _ ⟨w.heap.size + 1, 0, none⟩ (.agg #[.string ⟨#[]⟩, .slice none 0 0]) (by go_simp) (by go_simp)) rfl ?_
   exact ⟨.slice none 0 0, ret_two (by rw [HA2.out]; rfl) (by rw [HA2.out]; rfl), by rw [HA2.out]; exact RowG.nil _ _, (Below.setCell (Below.setCell hbel (by simp) _) (by simp) _)⟩
def stRows (ns : List ByteArray) : List (List Value) := ns.map fun n => [.string n]
theorem memB_cons (x y : ByteArray) (l : List ByteArray) : memB x (y :: l) = (decide (x = y) || memB x l) := by simp [memB]
set_option maxHeartbeats 2000000 in
theorem rfresh_any {w : World} {v : Value} {ns : List ByteArray} (nm : ByteArray) (hs : nm.size ≤ 20000) (hr : RowG w v 1 (stRows ns)) :
  Calls Tryz.prog 42 #[.string nm, v] w fun e w' => e = .returned (.bool (freshB nm ns)) ∧ Below w.heap.size w w' := by
 obtain ⟨a, c, rfl, q1, q2⟩ := hr.form2
 have hN : (stRows ns).length = ns.length := by simp [stRows]
 rw [hN] at hr q1 ⊢
 clear hN
 obtain ⟨N, hN⟩ : ∃ N, ns.length = N := ⟨_, rfl⟩
 rw [hN] at hr q1 ⊢
 have HN : Hid (ns.length = N) := hN
 have HR : Hid (RowG w (.slice a N c) 1 (stRows ns)) := hr
 clear hN hr
 obtain ⟨A, hA⟩ : ∃ A, freshB nm ns = A := ⟨_, rfl⟩
 rw [hA]
 have HA : Hid (A = (nameB nm && !memB nm (ns.drop 0))) := hA.symm
 clear hA
 go_enter Tryz.func42, Tryz.ntmps42
 go_wp2_with fail
 go_loopw [5] (fun iv wr => ∃ k : Nat, iv = .int .i64 (k : Int) ∧ k ≤ N ∧ Hid (A = (nameB nm && !memB nm (ns.drop k))) ∧ Below w.heap.size w wr) (fun iv _ => N - (intOf iv).toNat)
 case atStart => exact ⟨0, rfl, by omega, HA, Below.refl _ _⟩
 case round =>
  obtain ⟨k, rfl, hk, HAk, hbel⟩ := hrel
  by_cases hlt : k < N
  ·obtain ⟨f, hf⟩ : ∃ n, ns[k]? = some n := ⟨_, List.getElem?_eq_getElem (by rw [HN.out]; exact hlt)⟩
   have hrr : (stRows ns)[k]? = some [.string f] := by simp [stRows, hf]
   obtain ⟨g, off, rfl, c1⟩ := (HR.out.below hbel).get hrr
   have HA2 : Hid (A = (nameB nm && !(decide (nm = f) || memB nm (ns.drop (k + 1))))) := by
    show _ = _
    rw [HAk.out, drop_at hf, memB_cons]
   have p0 := c1 0 _ rfl
   simp only [Nat.mul_one, Nat.add_zero] at p0
   clear c1 hrr hf HAk
   by_cases he : f = nm
   ·subst he
    have HA3 : Hid (A = false) := by show _ = _; rw [HA2.out, decide_eq_true rfl]; simp
    clear HA2
    go_wp2_with fail
    go_ret
    exact ⟨ret_bool HA3.out.symm, hbel⟩
   ·have hq := bytes_ne he
    have HA3 : Hid (A = (nameB nm && !memB nm (ns.drop (k + 1)))) := by show _ = _; rw [HA2.out, decide_eq_false (Ne.symm he)]; rfl
    go_wp2_with fail
    go_roundw
    case rel => exact ⟨k + 1, by go_num, by omega, HA3, hbel⟩
    case measure => simp [intOf]; omega
  ·have HA2 : Hid (A = nameB nm) := by show _ = _; rw [HAk.out, drop_end (by rw [HN.out]; omega), memB_nil]; simp
   clear HAk
   go_wp2_with fail
   refine (rfname_any nm _ hs).mono ?_
   rintro e w1 ⟨rfl, hb⟩
   go_wp2_with fail
   go_ret
   exact ⟨ret_bool HA2.out.symm, hbel.trans (hb.mono hbel.size)⟩
theorem find_mn (ms : List MsS) (t : ByteArray) : (ms.find? fun m => decide (m.name = t)).isSome = memB t (ms.map MsS.name) := by
 rw [Bool.eq_iff_iff, List.find?_isSome, memB_iff, List.mem_map]
 simp
theorem find_en (ms : List EnS) (t : ByteArray) : (ms.find? fun m => decide (m.name = t)).isSome = memB t (ms.map EnS.name) := by
 rw [Bool.eq_iff_iff, List.find?_isSome, memB_iff, List.mem_map]
 simp
set_option maxHeartbeats 2000000 in
theorem r7kind_any {w : World} {snm t : ByteArray} {am ae at' : Option Addr} {M cm E ce T ct : Nat} {ms : List MsS} {es : List EnS} (k : Int) (hm : MsIn w (.slice am M cm) ms) (he : EnIn w (.slice ae E ce) es) :
  Calls Tryz.prog 124 #[.agg #[.string snm, .slice am M cm, .slice ae E ce, .slice at' T ct], .agg #[.int .i64 k, .string t]] w fun e w' => e = .returned (.bool (typeB (ms.map MsS.name) (es.map EnS.name) k t)) ∧ Below w.heap.size w w' := by
 have HM : Hid (MsIn w (.slice am M cm) ms) := hm
 have HE : Hid (EnIn w (.slice ae E ce) es) := he
 clear hm he
 have hb0 : Below w.heap.size w ((w.alloc (.cells #[.string snm, .slice am M cm, .slice ae E ce, .slice at' T ct] 27)).alloc (.cells #[.int .i64 k, .string t] 88)) := ((Below.refl _ _).alloc (Nat.le_refl _) _).alloc (by simp) _
 obtain ⟨A, hA⟩ : ∃ A, typeB (ms.map MsS.name) (es.map EnS.name) k t = A := ⟨_, rfl⟩
 rw [hA]
 have HA : Hid (A = typeB (ms.map MsS.name) (es.map EnS.name) k t) := hA.symm
 clear hA
 by_cases hk : 1 ≤ k ∧ k ≤ 5
 ·have HA2 : Hid (A = decide (t = ⟨#[]⟩)) := by
   show _ = _
   rw [HA.out]
   unfold typeB
   rw [decide_eq_true hk, decide_eq_false (by omega : ¬ k = 6), decide_eq_false (by omega : ¬ k = 7)]
   simp
  clear HA
  have hc : k = 1 ∨ k = 2 ∨ k = 3 ∨ k = 4 ∨ k = 5 := by omega
  clear hk
  by_cases ht : t = ⟨#[]⟩
  ·have HA3 : Hid (A = true) := by show _ = _; rw [HA2.out]; simp [ht]
   clear HA2
   subst ht
   rcases hc with rfl | rfl | rfl | rfl | rfl
   all_goals
    go_enter Tryz.func124, Tryz.ntmps124
    go_wp2_with fail
    go_ret
    exact ⟨ret_bool HA3.out.symm, hb0⟩
  ·have HA3 : Hid (A = false) := by show _ = _; rw [HA2.out]; simp [ht]
   have hq : Hid (t.toList.isEmpty = false) := by
    show _ = _
    cases h : t.toList.isEmpty with
    | false => rfl
    | true =>
     rw [List.isEmpty_iff] at h
     refine absurd ((bytes_eq_iff _ _).2 ?_) ht
     rw [← ByteArray.toList_eq, h]
   clear HA2 ht
   rcases hc with rfl | rfl | rfl | rfl | rfl
   all_goals
    go_enter Tryz.func124, Tryz.ntmps124
    go_wp2_with fail
    go_ret
    exact ⟨ret_bool (hq.out.trans HA3.out.symm), hb0⟩
 by_cases hk6 : k = 6
 ·subst hk6
  have HA2 : Hid (A = (es.find? fun m => decide (m.name = t)).isSome) := by
   show _ = _
   rw [HA.out, find_en]
   unfold typeB
   simp
  clear HA hk
  go_enter Tryz.func124, Tryz.ntmps124
  go_wp2_with fail
  refine (r7enum_any (HE.out.below hb0)).mono ?_
  rintro e w1 ⟨vv, rfl, h1, hb⟩
  obtain ⟨xa, xc, rfl, _, _⟩ := h1.form2
  rw [← HA2.out]
  generalize ((es.find? fun m => decide (m.name = t)).getD zeroN).name = xn at *
  generalize (nmRows ((es.find? fun m => decide (m.name = t)).getD zeroN).values).length = xl at *
  have hb1 : Below w.heap.size w (w1.alloc (.cells #[.string xn, .slice xa xl xc] 44)) := (hb0.trans (hb.mono hb0.size)).alloc (hb0.trans (hb.mono hb0.size)).size _
  clear h1 hb
  go_wp2_with fail
  go_ret
  exact ⟨rfl, hb1⟩
 by_cases hk7 : k = 7
 ·subst hk7
  have HA2 : Hid (A = (ms.find? fun m => decide (m.name = t)).isSome) := by
   show _ = _
   rw [HA.out, find_mn]
   unfold typeB
   simp
  clear HA hk hk6
  go_enter Tryz.func124, Tryz.ntmps124
  go_wp2_with fail
  refine (r7message_any (HM.out.below hb0)).mono ?_
  rintro e w1 ⟨vf, vr, rfl, h1, h2, hb⟩
  obtain ⟨xa, xc, rfl, _, _⟩ := h1.form2
  obtain ⟨ya, yc, rfl, _, _⟩ := h2.form2
  rw [← HA2.out]
  generalize ((ms.find? fun m => decide (m.name = t)).getD zeroM).name = xn at *
  generalize (flRows ((ms.find? fun m => decide (m.name = t)).getD zeroM).fields).length = xl at *
  generalize (inRows ((ms.find? fun m => decide (m.name = t)).getD zeroM).reserved).length = yl at *
  have hb1 : Below w.heap.size w (w1.alloc (.cells #[.string xn, .slice xa xl xc, .slice ya yl yc] 40)) := (hb0.trans (hb.mono hb0.size)).alloc (hb0.trans (hb.mono hb0.size)).size _
  clear h1 h2 hb
  go_wp2_with fail
  go_ret
  exact ⟨rfl, hb1⟩
 have HA2 : Hid (A = false) := by
  show _ = _
  rw [HA.out]
  unfold typeB
  rw [decide_eq_false hk, decide_eq_false hk6, decide_eq_false hk7]
  simp
 have k1 : (k == 1) = false := by rw [beq_eq_false_iff_ne]; omega
 have k2 : (k == 2) = false := by rw [beq_eq_false_iff_ne]; omega
 have k3 : (k == 3) = false := by rw [beq_eq_false_iff_ne]; omega
 have k4 : (k == 4) = false := by rw [beq_eq_false_iff_ne]; omega
 have k5 : (k == 5) = false := by rw [beq_eq_false_iff_ne]; omega
 have k6 : (k == 6) = false := by rw [beq_eq_false_iff_ne]; omega
 have k7 : (k == 7) = false := by rw [beq_eq_false_iff_ne]; omega
 clear HA hk hk6 hk7
 go_enter Tryz.func124, Tryz.ntmps124
 go_wp2_with fail
 go_ret
 exact ⟨ret_bool HA2.out.symm, hb0⟩
end Go.Proofs.YtcjfeandnmochaaGreatDoor
namespace Go.Proofs.YtcjfeandnmochaaGreatDoor
open Go.ChangeShapes Go.WideShapes Go.ChangeAt Go.RowKit
set_option linter.unusedVariables false
set_option linter.unusedSimpArgs false
set_option maxRecDepth 20000
theorem RowG.blk {w : World} {b : Nat} {cs : Array Value} {t : TypeId} {size n : Nat} {rs : List (List Value)} (h : Blk w b cs t) (hc : cs.toList = rs.flatten) (hl : ∀ r ∈ rs, r.length = size) (hn : rs.length = n) (hm : n ≤ 1000000) : RowG w (.slice (some ⟨b, 0, none⟩) n n) size rs := by
 subst hn
 refine ⟨some ⟨b, 0, none⟩, rs.length, rfl, Nat.le_refl _, by unfold maxLen; omega, (fun e => by cases e), fun _ => ⟨b, 0, rfl, fun i c u j hi hj => ?_⟩⟩
 rw [h.cell, ← Array.getElem?_toList, hc, Nat.zero_add]
 exact flat_get rs hl i c hi j u hj
theorem Blk.newAt {w : World} {b : Nat} {cs : Array Value} {t : TypeId} (h : w.heap.size = b) : Blk (w.alloc (.cells cs t)) b cs t := by subst h; exact Blk.new w cs t
theorem Blk.up {w : World} {b : Nat} {cs : Array Value} {t : TypeId} (h : Blk w b cs t) (o : Obj) : Blk (w.alloc o) b cs t := h.below ((Below.refl _ _).alloc (Nat.le_refl _) _)
end Go.Proofs.YtcjfeandnmochaaGreatDoor
namespace Go.Proofs.YtcjfeandnmochaaGreatDoor
open Go.ChangeShapes Go.WideShapes Go.ChangeAt Go.RowKit Go.Maps
set_option linter.unusedVariables false
set_option linter.unusedSimpArgs false
set_option maxRecDepth 20000
theorem ret_e {a b : Int} (h : a = b) : Ending.returned (.int .i64 a) = .returned (.int .i64 b) := by rw [h]
theorem infoSt : (Tryz.prog.info? 9).map (fun i => (i.zero, i.size, i.bytes)) = some (some (.string ⟨#[]⟩), 1, 16) := by kernel_rfl
theorem str_len (ns : List ByteArray) : ∀ r ∈ stRows ns, r.length = 1 := fun r hr => by simp only [stRows, List.mem_map] at hr; obtain ⟨_, _, rfl⟩ := hr; rfl
def Seen (w : World) (B : Nat) (v : Value) (al : List ByteArray) : Prop := w.ownsRow B 9 1 v al.length (stRows al).flatten
theorem Seen.nil (w : World) (B : Nat) : Seen w B (.slice none 0 0) [] := World.ownsRow_nil _ _ _ _
theorem Seen.row {w : World} {B : Nat} {v : Value} {al : List ByteArray} (h : Seen w B v al) : RowG w v 1 (stRows al) := (RowG.own (str_len al) (by decide) h).1
theorem Seen.below {w w' : World} {B : Nat} {v : Value} {al : List ByteArray} (h : Seen w B v al) (hb : Below w.heap.size w w') : Seen w' B v al := own_below h hb
theorem Seen.form {w : World} {B : Nat} {v : Value} {al : List ByteArray} (h : Seen w B v al) : ∃ a c, v = .slice a al.length c := own_form h
theorem Seen.snoc {w : World} {B : Nat} {v : Value} {al : List ByteArray} {x : ByteArray} (h : w.ownsRow B 9 1 v (al.length + 1) ((stRows al).flatten ++ [.string x])) : Seen w B v (al ++ [x]) := by
 show World.ownsRow _ _ _ _ _ _ _
 rw [show (al ++ [x]).length = al.length + 1 by simp, show (stRows (al ++ [x])).flatten = (stRows al).flatten ++ [.string x] by simp [stRows]]
 exact h
theorem wpList_seen {w : World} {ops : Array Oper} {rest : List Oper} {o : Oper} {a : Act} {Q : Exit → Act → World → Prop} {B : Nat} {v : Value} {al : List ByteArray} {x : ByteArray} (hgd : o.guard = none) (s y : Operand)
  (ho : o.op = .call { callee := .builtin .append, args := #[s, y], argTypes := #[91, 91] }) (hs : a.eval s = v) (hy : a.eval y = .slice (some ⟨w.heap.size, 0, none⟩) 1 1) (hown : Seen w B v al) (hB : B ≤ w.heap.size) (hn : al.length ≤ 100000)
  (h : ∀ v' w', Seen w' B v' (al ++ [x]) → Kp (fun k => v.ownBlock = some k) w w' → Below B w w' → wpList Tryz.prog ops Q rest (a.put o.dst v') w') : wpList Tryz.prog ops Q (o :: rest) a (w.alloc (.cells #[.string x] 9)) := by
 have hba : Below w.heap.size w (w.alloc (.cells #[.string x] 9)) := (Below.refl _ _).alloc (Nat.le_refl _) _
 refine wpList_joinG hgd s y 91 9 1 16 _ ho Tryz.underlying91 infoSt rfl (by decide) B v al.length (stRows al).flatten hs (own_below hown hba) (.slice (some ⟨w.heap.size, 0, none⟩) 1 1) [[.string x]] hy (RowG.blk (Blk.new w _ _) rfl (by simp) rfl (by omega)) (by simp) (by simp [Value.oneCell']) (by simp; omega) (by decide) (Nat.le_trans hB hba.size) ?_
 intro v' w' ho' hg
 refine h v' w' (Seen.snoc (by simpa using ho')) ?_ ?_
 ·exact (Kp.ofBelow hba).trans ((Kp.refl _ _).grown hg (fun k hk _ => hk))
 ·exact ((Below.refl B w).alloc hB _).grown hg (by have := hba.size; omega) (fun k hk => ((own_below hown hba).lt k hk).1)
theorem chkEb_big {e : EnS} (h : 16 < e.values.length) : chkEb e = 4 := by unfold chkEb; rw [if_pos h]
set_option maxHeartbeats 4000000 in
theorem rfenum_any {w : World} {vv : Value} {nm : ByteArray} {vs : List NmS} (hr : RowG w vv 2 (nmRows vs)) (hl : vs.length ≤ 30000) (hw : ∀ f ∈ vs, f.name.size ≤ 20000) :
  Calls Tryz.prog 89 #[.agg #[.string nm, vv]] w fun e w' => e = .returned (.int .i64 (chkEb ⟨nm, vs⟩)) ∧ Below w.heap.size w w' := by
 obtain ⟨a, c, rfl, q1, q2⟩ := hr.form2
 have hN : (nmRows vs).length = vs.length := by simp [nmRows]
 rw [hN] at q1 hr ⊢
 obtain ⟨N, hN2⟩ : ∃ N, vs.length = N := ⟨_, rfl⟩
 rw [hN2] at q1 hr hl ⊢
 have HN : Hid (vs.length = N) := hN2
 have HR : Hid (RowG w (.slice a N c) 2 (nmRows vs)) := hr
 have HW : Hid (∀ f ∈ vs, f.name.size ≤ 20000) := hw
 clear hr hN hN2 hw
 obtain ⟨A, hA⟩ : ∃ A, chkEb ⟨nm, vs⟩ = A := ⟨_, rfl⟩
 rw [hA]
 have HA : Hid (A = chkEb ⟨nm, vs⟩) := hA.symm
 clear hA
 have hba : Below w.heap.size w (w.alloc (.cells #[.string nm, .slice a N c] 44)) := (Below.refl _ _).alloc (Nat.le_refl _) _
 have BX := Blk.new w #[.string nm, .slice a N c] 44
 by_cases hbig : 16 < N
 ·have HA2 : Hid (A = 4) := by show _ = _; rw [HA.out]; exact chkEb_big (by show 16 < vs.length; rw [HN.out]; exact hbig)
  go_enter Tryz.func89, Tryz.ntmps89
  go_wp2_with fail
  go_ret
  exact ⟨ret_e HA2.out.symm, hba⟩
 have HA1 : Hid (A = if zeroV vs = false then 12 else chkVs [] [] vs) := by
  show _ = _
  rw [HA.out]; unfold chkEb
  rw [if_neg (by show ¬ 16 < vs.length; rw [HN.out]; exact hbig)]
  rfl
 clear HA
 go_enter Tryz.func89, Tryz.ntmps89
 go_wp2_with fail
 generalize w.alloc (.cells #[.string nm, .slice a N c] 44) = wb at *
 go_loopw [3, 4] (fun zv iv wr => ∃ (k : Nat) (z : Bool), zv = .bool z ∧ iv = .int .i64 (k : Int) ∧ k ≤ N ∧ Hid (zeroV vs = (z || zeroV (vs.drop k))) ∧ wr = wb) (fun _ iv _ => N - (intOf iv).toNat)
 case atStart => exact ⟨0, false, rfl, rfl, by omega, by show _ = _; simp, rfl⟩
 case round =>
  obtain ⟨k, z, rfl, rfl, hk, HZ, rfl⟩ := hrel
  have x1 : wr.cell? ⟨w.heap.size, 1, none⟩ = some (.slice a N c) := BX.cell 1
  by_cases hlt : k < N
  ·obtain ⟨f, hf⟩ : ∃ n, vs[k]? = some n := ⟨_, List.getElem?_eq_getElem (by rw [HN.out]; exact hlt)⟩
   have hrr : (nmRows vs)[k]? = some f.cells := by simp [nmRows, hf]
   obtain ⟨g, off, rfl, c1⟩ := (HR.out.below hba).get hrr
   obtain ⟨f0, f1⟩ := f
   have HZ2 : Hid (zeroV vs = (z || (decide (f1 = 0) || zeroV (vs.drop (k + 1))))) := by
    show _ = _
    rw [HZ.out, drop_at hf]; rfl
   have p1 := c1 1 _ rfl
   clear c1 hrr hf HZ
   cases z with
   | true =>
    have HZ3 : Hid (zeroV vs = (true || zeroV (vs.drop (k + 1)))) := by show _ = _; rw [HZ2.out]; rfl
    go_wp2_with fail
    go_roundw
    case rel => exact ⟨k + 1, true, rfl, by go_num, by omega, HZ3, trivial⟩
    case measure => simp [intOf]; omega
   | false =>
    by_cases h0 : f1 = 0
    ·subst h0
     have HZ3 : Hid (zeroV vs = (true || zeroV (vs.drop (k + 1)))) := by show _ = _; rw [HZ2.out]; rfl
     go_wp2_with fail
     go_roundw
     case rel => exact ⟨k + 1, true, rfl, by go_num, by omega, HZ3, trivial⟩
     case measure => simp [intOf]; omega
    ·have hq : (f1 == 0) = false := by rw [beq_eq_false_iff_ne]; exact h0
     have HZ3 : Hid (zeroV vs = (false || zeroV (vs.drop (k + 1)))) := by show _ = _; rw [HZ2.out, decide_eq_false h0]; rfl
     go_wp2_with fail
     go_roundw
     case rel => exact ⟨k + 1, false, rfl, by go_num, by omega, HZ3, trivial⟩
     case measure => simp [intOf]; omega
  ·have HZ2 : Hid (zeroV vs = z) := by show _ = _; rw [HZ.out, drop_end (by rw [HN.out]; omega)]; simp [zeroV]
   clear HZ
   cases z with
   | false =>
    have HA2 : Hid (A = 12) := by show _ = _; rw [HA1.out, HZ2.out]; rfl
    clear HA1 HZ2
    go_wp2_with fail
    go_ret
    exact ⟨ret_e HA2.out.symm, hba⟩
   | true =>
    have HA2 : Hid (A = chkVs [] ((vs.take 0).map NmS.n) (vs.drop 0)) := by show _ = _; rw [HA1.out, HZ2.out]; rfl
    clear HA1 HZ2
    go_wp2_with fail
    clear x1
    have HS0 : Hid (Seen wr w.heap.size (.slice none 0 0) []) := Seen.nil _ _
    go_loopw [5, 6] (fun nv iv wr => ∃ (k : Nat) (al : List ByteArray) (sa : Option Addr) (sc : Nat), nv = .slice sa k sc ∧ iv = .int .i64 (k : Int) ∧ k ≤ N ∧ Hid (al.length = k) ∧ Hid (A = chkVs al ((vs.take k).map NmS.n) (vs.drop k)) ∧ Hid (Seen wr w.heap.size (.slice sa k sc) al) ∧ Below w.heap.size w wr ∧ Blk wr w.heap.size #[.string nm, .slice a N c] 44) (fun _ iv _ => N - (intOf iv).toNat)
    case atStart => exact ⟨0, [], none, 0, rfl, rfl, by omega, rfl, HA2, HS0, hba, BX⟩
    case round =>
     clear HA2 HS0 hba BX hlt hk
     obtain ⟨k, al, sa, sc, rfl, rfl, hk, HK, HAk, HSE, hbel, BX⟩ := hrel
     have x1 : wr.cell? ⟨w.heap.size, 1, none⟩ = some (.slice a N c) := BX.cell 1
     by_cases hlt : k < N
     ·obtain ⟨f, hf⟩ : ∃ n, vs[k]? = some n := ⟨_, List.getElem?_eq_getElem (by rw [HN.out]; exact hlt)⟩
      have hrr : (nmRows vs)[k]? = some f.cells := by simp [nmRows, hf]
      obtain ⟨g, off, rfl, c1⟩ := (HR.out.below hbel).get hrr
      have hsz := HW.out _ (List.mem_of_getElem? hf)
      obtain ⟨f0, f1⟩ := f
      simp only at hsz
      have HA3 : Hid (A = if freshB f0 al = false then 6 else if numB f1 ((vs.take k).map NmS.n) = false then 11 else chkVs (al ++ [f0]) ((vs.take k).map NmS.n ++ [f1]) (vs.drop (k + 1))) := by
       show _ = _
       rw [HAk.out, drop_at hf]; rfl
      have HT : Hid ((vs.take (k + 1)).map NmS.n = (vs.take k).map NmS.n ++ [f1]) := by
       show _ = _
       rw [List.take_add_one, hf]; simp
      have p0 := c1 0 _ rfl
      have p1 := c1 1 _ rfl
      simp only [Nat.add_zero] at p0 p1
      have ha : Below wr.heap.size wr (wr.alloc (.cells #[.string f0, .int .i64 f1] 96)) := (Below.refl _ _).alloc (Nat.le_refl _) _
      have BV := Blk.new wr #[.string f0, .int .i64 f1] 96
      clear c1 hrr hf HAk
      go_wp2_with fail
      clear x1 p0 p1
      refine (rfresh_any f0 hsz (HSE.out.below ha).row).mono ?_
      rintro e w1 ⟨rfl, hb1⟩
      have hbw1 : Below w.heap.size w w1 := (hbel.trans (ha.mono hbel.size)).trans (hb1.mono (hbel.trans (ha.mono hbel.size)).size)
      have HS1 : Hid (Seen w1 w.heap.size (.slice sa k sc) al) := (HSE.out.below ha).below hb1
      have BX1 := (BX.below ha).below hb1
      have BV1 := BV.below hb1
      clear BV ha hb1 HSE
      cases hfr : freshB f0 al with
      | false =>
       have HA4 : Hid (A = 6) := by show _ = _; rw [HA3.out, if_pos hfr]
       clear HA3
       go_wp2_with fail
       go_ret
       exact ⟨ret_e HA4.out.symm, hbw1⟩
      | true =>
       have HA4 : Hid (A = if numB f1 ((vs.take k).map NmS.n) = false then 11 else chkVs (al ++ [f0]) ((vs.take k).map NmS.n ++ [f1]) (vs.drop (k + 1))) := by show _ = _; rw [HA3.out, if_neg (by rw [hfr]; decide)]
       clear HA3 hfr
       obtain ⟨bv, hbv⟩ : ∃ n, wr.heap.size = n := ⟨_, rfl⟩
       rw [hbv] at BV1 ⊢
       clear hbv hbel BX
       have v0 : w1.cell? ⟨bv, 0, none⟩ = some (.string f0) := BV1.cell 0
       go_wp2_with (first
        | (at_builtin; refine wpList_seen (al := al) (x := f0) rfl _ _ rfl rfl rfl HS1.out ?c1 ?c2 ?_)
        | fail)
       case c1 => exact hbw1.size
       case c2 => rw [HK.out]; omega
       intro v' w2 hS2 hK2 hB2
       obtain ⟨ta, tc, rfl⟩ := hS2.form
       have hl2 : (al ++ [f0]).length = k + 1 := by rw [List.length_append, HK.out]; rfl
       rw [hl2] at hS2 ⊢
       have HS2 : Hid (Seen w2 w.heap.size (.slice ta (k + 1) tc) (al ++ [f0])) := hS2
       have HK2 : Hid ((al ++ [f0]).length = k + 1) := hl2
       have hb2 : Below w.heap.size w w2 := hbw1.trans hB2
       have BX2 := BX1.kp hK2 (fun e => absurd (own_type HS1.out e BX1) (by decide))
       have BV2 := BV1.kp hK2 (fun e => absurd (own_type HS1.out e BV1) (by decide))
       have v1 : w2.cell? ⟨bv, 1, none⟩ = some (.int .i64 f1) := BV2.cell 1
       clear v0 hS2 hl2 hK2 hB2 BX1 BV1 HS1 hbw1 HK
       by_cases hlo : f1 < 0
       ·have HA5 : Hid (A = 11) := by show _ = _; rw [HA4.out, if_pos (by unfold numB; rw [numR_low hlo]; rfl)]
        clear HA4
        go_wp2_with fail
        go_ret
        exact ⟨ret_e HA5.out.symm, hb2⟩
       by_cases hhi : 2147483647 < f1
       ·have HA5 : Hid (A = 11) := by show _ = _; rw [HA4.out, if_pos (by unfold numB; rw [numR_high hhi]; rfl)]
        clear HA4
        go_wp2_with fail
        go_ret
        exact ⟨ret_e HA5.out.symm, hb2⟩
       have HNR : Hid (numR f1 = true) := numR_in hlo hhi
       go_wp2_with fail
       clear v1
       go_loopw [8] (fun jv wr => ∃ j : Nat, jv = .int .i64 (j : Int) ∧ j ≤ k ∧ Hid (memI f1 ((vs.take j).map NmS.n) = false) ∧ Below w2.heap.size w2 wr) (fun jv _ => k - (intOf jv).toNat)
       case atStart => exact ⟨0, rfl, by omega, by show _ = _; simp [memI], Below.refl _ _⟩
       case round =>
        obtain ⟨j, rfl, hj, HJ, hb3⟩ := hrel
        have hbw3 : Below w.heap.size w wr := hb2.trans (hb3.mono hb2.size)
        by_cases hltj : j < k
        ·obtain ⟨f', hf'⟩ : ∃ n, vs[j]? = some n := ⟨_, List.getElem?_eq_getElem (by rw [HN.out]; omega)⟩
         have hrr : (nmRows vs)[j]? = some f'.cells := by simp [nmRows, hf']
         obtain ⟨g', off', heq, c1⟩ := (HR.out.below hbw3).get hrr
         simp only [Option.some.injEq, Addr.mk.injEq, and_true] at heq
         obtain ⟨rfl, rfl⟩ := heq
         obtain ⟨e0, e1⟩ := f'
         have HJ2 : Hid (memI f1 ((vs.take (j + 1)).map NmS.n) = (memI f1 ((vs.take j).map NmS.n) || decide (f1 = e1))) := by
          show _ = _
          rw [List.take_add_one, hf']; simp only [List.map_append, Option.toList_some, List.map_cons, List.map_nil]; exact memI_snoc _ _ _
         have HJM : Hid (e1 ∈ (vs.take k).map NmS.n) := List.mem_map.2 ⟨⟨e0, e1⟩, List.mem_of_getElem? (i := j) (by rw [List.getElem?_take_of_lt hltj]; exact hf'), rfl⟩
         have p1 := c1 1 _ rfl
         have x1 : wr.cell? ⟨w.heap.size, 1, none⟩ = some (.slice (some ⟨g, off, none⟩) N c) := (BX2.below hb3).cell 1
         have v1 : wr.cell? ⟨bv, 1, none⟩ = some (.int .i64 f1) := (BV2.below hb3).cell 1
         clear c1 hrr hf'
         by_cases he : e1 = f1
         ·subst he
          have HA5 : Hid (A = 11) := by show _ = _; rw [HA4.out, if_pos (by unfold numB memI; rw [decide_eq_true HJM.out]; simp)]
          clear HA4
          go_wp2_with fail
          go_quiet (fail)
          go_wp2_with fail
          go_ret
          exact ⟨ret_e HA5.out.symm, below_drewN nq hbw3⟩
         ·have hq : (e1 == f1) = false := by rw [beq_eq_false_iff_ne]; exact he
          have HJ3 : Hid (memI f1 ((vs.take (j + 1)).map NmS.n) = false) := by show _ = _; rw [HJ2.out, HJ.out, decide_eq_false (Ne.symm he)]; rfl
          go_wp2_with fail
          go_quiet (fail)
          go_wp2_with fail
          go_roundw
          case rel => exact ⟨j + 1, by go_num, by omega, HJ3, below_drewN nq hb3⟩
          case measure => simp [intOf]; omega
        ·have hjk : j = k := by omega
         rw [hjk] at HJ
         have HA5 : Hid (A = chkVs (al ++ [f0]) ((vs.take (k + 1)).map NmS.n) (vs.drop (k + 1))) := by
          show _ = _
          rw [HA4.out, if_neg (by unfold numB; rw [HNR.out, HJ.out]; decide), HT.out]
         have HS3 : Hid (Seen wr w.heap.size (.slice ta (k + 1) tc) (al ++ [f0])) := HS2.out.below hb3
         have BX3 := BX2.below hb3
         clear hjk HA4 HJ BX2 BV2 HS2 hb3 hb2
         go_wp2_with fail
         go_roundw
         case rel => exact ⟨k + 1, al ++ [f0], ta, tc, rfl, by go_num, by omega, HK2, HA5, HS3, hbw3, BX3⟩
         case measure => simp [intOf]; omega
     ·have HA3 : Hid (A = 0) := by show _ = _; rw [HAk.out, drop_end (by rw [HN.out]; omega)]; rfl
      clear HAk
      go_wp2_with fail
      go_ret
      exact ⟨ret_e HA3.out.symm, hbel⟩
theorem memI_cons' (x y : Int) (l : List Int) : memI x (y :: l) = (decide (x = y) || memI x l) := by simp [memI, Bool.decide_or]
set_option maxHeartbeats 2000000 in
theorem rreserved_any {w : World} {v : Value} {ns : List Int} {snm : ByteArray} {af : Option Addr} {F cf : Nat} (t : Int) (hr : RowG w v 1 (inRows ns)) :
  Calls Tryz.prog 122 #[.agg #[.string snm, .slice af F cf, v], .int .i64 t] w fun e w' => e = .returned (.bool (memI t ns)) ∧ Below w.heap.size w w' := by
 obtain ⟨a, c, rfl, q1, q2⟩ := hr.form2
 have hN : (inRows ns).length = ns.length := by simp [inRows]
 rw [hN] at hr q1 ⊢
 clear hN
 obtain ⟨N, hN⟩ : ∃ N, ns.length = N := ⟨_, rfl⟩
 rw [hN] at hr q1 ⊢
 have HN : Hid (ns.length = N) := hN
 have HR : Hid (RowG w (.slice a N c) 1 (inRows ns)) := hr
 clear hN hr
 obtain ⟨A, hA⟩ : ∃ A, memI t ns = A := ⟨_, rfl⟩
 rw [hA]
 have HA : Hid (A = memI t ns) := hA.symm
 clear hA
 have hb0 : Below w.heap.size w (w.alloc (.cells #[.string snm, .slice af F cf, .slice a N c] 40)) := (Below.refl _ _).alloc (Nat.le_refl _) _
 have BX0 := Blk.new w #[.string snm, .slice af F cf, .slice a N c] 40
 go_enter Tryz.func122, Tryz.ntmps122
 go_wp2_with fail
 go_loopw [5] (fun iv wr => ∃ k : Nat, iv = .int .i64 (k : Int) ∧ k ≤ N ∧ Hid (A = memI t (ns.drop k)) ∧ Below w.heap.size w wr ∧ Blk wr w.heap.size #[.string snm, .slice af F cf, .slice a N c] 40) (fun iv _ => N - (intOf iv).toNat)
 case atStart => exact ⟨0, rfl, by omega, HA, hb0, BX0⟩
 case round =>
  obtain ⟨k, rfl, hk, HAk, hbel, BX⟩ := hrel
  clear hb0 BX0
  have b2 : wr.cell? ⟨w.heap.size, 2, none⟩ = some (.slice a N c) := BX.cell 2
  by_cases hlt : k < N
  ·obtain ⟨f, hf⟩ : ∃ n, ns[k]? = some n := ⟨_, List.getElem?_eq_getElem (by rw [HN.out]; exact hlt)⟩
   have hrr : (inRows ns)[k]? = some [.int .i64 f] := by simp [inRows, hf]
   obtain ⟨g, off, rfl, c1⟩ := (HR.out.below hbel).get hrr
   have HA2 : Hid (A = (decide (t = f) || memI t (ns.drop (k + 1)))) := by
    show _ = _
    rw [HAk.out, drop_at hf, memI_cons']
   have p0 := c1 0 _ rfl
   simp only [Nat.mul_one, Nat.add_zero] at p0
   clear c1 hrr hf HAk
   by_cases he : t = f
   ·subst he
    have HA3 : Hid (A = true) := by show _ = _; rw [HA2.out, decide_eq_true rfl]; rfl
    clear HA2
    go_wp2_with fail
    go_ret
    exact ⟨ret_bool HA3.out.symm, hbel⟩
   ·have hq : (f == t) = false := by simpa using Ne.symm he
    have HA3 : Hid (A = memI t (ns.drop (k + 1))) := by show _ = _; rw [HA2.out, decide_eq_false he]; rfl
    go_wp2_with fail
    go_roundw
    case rel => exact ⟨k + 1, by go_num, by omega, HA3, hbel, BX⟩
    case measure => simp [intOf]; omega
  ·go_wp2_with fail
   go_ret
   exact ⟨ret_bool (by rw [HAk.out, drop_end (by rw [HN.out]; omega)]; rfl), hbel⟩
set_option maxHeartbeats 2000000 in
theorem r7field_any {w : World} {snm : ByteArray} {nm : Int} {am : Option Addr} {M cm : Nat} {vt : Value} {ts : List FlS} (hr : RowG w vt 5 (flRows ts)) :
  Calls Tryz.prog 123 #[.agg #[.string snm, vt, .slice am M cm], .int .i64 nm] w fun e w' => e = .returned (.tuple #[flV ((ts.find? fun m => decide (m.tag = nm)).getD zeroF), .bool (ts.find? fun m => decide (m.tag = nm)).isSome]) ∧ Below w.heap.size w w' := by
 obtain ⟨a, c, rfl, q1, q2⟩ := hr.form2
 have hN : (flRows ts).length = ts.length := by simp [flRows]
 rw [hN] at hr q1 ⊢
 clear hN
 obtain ⟨N, hN⟩ : ∃ N, ts.length = N := ⟨_, rfl⟩
 rw [hN] at hr q1 ⊢
 have HN : Hid (ts.length = N) := hN
 have HR : Hid (RowG w (.slice a N c) 5 (flRows ts)) := hr
 clear hN hr
 obtain ⟨A, hA⟩ : ∃ A, (ts.find? fun m => decide (m.tag = nm)) = A := ⟨_, rfl⟩
 rw [hA]
 have HA : Hid (A = ((ts.drop 0).find? fun m => decide (m.tag = nm))) := hA.symm
 clear hA
 have BX0 : Blk ((w.alloc (.cells #[.string snm, .slice a N c, .slice am M cm] 40)).alloc (.cells #[.string ⟨#[]⟩, .int .i64 0, .int .i64 0, .int .i64 0, .string ⟨#[]⟩] 90)) w.heap.size #[.string snm, .slice a N c, .slice am M cm] 40 := (Blk.new w _ _).below ((Below.refl _ _).alloc (Nat.le_refl _) _)
 have BR0 : Blk ((w.alloc (.cells #[.string snm, .slice a N c, .slice am M cm] 40)).alloc (.cells #[.string ⟨#[]⟩, .int .i64 0, .int .i64 0, .int .i64 0, .string ⟨#[]⟩] 90)) (w.heap.size + 1) #[.string ⟨#[]⟩, .int .i64 0, .int .i64 0, .int .i64 0, .string ⟨#[]⟩] 90 := by
  have := Blk.new (w.alloc (.cells #[.string snm, .slice a N c, .slice am M cm] 40)) #[.string ⟨#[]⟩, .int .i64 0, .int .i64 0, .int .i64 0, .string ⟨#[]⟩] 90
  rwa [show (w.alloc (.cells #[.string snm, .slice a N c, .slice am M cm] 40)).heap.size = w.heap.size + 1 by simp] at this
 have hb0 : Below w.heap.size w ((w.alloc (.cells #[.string snm, .slice a N c, .slice am M cm] 40)).alloc (.cells #[.string ⟨#[]⟩, .int .i64 0, .int .i64 0, .int .i64 0, .string ⟨#[]⟩] 90)) := ((Below.refl _ _).alloc (Nat.le_refl _) _).alloc (by simp) _
 go_enter Tryz.func123, Tryz.ntmps123
 go_wp2_with fail
 go_loopw [6] (fun iv wr => ∃ k : Nat, iv = .int .i64 (k : Int) ∧ k ≤ N ∧ Hid (A = ((ts.drop k).find? fun m => decide (m.tag = nm))) ∧ Below w.heap.size w wr ∧ Blk wr (w.heap.size + 1) #[.string ⟨#[]⟩, .int .i64 0, .int .i64 0, .int .i64 0, .string ⟨#[]⟩] 90 ∧ Blk wr w.heap.size #[.string snm, .slice a N c, .slice am M cm] 40) (fun iv _ => N - (intOf iv).toNat)
 case atStart => exact ⟨0, rfl, by omega, HA, hb0, BR0, BX0⟩
 case round =>
  obtain ⟨k, rfl, hk, HAk, hbel, BR, BX⟩ := hrel
  clear BX0 BR0 hb0
  have hlt2 : w.heap.size + 1 < wr.heap.size := BR.lt
  have r0 := (BR.cell 0).trans rfl
  have z0 := BR.froz 0
  have r1 := (BR.cell 1).trans rfl
  have z1 := BR.froz 1
  have r2 := (BR.cell 2).trans rfl
  have z2 := BR.froz 2
  have r3 := (BR.cell 3).trans rfl
  have z3 := BR.froz 3
  have r4 := (BR.cell 4).trans rfl
  have z4 := BR.froz 4
  have x1 : wr.cell? ⟨w.heap.size, 1, none⟩ = some (.slice a N c) := BX.cell 1
  by_cases hlt : k < N
  ·obtain ⟨f, hf⟩ : ∃ n, ts[k]? = some n := ⟨_, List.getElem?_eq_getElem (by rw [HN.out]; exact hlt)⟩
   have hrr : (flRows ts)[k]? = some f.cells := by simp [flRows, hf]
   obtain ⟨g, off, rfl, c1⟩ := (HR.out.below hbel).get hrr
   obtain ⟨f0, f1, f2, f3, f4⟩ := f
   have HA2 : Hid (A = if decide (f1 = nm) = true then some ⟨f0, f1, f2, f3, f4⟩ else ((ts.drop (k + 1)).find? fun m => decide (m.tag = nm))) := by
    show _ = _
    rw [HAk.out, drop_at hf, List.find?_cons]
    cases decide (f1 = nm) <;> rfl
   have p0 := c1 0 _ rfl
   have p1 := c1 1 _ rfl
   have p2 := c1 2 _ rfl
   have p3 := c1 3 _ rfl
   have p4 := c1 4 _ rfl
   simp only [Nat.add_zero] at p0 p1 p2 p3 p4
   clear c1 hrr hf HAk
   by_cases he : f1 = nm
   ·subst he
    go_wp2_with fail
    refine bodyPost_ret (results_two rfl _ _ _ ⟨w.heap.size + 1, 0, none⟩ (.agg #[.string f0, .int .i64 f1, .int .i64 f2, .int .i64 f3, .string f4]) (by go_simp) (by go_simp)) rfl ?_
    exact ⟨ret_two (by rw [HA2.out, if_pos (by simp)]; rfl) (by rw [HA2.out, if_pos (by simp)]; rfl), (Below.setCell (Below.setCell (Below.setCell (Below.setCell (Below.setCell hbel (by simp) _) (by simp) _) (by simp) _) (by simp) _) (by simp) _)⟩
   ·have hq : (f1 == nm) = false := by simpa using he
    have HA3 : Hid (A = ((ts.drop (k + 1)).find? fun m => decide (m.tag = nm))) := by show _ = _; rw [HA2.out, if_neg (by simpa using he)]
    go_wp2_with fail
    go_roundw
    case rel => exact ⟨k + 1, by go_num, by omega, HA3, hbel, BR, BX⟩
    case measure => simp [intOf]; omega
  ·have HA2 : Hid (A = none) := by show _ = _; rw [HAk.out, drop_end (by rw [HN.out]; omega)]; rfl
   go_wp2_with fail
   refine bodyPost_ret (results_two rfl _ _ _ ⟨w.heap.size + 1, 0, none⟩ (.agg #[.string ⟨#[]⟩, .int .i64 0, .int .i64 0, .int .i64 0, .string ⟨#[]⟩]) (by go_simp) (by go_simp)) rfl ?_
   exact ⟨ret_two (by rw [HA2.out]; rfl) (by rw [HA2.out]; rfl), (Below.setCell (Below.setCell (Below.setCell (Below.setCell (Below.setCell hbel (by simp) _) (by simp) _) (by simp) _) (by simp) _) (by simp) _)⟩
end Go.Proofs.YtcjfeandnmochaaGreatDoor
namespace Go.Proofs.YtcjfeandnmochaaGreatDoor
set_option linter.unusedVariables false
set_option linter.unusedSimpArgs false
theorem rg_ca3 {P : Program} {md : Region.Mode} {ops : Array Oper} {Q : Exit → Act → World → Prop} {S : World → Prop} {fuel : Nat} {listed : Array Bool} {a : Act} {w : World} {oi oj o1 o2 o3 : Oper} (i j k1 k2 k3 di dj d1 d2 d3 f : Nat) (vals : Array Value) (z : World → Value) (N : World → World) (F1 F2 F3 : Value → Value) (U : Value → Prop) (C : Value → Value → World → Prop)
  (hi : ops[i]? = some oi) (hj : ops[j]? = some oj) (h1 : ops[k1]? = some o1) (h2 : ops[k2]? = some o2) (h3 : ops[k3]? = some o3) (hdi : oi.dst = some di) (hdj : oj.dst = some dj) (hd1 : o1.dst = some d1) (hd2 : o2.dst = some d2) (hd3 : o3.dst = some d3)
  (ij : j ≠ i) (j1 : j ≠ k1) (j2 : j ≠ k2) (j3 : j ≠ k3) (dij : dj ≠ di) (dj1 : dj ≠ d1) (dj2 : dj ≠ d2) (dj3 : dj ≠ d3)
  (hr : Region.ready md ops listed = [i, j]) (hrj : Region.ready md ops (listed.setIfInBounds j true) = [i]) (hs : Region.noSelect ops = true)
  (fA1 : Region.free md ops (listed.setIfInBounds i true) k1 = true) (rA1 : (Region.ready md ops (listed.setIfInBounds i true)).contains k1 = true)
  (fA2 : Region.free md ops ((listed.setIfInBounds i true).setIfInBounds k1 true) k2 = true) (rA2 : (Region.ready md ops ((listed.setIfInBounds i true).setIfInBounds k1 true)).contains k2 = true)
  (fA3 : Region.free md ops (((listed.setIfInBounds i true).setIfInBounds k1 true).setIfInBounds k2 true) k3 = true) (rA3 : (Region.ready md ops (((listed.setIfInBounds i true).setIfInBounds k1 true).setIfInBounds k2 true)).contains k3 = true)
  (rA4 : Region.ready md ops ((((listed.setIfInBounds i true).setIfInBounds k1 true).setIfInBounds k2 true).setIfInBounds k3 true) = [j])
  (fB1 : Region.free md ops ((listed.setIfInBounds j true).setIfInBounds i true) k1 = true) (rB1 : (Region.ready md ops ((listed.setIfInBounds j true).setIfInBounds i true)).contains k1 = true)
  (fB2 : Region.free md ops (((listed.setIfInBounds j true).setIfInBounds i true).setIfInBounds k1 true) k2 = true) (rB2 : (Region.ready md ops (((listed.setIfInBounds j true).setIfInBounds i true).setIfInBounds k1 true)).contains k2 = true)
  (fB3 : Region.free md ops ((((listed.setIfInBounds j true).setIfInBounds i true).setIfInBounds k1 true).setIfInBounds k2 true) k3 = true) (rB3 : (Region.ready md ops ((((listed.setIfInBounds j true).setIfInBounds i true).setIfInBounds k1 true).setIfInBounds k2 true)).contains k3 = true)
  (hwi : ∀ t, Region.wanted oi t = true) (hwj : ∀ t, Region.wanted oj t = true) (hw1 : ∀ t, Region.wanted o1 t = true) (hw2 : ∀ t, Region.wanted o2 t = true) (hw3 : ∀ t, Region.wanted o3 t = true)
  (hQ : ∀ (d : Option Nat) v c a w, Q (.panic c) (Act.put a d v) w → Q (.panic c) a w)
  (hxj : ∀ (a' : Act) w', (execOp a'.eval oj).run P w' = .ok (.value (z w')) (N w'))
  (hxi : ∀ w', (execOp a.eval oi).run P w' = .ok (.enter f vals) w') (hxi' : ∀ v w', (execOp (a.put (some dj) v).eval oi).run P w' = .ok (.enter f vals) w')
  (x1 : ∀ v w', U v → (execOp (a.put (some di) v).eval o1).run P w' = .ok (.value (F1 v)) w') (x1' : ∀ v p w', U v → (execOp ((a.put (some dj) p).put (some di) v).eval o1).run P w' = .ok (.value (F1 v)) w')
  (x2 : ∀ v w', U v → (execOp ((a.put (some di) v).put (some d1) (F1 v)).eval o2).run P w' = .ok (.value (F2 v)) w') (x2' : ∀ v p w', U v → (execOp (((a.put (some dj) p).put (some di) v).put (some d1) (F1 v)).eval o2).run P w' = .ok (.value (F2 v)) w')
  (x3 : ∀ v w', U v → (execOp (((a.put (some di) v).put (some d1) (F1 v)).put (some d2) (F2 v)).eval o3).run P w' = .ok (.value (F3 v)) w') (x3' : ∀ v p w', U v → (execOp ((((a.put (some dj) p).put (some di) v).put (some d1) (F1 v)).put (some d2) (F2 v)).eval o3).run P w' = .ok (.value (F3 v)) w')
  (hA : Calls P f vals w fun e w' => ∃ v, e = .returned v ∧ U v ∧ S w' ∧ S (N w') ∧ C v (z w') (N w'))
  (hB : S (N w) ∧ Calls P f vals (N w) fun e w' => ∃ v, e = .returned v ∧ U v ∧ S w' ∧ C v (z w) w')
  (h : ∀ v p w', U v → S w' → C v p w' → wpAnyH P md ops Q S fuel (((((listed.setIfInBounds i true).setIfInBounds k1 true).setIfInBounds k2 true).setIfInBounds k3 true).setIfInBounds j true) { a with tmps := ((((a.tmps.setIfInBounds di v).setIfInBounds d1 (F1 v)).setIfInBounds d2 (F2 v)).setIfInBounds d3 (F3 v)).setIfInBounds dj p } w') :
  wpAnyH P md ops Q S (fuel + 5) listed a w := by
 refine wpAnyH_ready (rs := [i, j]) hr (by simp) (AllReadyH.cons hi (fun K hK => ?_) (AllReadyH.cons hj (fun K hK => ?_) AllReadyH.nil))
 ·rw [if_pos (hwi _)]
  unfold Oper.wp
  rw [hxi]
  refine Calls.mono hA ?_
  rintro e w1 ⟨v, rfl, u, s1, s2, c⟩
  refine hK.out _ _ s1 (fun _ => ?_)
  rw [hdi]
  refine rg_take k1 d1 (F1 v) _ h1 hd1 hs fA1 rA1 (fun c a w => hQ _ _ c a w) (hw1 _) (fun w' _ => x1 v w' u) s1 rfl rfl ?_
  refine rg_take k2 d2 (F2 v) _ h2 hd2 hs fA2 rA2 (fun c a w => hQ _ _ c a w) (hw2 _) (fun w' _ => x2 v w' u) s1 rfl rfl ?_
  refine rg_take k3 d3 (F3 v) _ h3 hd3 hs fA3 rA3 (fun c a w => hQ _ _ c a w) (hw3 _) (fun w' _ => x3 v w' u) s1 rfl rfl ?_
  exact rg_run j dj (z w1) (N w1) hj hdj rA4 (hwj _) rfl (hxj _ w1) s2 (h v (z w1) (N w1) u s2 c)
 ·rw [if_pos (hwj _)]
  unfold Oper.wp
  rw [hxj]
  refine hK.out _ _ hB.1 (fun _ => ?_)
  rw [hdj]
  refine rg_call i di f vals hi hdi hrj (hwi _) rfl (fun W => hxi' (z w) W) ?_
  refine Calls.mono hB.2 ?_
  rintro e w1 ⟨v, rfl, u, s1, c⟩
  refine ⟨v, rfl, s1, ?_⟩
  refine rg_take k1 d1 (F1 v) _ h1 hd1 hs fB1 rB1 (fun c a w => hQ _ _ c a w) (hw1 _) (fun w' _ => x1' v (z w) w' u) s1 rfl rfl ?_
  refine rg_take k2 d2 (F2 v) _ h2 hd2 hs fB2 rB2 (fun c a w => hQ _ _ c a w) (hw2 _) (fun w' _ => x2' v (z w) w' u) s1 rfl rfl ?_
  refine rg_take k3 d3 (F3 v) _ h3 hd3 hs fB3 rB3 (fun c a w => hQ _ _ c a w) (hw3 _) (fun w' _ => x3' v (z w) w' u) s1 rfl rfl ?_
  have hh := h v (z w) w1 u s1 c
  rw [set_comm2 _ (Ne.symm j3), set_comm2 _ (Ne.symm j2), set_comm2 _ (Ne.symm j1), set_comm2 _ (Ne.symm ij), set_comm2 _ (Ne.symm dj3), set_comm2 _ (Ne.symm dj2), set_comm2 _ (Ne.symm dj1), set_comm2 _ (Ne.symm dij)] at hh
  exact hh
end Go.Proofs.YtcjfeandnmochaaGreatDoor
namespace Go.Proofs.YtcjfeandnmochaaGreatDoor
open Go.RowKit
structure Kept (B : Nat) (w0 : World) where
 w : World
 below : Below B w0 w
theorem wp_region_qb {P : Program} {id : Nat} {Q : Exit → Act → World → Prop} {a : Act} {w : World} {l : List Oper} {B : Nat} {w0 : World} (h0 : Below B w0 w) (hm : P.follows .mixedOrders = true) (hB : Region.lexB .any l.toArray = true)
  (h : wpQuiet P l.toArray (fun w' => ∃ x : Kept B w0, w' = x.w) (fun a' => ∀ w', (∃ x : Kept B w0, w' = x.w) → Q .normal a' w') l a) : (Code.region id l.toArray true).wp P Q a w :=
 wp_region_quiet (C := fun w' => ∃ x : Kept B w0, w' = x.w) hm hB ⟨⟨_, h0.drew⟩, rfl⟩ (by simpa using h)
theorem nonempty_qb {B : Nat} {w0 w : World} (h0 : Below B w0 w) : Nonempty (Kept B w0) := ⟨⟨w, h0⟩⟩
theorem qb_call {P : Program} {f : FuncId} {args : Array Value} {B : Nat} {w0 : World} {x : Kept B w0} {v : Value}
  (h : ∀ W, Below B w0 W → Calls P f args W fun e W' => e = .returned v ∧ Below B w0 W') : Calls P f args x.w fun e w'' => e = .returned v ∧ ∃ y : Kept B w0, w'' = y.w :=
 (h _ x.below).mono fun _ W' h => ⟨h.1, ⟨⟨W', h.2⟩, rfl⟩⟩
end Go.Proofs.YtcjfeandnmochaaGreatDoor
namespace Go.Proofs.YtcjfeandnmochaaGreatDoor
open Go.ChangeShapes Go.WideShapes Go.ChangeAt Go.RowKit
set_option linter.unusedVariables false
set_option linter.unusedSimpArgs false
set_option maxRecDepth 20000
theorem kept_cell {w : World} {a : Addr} {u : Value} (h : w.cell? a = some u) (x : Kept w.heap.size w) : x.w.cell? a = some u := by
 rw [x.below.cell (World.block_lt_of_cell? _ _ h)]; exact h
set_option maxHeartbeats 1000000 in
theorem sints_any {w : World} {v1 v2 : Value} {ns : List Int} (h1 : RowG w v1 1 (inRows ns)) (h2 : RowG w v2 1 (inRows ns)) :
  Calls Tryz.prog 44 #[v1, v2] w fun e w' => e = .returned (.bool true) ∧ Below w.heap.size w w' := by
 obtain ⟨a, c, rfl, q1, q2⟩ := h1.form2
 obtain ⟨b, d, rfl, q3, q4⟩ := h2.form2
 have H1 : Hid _ := h1
 have H2 : Hid _ := h2
 clear h1 h2
 have hN : (inRows ns).length = ns.length := by simp [inRows]
 rw [hN] at H1 H2 q1 q3 ⊢
 clear hN
 obtain ⟨N, hN⟩ : ∃ N, ns.length = N := ⟨_, rfl⟩
 rw [hN] at H1 H2 q1 q3 ⊢
 have HN : Hid (ns.length = N) := hN
 clear hN
 go_enter Tryz.func44, Tryz.ntmps44
 go_wp2_with fail
 go_loopw [5] (fun iv wr => ∃ i : Nat, iv = .int .i64 (i : Int) ∧ i ≤ N ∧ Below w.heap.size w wr) (fun iv _ => N - (intOf iv).toNat)
 case atStart => exact ⟨0, rfl, by omega, Below.refl _ _⟩
 case round =>
  obtain ⟨i, rfl, hi, hbel⟩ := hrel
  by_cases hlt : i < N
  ·obtain ⟨n, hn⟩ : ∃ n, ns[i]? = some n := ⟨_, List.getElem?_eq_getElem (by rw [HN.out]; exact hlt)⟩
   have hr : (inRows ns)[i]? = some [.int .i64 n] := by simp [inRows, hn]
   obtain ⟨g, off, rfl, c1⟩ := (H1.out.below hbel).get hr
   obtain ⟨g2, off2, rfl, c2⟩ := (H2.out.below hbel).get hr
   have p0 := c1 0 _ rfl
   have p1 := c2 0 _ rfl
   simp only [Nat.mul_one, Nat.add_zero] at p0 p1
   clear c1 c2 hr hn
   go_wp2_with fail
   go_quiet (fail)
   have hbn := below_drewN nq hbel
   clear p0 p1 hbel
   go_wp2_with fail
   go_roundw
   case rel => exact ⟨i + 1, by go_num, by omega, hbn⟩
   case measure => simp [intOf]; omega
  ·go_wp2_with fail
   go_ret
   exact ⟨rfl, hbel⟩
theorem cells_two (w : World) (A B : Array Value) (t u : TypeId) (W : World) (hb : Below (w.heap.size + 2) ((w.alloc (.cells A t)).alloc (.cells B u)) W) (k : Nat) : W.cell? ⟨w.heap.size, k, none⟩ = A[k]? ∧ W.cell? ⟨w.heap.size + 1, k, none⟩ = B[k]? := by
 constructor
 ·rw [hb.cell (by simp only; omega), World.cell?_alloc_past _ _ _ (by simp), World.cell?_alloc_at _ _ _ _ rfl]
 ·rw [hb.cell (by simp only; omega), World.cell?_alloc_at _ _ _ _ (by simp)]
set_option maxHeartbeats 1000000 in
theorem senums_any {w : World} {v1 v2 : Value} {nm : ByteArray} {vs : List NmS} (h1 : RowG w v1 2 (nmRows vs)) (h2 : RowG w v2 2 (nmRows vs)) :
  Calls Tryz.prog 17 #[.agg #[.string nm, v1], .agg #[.string nm, v2]] w fun e w' => e = .returned (.bool true) ∧ Below w.heap.size w w' := by
 obtain ⟨a, c, rfl, q1, q2⟩ := h1.form2
 obtain ⟨b, d, rfl, q3, q4⟩ := h2.form2
 have H1 : Hid _ := h1
 have H2 : Hid _ := h2
 clear h1 h2
 have hN : (nmRows vs).length = vs.length := by simp [nmRows]
 rw [hN] at H1 H2 q1 q3 ⊢
 clear hN
 obtain ⟨N, hN⟩ : ∃ N, vs.length = N := ⟨_, rfl⟩
 rw [hN] at H1 H2 q1 q3 ⊢
 have HN : Hid (vs.length = N) := hN
 clear hN
 have hb0 : Below w.heap.size w ((w.alloc (.cells #[.string nm, .slice a N c] 44)).alloc (.cells #[.string nm, .slice b N d] 44)) := ((Below.refl _ _).alloc (Nat.le_refl _) _).alloc (by simp) _
 have HC : Hid (∀ W, Below (w.heap.size + 2) ((w.alloc (.cells #[.string nm, .slice a N c] 44)).alloc (.cells #[.string nm, .slice b N d] 44)) W → W.cell? ⟨w.heap.size, 1, none⟩ = some (.slice a N c) ∧ W.cell? ⟨w.heap.size + 1, 1, none⟩ = some (.slice b N d)) := fun W hW => cells_two w _ _ _ _ W hW 1
 go_enter Tryz.func17, Tryz.ntmps17
 go_wp2_with fail
 go_loopw [5] (fun iv wr => ∃ i : Nat, iv = .int .i64 (i : Int) ∧ i ≤ N ∧ Below w.heap.size w wr ∧ Below (w.heap.size + 2) ((w.alloc (.cells #[.string nm, .slice a N c] 44)).alloc (.cells #[.string nm, .slice b N d] 44)) wr) (fun iv _ => N - (intOf iv).toNat)
 case atStart => exact ⟨0, rfl, by omega, hb0, Below.refl _ _⟩
 case round =>
  obtain ⟨i, rfl, hi, hbel, hbox⟩ := hrel
  obtain ⟨x1, x2⟩ := HC.out wr hbox
  by_cases hlt : i < N
  ·obtain ⟨n, hn⟩ : ∃ n, vs[i]? = some n := ⟨_, List.getElem?_eq_getElem (by rw [HN.out]; exact hlt)⟩
   have hr : (nmRows vs)[i]? = some n.cells := by simp [nmRows, hn]
   obtain ⟨g, off, rfl, c1⟩ := (H1.out.below hbel).get hr
   obtain ⟨g2, off2, rfl, c2⟩ := (H2.out.below hbel).get hr
   obtain ⟨nn, nv⟩ := n
   have p0 := c1 0 _ rfl
   have p1 := c1 1 _ rfl
   have r0 := c2 0 _ rfl
   have r1 := c2 1 _ rfl
   simp only [Nat.add_zero] at p0 p1 r0 r1
   clear c1 c2 hr hn
   go_wp2_with fail
   go_quiet (fail)
   have hbn := below_drewN nq hbel
   have hbx := below_drewN nq hbox
   clear p0 p1 r0 r1 hbel hbox x1 x2
   go_wp2_with fail
   go_roundw
   case rel => exact ⟨i + 1, by go_num, by omega, hbn, hbx⟩
   case measure => simp [intOf]; omega
  ·go_wp2_with fail
   go_ret
   exact ⟨rfl, hbel⟩
set_option maxHeartbeats 1000000 in
theorem smsgs_any {w : World} {v1 v2 r1 r2 : Value} {nm : ByteArray} {fs : List FlS} {ns : List Int} (h1 : RowG w v1 5 (flRows fs)) (h2 : RowG w v2 5 (flRows fs)) (h3 : RowG w r1 1 (inRows ns)) (h4 : RowG w r2 1 (inRows ns)) :
  Calls Tryz.prog 16 #[.agg #[.string nm, v1, r1], .agg #[.string nm, v2, r2]] w fun e w' => e = .returned (.bool true) ∧ Below w.heap.size w w' := by
 obtain ⟨a, c, rfl, q1, q2⟩ := h1.form2
 obtain ⟨b, d, rfl, q3, q4⟩ := h2.form2
 obtain ⟨a3, c3, rfl, _, _⟩ := h3.form2
 obtain ⟨a4, c4, rfl, _, _⟩ := h4.form2
 have H1 : Hid _ := h1
 have H2 : Hid _ := h2
 have H3 : Hid _ := h3
 have H4 : Hid _ := h4
 clear h1 h2 h3 h4
 have hN : (flRows fs).length = fs.length := by simp [flRows]
 rw [hN] at H1 H2 q1 q3 ⊢
 clear hN
 obtain ⟨N, hN⟩ : ∃ N, fs.length = N := ⟨_, rfl⟩
 rw [hN] at H1 H2 q1 q3 ⊢
 have HN : Hid (fs.length = N) := hN
 clear hN
 generalize (inRows ns).length = K at *
 have hb0 : Below w.heap.size w ((w.alloc (.cells #[.string nm, .slice a N c, .slice a3 K c3] 40)).alloc (.cells #[.string nm, .slice b N d, .slice a4 K c4] 40)) := ((Below.refl _ _).alloc (Nat.le_refl _) _).alloc (by simp) _
 have HC : Hid (∀ W, Below (w.heap.size + 2) ((w.alloc (.cells #[.string nm, .slice a N c, .slice a3 K c3] 40)).alloc (.cells #[.string nm, .slice b N d, .slice a4 K c4] 40)) W → W.cell? ⟨w.heap.size, 1, none⟩ = some (.slice a N c) ∧ W.cell? ⟨w.heap.size + 1, 1, none⟩ = some (.slice b N d)) := fun W hW => cells_two w _ _ _ _ W hW 1
 have HI : Hid (Calls Tryz.prog 44 #[.slice a3 K c3, .slice a4 K c4] ((w.alloc (.cells #[.string nm, .slice a N c, .slice a3 K c3] 40)).alloc (.cells #[.string nm, .slice b N d, .slice a4 K c4] 40)) fun e w' => e = .returned (.bool true) ∧ Below ((w.alloc (.cells #[.string nm, .slice a N c, .slice a3 K c3] 40)).alloc (.cells #[.string nm, .slice b N d, .slice a4 K c4] 40)).heap.size ((w.alloc (.cells #[.string nm, .slice a N c, .slice a3 K c3] 40)).alloc (.cells #[.string nm, .slice b N d, .slice a4 K c4] 40)) w') := sints_any (H3.out.below hb0) (H4.out.below hb0)
 go_enter Tryz.func16, Tryz.ntmps16
 go_wp2_with fail
 refine HI.out.mono ?_
 rintro e w1 ⟨rfl, hb1⟩
 have hbw : Below w.heap.size w w1 := hb0.trans (hb1.mono hb0.size)
 have hbx : Below (w.heap.size + 2) ((w.alloc (.cells #[.string nm, .slice a N c, .slice a3 K c3] 40)).alloc (.cells #[.string nm, .slice b N d, .slice a4 K c4] 40)) w1 := hb1.mono (by simp)
 clear hb1 hb0 HI
 go_wp2_with fail
 go_loopw [5] (fun iv wr => ∃ i : Nat, iv = .int .i64 (i : Int) ∧ i ≤ N ∧ Below w.heap.size w wr ∧ Below (w.heap.size + 2) ((w.alloc (.cells #[.string nm, .slice a N c, .slice a3 K c3] 40)).alloc (.cells #[.string nm, .slice b N d, .slice a4 K c4] 40)) wr) (fun iv _ => N - (intOf iv).toNat)
 case atStart => exact ⟨0, rfl, by omega, hbw, hbx⟩
 case round =>
  obtain ⟨i, rfl, hi, hbel, hbox⟩ := hrel
  obtain ⟨x1, x2⟩ := HC.out wr hbox
  clear hbw hbx
  by_cases hlt : i < N
  ·obtain ⟨n, hn⟩ : ∃ n, fs[i]? = some n := ⟨_, List.getElem?_eq_getElem (by rw [HN.out]; exact hlt)⟩
   have hr : (flRows fs)[i]? = some n.cells := by simp [flRows, hn]
   obtain ⟨g, off, rfl, c1⟩ := (H1.out.below hbel).get hr
   obtain ⟨g2, off2, rfl, c2⟩ := (H2.out.below hbel).get hr
   obtain ⟨n0, n1, n2, n3, n4⟩ := n
   have p0 := c1 0 _ rfl
   have p1 := c1 1 _ rfl
   have p2 := c1 2 _ rfl
   have p3 := c1 3 _ rfl
   have p4 := c1 4 _ rfl
   have r0 := c2 0 _ rfl
   have r1 := c2 1 _ rfl
   have r2 := c2 2 _ rfl
   have r3 := c2 3 _ rfl
   have r4 := c2 4 _ rfl
   simp only [Nat.add_zero] at p0 p1 p2 p3 p4 r0 r1 r2 r3 r4
   clear c1 c2 hr hn
   go_wp2_with fail
   go_quiet (fail)
   have hbn := below_drewN nq hbel
   have hbx := below_drewN nq hbox
   clear p0 p1 p2 p3 p4 r0 r1 r2 r3 r4 hbel hbox x1 x2
   go_wp2_with fail
   go_roundw
   case rel => exact ⟨i + 1, by go_num, by omega, hbn, hbx⟩
   case measure => simp [intOf]; omega
  ·go_wp2_with fail
   go_ret
   exact ⟨rfl, hbel⟩
end Go.Proofs.YtcjfeandnmochaaGreatDoor
namespace Go.Proofs.YtcjfeandnmochaaGreatDoor
open Go.ChangeShapes Go.WideShapes Go.ChangeAt Go.RowKit Go.Maps
set_option linter.unusedVariables false
set_option linter.unusedSimpArgs false
set_option maxRecDepth 20000
def tupA : Value → Value
 | .tuple a => a.getD 0 undef
 | _ => undef
def tupB : Value → Value
 | .tuple a => a.getD 1 undef
 | _ => undef
theorem RowG.take {w : World} {a : Option Addr} {N c size k : Nat} {rs : List (List Value)} (h : RowG w (.slice a N c) size rs) (hN : rs.length = N) (hk : k ≤ N) : RowG w (.slice a k c) size (rs.take k) := by
 obtain ⟨a', cap, h1, h2, h3, h4, h5⟩ := h
 simp only [Value.slice.injEq] at h1
 obtain ⟨rfl, h1, rfl⟩ := h1
 have hl : (rs.take k).length = k := by rw [List.length_take]; omega
 refine ⟨a, c, by rw [hl], by rw [hl]; omega, h3, h4, fun hne => ?_⟩
 obtain ⟨g, off, h6, h7⟩ := h5 (fun e => hne (by rw [e]; simp))
 refine ⟨g, off, h6, fun i x u j hi hj => h7 i x u j ?_ hj⟩
 have hik : i < k := by have := (List.getElem?_eq_some_iff.1 hi).1; omega
 rw [List.getElem?_take_of_lt hik] at hi
 exact hi
theorem tagR_low {n : Int} (h : n < 1) : tagR n = false := by unfold tagR; rw [decide_eq_false (by omega)]
theorem tagR_high {n : Int} (h : 500 < n) : tagR n = false := by unfold tagR; rw [decide_eq_false (by omega)]
theorem tagR_in {n : Int} (h : ¬ n < 1) (h2 : ¬ 500 < n) : tagR n = true := by unfold tagR; rw [decide_eq_true (by omega)]
theorem find_tag (fs : List FlS) (t : Int) : (fs.find? fun m => decide (m.tag = t)).isSome = memI t (fs.map FlS.tag) := by
 rw [Bool.eq_iff_iff, List.find?_isSome]
 simp [memI]
set_option maxHeartbeats 8000000 in
theorem rmsg_any {w : World} {snm mnm : ByteArray} {am ae at' : Option Addr} {M cm E ce T ct : Nat} {ms : List MsS} {es : List EnS} {vf vr : Value} {fs : List FlS} {ns : List Int} (hm : MsIn w (.slice am M cm) ms) (he : EnIn w (.slice ae E ce) es)
  (hf : RowG w vf 5 (flRows fs)) (hr : RowG w vr 1 (inRows ns)) (hl1 : fs.length ≤ 30000) (hl2 : ns.length ≤ 30000) (hw : ∀ f ∈ fs, f.name.size ≤ 20000) :
  Calls Tryz.prog 88 #[.agg #[.string snm, .slice am M cm, .slice ae E ce, .slice at' T ct], .agg #[.string mnm, vf, vr]] w fun e w' => e = .returned (.int .i64 (chkMb (ms.map MsS.name) (es.map EnS.name) ⟨mnm, fs, ns⟩)) ∧ Below w.heap.size w w' := by
 obtain ⟨fa, fc, rfl, q1, q2⟩ := hf.form2
 obtain ⟨ra, rc, rfl, q3, q4⟩ := hr.form2
 have e1 : (flRows fs).length = fs.length := by simp [flRows]
 have e2 : (inRows ns).length = ns.length := by simp [inRows]
 rw [e1] at hf q1 ⊢
 rw [e2] at hr q3 ⊢
 obtain ⟨nF, hnF⟩ : ∃ x, fs.length = x := ⟨_, rfl⟩
 obtain ⟨nR, hnR⟩ : ∃ x, ns.length = x := ⟨_, rfl⟩
 rw [hnF] at hf q1 hl1 ⊢
 rw [hnR] at hr q3 hl2 ⊢
 have HNF : Hid (fs.length = nF) := hnF
 have HNR : Hid (ns.length = nR) := hnR
 have HF : Hid (RowG w (.slice fa nF fc) 5 (flRows fs)) := hf
 have HR : Hid (RowG w (.slice ra nR rc) 1 (inRows ns)) := hr
 have HM : Hid (MsIn w (.slice am M cm) ms) := hm
 have HE : Hid (EnIn w (.slice ae E ce) es) := he
 have HW : Hid (∀ f ∈ fs, f.name.size ≤ 20000) := hw
 clear hf hr hm he hw hnF hnR e1 e2
 obtain ⟨A, hA⟩ : ∃ A, chkMb (ms.map MsS.name) (es.map EnS.name) ⟨mnm, fs, ns⟩ = A := ⟨_, rfl⟩
 rw [hA]
 have HA : Hid (A = chkMb (ms.map MsS.name) (es.map EnS.name) ⟨mnm, fs, ns⟩) := hA.symm
 clear hA
 have hba : Below w.heap.size w ((w.alloc (.cells #[.string snm, .slice am M cm, .slice ae E ce, .slice at' T ct] 27)).alloc (.cells #[.string mnm, .slice fa nF fc, .slice ra nR rc] 40)) := ((Below.refl _ _).alloc (Nat.le_refl _) _).alloc (by simp) _
 have BS0 : Blk ((w.alloc (.cells #[.string snm, .slice am M cm, .slice ae E ce, .slice at' T ct] 27)).alloc (.cells #[.string mnm, .slice fa nF fc, .slice ra nR rc] 40)) w.heap.size #[.string snm, .slice am M cm, .slice ae E ce, .slice at' T ct] 27 := (Blk.new w _ _).below ((Below.refl _ _).alloc (Nat.le_refl _) _)
 have BM0 : Blk ((w.alloc (.cells #[.string snm, .slice am M cm, .slice ae E ce, .slice at' T ct] 27)).alloc (.cells #[.string mnm, .slice fa nF fc, .slice ra nR rc] 40)) (w.heap.size + 1) #[.string mnm, .slice fa nF fc, .slice ra nR rc] 40 := by
  have := Blk.new (w.alloc (.cells #[.string snm, .slice am M cm, .slice ae E ce, .slice at' T ct] 27)) #[.string mnm, .slice fa nF fc, .slice ra nR rc] 40
  rwa [show (w.alloc (.cells #[.string snm, .slice am M cm, .slice ae E ce, .slice at' T ct] 27)).heap.size = w.heap.size + 1 by simp] at this
 by_cases hb1 : 16 < nF
 ·have HA2 : Hid (A = 4) := by show _ = _; rw [HA.out]; unfold chkMb; rw [if_pos (by unfold bigM; simp only; rw [HNF.out, decide_eq_true (.inl hb1)])]
  go_enter Tryz.func88, Tryz.ntmps88
  go_wp2_with fail
  go_ret
  exact ⟨ret_e HA2.out.symm, hba⟩
 by_cases hb2 : 32 < nR
 ·have HA2 : Hid (A = 4) := by show _ = _; rw [HA.out]; unfold chkMb; rw [if_pos (by unfold bigM; simp only; rw [HNR.out, decide_eq_true (.inr hb2)])]
  go_enter Tryz.func88, Tryz.ntmps88
  go_wp2_with fail
  go_ret
  exact ⟨ret_e HA2.out.symm, hba⟩
 have HA1 : Hid (A = orE (chkRes (ns.take 0) (ns.drop 0)) (chkFs (ms.map MsS.name) (es.map EnS.name) [] ns fs)) := by
  show _ = _
  rw [HA.out]; unfold chkMb
  rw [if_neg (by unfold bigM; simp only; rw [HNR.out, HNF.out, decide_eq_false (by omega)]; decide)]
  rfl
 clear HA
 go_enter Tryz.func88, Tryz.ntmps88
 go_wp2_with fail
 generalize (w.alloc (.cells #[.string snm, .slice am M cm, .slice ae E ce, .slice at' T ct] 27)).alloc (.cells #[.string mnm, .slice fa nF fc, .slice ra nR rc] 40) = wb at *
 obtain ⟨bm, hbm⟩ : ∃ n, w.heap.size + 1 = n := ⟨_, rfl⟩
 rw [hbm] at BM0 ⊢
 clear hbm
 go_loopw [5] (fun iv wr => ∃ k : Nat, iv = .int .i64 (k : Int) ∧ k ≤ nR ∧ Hid (A = orE (chkRes (ns.take k) (ns.drop k)) (chkFs (ms.map MsS.name) (es.map EnS.name) [] ns fs)) ∧ Below w.heap.size w wr ∧ Blk wr w.heap.size #[.string snm, .slice am M cm, .slice ae E ce, .slice at' T ct] 27 ∧ Blk wr bm #[.string mnm, .slice fa nF fc, .slice ra nR rc] 40) (fun iv _ => nR - (intOf iv).toNat)
 case atStart => exact ⟨0, rfl, by omega, HA1, hba, BS0, BM0⟩
 case round =>
  clear HA1 hba BS0 BM0
  obtain ⟨k, rfl, hk, HAk, hbel, BS, BM⟩ := hrel
  have x1 : wr.cell? ⟨bm, 2, none⟩ = some (.slice ra nR rc) := BM.cell 2
  by_cases hlt : k < nR
  ·obtain ⟨n, hn⟩ : ∃ n, ns[k]? = some n := ⟨_, List.getElem?_eq_getElem (by rw [HNR.out]; exact hlt)⟩
   have hrr : (inRows ns)[k]? = some [.int .i64 n] := by simp [inRows, hn]
   obtain ⟨g, off, rfl, c1⟩ := (HR.out.below hbel).get hrr
   have HA2 : Hid (A = orE (if tagB n (ns.take k) = true then chkRes (ns.take (k + 1)) (ns.drop (k + 1)) else 7) (chkFs (ms.map MsS.name) (es.map EnS.name) [] ns fs)) := by
    show _ = _
    rw [HAk.out, drop_at hn, List.take_add_one, hn]; rfl
   have p0 : wr.cell? ⟨g, off + k, none⟩ = some (.int .i64 n) := by have := c1 0 _ rfl; simpa using this
   have HS : Hid (∀ W, Below wr.heap.size wr W → Calls Tryz.prog 122 #[.agg #[.string ⟨#[]⟩, .slice none 0 0, .slice (some ⟨g, off, none⟩) k rc], .int .i64 n] W fun e W' => e = .returned (.bool (memI n (ns.take k))) ∧ Below wr.heap.size wr W') := fun W hW => by
    have hrk := RowG.take (k := k) ((HR.out.below hbel).below hW) (by simp [inRows, HNR.out]) (by omega)
    rw [show (inRows ns).take k = inRows (ns.take k) by simp [inRows, List.map_take]] at hrk
    refine (rreserved_any n hrk).mono ?_
    rintro e W' ⟨rfl, hb⟩
    exact ⟨rfl, hW.trans (hb.mono hW.size)⟩
   clear c1 hrr hn HAk
   go_wp2_with fail
   by_cases hlo : n < 1
   ·have HA3 : Hid (A = 7) := by show _ = _; rw [HA2.out, if_neg (by unfold tagB; rw [tagR_low hlo]; simp)]; rfl
    clear HA2
    have kk0 := kept_cell x1
    have kk1 := kept_cell p0
    haveI := nonempty_qb (Below.refl wr.heap.size wr)
    refine wp_region_qb (Below.refl wr.heap.size wr) (by kernel_rfl) (by kernel_rfl) ?_
    repeat (go_big_quiet_step (first | (go_at_call 122; exact qb_call HS.out)))
    refine wpQuiet_nil ?_
    rintro we ⟨⟨_, hW⟩, rfl⟩
    clear kk0 kk1
    have hbn : Below w.heap.size w we := hbel.trans (hW.mono hbel.size)
    have hbs := BS.below hW
    have hbm := BM.below hW
    clear x1 p0 HS hW hbel BS BM
    go_wp2_with fail
    go_ret
    exact ⟨ret_e HA3.out.symm, hbn⟩
   by_cases hhi : 500 < n
   ·have HA3 : Hid (A = 7) := by show _ = _; rw [HA2.out, if_neg (by unfold tagB; rw [tagR_high hhi]; simp)]; rfl
    clear HA2
    have kk0 := kept_cell x1
    have kk1 := kept_cell p0
    haveI := nonempty_qb (Below.refl wr.heap.size wr)
    refine wp_region_qb (Below.refl wr.heap.size wr) (by kernel_rfl) (by kernel_rfl) ?_
    repeat (go_big_quiet_step (first | (go_at_call 122; exact qb_call HS.out)))
    refine wpQuiet_nil ?_
    rintro we ⟨⟨_, hW⟩, rfl⟩
    clear kk0 kk1
    have hbn : Below w.heap.size w we := hbel.trans (hW.mono hbel.size)
    have hbs := BS.below hW
    have hbm := BM.below hW
    clear x1 p0 HS hW hbel BS BM
    go_wp2_with fail
    go_ret
    exact ⟨ret_e HA3.out.symm, hbn⟩
   obtain ⟨R, hR⟩ : ∃ R, memI n (ns.take k) = R := ⟨_, rfl⟩
   rw [hR] at HS
   have HRR : Hid (memI n (ns.take k) = R) := hR
   clear hR
   cases R with
   | true =>
     have HA3 : Hid (A = 7) := by show _ = _; rw [HA2.out, if_neg (by unfold tagB; rw [HRR.out]; simp)]; rfl
     clear HA2
     have kk0 := kept_cell x1
     have kk1 := kept_cell p0
     haveI := nonempty_qb (Below.refl wr.heap.size wr)
     refine wp_region_qb (Below.refl wr.heap.size wr) (by kernel_rfl) (by kernel_rfl) ?_
     repeat (go_big_quiet_step (first | (go_at_call 122; exact qb_call HS.out)))
     refine wpQuiet_nil ?_
     rintro we ⟨⟨_, hW⟩, rfl⟩
     clear kk0 kk1
     have hbn : Below w.heap.size w we := hbel.trans (hW.mono hbel.size)
     have hbs := BS.below hW
     have hbm := BM.below hW
     clear x1 p0 HS hW hbel BS BM
     go_wp2_with fail
     go_ret
     exact ⟨ret_e HA3.out.symm, hbn⟩
   | false =>
     have HA4 : Hid (A = orE (chkRes (ns.take (k + 1)) (ns.drop (k + 1))) (chkFs (ms.map MsS.name) (es.map EnS.name) [] ns fs)) := by show _ = _; rw [HA2.out, if_pos (by unfold tagB; rw [HRR.out, tagR_in hlo hhi]; rfl)]
     clear HA2
     have kk0 := kept_cell x1
     have kk1 := kept_cell p0
     haveI := nonempty_qb (Below.refl wr.heap.size wr)
     refine wp_region_qb (Below.refl wr.heap.size wr) (by kernel_rfl) (by kernel_rfl) ?_
     repeat (go_big_quiet_step (first | (go_at_call 122; exact qb_call HS.out)))
     refine wpQuiet_nil ?_
     rintro we ⟨⟨_, hW⟩, rfl⟩
     clear kk0 kk1
     have hbn : Below w.heap.size w we := hbel.trans (hW.mono hbel.size)
     have hbs := BS.below hW
     have hbm := BM.below hW
     clear x1 p0 HS hW hbel BS BM
     go_wp2_with fail
     go_roundw
     case rel => exact ⟨k + 1, by go_num, by omega, HA4, hbn, hbs, hbm⟩
     case measure => simp [intOf]; omega
  ·have HA2 : Hid (A = chkFs (ms.map MsS.name) (es.map EnS.name) [] (ns ++ (fs.take 0).map FlS.tag) (fs.drop 0)) := by
    show _ = _
    rw [HAk.out, drop_end (by rw [HNR.out]; omega)]
    simp [chkRes, orE]
   clear HAk
   go_wp2_with fail
   clear x1 hk hlt
   have HS0 : Hid (Seen wr w.heap.size (.slice none 0 0) []) := Seen.nil _ _
   go_loopw [6, 7] (fun nv iv wr => ∃ (k : Nat) (al : List ByteArray) (sa : Option Addr) (sc : Nat), nv = .slice sa k sc ∧ iv = .int .i64 (k : Int) ∧ k ≤ nF ∧ Hid (al.length = k) ∧ Hid (A = chkFs (ms.map MsS.name) (es.map EnS.name) al (ns ++ (fs.take k).map FlS.tag) (fs.drop k)) ∧ Hid (Seen wr w.heap.size (.slice sa k sc) al) ∧ Below w.heap.size w wr ∧ Blk wr w.heap.size #[.string snm, .slice am M cm, .slice ae E ce, .slice at' T ct] 27 ∧ Blk wr bm #[.string mnm, .slice fa nF fc, .slice ra nR rc] 40) (fun _ iv _ => nF - (intOf iv).toNat)
   case atStart => exact ⟨0, [], none, 0, rfl, rfl, by omega, rfl, HA2, HS0, hbel, BS, BM⟩
   case round =>
    clear HA2 HS0 hbel BS BM
    obtain ⟨k, al, sa, sc, rfl, rfl, hk, HK, HAk, HSE, hbel, BS, BM⟩ := hrel
    have x1 : wr.cell? ⟨bm, 1, none⟩ = some (.slice fa nF fc) := BM.cell 1
    by_cases hlt : k < nF
    ·obtain ⟨f, hf⟩ : ∃ n, fs[k]? = some n := ⟨_, List.getElem?_eq_getElem (by rw [HNF.out]; exact hlt)⟩
     have hrr : (flRows fs)[k]? = some f.cells := by simp [flRows, hf]
     obtain ⟨g, off, rfl, c1⟩ := (HF.out.below hbel).get hrr
     have hsz := HW.out _ (List.mem_of_getElem? hf)
     obtain ⟨f0, f1, f2, f3, f4⟩ := f
     simp only at hsz
     have HA3 : Hid (A = if freshB f0 al = false then 6 else if tagB f1 (ns ++ (fs.take k).map FlS.tag) = false then 7 else if (labB f2 && typeB (ms.map MsS.name) (es.map EnS.name) f3 f4) = false then 8 else chkFs (ms.map MsS.name) (es.map EnS.name) (al ++ [f0]) (ns ++ (fs.take (k + 1)).map FlS.tag) (fs.drop (k + 1))) := by
      show _ = _
      rw [HAk.out, drop_at hf, List.take_add_one, hf, List.map_append, ← List.append_assoc]; rfl
     have p0 := c1 0 _ rfl
     have p1 := c1 1 _ rfl
     have p2 := c1 2 _ rfl
     have p3 := c1 3 _ rfl
     have p4 := c1 4 _ rfl
     simp only [Nat.add_zero] at p0 p1 p2 p3 p4
     have ha : Below wr.heap.size wr (wr.alloc (.cells #[.string f0, .int .i64 f1, .int .i64 f2, .int .i64 f3, .string f4] 90)) := (Below.refl _ _).alloc (Nat.le_refl _) _
     have BV := Blk.new wr #[.string f0, .int .i64 f1, .int .i64 f2, .int .i64 f3, .string f4] 90
     clear c1 hrr hf HAk
     go_wp2_with fail
     clear x1 p0 p1 p2 p3 p4
     refine (rfresh_any f0 hsz (HSE.out.below ha).row).mono ?_
     rintro e w1 ⟨rfl, hb1⟩
     have hbw1 : Below w.heap.size w w1 := (hbel.trans (ha.mono hbel.size)).trans (hb1.mono (hbel.trans (ha.mono hbel.size)).size)
     have HS1 : Hid (Seen w1 w.heap.size (.slice sa k sc) al) := (HSE.out.below ha).below hb1
     have BS1 := (BS.below ha).below hb1
     have BM1 := (BM.below ha).below hb1
     have BV1 := BV.below hb1
     clear BV ha hb1 HSE
     cases hfr : freshB f0 al with
     | false =>
      have HA4 : Hid (A = 6) := by show _ = _; rw [HA3.out, if_pos hfr]
      clear HA3
      go_wp2_with fail
      go_ret
      exact ⟨ret_e HA4.out.symm, hbw1⟩
     | true =>
      have HA4 : Hid (A = if tagB f1 (ns ++ (fs.take k).map FlS.tag) = false then 7 else if (labB f2 && typeB (ms.map MsS.name) (es.map EnS.name) f3 f4) = false then 8 else chkFs (ms.map MsS.name) (es.map EnS.name) (al ++ [f0]) (ns ++ (fs.take (k + 1)).map FlS.tag) (fs.drop (k + 1))) := by show _ = _; rw [HA3.out, if_neg (by rw [hfr]; decide)]
      clear HA3 hfr
      obtain ⟨bv, hbv⟩ : ∃ n, wr.heap.size = n := ⟨_, rfl⟩
      rw [hbv] at BV1 ⊢
      clear hbv hbel BS BM
      have v0 : w1.cell? ⟨bv, 0, none⟩ = some (.string f0) := BV1.cell 0
      go_wp2_with (first
       | (at_builtin; refine wpList_seen (al := al) (x := f0) rfl _ _ rfl rfl rfl HS1.out ?c1 ?c2 ?_)
       | fail)
      case c1 => exact hbw1.size
      case c2 => rw [HK.out]; omega
      intro v' w2 hS2 hK2 hB2
      obtain ⟨ta, tc, rfl⟩ := hS2.form
      have hl2 : (al ++ [f0]).length = k + 1 := by rw [List.length_append, HK.out]; rfl
      rw [hl2] at hS2 ⊢
      have HS2 : Hid (Seen w2 w.heap.size (.slice ta (k + 1) tc) (al ++ [f0])) := hS2
      have HK2 : Hid ((al ++ [f0]).length = k + 1) := hl2
      have hb2 : Below w.heap.size w w2 := hbw1.trans hB2
      have BS2 := BS1.kp hK2 (fun e => absurd (own_type HS1.out e BS1) (by decide))
      have BM2 := BM1.kp hK2 (fun e => absurd (own_type HS1.out e BM1) (by decide))
      have BV2 := BV1.kp hK2 (fun e => absurd (own_type HS1.out e BV1) (by decide))
      clear v0 hS2 hl2 hK2 hB2 BS1 BM1 BV1 HS1 hbw1 HK
      go_wp2_with fail
      obtain ⟨z, hz⟩ : ∃ z, ((fs.take k).find? fun m => decide (m.tag = f1)).getD zeroF = z := ⟨_, rfl⟩
      obtain ⟨Z, hZ⟩ : ∃ Z, ((fs.take k).find? fun m => decide (m.tag = f1)).isSome = Z := ⟨_, rfl⟩
      obtain ⟨z0, z1, z2, z3, z4⟩ := z
      have HZ : Hid (memI f1 ((fs.take k).map FlS.tag) = Z) := by show _ = _; rw [← find_tag]; exact hZ
      have HCL : Hid (∀ W, Below w2.heap.size w2 W → W.cell? ⟨bm, 1, none⟩ = some (.slice (some ⟨g, off, none⟩) nF fc) ∧ W.cell? ⟨bv, 1, none⟩ = some (.int .i64 f1)) := fun W hW => ⟨(BM2.below hW).cell 1, (BV2.below hW).cell 1⟩
      have HCALL : Hid (∀ W, Below w2.heap.size w2 W → Calls Tryz.prog 123 #[.agg #[.string ⟨#[]⟩, .slice (some ⟨g, off, none⟩) k fc, .slice none 0 0], .int .i64 f1] W fun e w' => (e = .returned (.tuple #[.agg #[.string z0, .int .i64 z1, .int .i64 z2, .int .i64 z3, .string z4], .bool Z]) ∧ True) ∧ Below W.heap.size W w') := fun W hW => by
       have hrk := RowG.take (k := k) (HF.out.below (hb2.trans (hW.mono hb2.size))) (by simp [flRows, HNF.out]) (by omega)
       rw [show (flRows fs).take k = flRows (fs.take k) by simp [flRows, List.map_take]] at hrk
       refine (r7field_any hrk).mono ?_
       rintro e w' ⟨rfl, hb⟩
       rw [hz, hZ]
       exact ⟨⟨rfl, trivial⟩, hb⟩
      clear hz hZ
      have hkc : ¬ fc < k := by omega
      have hkc2 : k ≤ fc := by omega
      refine wp_region_held_drew (S := fun W => Below w2.heap.size w2 W) (by kernel_rfl) (below_drewN 1 (Below.refl _ _)) (fun hS => ?_)
      generalize w2.drew = Y16 at *
      refine rg_take 0 78 (.pointer (some ⟨bm, 1, none⟩)) _ rfl rfl (by kernel_rfl) (by kernel_rfl) (by kernel_rfl) (fun _ _ _ h => h) (by rfl) (fun w' hw' => ?_) hS (listed' := #[true, false, false, false, false, false, false, false, false, false, false, false, false, false]) (by kernel_rfl) rfl ?_
      ·obtain ⟨g0, g1⟩ := HCL.out w' hw'; go_simp
      simp only [List.setIfInBounds_toArray, List.set_cons_zero, List.set_cons_succ]
      refine rg_take 2 80 (.int .i64 (k : Int)) _ rfl rfl (by kernel_rfl) (by kernel_rfl) (by kernel_rfl) (fun _ _ _ h => h) (by rfl) (fun w' hw' => ?_) hS (listed' := #[true, false, true, false, false, false, false, false, false, false, false, false, false, false]) (by kernel_rfl) rfl ?_
      ·obtain ⟨g0, g1⟩ := HCL.out w' hw'; go_simp
      simp only [List.setIfInBounds_toArray, List.set_cons_zero, List.set_cons_succ]
      refine rg_take 1 79 (.slice (some ⟨g, off, none⟩) nF fc) _ rfl rfl (by kernel_rfl) (by kernel_rfl) (by kernel_rfl) (fun _ _ _ h => h) (by rfl) (fun w' hw' => ?_) hS (listed' := #[true, true, true, false, false, false, false, false, false, false, false, false, false, false]) (by kernel_rfl) rfl ?_
      ·obtain ⟨g0, g1⟩ := HCL.out w' hw'; go_simp
      simp only [List.setIfInBounds_toArray, List.set_cons_zero, List.set_cons_succ]
      refine rg_take 3 81 (.slice (some ⟨g, off, none⟩) k fc) _ rfl rfl (by kernel_rfl) (by kernel_rfl) (by kernel_rfl) (fun _ _ _ h => h) (by rfl) (fun w' hw' => ?_) hS (listed' := #[true, true, true, true, false, false, false, false, false, false, false, false, false, false]) (by kernel_rfl) rfl ?_
      ·obtain ⟨g0, g1⟩ := HCL.out w' hw'; go_simp
      simp only [List.setIfInBounds_toArray, List.set_cons_zero, List.set_cons_succ]
      refine rg_take 4 82 (.agg #[.string ⟨#[]⟩, .slice (some ⟨g, off, none⟩) k fc, .slice none 0 0]) _ rfl rfl (by kernel_rfl) (by kernel_rfl) (by kernel_rfl) (fun _ _ _ h => h) (by rfl) (fun w' hw' => ?_) hS (listed' := #[true, true, true, true, true, false, false, false, false, false, false, false, false, false]) (by kernel_rfl) rfl ?_
      ·obtain ⟨g0, g1⟩ := HCL.out w' hw'; go_simp
      simp only [List.setIfInBounds_toArray, List.set_cons_zero, List.set_cons_succ]
      refine rg_take 5 83 (.pointer (some ⟨bv, 1, none⟩)) _ rfl rfl (by kernel_rfl) (by kernel_rfl) (by kernel_rfl) (fun _ _ _ h => h) (by rfl) (fun w' hw' => ?_) hS (listed' := #[true, true, true, true, true, true, false, false, false, false, false, false, false, false]) (by kernel_rfl) rfl ?_
      ·obtain ⟨g0, g1⟩ := HCL.out w' hw'; go_simp
      simp only [List.setIfInBounds_toArray, List.set_cons_zero, List.set_cons_succ]
      refine rg_take 6 84 (.int .i64 f1) _ rfl rfl (by kernel_rfl) (by kernel_rfl) (by kernel_rfl) (fun _ _ _ h => h) (by rfl) (fun w' hw' => ?_) hS (listed' := #[true, true, true, true, true, true, true, false, false, false, false, false, false, false]) (by kernel_rfl) rfl ?_
      ·obtain ⟨g0, g1⟩ := HCL.out w' hw'; go_simp
      simp only [List.setIfInBounds_toArray, List.set_cons_zero, List.set_cons_succ]
      refine rg_ca3 7 11 8 9 10 85 9 77 86 87 123 #[.agg #[.string ⟨#[]⟩, .slice (some ⟨g, off, none⟩) k fc, .slice none 0 0], .int .i64 f1] (fun W => .pointer (some ⟨W.heap.size, 0, none⟩)) (fun W => W.alloc (.cells #[.string ⟨#[]⟩, .int .i64 0, .int .i64 0, .int .i64 0, .string ⟨#[]⟩] 90)) (fun v => v) tupA tupB (fun v => v = .tuple #[.agg #[.string z0, .int .i64 z1, .int .i64 z2, .int .i64 z3, .string z4], .bool Z])
       (fun v p W => ∃ b, v = .tuple #[.agg #[.string z0, .int .i64 z1, .int .i64 z2, .int .i64 z3, .string z4], .bool Z] ∧ p = .pointer (some ⟨b, 0, none⟩) ∧ w2.heap.size ≤ b ∧ Blk W b #[.string ⟨#[]⟩, .int .i64 0, .int .i64 0, .int .i64 0, .string ⟨#[]⟩] 90 ∧ True)
       rfl rfl rfl rfl rfl rfl rfl rfl rfl rfl (by decide) (by decide) (by decide) (by decide) (by decide) (by decide) (by decide) (by decide) (by kernel_rfl) (by kernel_rfl) (by kernel_rfl) (by kernel_rfl) (by kernel_rfl) (by kernel_rfl) (by kernel_rfl) (by kernel_rfl) (by kernel_rfl) (by kernel_rfl) (by kernel_rfl) (by kernel_rfl) (by kernel_rfl) (by kernel_rfl) (by kernel_rfl) (by kernel_rfl)
       (fun _ => rfl) (fun _ => rfl) (fun _ => rfl) (fun _ => rfl) (fun _ => rfl) (fun d _ _ _ _ h => by cases d <;> exact h) ?xj ?xi ?xi' ?x1 ?x1' ?x2 ?x2' ?x3 ?x3' ?hA ?hB ?_
      case xj => intro a' W'; go_simp
      case xi => intro W'; go_simp
      case xi' => intro v W'; go_simp
      case x1 => rintro v W' rfl; go_simp
      case x1' => rintro v p W' rfl; go_simp
      case x2 => rintro v W' rfl; simp only [tupA]; go_simp
      case x2' => rintro v p W' rfl; simp only [tupA]; go_simp
      case x3 => rintro v W' rfl; simp only [tupA, tupB]; go_simp
      case x3' => rintro v p W' rfl; simp only [tupA, tupB]; go_simp
      case hA =>
       refine (HCALL.out Y16 hS).mono ?_
       rintro e w1 ⟨⟨rfl, hrw⟩, hb⟩
       have s1 : Below w2.heap.size w2 w1 := hS.trans (hb.mono hS.size)
       have sa : Below w1.heap.size w1 (w1.alloc (.cells #[.string ⟨#[]⟩, .int .i64 0, .int .i64 0, .int .i64 0, .string ⟨#[]⟩] 90)) := (Below.refl _ _).alloc (Nat.le_refl _) _
       exact ⟨_, rfl, rfl, s1, s1.trans (sa.mono s1.size), w1.heap.size, rfl, rfl, s1.size, Blk.new w1 _ _, trivial⟩
      case hB =>
       have s0 : Below w2.heap.size w2 (Y16.alloc (.cells #[.string ⟨#[]⟩, .int .i64 0, .int .i64 0, .int .i64 0, .string ⟨#[]⟩] 90)) := hS.alloc hS.size _
       refine ⟨s0, (HCALL.out _ s0).mono ?_⟩
       rintro e w1 ⟨⟨rfl, hrw⟩, hb⟩
       exact ⟨_, rfl, rfl, s0.trans (hb.mono s0.size), Y16.heap.size, rfl, rfl, hS.size, (Blk.new Y16 _ _).below hb, trivial⟩
      rintro v p W1 _ hS ⟨bf, rfl, rfl, hbm, BM, hrw⟩
      simp only [tupA, tupB, List.setIfInBounds_toArray, List.set_cons_zero, List.set_cons_succ, List.getD_eq_getElem?_getD, Array.getD_eq_getD_getElem?, List.getElem?_toArray, List.getElem?_cons_zero, List.getElem?_cons_succ, Option.getD_some]
      have t0 := (BM.cell 0).trans rfl
      have y0 := BM.froz 0
      have t1 := (BM.cell 1).trans rfl
      have y1 := BM.froz 1
      have t2 := (BM.cell 2).trans rfl
      have y2 := BM.froz 2
      have t3 := (BM.cell 3).trans rfl
      have y3 := BM.froz 3
      have t4 := (BM.cell 4).trans rfl
      have y4 := BM.froz 4
      have s2 : Below w2.heap.size w2 (((((W1.setCell ⟨bf, 0, none⟩ (.string z0)).setCell ⟨bf, 1, none⟩ (.int .i64 z1)).setCell ⟨bf, 2, none⟩ (.int .i64 z2)).setCell ⟨bf, 3, none⟩ (.int .i64 z3)).setCell ⟨bf, 4, none⟩ (.string z4)) := (Below.setCell (Below.setCell (Below.setCell (Below.setCell (Below.setCell hS hbm _) hbm _) hbm _) hbm _) hbm _)
      refine rg_store 12 (((((W1.setCell ⟨bf, 0, none⟩ (.string z0)).setCell ⟨bf, 1, none⟩ (.int .i64 z1)).setCell ⟨bf, 2, none⟩ (.int .i64 z2)).setCell ⟨bf, 3, none⟩ (.int .i64 z3)).setCell ⟨bf, 4, none⟩ (.string z4)) rfl rfl (by kernel_rfl) (by rfl) (listed' := #[true, true, true, true, true, true, true, true, true, true, true, true, true, false]) (by kernel_rfl) (by go_simp) s2 ?_
      have BM0 : Blk (W1.setCell ⟨bf, 0, none⟩ (.string z0)) bf #[.string z0, .int .i64 0, .int .i64 0, .int .i64 0, .string ⟨#[]⟩] 90 := BM.set 0 (.string z0) rfl
      have BM1 : Blk ((W1.setCell ⟨bf, 0, none⟩ (.string z0)).setCell ⟨bf, 1, none⟩ (.int .i64 z1)) bf #[.string z0, .int .i64 z1, .int .i64 0, .int .i64 0, .string ⟨#[]⟩] 90 := BM0.set 1 (.int .i64 z1) rfl
      have BM2 : Blk (((W1.setCell ⟨bf, 0, none⟩ (.string z0)).setCell ⟨bf, 1, none⟩ (.int .i64 z1)).setCell ⟨bf, 2, none⟩ (.int .i64 z2)) bf #[.string z0, .int .i64 z1, .int .i64 z2, .int .i64 0, .string ⟨#[]⟩] 90 := BM1.set 2 (.int .i64 z2) rfl
      have BM3 : Blk ((((W1.setCell ⟨bf, 0, none⟩ (.string z0)).setCell ⟨bf, 1, none⟩ (.int .i64 z1)).setCell ⟨bf, 2, none⟩ (.int .i64 z2)).setCell ⟨bf, 3, none⟩ (.int .i64 z3)) bf #[.string z0, .int .i64 z1, .int .i64 z2, .int .i64 z3, .string ⟨#[]⟩] 90 := BM2.set 3 (.int .i64 z3) rfl
      have BM4 : Blk (((((W1.setCell ⟨bf, 0, none⟩ (.string z0)).setCell ⟨bf, 1, none⟩ (.int .i64 z1)).setCell ⟨bf, 2, none⟩ (.int .i64 z2)).setCell ⟨bf, 3, none⟩ (.int .i64 z3)).setCell ⟨bf, 4, none⟩ (.string z4)) bf #[.string z0, .int .i64 z1, .int .i64 z2, .int .i64 z3, .string z4] 90 := BM3.set 4 (.string z4) rfl
      have KS : Kp (fun k => k = bf) W1 (((((W1.setCell ⟨bf, 0, none⟩ (.string z0)).setCell ⟨bf, 1, none⟩ (.int .i64 z1)).setCell ⟨bf, 2, none⟩ (.int .i64 z2)).setCell ⟨bf, 3, none⟩ (.int .i64 z3)).setCell ⟨bf, 4, none⟩ (.string z4)) := by
       refine Kp.setCell ?_ (fun _ => by simp) _
       refine Kp.setCell ?_ (fun _ => by simp) _
       refine Kp.setCell ?_ (fun _ => by simp) _
       refine Kp.setCell ?_ (fun _ => by simp) _
       refine Kp.setCell ?_ (fun _ => by simp) _
       exact Kp.refl _ _
      refine rg_take 13 10 (.bool Z) _ rfl rfl (by kernel_rfl) (by kernel_rfl) (by kernel_rfl) (fun _ _ _ h => h) (by rfl) (fun w' hw' => ?_) s2 (listed' := #[true, true, true, true, true, true, true, true, true, true, true, true, true, true]) (by kernel_rfl) rfl ?_
      ·go_simp
      simp only [List.setIfInBounds_toArray, List.set_cons_zero, List.set_cons_succ]
      refine wpAnyH_done (by kernel_rfl) ?_ _
      generalize (((((W1.setCell ⟨bf, 0, none⟩ (.string z0)).setCell ⟨bf, 1, none⟩ (.int .i64 z1)).setCell ⟨bf, 2, none⟩ (.int .i64 z2)).setCell ⟨bf, 3, none⟩ (.int .i64 z3)).setCell ⟨bf, 4, none⟩ (.string z4)) = wd at *
      have Bbf : Blk wd bf #[.string z0, .int .i64 z1, .int .i64 z2, .int .i64 z3, .string z4] 90 := BM4
      clear KS t0 y0 BM0 t1 y1 BM1 t2 y2 BM2 t3 y3 BM3 t4 y4 BM4 BM hrw hS HCL HCALL
      have hbd : Below w.heap.size w wd := hb2.trans (s2.mono hb2.size)
      have BSd := BS2.below s2
      have BMd := BM2.below s2
      have BVd := BV2.below s2
      have HSd : Hid (Seen wd w.heap.size (.slice ta (k + 1) tc) (al ++ [f0])) := HS2.out.below s2
      clear s2 hb2 BS2 BM2 BV2 HS2 Bbf hbm
      have m0 : wd.cell? ⟨bm, 0, none⟩ = some (.string mnm) := BMd.cell 0
      have m1 : wd.cell? ⟨bm, 1, none⟩ = some (.slice (some ⟨g, off, none⟩) nF fc) := BMd.cell 1
      have m2 : wd.cell? ⟨bm, 2, none⟩ = some (.slice ra nR rc) := BMd.cell 2
      have v1 : wd.cell? ⟨bv, 1, none⟩ = some (.int .i64 f1) := BVd.cell 1
      cases Z with
      | true =>
       have HA5 : Hid (A = 7) := by show _ = _; rw [HA4.out, if_pos (by unfold tagB; rw [memI_append, HZ.out]; simp)]
       clear HA4
       go_wp2_with fail
       go_ret
       exact ⟨ret_e HA5.out.symm, hbd⟩
      | false =>
       by_cases hlo : f1 < 1
       ·have HA5 : Hid (A = 7) := by show _ = _; rw [HA4.out, if_pos (by unfold tagB; rw [tagR_low hlo]; rfl)]
        clear HA4
        go_wp2_with fail
        go_ret
        exact ⟨ret_e HA5.out.symm, hbd⟩
       by_cases hhi : 500 < f1
       ·have HA5 : Hid (A = 7) := by show _ = _; rw [HA4.out, if_pos (by unfold tagB; rw [tagR_high hhi]; rfl)]
        clear HA4
        go_wp2_with fail
        go_ret
        exact ⟨ret_e HA5.out.symm, hbd⟩
       have HTR : Hid (tagR f1 = true) := tagR_in hlo hhi
       go_wp2_with fail
       clear m0 m1 m2 v1
       refine (rreserved_any f1 (HR.out.below hbd)).mono ?_
       rintro e w5 ⟨rfl, hb5⟩
       have hbw5 : Below w.heap.size w w5 := hbd.trans (hb5.mono hbd.size)
       have BS5 := BSd.below hb5
       have BM5 := BMd.below hb5
       have BV5 := BVd.below hb5
       have HS5 : Hid (Seen w5 w.heap.size (.slice ta (k + 1) tc) (al ++ [f0])) := HSd.out.below hb5
       clear hb5 hbd BSd BMd BVd HSd
       cases hR : memI f1 ns with
       | true =>
        have HA5 : Hid (A = 7) := by show _ = _; rw [HA4.out, if_pos (by unfold tagB; rw [memI_append, hR]; simp)]
        clear HA4 hR
        go_wp2_with fail
        go_ret
        exact ⟨ret_e HA5.out.symm, hbw5⟩
       | false =>
        have HA5 : Hid (A = if (labB f2 && typeB (ms.map MsS.name) (es.map EnS.name) f3 f4) = false then 8 else chkFs (ms.map MsS.name) (es.map EnS.name) (al ++ [f0]) (ns ++ (fs.take (k + 1)).map FlS.tag) (fs.drop (k + 1))) := by show _ = _; rw [HA4.out, if_neg (by unfold tagB; rw [memI_append, HZ.out, hR, HTR.out]; decide)]
        clear HA4 hR hlo hhi HZ HTR
        have s0 : w5.cell? ⟨w.heap.size, 0, none⟩ = some (.string snm) := BS5.cell 0
        have s1 : w5.cell? ⟨w.heap.size, 1, none⟩ = some (.slice am M cm) := BS5.cell 1
        have s2 : w5.cell? ⟨w.heap.size, 2, none⟩ = some (.slice ae E ce) := BS5.cell 2
        have s3 : w5.cell? ⟨w.heap.size, 3, none⟩ = some (.slice at' T ct) := BS5.cell 3
        have v2 : w5.cell? ⟨bv, 2, none⟩ = some (.int .i64 f2) := BV5.cell 2
        have v3 : w5.cell? ⟨bv, 3, none⟩ = some (.int .i64 f3) := BV5.cell 3
        have v4 : w5.cell? ⟨bv, 4, none⟩ = some (.string f4) := BV5.cell 4
        by_cases hlo : f2 < 1
        ·have HA6 : Hid (A = 8) := by show _ = _; rw [HA5.out, if_pos (by unfold labB; rw [decide_eq_false (by omega)]; rfl)]
         clear HA5
         go_wp2_with fail
         go_ret
         exact ⟨ret_e HA6.out.symm, hbw5⟩
        by_cases hhi : 3 < f2
        ·have HA6 : Hid (A = 8) := by show _ = _; rw [HA5.out, if_pos (by unfold labB; rw [decide_eq_false (by omega)]; rfl)]
         clear HA5
         go_wp2_with fail
         go_ret
         exact ⟨ret_e HA6.out.symm, hbw5⟩
        have HLB : Hid (labB f2 = true) := by show _ = _; unfold labB; rw [decide_eq_true (by omega)]
        go_wp2_with fail
        clear s0 s1 s2 s3 v2 v3 v4
        refine (r7kind_any f3 (HM.out.below hbw5) (HE.out.below hbw5)).mono ?_
        rintro e w6 ⟨rfl, hb6⟩
        have hbw6 : Below w.heap.size w w6 := hbw5.trans (hb6.mono hbw5.size)
        have BS6 := BS5.below hb6
        have BM6 := BM5.below hb6
        have HS6 : Hid (Seen w6 w.heap.size (.slice ta (k + 1) tc) (al ++ [f0])) := HS5.out.below hb6
        clear hb6 hbw5 BS5 BM5 BV5 HS5
        cases hT : typeB (ms.map MsS.name) (es.map EnS.name) f3 f4 with
        | false =>
         have HA6 : Hid (A = 8) := by show _ = _; rw [HA5.out, if_pos (by rw [hT]; simp)]
         clear HA5 hT
         go_wp2_with fail
         go_ret
         exact ⟨ret_e HA6.out.symm, hbw6⟩
        | true =>
         have HA6 : Hid (A = chkFs (ms.map MsS.name) (es.map EnS.name) (al ++ [f0]) (ns ++ (fs.take (k + 1)).map FlS.tag) (fs.drop (k + 1))) := by show _ = _; rw [HA5.out, if_neg (by rw [HLB.out, hT]; decide)]
         clear HA5 hT HLB
         go_wp2_with fail
         go_roundw
         case rel => exact ⟨k + 1, al ++ [f0], ta, tc, rfl, by go_num, by omega, HK2, HA6, HS6, hbw6, BS6, BM6⟩
         case measure => simp [intOf]; omega
    ·have HA3 : Hid (A = 0) := by show _ = _; rw [HAk.out, drop_end (by rw [HNF.out]; omega)]; rfl
     clear HAk
     go_wp2_with fail
     go_ret
     exact ⟨ret_e HA3.out.symm, hbel⟩
set_option maxHeartbeats 8000000 in
theorem rparts_any {w : World} {snm : ByteArray} {am ae at' : Option Addr} {M cm E ce T ct : Nat} {ms : List MsS} {es : List EnS} (hm : MsIn w (.slice am M cm) ms) (he : EnIn w (.slice ae E ce) es) (hM : ms.length = M) (hE : es.length = E)
  (hM14 : M ≤ 30000) (hE10 : E ≤ 30000) (hfl : ∀ m ∈ ms, m.fields.length ≤ 30000 ∧ m.reserved.length ≤ 30000) (hvl : ∀ e ∈ es, e.values.length ≤ 30000) (hsm : ∀ m ∈ ms, m.name.size ≤ 20000 ∧ ∀ f ∈ m.fields, f.name.size ≤ 20000) (hse : ∀ m ∈ es, m.name.size ≤ 20000 ∧ ∀ f ∈ m.values, f.name.size ≤ 20000) :
  Calls Tryz.prog 41 #[.agg #[.string snm, .slice am M cm, .slice ae E ce, .slice at' T ct]] w fun e w' => e = .returned (.int .i64 (orE (chkMs (ms.map MsS.name) (es.map EnS.name) [] ms) (chkEs (ms.map MsS.name) es))) ∧ Below w.heap.size w w' := by
 have q1 : M ≤ cm ∧ cm ≤ 9223372036854775807 := by
  obtain ⟨a, c, h1, h2, h3⟩ := hm.form2
  simp only [Value.slice.injEq] at h1
  obtain ⟨_, rfl, rfl⟩ := h1
  exact ⟨h2, h3⟩
 have q2 : E ≤ ce ∧ ce ≤ 9223372036854775807 := by
  obtain ⟨a, c, h1, h2, h3⟩ := he.form2
  simp only [Value.slice.injEq] at h1
  obtain ⟨_, rfl, rfl⟩ := h1
  exact ⟨h2, h3⟩
 obtain ⟨qm1, qm2⟩ := q1
 obtain ⟨qe1, qe2⟩ := q2
 have HM : Hid (MsIn w (.slice am M cm) ms) := hm
 have HE : Hid (EnIn w (.slice ae E ce) es) := he
 have HLM : Hid (ms.length = M) := hM
 have HLE : Hid (es.length = E) := hE
 have HFL : Hid (∀ m ∈ ms, m.fields.length ≤ 30000 ∧ m.reserved.length ≤ 30000) := hfl
 have HVL : Hid (∀ e ∈ es, e.values.length ≤ 30000) := hvl
 have HSM : Hid (∀ m ∈ ms, m.name.size ≤ 20000 ∧ ∀ f ∈ m.fields, f.name.size ≤ 20000) := hsm
 have HSN : Hid (∀ m ∈ es, m.name.size ≤ 20000 ∧ ∀ f ∈ m.values, f.name.size ≤ 20000) := hse
 clear hm he hM hE hfl hvl hsm hse
 obtain ⟨A, hA⟩ : ∃ A, orE (chkMs (ms.map MsS.name) (es.map EnS.name) [] ms) (chkEs (ms.map MsS.name) es) = A := ⟨_, rfl⟩
 rw [hA]
 have HA : Hid (A = orE (chkMs (ms.map MsS.name) (es.map EnS.name) ((ms.take 0).map MsS.name) (ms.drop 0)) (chkEs (ms.map MsS.name) es)) := hA.symm
 clear hA
 have hba : Below w.heap.size w (w.alloc (.cells #[.string snm, .slice am M cm, .slice ae E ce, .slice at' T ct] 27)) := (Below.refl _ _).alloc (Nat.le_refl _) _
 have BX0 := Blk.new w #[.string snm, .slice am M cm, .slice ae E ce, .slice at' T ct] 27
 have HS0 : Hid (Seen (w.alloc (.cells #[.string snm, .slice am M cm, .slice ae E ce, .slice at' T ct] 27)) w.heap.size (.slice none 0 0) ((ms.take 0).map MsS.name)) := Seen.nil _ _
 go_enter Tryz.func41, Tryz.ntmps41
 go_wp2_with fail
 generalize w.alloc (.cells #[.string snm, .slice am M cm, .slice ae E ce, .slice at' T ct] 27) = wb at *
 go_loopw [3, 4] (fun nv iv wr => ∃ (k : Nat) (sa : Option Addr) (sc : Nat), nv = .slice sa k sc ∧ iv = .int .i64 (k : Int) ∧ k ≤ M ∧ Hid (A = orE (chkMs (ms.map MsS.name) (es.map EnS.name) ((ms.take k).map MsS.name) (ms.drop k)) (chkEs (ms.map MsS.name) es)) ∧ Hid (Seen wr w.heap.size (.slice sa k sc) ((ms.take k).map MsS.name)) ∧ Below w.heap.size w wr ∧ Blk wr w.heap.size #[.string snm, .slice am M cm, .slice ae E ce, .slice at' T ct] 27) (fun _ iv _ => M - (intOf iv).toNat)
 case atStart => exact ⟨0, none, 0, rfl, rfl, by omega, HA, HS0, hba, BX0⟩
 case round =>
  clear HA HS0 hba BX0
  obtain ⟨k, sa, sc, rfl, rfl, hk, HAk, HSE, hbel, BX⟩ := hrel
  have x1 : wr.cell? ⟨w.heap.size, 1, none⟩ = some (.slice am M cm) := BX.cell 1
  by_cases hlt : k < M
  ·obtain ⟨m, hm⟩ : ∃ x, ms[k]? = some x := ⟨_, List.getElem?_eq_getElem (by rw [HLM.out]; exact hlt)⟩
   obtain ⟨g, off, vf, vr, rfl, c0', c1', c2', hrf, hrr⟩ := HM.out.get hm
   obtain ⟨a3, c3, rfl, _, _⟩ := hrf.form2
   obtain ⟨a4, c4, rfl, _, _⟩ := hrr.form2
   have hmem := List.mem_of_getElem? hm
   have hsz := (HSM.out m hmem).1
   have HTK : Hid ((ms.take (k + 1)).map MsS.name = (ms.take k).map MsS.name ++ [m.name]) := by show _ = _; rw [List.take_add_one, hm]; simp
   obtain ⟨al, hal⟩ : ∃ al, (ms.take k).map MsS.name = al := ⟨_, rfl⟩
   rw [hal] at HAk HSE HTK
   have HAL : Hid (al.length = k) := by show _ = _; rw [← hal, List.length_map, List.length_take, HLM.out]; omega
   obtain ⟨X, hX⟩ : ∃ X, chkMb (ms.map MsS.name) (es.map EnS.name) m = X := ⟨_, rfl⟩
   have HA2 : Hid (A = orE (if freshB m.name al = false then 6 else orE X (chkMs (ms.map MsS.name) (es.map EnS.name) (al ++ [m.name]) (ms.drop (k + 1)))) (chkEs (ms.map MsS.name) es)) := by
    show _ = _
    rw [HAk.out, drop_at hm, ← hX]; rfl
   have HCM : Hid (∀ W, Below w.heap.size w W → Calls Tryz.prog 88 #[.agg #[.string snm, .slice (some ⟨g, off, none⟩) M cm, .slice ae E ce, .slice at' T ct], .agg #[.string m.name, .slice a3 (flRows m.fields).length c3, .slice a4 (inRows m.reserved).length c4]] W fun e W' => e = .returned (.int .i64 X) ∧ Below W.heap.size W W') := fun W hW => by
    rw [← hX]
    exact rmsg_any (HM.out.below hW) (HE.out.below hW) (hrf.below hW) (hrr.below hW) (HFL.out m hmem).1 (HFL.out m hmem).2 (HSM.out m hmem).2
   have C0 : Hid (w.cell? ⟨g, off + k * 3, none⟩ = some (.string m.name)) := c0'
   have C1 : Hid (w.cell? ⟨g, off + k * 3 + 1, none⟩ = some (.slice a3 (flRows m.fields).length c3)) := c1'
   have C2 : Hid (w.cell? ⟨g, off + k * 3 + 2, none⟩ = some (.slice a4 (inRows m.reserved).length c4)) := c2'
   clear c0' c1' c2' hrf hrr hm hmem hal hX HAk
   generalize (flRows m.fields).length = nF at *
   generalize (inRows m.reserved).length = nR at *
   generalize m.name = m0 at *
   have p0 : wr.cell? ⟨g, off + k * 3, none⟩ = some (.string m0) := (hbel.cell (World.block_lt_of_cell? _ _ C0.out)).trans C0.out
   go_wp2_with fail
   clear x1 p0
   refine (rfresh_any m0 hsz HSE.out.row).mono ?_
   rintro e w1 ⟨rfl, hb1⟩
   have hbw1 : Below w.heap.size w w1 := hbel.trans (hb1.mono hbel.size)
   have HS1 : Hid (Seen w1 w.heap.size (.slice sa k sc) al) := HSE.out.below hb1
   have BX1 := BX.below hb1
   clear hb1 HSE hbel BX
   cases hfr : freshB m0 al with
   | false =>
    have HA4 : Hid (A = 6) := by show _ = _; rw [HA2.out, if_pos hfr]; rfl
    clear HA2
    go_wp2_with fail
    go_ret
    exact ⟨ret_e HA4.out.symm, hbw1⟩
   | true =>
    have HA4 : Hid (A = orE (orE X (chkMs (ms.map MsS.name) (es.map EnS.name) (al ++ [m0]) (ms.drop (k + 1)))) (chkEs (ms.map MsS.name) es)) := by show _ = _; rw [HA2.out, if_neg (by rw [hfr]; decide)]
    clear HA2 hfr
    have x1 : w1.cell? ⟨w.heap.size, 1, none⟩ = some (.slice (some ⟨g, off, none⟩) M cm) := BX1.cell 1
    have p0 : w1.cell? ⟨g, off + k * 3, none⟩ = some (.string m0) := (hbw1.cell (World.block_lt_of_cell? _ _ C0.out)).trans C0.out
    go_wp2_with (first
     | (at_builtin; refine wpList_seen (al := al) (x := m0) rfl _ _ rfl rfl rfl HS1.out ?c1 ?c2 ?_)
     | fail)
    case c1 => exact hbw1.size
    case c2 => rw [HAL.out]; omega
    intro v' w2 hS2 hK2 hB2
    obtain ⟨ta, tc, rfl⟩ := hS2.form
    have hl2 : (al ++ [m0]).length = k + 1 := by rw [List.length_append, HAL.out]; rfl
    rw [hl2] at hS2 ⊢
    have HS2 : Hid (Seen w2 w.heap.size (.slice ta (k + 1) tc) (al ++ [m0])) := hS2
    have HAL2 : Hid ((al ++ [m0]).length = k + 1) := hl2
    have hb2 : Below w.heap.size w w2 := hbw1.trans hB2
    have BX2 := BX1.kp hK2 (fun e => absurd (own_type HS1.out e BX1) (by decide))
    clear x1 p0 hS2 hl2 hK2 hB2 BX1 HS1 hbw1 HAL
    have k0 : w2.cell? ⟨g, off + k * 3, none⟩ = some (.string m0) := (hb2.cell (World.block_lt_of_cell? _ _ C0.out)).trans C0.out
    have k1 : w2.cell? ⟨g, off + k * 3 + 1, none⟩ = some (.slice a3 nF c3) := (hb2.cell (World.block_lt_of_cell? _ _ C1.out)).trans C1.out
    have k2 : w2.cell? ⟨g, off + k * 3 + 2, none⟩ = some (.slice a4 nR c4) := (hb2.cell (World.block_lt_of_cell? _ _ C2.out)).trans C2.out
    have x0 : w2.cell? ⟨w.heap.size, 0, none⟩ = some (.string snm) := BX2.cell 0
    have x1 : w2.cell? ⟨w.heap.size, 1, none⟩ = some (.slice (some ⟨g, off, none⟩) M cm) := BX2.cell 1
    have x2 : w2.cell? ⟨w.heap.size, 2, none⟩ = some (.slice ae E ce) := BX2.cell 2
    have x3 : w2.cell? ⟨w.heap.size, 3, none⟩ = some (.slice at' T ct) := BX2.cell 3
    have HS : Hid (∀ W, Below w2.heap.size w2 W → Calls Tryz.prog 88 #[.agg #[.string snm, .slice (some ⟨g, off, none⟩) M cm, .slice ae E ce, .slice at' T ct], .agg #[.string m0, .slice a3 nF c3, .slice a4 nR c4]] W fun e W' => e = .returned (.int .i64 X) ∧ Below w2.heap.size w2 W') := fun W hW => by
     refine (HCM.out W (hb2.trans (hW.mono hb2.size))).mono ?_
     rintro e W' ⟨rfl, hb⟩
     exact ⟨rfl, hW.trans (hb.mono hW.size)⟩
    clear HCM
    go_wp2_with fail
    have kk0 := kept_cell k0
    have kk1 := kept_cell k1
    have kk2 := kept_cell k2
    have kk3 := kept_cell x0
    have kk4 := kept_cell x1
    have kk5 := kept_cell x2
    have kk6 := kept_cell x3
    haveI := nonempty_qb (Below.refl w2.heap.size w2)
    refine wp_region_qb (Below.refl w2.heap.size w2) (by kernel_rfl) (by kernel_rfl) ?_
    repeat (go_big_quiet_step (first | (go_at_call 88; exact qb_call HS.out)))
    refine wpQuiet_nil ?_
    rintro we ⟨⟨_, hW⟩, rfl⟩
    clear kk0 kk1 kk2 kk3 kk4 kk5 kk6
    have hbn : Below w.heap.size w we := hb2.trans (hW.mono hb2.size)
    have hbx := BX2.below hW
    have HS3 : Hid (Seen we w.heap.size (.slice ta (k + 1) tc) (al ++ [m0])) := HS2.out.below hW
    clear k0 k1 k2 x0 x1 x2 x3 HS hW hb2 BX2 HS2
    by_cases hX0 : X = 0
    ·subst hX0
     have HA5 : Hid (A = orE (chkMs (ms.map MsS.name) (es.map EnS.name) ((ms.take (k + 1)).map MsS.name) (ms.drop (k + 1))) (chkEs (ms.map MsS.name) es)) := by show _ = _; rw [HA4.out, HTK.out, orE_zero]
     have HS4 : Hid (Seen we w.heap.size (.slice ta (k + 1) tc) ((ms.take (k + 1)).map MsS.name)) := by show Seen _ _ _ _; rw [HTK.out]; exact HS3.out
     go_wp2_with fail
     go_roundw
     case rel => exact ⟨k + 1, ta, tc, rfl, by go_num, by omega, HA5, HS4, hbn, hbx⟩
     case measure => simp [intOf]; omega
    ·have HA5 : Hid (A = X) := by show _ = _; rw [HA4.out, orE_ne hX0, orE_ne hX0]
     have hq : (X == 0) = false := by rw [beq_eq_false_iff_ne]; exact hX0
     clear HA4 hX0
     go_wp2_with fail
     go_ret
     exact ⟨ret_e HA5.out.symm, hbn⟩
  ·have HA2 : Hid (A = chkEs ((ms.map MsS.name) ++ (es.take 0).map EnS.name) (es.drop 0)) := by
    show _ = _
    rw [HAk.out, drop_end (by rw [HLM.out]; omega)]
    simp [chkMs, orE]
   have hkM : k = M := by omega
   have HS0 : Hid (Seen wr w.heap.size (.slice sa (M + 0) sc) ((ms.map MsS.name) ++ (es.take 0).map EnS.name)) := by
    have h1 := HSE.out
    show Seen _ _ _ _
    rw [hkM, List.take_of_length_le (by rw [HLM.out]; omega)] at h1
    simpa using h1
   clear HAk HSE
   subst hkM
   go_wp2_with fail
   clear x1 hk hlt
   go_loopw [3, 6] (fun nv iv wr => ∃ (j : Nat) (sa : Option Addr) (sc : Nat), nv = .slice sa (k + j) sc ∧ iv = .int .i64 (j : Int) ∧ j ≤ E ∧ Hid (A = chkEs ((ms.map MsS.name) ++ (es.take j).map EnS.name) (es.drop j)) ∧ Hid (Seen wr w.heap.size (.slice sa (k + j) sc) ((ms.map MsS.name) ++ (es.take j).map EnS.name)) ∧ Below w.heap.size w wr ∧ Blk wr w.heap.size #[.string snm, .slice am k cm, .slice ae E ce, .slice at' T ct] 27) (fun _ iv _ => E - (intOf iv).toNat)
   case atStart => exact ⟨0, sa, sc, rfl, rfl, by omega, HA2, HS0, hbel, BX⟩
   case round =>
    clear HA2 HS0 hbel BX
    obtain ⟨j, sa, sc, rfl, rfl, hj, HAk, HSE, hbel, BX⟩ := hrel
    have x2 : wr.cell? ⟨w.heap.size, 2, none⟩ = some (.slice ae E ce) := BX.cell 2
    by_cases hlt : j < E
    ·obtain ⟨m, hm⟩ : ∃ x, es[j]? = some x := ⟨_, List.getElem?_eq_getElem (by rw [HLE.out]; exact hlt)⟩
     obtain ⟨g, off, vv, rfl, c0', c1', hrf⟩ := HE.out.get hm
     obtain ⟨a3, c3, rfl, _, _⟩ := hrf.form2
     have hmem := List.mem_of_getElem? hm
     have hsz := (HSN.out m hmem).1
     have HTK : Hid ((ms.map MsS.name) ++ (es.take (j + 1)).map EnS.name = ((ms.map MsS.name) ++ (es.take j).map EnS.name) ++ [m.name]) := by show _ = _; rw [List.take_add_one, hm]; simp
     obtain ⟨al, hal⟩ : ∃ al, (ms.map MsS.name) ++ (es.take j).map EnS.name = al := ⟨_, rfl⟩
     rw [hal] at HAk HSE HTK
     have HAL : Hid (al.length = k + j) := by show _ = _; rw [← hal, List.length_append, List.length_map, List.length_map, List.length_take, HLE.out, HLM.out]; omega
     obtain ⟨X, hX⟩ : ∃ X, chkEb m = X := ⟨_, rfl⟩
     have HA2 : Hid (A = if freshB m.name al = false then 6 else orE X (chkEs (al ++ [m.name]) (es.drop (j + 1)))) := by
      show _ = _
      rw [HAk.out, drop_at hm, ← hX]; rfl
     have HCM : Hid (∀ W, Below w.heap.size w W → Calls Tryz.prog 89 #[.agg #[.string m.name, .slice a3 (nmRows m.values).length c3]] W fun e W' => e = .returned (.int .i64 X) ∧ Below W.heap.size W W') := fun W hW => by
      rw [← hX]
      exact rfenum_any (hrf.below hW) (HVL.out m hmem) (HSN.out m hmem).2
     have C0 : Hid (w.cell? ⟨g, off + j * 2, none⟩ = some (.string m.name)) := c0'
     have C1 : Hid (w.cell? ⟨g, off + j * 2 + 1, none⟩ = some (.slice a3 (nmRows m.values).length c3)) := c1'
     clear c0' c1' hrf hm hmem hal hX HAk
     generalize (nmRows m.values).length = nF at *
     generalize m.name = m0 at *
     have p0 : wr.cell? ⟨g, off + j * 2, none⟩ = some (.string m0) := (hbel.cell (World.block_lt_of_cell? _ _ C0.out)).trans C0.out
     go_wp2_with fail
     clear x2 p0
     refine (rfresh_any m0 hsz HSE.out.row).mono ?_
     rintro e w1 ⟨rfl, hb1⟩
     have hbw1 : Below w.heap.size w w1 := hbel.trans (hb1.mono hbel.size)
     have HS1 : Hid (Seen w1 w.heap.size (.slice sa (k + j) sc) al) := HSE.out.below hb1
     have BX1 := BX.below hb1
     clear hb1 HSE hbel BX
     cases hfr : freshB m0 al with
     | false =>
      have HA4 : Hid (A = 6) := by show _ = _; rw [HA2.out, if_pos hfr]
      clear HA2
      go_wp2_with fail
      go_ret
      exact ⟨ret_e HA4.out.symm, hbw1⟩
     | true =>
      have HA4 : Hid (A = orE X (chkEs (al ++ [m0]) (es.drop (j + 1)))) := by show _ = _; rw [HA2.out, if_neg (by rw [hfr]; decide)]
      clear HA2 hfr
      have x2 : w1.cell? ⟨w.heap.size, 2, none⟩ = some (.slice (some ⟨g, off, none⟩) E ce) := BX1.cell 2
      have p0 : w1.cell? ⟨g, off + j * 2, none⟩ = some (.string m0) := (hbw1.cell (World.block_lt_of_cell? _ _ C0.out)).trans C0.out
      go_wp2_with (first
       | (at_builtin; refine wpList_seen (al := al) (x := m0) rfl _ _ rfl rfl rfl HS1.out ?c1 ?c2 ?_)
       | fail)
      case c1 => exact hbw1.size
      case c2 => rw [HAL.out]; omega
      intro v' w2 hS2 hK2 hB2
      obtain ⟨ta, tc, rfl⟩ := hS2.form
      have hl2 : (al ++ [m0]).length = k + j + 1 := by rw [List.length_append, HAL.out]; rfl
      rw [hl2] at hS2 ⊢
      have HS2 : Hid (Seen w2 w.heap.size (.slice ta (k + j + 1) tc) (al ++ [m0])) := hS2
      have HAL2 : Hid ((al ++ [m0]).length = k + j + 1) := hl2
      have hb2 : Below w.heap.size w w2 := hbw1.trans hB2
      have BX2 := BX1.kp hK2 (fun e => absurd (own_type HS1.out e BX1) (by decide))
      clear x2 p0 hS2 hl2 hK2 hB2 BX1 HS1 hbw1 HAL
      have k0 : w2.cell? ⟨g, off + j * 2, none⟩ = some (.string m0) := (hb2.cell (World.block_lt_of_cell? _ _ C0.out)).trans C0.out
      have k1 : w2.cell? ⟨g, off + j * 2 + 1, none⟩ = some (.slice a3 nF c3) := (hb2.cell (World.block_lt_of_cell? _ _ C1.out)).trans C1.out
      have x2 : w2.cell? ⟨w.heap.size, 2, none⟩ = some (.slice (some ⟨g, off, none⟩) E ce) := BX2.cell 2
      go_wp2_with fail
      clear k0 k1 x2
      refine (HCM.out w2 hb2).mono ?_
      rintro e we ⟨rfl, hW⟩
      have hbn : Below w.heap.size w we := hb2.trans (hW.mono hb2.size)
      have hbx := BX2.below hW
      have HS3 : Hid (Seen we w.heap.size (.slice ta (k + j + 1) tc) (al ++ [m0])) := HS2.out.below hW
      clear hW hb2 BX2 HS2 HCM
      by_cases hX0 : X = 0
      ·subst hX0
       have HA5 : Hid (A = chkEs ((ms.map MsS.name) ++ (es.take (j + 1)).map EnS.name) (es.drop (j + 1))) := by show _ = _; rw [HA4.out, HTK.out, orE_zero]
       have HS4 : Hid (Seen we w.heap.size (.slice ta (k + (j + 1)) tc) ((ms.map MsS.name) ++ (es.take (j + 1)).map EnS.name)) := by show Seen _ _ _ _; rw [HTK.out]; exact HS3.out
       go_wp2_with fail
       go_roundw
       case rel => exact ⟨j + 1, ta, tc, rfl, by go_num, by omega, HA5, HS4, hbn, hbx⟩
       case measure => simp [intOf]; omega
      ·have HA5 : Hid (A = X) := by show _ = _; rw [HA4.out, orE_ne hX0]
       have hq : (X == 0) = false := by rw [beq_eq_false_iff_ne]; exact hX0
       clear HA4 hX0
       go_wp2_with fail
       go_ret
       exact ⟨ret_e HA5.out.symm, hbn⟩
    ·have HA3 : Hid (A = 0) := by show _ = _; rw [HAk.out, drop_end (by rw [HLE.out]; omega)]; rfl
     clear HAk
     go_wp2_with fail
     go_ret
     exact ⟨ret_e HA3.out.symm, hbel⟩
end Go.Proofs.YtcjfeandnmochaaGreatDoor
namespace Go.Proofs.YtcjfeandnmochaaGreatDoor
open Go.ChangeShapes Go.WideShapes Go.ChangeAt Go.RowKit
set_option linter.unusedVariables false
set_option linter.unusedSimpArgs false
set_option maxRecDepth 20000
def flFew (f : FlS) : Prop := f.name.size ≤ 200 ∧ f.tname.size ≤ 200
def msFew (n : Nat) (m : MsS) : Prop := m.name.size ≤ n ∧ m.fields.length ≤ 20 ∧ m.reserved.length ≤ 40 ∧ ∀ f ∈ m.fields, flFew f
def nmFew (f : NmS) : Prop := f.name.size ≤ 200
def enFew (m : EnS) : Prop := m.name.size ≤ 200 ∧ m.values.length ≤ 24 ∧ ∀ f ∈ m.values, nmFew f
def mtFew (m : MtS) : Prop := m.name.size ≤ 200 ∧ m.inn.size ≤ 200 ∧ m.out.size ≤ 200
structure FewS (s : ScS) : Prop where
 name : s.name.size ≤ 3000
 msgs : s.msgs.length ≤ 14
 enums : s.enums.length ≤ 10
 meths : s.methods.length ≤ 10
 eachM : ∀ m ∈ s.msgs, msFew 3000 m
 eachE : ∀ m ∈ s.enums, enFew m
 eachT : ∀ m ∈ s.methods, mtFew m
theorem FewS.few {s : ScS} (h : FewS s) : FewL s := ⟨h.msgs, h.enums, h.meths, fun m hm => ⟨(h.eachM m hm).2.1, (h.eachM m hm).2.2.1⟩, fun e he => (h.eachE e he).2.1⟩
theorem msFew.up {n n' : Nat} {m : MsS} (h : msFew n m) (hn : n ≤ n') : msFew n' m := ⟨Nat.le_trans h.1 hn, h.2⟩
def FewP (s : ScS) (e : Ending) : Prop := e = .returned (.bool false) ∨ (e = .returned (.bool true) ∧ FewS s)
theorem FewP.no (s : ScS) : FewP s (.returned (.bool false)) := .inl rfl
theorem FewP.yes {s : ScS} (h : FewS s) : FewP s (.returned (.bool true)) := .inr ⟨rfl, h⟩
end Go.Proofs.YtcjfeandnmochaaGreatDoor
