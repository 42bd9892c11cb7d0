/- What print's message and enum write. -/
import Derived.Sort.Grow
import Derived.WalkKit
import Derived.Test.YtkfhlgajeejgeaaGreatDoorPkE
import Derived.Test.YtkfhlgajeejgeaaGreatDoorPkB
import Derived.Test.YtkfhlgajeejgeaaGreatDoorPkC
import Derived.Test.YtkfhlgajeejgeaaGreatDoorPkD
namespace Go.Proofs.YtkfhlgajeejgeaaGreatDoor
open Go.ChangeShapes Go.WideShapes Go.ChangeAt Go.RowKit
set_option linter.unusedVariables false
set_option linter.unusedSimpArgs false
set_option maxRecDepth 20000

theorem pieces_cons (p : ByteArray) (ps : List ByteArray) : piecesL (p :: ps) = p.data.toList ++ piecesL ps := rfl
theorem pieces_nil : piecesL [] = [] := rfl
theorem map_take {α β : Type} (f : α → List β) {l : List α} {k : Nat} {x : α} (h : l[k]? = some x) : ((l.take (k + 1)).map f).flatten = ((l.take k).map f).flatten ++ f x := by
  rw [List.take_add_one, h]; simp
theorem map_take_le {α β : Type} (f : α → List β) (l : List α) (k : Nat) : ((l.take k).map f).flatten.length ≤ (l.map f).flatten.length := by
  have e : (l.map f).flatten = ((l.take k).map f).flatten ++ ((l.drop k).map f).flatten := by
    rw [← List.flatten_append, ← List.map_append, List.take_append_drop]
  rw [e, List.length_append]; exact Nat.le_add_right _ _
theorem field_pieces (f : FlS) : piecesL [⟨#[32, 32]⟩, labTx f.label, wordTx f.kind f.tname, ⟨#[32]⟩, f.name, ⟨#[32, 61, 32]⟩, ⟨(Lib.itoa f.tag).toArray⟩, ⟨#[59]⟩] ++ [10] = fieldL f := by
  simp [piecesL, fieldL, labTx, wordTx]
theorem val_pieces (f : NmS) : piecesL [⟨#[32, 32]⟩, f.name, ⟨#[32, 61, 32]⟩, ⟨(Lib.itoa f.n).toArray⟩, ⟨#[59]⟩] ++ [10] = valL f := by
  simp [piecesL, valL]
def mHead (m : MsS) : List UInt8 := [109, 101, 115, 115, 97, 103, 101, 32] ++ m.name.data.toList ++ [32, 123, 10]
def eHead (m : EnS) : List UInt8 := [101, 110, 117, 109, 32] ++ m.name.data.toList ++ [32, 123, 10]
theorem mhead_pieces (n : ByteArray) (f : List FlS) (r : List Int) : piecesL [⟨#[109, 101, 115, 115, 97, 103, 101, 32]⟩, n, ⟨#[32, 123]⟩] ++ [10] = mHead ⟨n, f, r⟩ := by
  simp [piecesL, mHead]
theorem ehead_pieces (n : ByteArray) (f : List NmS) : piecesL [⟨#[101, 110, 117, 109, 32]⟩, n, ⟨#[32, 123]⟩] ++ [10] = eHead ⟨n, f⟩ := by
  simp [piecesL, eHead]
theorem msgL_eq (m : MsS) : msgL m = mHead m ++ (m.fields.map fieldL).flatten ++ resL m.reserved ++ [125, 10] := by simp [msgL, mHead]
theorem enumL_eq (m : EnS) : enumL m = eHead m ++ (m.values.map valL).flatten ++ [125, 10] := by simp [enumL, eHead]
theorem res_pieces {ns : List Int} (h : ns ≠ []) : piecesL [⟨#[32, 32, 114, 101, 115, 101, 114, 118, 101, 100, 32]⟩, numsB ns, ⟨#[59]⟩] ++ [10] = resL ns := by
  unfold resL
  rw [if_neg h]
  simp [piecesL, numsB]
set_option maxHeartbeats 2000000 in
theorem enum_any {w0 w : World} {b : Nat} {bs : List UInt8} {vf : Value} {m : EnS} (h : Pg w0 b bs w) (hf : RowG w0 vf 2 (nmRows m.values)) (ht : PTab w0) (hw : EnW m) (hlen : bs.length + (enumL m).length ≤ 1000000000) :
    Calls Tryz.prog 32 #[.pointer (some ⟨b, 0, none⟩), .agg #[.string m.name, vf]] w fun e w' => e = .returned (.tuple #[]) ∧ Pg w0 b (bs ++ enumL m) w' ∧ Ot b w w' := by
  obtain ⟨af, cf, rfl, p1, p2⟩ := hf.form2
  obtain ⟨nm, mf⟩ := m
  simp only at *
  have HW : Hid (EnW ⟨nm, mf⟩) := hw
  have HL : Hid (bs.length + (enumL ⟨nm, mf⟩).length ≤ 1000000000) := hlen
  have HML : Hid (enumL ⟨nm, mf⟩ = eHead ⟨nm, mf⟩ ++ (mf.map valL).flatten ++ [125, 10]) := enumL_eq _
  have HF : Hid (RowG w0 (.slice af (nmRows mf).length cf) 2 (nmRows mf)) := hf
  have HLF : Hid ((nmRows mf).length = mf.length) := by show _ = _; simp [nmRows]
  generalize hnF : (nmRows mf).length = nF at *
  have HP : Hid (Pg w0 b bs w) := h
  have HT : Hid (PTab w0) := ht
  have hlt := h.lt
  have HLT : Hid (b < w.heap.size) := hlt
  have hbx : Below w.heap.size w (w.alloc (.cells #[.string nm, .slice af nF cf] 47)) := (Below.refl _ _).alloc (Nat.le_refl _) _
  have BX0 : Blk (w.alloc (.cells #[.string nm, .slice af nF cf] 47)) w.heap.size #[.string nm, .slice af nF cf] 47 := Blk.new w _ _
  have HOX : Hid (Ot b w (w.alloc (.cells #[.string nm, .slice af nF cf] 47))) := Ot.ofBelow hbx
  have HPX : Hid (Pg w0 b bs (w.alloc (.cells #[.string nm, .slice af nF cf] 47))) := h.below hbx
  clear h hf ht hw hlen hlt hnF 
  go_enter Tryz.func32, Tryz.ntmps32
  go_wp2_with fail
  obtain ⟨bx, hbxe⟩ : ∃ n, w.heap.size = n := ⟨_, rfl⟩
  rw [hbxe] at BX0 HLT hbx
  have hne : bx ≠ b := by have := HLT.out; omega
  have hal : ∀ (W : World) (cs : Array Value), Below W.heap.size W (W.alloc (.cells cs 9)) := fun W cs => (Below.refl _ _).alloc (Nat.le_refl _) _
  refine (line_any (n := 3) (ps := [⟨#[101, 110, 117, 109, 32]⟩, nm, ⟨#[32, 123]⟩]) (HPX.out.below (hal _ _)) (Blk.newAt (b := w.heap.size + 1) (by simp)) rfl (by decide) (by
    have h1 := HL.out
    have h2 : (piecesL [⟨#[101, 110, 117, 109, 32]⟩, nm, ⟨#[32, 123]⟩] ++ [10]).length = (eHead ⟨nm, mf⟩).length := by rw [ehead_pieces nm mf]
    rw [HML.out] at h1
    simp only [List.length_append, List.length_cons, List.length_nil] at h1 h2 ⊢
    omega)).mono ?_
  rintro e w1 ⟨rfl, hp1, ho1⟩
  have HP1 : Hid (Pg w0 b (bs ++ eHead ⟨nm, mf⟩ ++ ((mf.take 0).map valL).flatten) w1) := by
    show Pg _ _ _ _
    rw [List.take_zero, List.map_nil, List.flatten_nil, List.append_nil, ← ehead_pieces nm mf, ← List.append_assoc]
    exact hp1
  have HO1 : Hid (Ot b w w1) := HOX.out.trans ((Ot.ofBelow (hal _ _)).trans ho1)
  have BX1 : Blk w1 bx #[.string nm, .slice af nF cf] 47 := ho1.blk (BX0.below (hal _ _)) hne (by decide)
  rw [hbxe]
  clear hp1 ho1 BX0 HPX HOX hbx hbxe
  have x1 := (BX1.cell 1).trans rfl
  go_wp2_with fail
  clear x1
  go_loopw [14] (fun iv wr => ∃ k : Nat, iv = .int .i64 (k : Int) ∧ k ≤ nF ∧ Hid (Pg w0 b (bs ++ eHead ⟨nm, mf⟩ ++ ((mf.take k).map valL).flatten) wr) ∧ Hid (Ot b w wr) ∧ Blk wr bx #[.string nm, .slice af nF cf] 47) (fun iv _ => nF - (intOf iv).toNat)
  case atStart => exact ⟨0, rfl, by omega, HP1, HO1, BX1⟩
  case round =>
    obtain ⟨k, rfl, hk, HPk, HOk, BXk⟩ := hrel
    clear HP1 HO1 BX1
    by_cases hlt : k < nF
    · obtain ⟨f, hf⟩ : ∃ n, mf[k]? = some n := ⟨_, List.getElem?_eq_getElem (by rw [← HLF.out]; exact hlt)⟩
      have hrr : (nmRows mf)[k]? = some f.cells := by simp [nmRows, hf]
      obtain ⟨g, off, rfl, cc⟩ := (HF.out.below HPk.out.bel).get hrr
      have HFW : Hid (NmW f) := HW.out.2 f (List.mem_of_getElem? hf)
      have HTK : Hid (((mf.take (k + 1)).map valL).flatten = ((mf.take k).map valL).flatten ++ valL f) := map_take valL hf
      have HLE : Hid ((bs ++ eHead ⟨nm, mf⟩ ++ ((mf.take k).map valL).flatten).length + (valL f).length ≤ 1000000000) := by
        have h1 := HL.out
        have h2 := map_take_le valL mf (k + 1)
        rw [HTK.out, List.length_append] at h2
        rw [HML.out] at h1
        simp only [List.length_append, List.length_cons, List.length_nil] at h1 h2
        show _ ≤ _
        simp only [List.length_append]
        omega
      obtain ⟨f0, f1⟩ := f
      have c0 := cc 0 _ rfl
      have c1 := cc 1 _ rfl
      rw [Nat.add_zero] at c0
      clear hf hrr cc
      have hkn : (k : Int) < (nF : Int) := by omega
      go_wp2_with fail
      clear c0 c1
      have BF0 : Blk (wr.alloc (.cells #[.string f0, .int .i64 f1] 49)).drew wr.heap.size #[.string f0, .int .i64 f1] 49 := Blk.new wr _ _
      have hbf : Below wr.heap.size wr (wr.alloc (.cells #[.string f0, .int .i64 f1] 49)).drew := below_drewN 1 ((Below.refl _ _).alloc (Nat.le_refl _) _)
      have HPW : Hid (Pg w0 b (bs ++ eHead ⟨nm, mf⟩ ++ ((mf.take k).map valL).flatten) (wr.alloc (.cells #[.string f0, .int .i64 f1] 49)).drew) := HPk.out.below hbf
      have HOW : Hid (Ot b w (wr.alloc (.cells #[.string f0, .int .i64 f1] 49)).drew) := HOk.out.trans (Ot.ofBelow hbf)
      have BXW := BXk.below hbf
      have hbfb : wr.heap.size ≠ b := by have := HPk.out.lt; omega
      refine wp_region_held_drew (S := fun W => Blk W wr.heap.size #[.string f0, .int .i64 f1] 49) (by kernel_rfl) BF0 (fun hS => ?_)
      clear BF0
      generalize (wr.alloc (.cells #[.string f0, .int .i64 f1] 49)).drew = W0 at *
      obtain ⟨bf, hbfe⟩ : ∃ n, wr.heap.size = n := ⟨_, rfl⟩
      rw [hbfe] at hS hbfb ⊢
      clear hbfe hbf HPk HOk BXk
      refine rg_take 0 18 (.pointer (some ⟨b, 0, none⟩)) _ rfl rfl (by kernel_rfl) (by kernel_rfl) (by kernel_rfl) (fun _ _ _ h => h) (by rfl) (fun w' hw' => ?_) hS (listed' := #[true, false, false, false, false, false, false, false]) (by kernel_rfl) rfl ?_
      · go_simp
      simp only [List.setIfInBounds_toArray, List.set_cons_zero, List.set_cons_succ]
      refine rg_take 1 19 (.pointer (some ⟨bf, 0, none⟩)) _ rfl rfl (by kernel_rfl) (by kernel_rfl) (by kernel_rfl) (fun _ _ _ h => h) (by rfl) (fun w' hw' => ?_) hS (listed' := #[true, true, false, false, false, false, false, false]) (by kernel_rfl) rfl ?_
      · go_simp
      simp only [List.setIfInBounds_toArray, List.set_cons_zero, List.set_cons_succ]
      refine rg_take 3 21 (.pointer (some ⟨bf, 1, none⟩)) _ rfl rfl (by kernel_rfl) (by kernel_rfl) (by kernel_rfl) (fun _ _ _ h => h) (by rfl) (fun w' hw' => ?_) hS (listed' := #[true, true, false, true, false, false, false, false]) (by kernel_rfl) rfl ?_
      · go_simp
      simp only [List.setIfInBounds_toArray, List.set_cons_zero, List.set_cons_succ]
      refine rg_take 2 20 (.string f0) _ rfl rfl (by kernel_rfl) (by kernel_rfl) (by kernel_rfl) (fun _ _ _ h => h) (by rfl) (fun w' hw' => ?_) hS (listed' := #[true, true, true, true, false, false, false, false]) (by kernel_rfl) rfl ?_
      · have c0 := (hw'.cell 0).trans rfl; go_simp
      simp only [List.setIfInBounds_toArray, List.set_cons_zero, List.set_cons_succ]
      refine rg_take 4 22 (.int .i64 f1) _ rfl rfl (by kernel_rfl) (by kernel_rfl) (by kernel_rfl) (fun _ _ _ h => h) (by rfl) (fun w' hw' => ?_) hS (listed' := #[true, true, true, true, true, false, false, false]) (by kernel_rfl) rfl ?_
      · have c1 := (hw'.cell 1).trans rfl; go_simp
      simp only [List.setIfInBounds_toArray, List.set_cons_zero, List.set_cons_succ]
      refine rg_call 5 23 57 #[.int .i64 f1] rfl rfl (by kernel_rfl) (by rfl) (listed' := #[true, true, true, true, true, true, false, false]) (by kernel_rfl) (fun W => by go_simp) ?_
      refine (itoa_any f1 HFW.out.2.1 HFW.out.2.2 (HT.out.below HPW.out.bel)).mono ?_
      rintro e W3 ⟨rfl, hb3⟩
      have hS := hS.below hb3
      refine ⟨_, rfl, hS, ?_⟩
      simp only [List.setIfInBounds_toArray, List.set_cons_zero, List.set_cons_succ]
      have HPL : Hid (piecesL [⟨#[32, 32]⟩, f0, ⟨#[32, 61, 32]⟩, ⟨(Lib.itoa f1).toArray⟩, ⟨#[59]⟩] ++ [10] = valL ⟨f0, f1⟩) := val_pieces ⟨f0, f1⟩
      have HP3 : Hid (Pg w0 b (bs ++ eHead ⟨nm, mf⟩ ++ ((mf.take k).map valL).flatten) W3) := HPW.out.below hb3
      have HO3 : Hid (Ot b w W3) := HOW.out.trans (Ot.ofBelow hb3)
      have BX3 := BXW.below hb3
      generalize (⟨(Lib.itoa f1).toArray⟩ : ByteArray) = t3 at *
      have hS4 := hS.below (hal W3 #[.string ⟨#[32, 32]⟩, .string f0, .string ⟨#[32, 61, 32]⟩, .string t3, .string ⟨#[59]⟩])
      refine rg_run 6 24 (.slice (some ⟨W3.heap.size, 0, none⟩) 5 5) (W3.alloc (.cells #[.string ⟨#[32, 32]⟩, .string f0, .string ⟨#[32, 61, 32]⟩, .string t3, .string ⟨#[59]⟩] 9)) rfl rfl (by kernel_rfl) (by rfl) (listed' := #[true, true, true, true, true, true, true, false]) (by kernel_rfl) (by go_simp) hS4 ?_
      simp only [List.setIfInBounds_toArray, List.set_cons_zero, List.set_cons_succ]
      refine rg_call 7 25 30 #[.pointer (some ⟨b, 0, none⟩), .slice (some ⟨W3.heap.size, 0, none⟩) 5 5] rfl rfl (by kernel_rfl) (by rfl) (listed' := #[true, true, true, true, true, true, true, true]) (by kernel_rfl) (fun W => by go_simp) ?_
      refine (line_any (n := 5) (ps := [⟨#[32, 32]⟩, f0, ⟨#[32, 61, 32]⟩, t3, ⟨#[59]⟩]) (HP3.out.below (hal _ _)) (Blk.new _ _ _) rfl (by decide) (by
        have h1 := HLE.out
        rw [← HPL.out] at h1
        simp only [List.length_append, List.length_cons, List.length_nil] at h1 ⊢
        omega)).mono ?_
      rintro e W5 ⟨rfl, hp5, ho5⟩
      have HP5 : Hid (Pg w0 b (bs ++ eHead ⟨nm, mf⟩ ++ ((mf.take (k + 1)).map valL).flatten) W5) := by
        show Pg _ _ _ _
        rw [HTK.out, ← HPL.out, ← List.append_assoc, ← List.append_assoc]
        exact hp5
      have HO5 : Hid (Ot b w W5) := HO3.out.trans ((Ot.ofBelow (hal _ _)).trans ho5)
      have BX5 := ho5.blk (BX3.below (hal _ _)) hne (by decide)
      have hS5 : Blk W5 bf #[.string f0, .int .i64 f1] 49 := ho5.blk hS4 hbfb (by decide)
      refine ⟨_, rfl, hS5, ?_⟩
      simp only [List.setIfInBounds_toArray, List.set_cons_zero, List.set_cons_succ]
      refine wpAnyH_done (by kernel_rfl) ?_ _
      clear hp5 ho5 hS4 hS5 hS HP3 HO3 BX3 HPW HOW BXW
      go_wp2_with fail
      go_roundw
      case rel => exact ⟨k + 1, by go_num, by omega, HP5, HO5, BX5⟩
      case measure => simp [intOf]; omega
    · obtain rfl : k = nF := by omega
      have hkn : ¬ (k : Int) < (k : Int) := by omega
      have HP1 : Hid (Pg w0 b (bs ++ eHead ⟨nm, mf⟩ ++ (mf.map valL).flatten) wr) := by
        have := HPk.out
        rw [List.take_of_length_le (by rw [← HLF.out]; omega)] at this
        exact this
      clear HPk
      go_wp2_with fail
      refine (line_any (n := 1) (ps := [⟨#[125]⟩]) (HP1.out.below (hal _ _)) (Blk.new _ _ _) rfl (by decide) (by
        have h1 := HL.out
        rw [HML.out] at h1
        simp only [piecesL, List.map_cons, List.map_nil, List.flatten_cons, List.flatten_nil, List.length_append, List.length_cons, List.length_nil] at h1 ⊢
        omega)).mono ?_
      rintro e w9 ⟨rfl, hp9, ho9⟩
      have HP9 : Hid (Pg w0 b (bs ++ enumL ⟨nm, mf⟩) w9) := by
        show Pg _ _ _ _
        rw [HML.out]
        simpa [piecesL, List.append_assoc] using hp9
      have HO9 : Hid (Ot b w w9) := HOk.out.trans ((Ot.ofBelow (hal _ _)).trans ho9)
      clear hp9 ho9
      go_wp2_with fail
      go_end0
      exact ⟨rfl, HP9.out, HO9.out⟩
end Go.Proofs.YtkfhlgajeejgeaaGreatDoor

/- What print's message writes. -/
namespace Go.Proofs.YtkfhlgajeejgeaaGreatDoor
open Go.ChangeShapes Go.WideShapes Go.ChangeAt Go.RowKit
set_option linter.unusedVariables false
set_option linter.unusedSimpArgs false
set_option maxRecDepth 20000

set_option maxHeartbeats 2000000 in
theorem message_any {w0 w : World} {b : Nat} {bs : List UInt8} {vf vr : Value} {m : MsS} (h : Pg w0 b bs w) (hf : RowG w0 vf 5 (flRows m.fields)) (hr : RowG w0 vr 1 (inRows m.reserved)) (ht : PTab w0) (hw : MsW m) (hrn : m.reserved.length ≤ 1000) (hlen : bs.length + (msgL m).length ≤ 1000000000) :
    Calls Tryz.prog 31 #[.pointer (some ⟨b, 0, none⟩), .agg #[.string m.name, vf, vr]] w fun e w' => e = .returned (.tuple #[]) ∧ Pg w0 b (bs ++ msgL m) w' ∧ Ot b w w' := by
  obtain ⟨af, cf, rfl, p1, p2⟩ := hf.form2
  obtain ⟨ar, cr, rfl, q1, q2⟩ := hr.form2
  obtain ⟨nm, mf, mr⟩ := m
  simp only at *
  have HR : Hid (RowG w0 (.slice ar (inRows mr).length cr) 1 (inRows mr)) := hr
  have HLR : Hid ((inRows mr).length = mr.length) := by show _ = _; simp [inRows]
  have HW : Hid (MsW ⟨nm, mf, mr⟩) := hw
  have HRN : Hid (mr.length ≤ 1000) := hrn
  have HL : Hid (bs.length + (msgL ⟨nm, mf, mr⟩).length ≤ 1000000000) := hlen
  have HML : Hid (msgL ⟨nm, mf, mr⟩ = mHead ⟨nm, mf, mr⟩ ++ (mf.map fieldL).flatten ++ resL mr ++ [125, 10]) := msgL_eq _
  have HF : Hid (RowG w0 (.slice af (flRows mf).length cf) 5 (flRows mf)) := hf
  have HLF : Hid ((flRows mf).length = mf.length) := by show _ = _; simp [flRows]
  generalize hnF : (flRows mf).length = nF at *
  generalize hnR : (inRows mr).length = nR at *
  have HP : Hid (Pg w0 b bs w) := h
  have HT : Hid (PTab w0) := ht
  have hlt := h.lt
  have HLT : Hid (b < w.heap.size) := hlt
  have hbx : Below w.heap.size w (w.alloc (.cells #[.string nm, .slice af nF cf, .slice ar nR cr] 40)) := (Below.refl _ _).alloc (Nat.le_refl _) _
  have BX0 : Blk (w.alloc (.cells #[.string nm, .slice af nF cf, .slice ar nR cr] 40)) w.heap.size #[.string nm, .slice af nF cf, .slice ar nR cr] 40 := Blk.new w _ _
  have HOX : Hid (Ot b w (w.alloc (.cells #[.string nm, .slice af nF cf, .slice ar nR cr] 40))) := Ot.ofBelow hbx
  have HPX : Hid (Pg w0 b bs (w.alloc (.cells #[.string nm, .slice af nF cf, .slice ar nR cr] 40))) := h.below hbx
  clear h hf ht hw hlen hlt hnF hr hrn hnR
  go_enter Tryz.func31, Tryz.ntmps31
  go_wp2_with fail
  obtain ⟨bx, hbxe⟩ : ∃ n, w.heap.size = n := ⟨_, rfl⟩
  rw [hbxe] at BX0 HLT hbx
  have hne : bx ≠ b := by have := HLT.out; omega
  have hal : ∀ (W : World) (cs : Array Value), Below W.heap.size W (W.alloc (.cells cs 9)) := fun W cs => (Below.refl _ _).alloc (Nat.le_refl _) _
  refine (line_any (n := 3) (ps := [⟨#[109, 101, 115, 115, 97, 103, 101, 32]⟩, nm, ⟨#[32, 123]⟩]) (HPX.out.below (hal _ _)) (Blk.newAt (b := w.heap.size + 1) (by simp)) rfl (by decide) (by
    have h1 := HL.out
    have h2 : (piecesL [⟨#[109, 101, 115, 115, 97, 103, 101, 32]⟩, nm, ⟨#[32, 123]⟩] ++ [10]).length = (mHead ⟨nm, mf, mr⟩).length := by rw [mhead_pieces nm mf mr]
    rw [HML.out] at h1
    simp only [List.length_append, List.length_cons, List.length_nil] at h1 h2 ⊢
    omega)).mono ?_
  rintro e w1 ⟨rfl, hp1, ho1⟩
  have HP1 : Hid (Pg w0 b (bs ++ mHead ⟨nm, mf, mr⟩ ++ ((mf.take 0).map fieldL).flatten) w1) := by
    show Pg _ _ _ _
    rw [List.take_zero, List.map_nil, List.flatten_nil, List.append_nil, ← mhead_pieces nm mf mr, ← List.append_assoc]
    exact hp1
  have HO1 : Hid (Ot b w w1) := HOX.out.trans ((Ot.ofBelow (hal _ _)).trans ho1)
  have BX1 : Blk w1 bx #[.string nm, .slice af nF cf, .slice ar nR cr] 40 := ho1.blk (BX0.below (hal _ _)) hne (by decide)
  rw [hbxe]
  clear hp1 ho1 BX0 HPX HOX hbx hbxe
  have x1 := (BX1.cell 1).trans rfl
  go_wp2_with fail
  clear x1
  go_loopw [14] (fun iv wr => ∃ k : Nat, iv = .int .i64 (k : Int) ∧ k ≤ nF ∧ Hid (Pg w0 b (bs ++ mHead ⟨nm, mf, mr⟩ ++ ((mf.take k).map fieldL).flatten) wr) ∧ Hid (Ot b w wr) ∧ Blk wr bx #[.string nm, .slice af nF cf, .slice ar nR cr] 40) (fun iv _ => nF - (intOf iv).toNat)
  case atStart => exact ⟨0, rfl, by omega, HP1, HO1, BX1⟩
  case round =>
    obtain ⟨k, rfl, hk, HPk, HOk, BXk⟩ := hrel
    clear HP1 HO1 BX1
    by_cases hlt : k < nF
    · obtain ⟨f, hf⟩ : ∃ n, mf[k]? = some n := ⟨_, List.getElem?_eq_getElem (by rw [← HLF.out]; exact hlt)⟩
      have hrr : (flRows mf)[k]? = some f.cells := by simp [flRows, hf]
      obtain ⟨g, off, rfl, cc⟩ := (HF.out.below HPk.out.bel).get hrr
      have HFW : Hid (FlW f) := HW.out.2.1 f (List.mem_of_getElem? hf)
      have HTK : Hid (((mf.take (k + 1)).map fieldL).flatten = ((mf.take k).map fieldL).flatten ++ fieldL f) := map_take fieldL hf
      have HLE : Hid ((bs ++ mHead ⟨nm, mf, mr⟩ ++ ((mf.take k).map fieldL).flatten).length + (fieldL f).length ≤ 1000000000) := by
        have h1 := HL.out
        have h2 := map_take_le fieldL mf (k + 1)
        rw [HTK.out, List.length_append] at h2
        rw [HML.out] at h1
        simp only [List.length_append, List.length_cons, List.length_nil] at h1 h2
        show _ ≤ _
        simp only [List.length_append]
        omega
      obtain ⟨f0, f1, f2, f3, f4⟩ := f
      have c0 := cc 0 _ rfl
      have c1 := cc 1 _ rfl
      have c2 := cc 2 _ rfl
      have c3 := cc 3 _ rfl
      have c4 := cc 4 _ rfl
      rw [Nat.add_zero] at c0
      clear hf hrr cc
      have hkn : (k : Int) < (nF : Int) := by omega
      go_wp2_with fail
      clear c0 c1 c2 c3 c4
      have BF0 : Blk (wr.alloc (.cells #[.string f0, .int .i64 f1, .int .i64 f2, .int .i64 f3, .string f4] 44)).drew wr.heap.size #[.string f0, .int .i64 f1, .int .i64 f2, .int .i64 f3, .string f4] 44 := Blk.new wr _ _
      have hbf : Below wr.heap.size wr (wr.alloc (.cells #[.string f0, .int .i64 f1, .int .i64 f2, .int .i64 f3, .string f4] 44)).drew := below_drewN 1 ((Below.refl _ _).alloc (Nat.le_refl _) _)
      have HPW : Hid (Pg w0 b (bs ++ mHead ⟨nm, mf, mr⟩ ++ ((mf.take k).map fieldL).flatten) (wr.alloc (.cells #[.string f0, .int .i64 f1, .int .i64 f2, .int .i64 f3, .string f4] 44)).drew) := HPk.out.below hbf
      have HOW : Hid (Ot b w (wr.alloc (.cells #[.string f0, .int .i64 f1, .int .i64 f2, .int .i64 f3, .string f4] 44)).drew) := HOk.out.trans (Ot.ofBelow hbf)
      have BXW := BXk.below hbf
      have hbfb : wr.heap.size ≠ b := by have := HPk.out.lt; omega
      refine wp_region_held_drew (S := fun W => Blk W wr.heap.size #[.string f0, .int .i64 f1, .int .i64 f2, .int .i64 f3, .string f4] 44) (by kernel_rfl) BF0 (fun hS => ?_)
      clear BF0
      generalize (wr.alloc (.cells #[.string f0, .int .i64 f1, .int .i64 f2, .int .i64 f3, .string f4] 44)).drew = W0 at *
      obtain ⟨bf, hbfe⟩ : ∃ n, wr.heap.size = n := ⟨_, rfl⟩
      rw [hbfe] at hS hbfb ⊢
      clear hbfe hbf HPk HOk BXk
      refine rg_take 0 18 (.pointer (some ⟨b, 0, none⟩)) _ rfl rfl (by kernel_rfl) (by kernel_rfl) (by kernel_rfl) (fun _ _ _ h => h) (by rfl) (fun w' hw' => ?_) hS (listed' := #[true, false, false, false, false, false, false, false, false, false, false, false, false, false]) (by kernel_rfl) rfl ?_
      · go_simp
      simp only [List.setIfInBounds_toArray, List.set_cons_zero, List.set_cons_succ]
      refine rg_take 1 19 (.pointer (some ⟨bf, 2, none⟩)) _ rfl rfl (by kernel_rfl) (by kernel_rfl) (by kernel_rfl) (fun _ _ _ h => h) (by rfl) (fun w' hw' => ?_) hS (listed' := #[true, true, false, false, false, false, false, false, false, false, false, false, false, false]) (by kernel_rfl) rfl ?_
      · go_simp
      simp only [List.setIfInBounds_toArray, List.set_cons_zero, List.set_cons_succ]
      refine rg_take 4 22 (.pointer (some ⟨bf, 3, none⟩)) _ rfl rfl (by kernel_rfl) (by kernel_rfl) (by kernel_rfl) (fun _ _ _ h => h) (by rfl) (fun w' hw' => ?_) hS (listed' := #[true, true, false, false, true, false, false, false, false, false, false, false, false, false]) (by kernel_rfl) rfl ?_
      · go_simp
      simp only [List.setIfInBounds_toArray, List.set_cons_zero, List.set_cons_succ]
      refine rg_take 7 25 (.pointer (some ⟨bf, 0, none⟩)) _ rfl rfl (by kernel_rfl) (by kernel_rfl) (by kernel_rfl) (fun _ _ _ h => h) (by rfl) (fun w' hw' => ?_) hS (listed' := #[true, true, false, false, true, false, false, true, false, false, false, false, false, false]) (by kernel_rfl) rfl ?_
      · go_simp
      simp only [List.setIfInBounds_toArray, List.set_cons_zero, List.set_cons_succ]
      refine rg_take 9 27 (.pointer (some ⟨bf, 1, none⟩)) _ rfl rfl (by kernel_rfl) (by kernel_rfl) (by kernel_rfl) (fun _ _ _ h => h) (by rfl) (fun w' hw' => ?_) hS (listed' := #[true, true, false, false, true, false, false, true, false, true, false, false, false, false]) (by kernel_rfl) rfl ?_
      · go_simp
      simp only [List.setIfInBounds_toArray, List.set_cons_zero, List.set_cons_succ]
      refine rg_take 2 20 (.int .i64 f2) _ rfl rfl (by kernel_rfl) (by kernel_rfl) (by kernel_rfl) (fun _ _ _ h => h) (by rfl) (fun w' hw' => ?_) hS (listed' := #[true, true, true, false, true, false, false, true, false, true, false, false, false, false]) (by kernel_rfl) rfl ?_
      · have c2 := (hw'.cell 2).trans rfl; go_simp
      simp only [List.setIfInBounds_toArray, List.set_cons_zero, List.set_cons_succ]
      refine rg_take 5 23 (.agg #[.int .i64 f3, .string f4]) _ rfl rfl (by kernel_rfl) (by kernel_rfl) (by kernel_rfl) (fun _ _ _ h => h) (by rfl) (fun w' hw' => ?_) hS (listed' := #[true, true, true, false, true, true, false, true, false, true, false, false, false, false]) (by kernel_rfl) rfl ?_
      · have c3 := (hw'.cell 3).trans rfl; have c4 := (hw'.cell 4).trans rfl; go_simp
      simp only [List.setIfInBounds_toArray, List.set_cons_zero, List.set_cons_succ]
      refine rg_take 8 26 (.string f0) _ rfl rfl (by kernel_rfl) (by kernel_rfl) (by kernel_rfl) (fun _ _ _ h => h) (by rfl) (fun w' hw' => ?_) hS (listed' := #[true, true, true, false, true, true, false, true, true, true, false, false, false, false]) (by kernel_rfl) rfl ?_
      · have c0 := (hw'.cell 0).trans rfl; go_simp
      simp only [List.setIfInBounds_toArray, List.set_cons_zero, List.set_cons_succ]
      refine rg_take 10 28 (.int .i64 f1) _ rfl rfl (by kernel_rfl) (by kernel_rfl) (by kernel_rfl) (fun _ _ _ h => h) (by rfl) (fun w' hw' => ?_) hS (listed' := #[true, true, true, false, true, true, false, true, true, true, true, false, false, false]) (by kernel_rfl) rfl ?_
      · have c1 := (hw'.cell 1).trans rfl; go_simp
      simp only [List.setIfInBounds_toArray, List.set_cons_zero, List.set_cons_succ]
      refine rg_call 3 21 55 #[.int .i64 f2] rfl rfl (by kernel_rfl) (by rfl) (listed' := #[true, true, true, true, true, true, false, true, true, true, true, false, false, false]) (by kernel_rfl) (fun W => by go_simp) ?_
      refine (plabel_any f2 _).mono ?_
      rintro e W1 ⟨rfl, rfl⟩
      refine ⟨_, rfl, hS, ?_⟩
      simp only [List.setIfInBounds_toArray, List.set_cons_zero, List.set_cons_succ]
      refine rg_call 6 24 56 #[.agg #[.int .i64 f3, .string f4]] rfl rfl (by kernel_rfl) (by rfl) (listed' := #[true, true, true, true, true, true, true, true, true, true, true, false, false, false]) (by kernel_rfl) (fun W => by go_simp) ?_
      refine (word_any f3 f4 _).mono ?_
      rintro e W2 ⟨rfl, hb2⟩
      have hS := hS.below hb2
      refine ⟨_, rfl, hS, ?_⟩
      simp only [List.setIfInBounds_toArray, List.set_cons_zero, List.set_cons_succ]
      refine rg_call 11 29 57 #[.int .i64 f1] rfl rfl (by kernel_rfl) (by rfl) (listed' := #[true, true, true, true, true, true, true, true, true, true, true, true, false, false]) (by kernel_rfl) (fun W => by go_simp) ?_
      refine (itoa_any f1 HFW.out.2.2.1.1 HFW.out.2.2.1.2 (HT.out.below (HPW.out.below hb2).bel)).mono ?_
      rintro e W3 ⟨rfl, hb3⟩
      have hS := hS.below hb3
      refine ⟨_, rfl, hS, ?_⟩
      simp only [List.setIfInBounds_toArray, List.set_cons_zero, List.set_cons_succ]
      have HPL : Hid (piecesL [⟨#[32, 32]⟩, labTx f2, wordTx f3 f4, ⟨#[32]⟩, f0, ⟨#[32, 61, 32]⟩, ⟨(Lib.itoa f1).toArray⟩, ⟨#[59]⟩] ++ [10] = fieldL ⟨f0, f1, f2, f3, f4⟩) := field_pieces ⟨f0, f1, f2, f3, f4⟩
      have HP3 : Hid (Pg w0 b (bs ++ mHead ⟨nm, mf, mr⟩ ++ ((mf.take k).map fieldL).flatten) W3) := (HPW.out.below hb2).below hb3
      have HO3 : Hid (Ot b w W3) := (HOW.out.trans (Ot.ofBelow hb2)).trans (Ot.ofBelow hb3)
      have BX3 := (BXW.below hb2).below hb3
      generalize labTx f2 = t1 at *
      generalize wordTx f3 f4 = t2 at *
      generalize (⟨(Lib.itoa f1).toArray⟩ : ByteArray) = t3 at *
      have hS4 := hS.below (hal W3 #[.string ⟨#[32, 32]⟩, .string t1, .string t2, .string ⟨#[32]⟩, .string f0, .string ⟨#[32, 61, 32]⟩, .string t3, .string ⟨#[59]⟩])
      refine rg_run 12 30 (.slice (some ⟨W3.heap.size, 0, none⟩) 8 8) (W3.alloc (.cells #[.string ⟨#[32, 32]⟩, .string t1, .string t2, .string ⟨#[32]⟩, .string f0, .string ⟨#[32, 61, 32]⟩, .string t3, .string ⟨#[59]⟩] 9)) rfl rfl (by kernel_rfl) (by rfl) (listed' := #[true, true, true, true, true, true, true, true, true, true, true, true, true, false]) (by kernel_rfl) (by go_simp) hS4 ?_
      simp only [List.setIfInBounds_toArray, List.set_cons_zero, List.set_cons_succ]
      refine rg_call 13 31 30 #[.pointer (some ⟨b, 0, none⟩), .slice (some ⟨W3.heap.size, 0, none⟩) 8 8] rfl rfl (by kernel_rfl) (by rfl) (listed' := #[true, true, true, true, true, true, true, true, true, true, true, true, true, true]) (by kernel_rfl) (fun W => by go_simp) ?_
      refine (line_any (n := 8) (ps := [⟨#[32, 32]⟩, t1, t2, ⟨#[32]⟩, f0, ⟨#[32, 61, 32]⟩, t3, ⟨#[59]⟩]) (HP3.out.below (hal _ _)) (Blk.new _ _ _) rfl (by decide) (by
        have h1 := HLE.out
        rw [← HPL.out] at h1
        simp only [List.length_append, List.length_cons, List.length_nil] at h1 ⊢
        omega)).mono ?_
      rintro e W5 ⟨rfl, hp5, ho5⟩
      have HP5 : Hid (Pg w0 b (bs ++ mHead ⟨nm, mf, mr⟩ ++ ((mf.take (k + 1)).map fieldL).flatten) W5) := by
        show Pg _ _ _ _
        rw [HTK.out, ← HPL.out, ← List.append_assoc, ← List.append_assoc]
        exact hp5
      have HO5 : Hid (Ot b w W5) := HO3.out.trans ((Ot.ofBelow (hal _ _)).trans ho5)
      have BX5 := ho5.blk (BX3.below (hal _ _)) hne (by decide)
      have hS5 : Blk W5 bf #[.string f0, .int .i64 f1, .int .i64 f2, .int .i64 f3, .string f4] 44 := ho5.blk hS4 hbfb (by decide)
      refine ⟨_, rfl, hS5, ?_⟩
      simp only [List.setIfInBounds_toArray, List.set_cons_zero, List.set_cons_succ]
      refine wpAnyH_done (by kernel_rfl) ?_ _
      clear hp5 ho5 hS4 hS5 hS HP3 HO3 BX3 HPW HOW BXW
      go_wp2_with fail
      go_roundw
      case rel => exact ⟨k + 1, by go_num, by omega, HP5, HO5, BX5⟩
      case measure => simp [intOf]; omega
    · obtain rfl : k = nF := by omega
      have hkn : ¬ (k : Int) < (k : Int) := by omega
      have HP1 : Hid (Pg w0 b (bs ++ mHead ⟨nm, mf, mr⟩ ++ (mf.map fieldL).flatten) wr) := by
        have := HPk.out
        rw [List.take_of_length_le (by rw [← HLF.out]; omega)] at this
        exact this
      clear HPk
      have x2 := (BXk.cell 2).trans rfl
      by_cases hz : mr = []
      · have HRZ : Hid (resL mr = []) := by show _ = _; rw [hz]; rfl
        have hnR : nR = 0 := by rw [HLR.out, hz]; rfl
        subst hnR
        clear hz
        go_wp2_with fail
        clear x2
        refine (line_any (n := 1) (ps := [⟨#[125]⟩]) (HP1.out.below (hal _ _)) (Blk.new _ _ _) rfl (by decide) (by
          have h1 := HL.out
          rw [HML.out] at h1
          simp only [piecesL, List.map_cons, List.map_nil, List.flatten_cons, List.flatten_nil, List.length_append, List.length_cons, List.length_nil] at h1 ⊢
          omega)).mono ?_
        rintro e w9 ⟨rfl, hp9, ho9⟩
        have HP9 : Hid (Pg w0 b (bs ++ msgL ⟨nm, mf, mr⟩) w9) := by
          show Pg _ _ _ _
          rw [HML.out]
          skip
          simpa [piecesL, List.append_assoc, HRZ.out] using hp9
        have HO9 : Hid (Ot b w w9) := HOk.out.trans ((Ot.ofBelow (hal _ _)).trans ho9)
        clear hp9 ho9
        go_wp2_with fail
        go_end0
        exact ⟨rfl, HP9.out, HO9.out⟩
      · have hnR : 0 < nR := by rw [HLR.out]; exact List.length_pos_iff.2 hz
        have hnR' : (0 : Int) < (nR : Int) := by omega
        have HZ : Hid (mr ≠ []) := hz
        have HRP : Hid (piecesL [⟨#[32, 32, 114, 101, 115, 101, 114, 118, 101, 100, 32]⟩, numsB mr, ⟨#[59]⟩] ++ [10] = resL mr) := res_pieces hz
        clear hz
        go_wp2_with fail
        refine (pnumbers_any (HR.out.below HP1.out.bel) HZ.out HRN.out (fun n hn => HW.out.2.2 n hn) (HT.out.below HP1.out.bel)).mono ?_
        rintro e w2 ⟨rfl, hb2⟩
        have HP2 : Hid (Pg w0 b (bs ++ mHead ⟨nm, mf, mr⟩ ++ (mf.map fieldL).flatten) w2) := HP1.out.below hb2
        have HO2 : Hid (Ot b w w2) := HOk.out.trans (Ot.ofBelow hb2)
        clear x2 HP1 HOk hb2
        generalize numsB mr = tn at *
        go_wp2_with fail
        refine (line_any (n := 3) (ps := [⟨#[32, 32, 114, 101, 115, 101, 114, 118, 101, 100, 32]⟩, tn, ⟨#[59]⟩]) (HP2.out.below (hal _ _)) (Blk.new _ _ _) rfl (by decide) (by
          have h1 := HL.out
          rw [HML.out, ← HRP.out] at h1
          simp only [List.length_append, List.length_cons, List.length_nil] at h1 ⊢
          omega)).mono ?_
        rintro e w3 ⟨rfl, hp3, ho3⟩
        have HP3 : Hid (Pg w0 b (bs ++ mHead ⟨nm, mf, mr⟩ ++ (mf.map fieldL).flatten ++ resL mr) w3) := by
          show Pg _ _ _ _
          rw [← HRP.out, ← List.append_assoc]
          exact hp3
        have HO3 : Hid (Ot b w w3) := HO2.out.trans ((Ot.ofBelow (hal _ _)).trans ho3)
        have HRZ : Hid (True) := trivial
        clear hp3 ho3 HP2 HO2
        go_wp2_with fail
        refine (line_any (n := 1) (ps := [⟨#[125]⟩]) (HP3.out.below (hal _ _)) (Blk.new _ _ _) rfl (by decide) (by
          have h1 := HL.out
          rw [HML.out] at h1
          simp only [piecesL, List.map_cons, List.map_nil, List.flatten_cons, List.flatten_nil, List.length_append, List.length_cons, List.length_nil] at h1 ⊢
          omega)).mono ?_
        rintro e w9 ⟨rfl, hp9, ho9⟩
        have HP9 : Hid (Pg w0 b (bs ++ msgL ⟨nm, mf, mr⟩) w9) := by
          show Pg _ _ _ _
          rw [HML.out]
          skip
          simpa [piecesL, List.append_assoc, HRZ.out] using hp9
        have HO9 : Hid (Ot b w w9) := HO3.out.trans ((Ot.ofBelow (hal _ _)).trans ho9)
        clear hp9 ho9
        go_wp2_with fail
        go_end0
        exact ⟨rfl, HP9.out, HO9.out⟩
end Go.Proofs.YtkfhlgajeejgeaaGreatDoor

/- What print's byTag and byNumber answer. -/
namespace Go.Proofs.YtkfhlgajeejgeaaGreatDoor
open Go.ChangeShapes Go.WideShapes Go.ChangeAt Go.RowKit Go.Sort
set_option linter.unusedVariables false
set_option linter.unusedSimpArgs false
set_option maxRecDepth 20000

def cmpI (a b : Int) : Int := if a < b then -1 else if b < a then 1 else 0
theorem cmpI_lt (a b : Int) : decide (cmpI a b < 0) = decide (a < b) := by
  unfold cmpI
  split
  · rename_i h; simp [h]
  · split <;> simp <;> omega
theorem isNaN_any (a : Int) (w : World) : Calls Tryz.prog 122 #[.int .i64 a] w fun e w' => e = .returned (.bool false) ∧ w' = w := by
  go_enter Tryz.func122, Tryz.ntmps122
  go_wp2_with fail
  go_ret
  exact ⟨rfl, rfl⟩
set_option maxHeartbeats 1000000 in
theorem compare_any (a b : Int) (w : World) : Calls Tryz.prog 83 #[.int .i64 a, .int .i64 b] w fun e w' => e = .returned (.int .i64 (cmpI a b)) ∧ w' = w := by
  by_cases h1 : a < b
  · have e : cmpI a b = -1 := by unfold cmpI; rw [if_pos h1]
    rw [e]
    clear e
    go_enter Tryz.func83, Tryz.ntmps83
    go_wp2_with (go_at_call 122; refine (isNaN_any _ _).mono ?_; rintro e w1 ⟨rfl, rfl⟩)
    go_ret
    exact ⟨rfl, rfl⟩
  by_cases h2 : b < a
  · have e : cmpI a b = 1 := by unfold cmpI; rw [if_neg h1, if_pos h2]
    rw [e]
    clear e
    go_enter Tryz.func83, Tryz.ntmps83
    go_wp2_with (go_at_call 122; refine (isNaN_any _ _).mono ?_; rintro e w1 ⟨rfl, rfl⟩)
    go_ret
    exact ⟨rfl, rfl⟩
  · have e : cmpI a b = 0 := by unfold cmpI; rw [if_neg h1, if_neg h2]
    rw [e]
    clear e
    go_enter Tryz.func83, Tryz.ntmps83
    go_wp2_with (go_at_call 122; refine (isNaN_any _ _).mono ?_; rintro e w1 ⟨rfl, rfl⟩)
    go_ret
    exact ⟨rfl, rfl⟩
set_option maxHeartbeats 1000000 in
theorem byTag_any (x y : FlS) (w : World) : Calls Tryz.prog 48 #[.agg x.cells.toArray, .agg y.cells.toArray] w fun e w' => e = .returned (.int .i64 (cmpI x.tag y.tag)) ∧ ∃ q os, w' = grow (w.drewN q) os := by
  obtain ⟨x0, x1, x2, x3, x4⟩ := x
  obtain ⟨y0, y1, y2, y3, y4⟩ := y
  show Calls Tryz.prog 48 #[.agg #[.string x0, .int .i64 x1, .int .i64 x2, .int .i64 x3, .string x4], .agg #[.string y0, .int .i64 y1, .int .i64 y2, .int .i64 y3, .string y4]] w fun e w' => e = .returned (.int .i64 (cmpI x1 y1)) ∧ ∃ q os, w' = grow (w.drewN q) os
  obtain ⟨c, hc⟩ : ∃ c, cmpI x1 y1 = c := ⟨_, rfl⟩
  have HC : ∀ W, Calls Tryz.prog 83 #[.int .i64 x1, .int .i64 y1] W fun e w' => e = .returned (.int .i64 c) ∧ w' = W := fun W => by rw [← hc]; exact compare_any x1 y1 W
  rw [hc]
  clear hc
  go_enter Tryz.func48, Tryz.ntmps48
  go_wp2_with (go_at_call 83; refine (HC _).mono ?_; rintro e w1 ⟨rfl, rfl⟩)
  go_ret
  exact ⟨rfl, 0, _, by rw [alloc_eq_grow, alloc_eq_grow, grow_grow]; rfl⟩
set_option maxHeartbeats 1000000 in
theorem byNumber_any (x y : NmS) (w : World) : Calls Tryz.prog 52 #[.agg x.cells.toArray, .agg y.cells.toArray] w fun e w' => e = .returned (.int .i64 (cmpI x.n y.n)) ∧ ∃ q os, w' = grow (w.drewN q) os := by
  obtain ⟨x0, x1⟩ := x
  obtain ⟨y0, y1⟩ := y
  show Calls Tryz.prog 52 #[.agg #[.string x0, .int .i64 x1], .agg #[.string y0, .int .i64 y1]] w fun e w' => e = .returned (.int .i64 (cmpI x1 y1)) ∧ ∃ q os, w' = grow (w.drewN q) os
  obtain ⟨c, hc⟩ : ∃ c, cmpI x1 y1 = c := ⟨_, rfl⟩
  have HC : ∀ W, Calls Tryz.prog 83 #[.int .i64 x1, .int .i64 y1] W fun e w' => e = .returned (.int .i64 c) ∧ w' = W := fun W => by rw [← hc]; exact compare_any x1 y1 W
  rw [hc]
  clear hc
  go_enter Tryz.func52, Tryz.ntmps52
  go_wp2_with (go_at_call 83; refine (HC _).mono ?_; rintro e w1 ⟨rfl, rfl⟩)
  go_ret
  exact ⟨rfl, 0, _, by rw [alloc_eq_grow, alloc_eq_grow, grow_grow]; rfl⟩
end Go.Proofs.YtkfhlgajeejgeaaGreatDoor

/- What the library's sorts answer, at rows of one's own: integers; fields, at most 20; named ones, at most 20. -/
namespace Go.Proofs.YtkfhlgajeejgeaaGreatDoor
open Go.ChangeShapes Go.WideShapes Go.ChangeAt Go.RowKit Go.Sort Go.Lib
set_option linter.unusedVariables false
set_option linter.unusedSimpArgs false
set_option maxRecDepth 20000

theorem sortI_any {w : World} {B : Nat} {v : Value} {ns : List Int} (h : w.ownsRow B 3 1 v ns.length (inRows ns).flatten) (hn : ns.length ≤ 1000000) :
    Calls Tryz.prog 49 #[v] w fun e w' => e = .returned (.tuple #[]) ∧ w'.ownsRow B 3 1 v ns.length (inRows (srtF (fun x => x) ns)).flatten ∧ Kp (fun b => v.ownBlock = some b) w w' := by
  rcases h.2 with ⟨rfl, h0⟩ | ⟨g, cap, cur, rfl, hB, hg, h4, h5, _⟩
  · have : ns = [] := List.eq_nil_of_length_eq_zero h0
    subst this
    refine (Any.slices_Sort_int_none lays189 none 0 w).mono ?_
    rintro e w' ⟨rfl, rfl⟩
    exact ⟨rfl, h, Kp.refl _ _⟩
  · refine (Any.slices_Sort_int lays189 g 0 cap ns w (own_holdsI h) (Array.getElem?_eq_some_iff.1 hg).1 (by omega)).mono ?_
    rintro e w' ⟨rfl, n, os, rfl⟩
    rw [merge_srt]
    obtain ⟨a1, a2⟩ := own_sortedI (m := n) (os := os) h (srtF_len (fun x => x) ns)
    exact ⟨rfl, a1, a2.weak (fun b _ e => by rw [e]; rfl)⟩

theorem cmpLaysF (g off size : Nat) (w : World) (ih : Inhabited FlS) : @CmpLays FlS ih Tryz.prog 48 #[] FlS.cells 5 (fun x y => cmpI (FlS.tag x) (FlS.tag y)) g off size w :=
  fun m os dk _ x y => byTag_any x y _
theorem ltOfF : (ltOf fun x y : FlS => cmpI (FlS.tag x) (FlS.tag y)) = ltK FlS.tag := by
  funext x y
  exact cmpI_lt _ _
theorem entersF (args : Array Value) (w : World) : (callFunc 48 args).run Tryz.prog w = .ok (.enter 48 args) w := enters_of Tryz.func48 (by kernel_rfl) rfl args w
theorem insF_any (ih : Inhabited FlS) {w : World} {g cap : Nat} (a b : Nat) (d : Array FlS) (hH : @HoldsK FlS ih FlS.cells 5 w g 0 d) (hg : g < w.heap.size) (hab : a ≤ b) (hb : b ≤ d.size) (hsz : d.size < 4611686018427387904) :
    Calls Tryz.prog 120 #[.slice (some ⟨g, 0, none⟩) d.size cap, .int .i64 a, .int .i64 b, .func (.func 48) #[] #[]] w fun e w' => e = .returned (.tuple #[]) ∧ ∃ n os, w' = @sortWorldK FlS ih FlS.cells 5 w g 0 n (@Sort.insertionSort FlS ih (ltK FlS.tag) d a b) os := by
  have := @AnyQ.insertionSortCmpFunc Tryz.prog laysF_ren FlS ih laysF 5 Tryz.isAgg44 Tryz.sizeOf44 FlS.cells (fun _ => rfl) (fun x v hv => by simp only [FlS.cells, List.mem_cons, List.not_mem_nil, or_false] at hv; rcases hv with rfl | rfl | rfl | rfl | rfl <;> rfl) (fun x y => cmpI (FlS.tag x) (FlS.tag y)) 48 #[] g 0 cap a b d w entersF (cmpLaysF g 0 d.size w ih) hH hg hab hb hsz
  rw [ltOfF] at this
  exact this

theorem cmpLaysN (g off size : Nat) (w : World) (ih : Inhabited NmS) : @CmpLays NmS ih Tryz.prog 52 #[] NmS.cells 2 (fun x y => cmpI (NmS.n x) (NmS.n y)) g off size w :=
  fun m os dk _ x y => byNumber_any x y _
theorem ltOfN : (ltOf fun x y : NmS => cmpI (NmS.n x) (NmS.n y)) = ltK NmS.n := by
  funext x y
  exact cmpI_lt _ _
theorem entersN (args : Array Value) (w : World) : (callFunc 52 args).run Tryz.prog w = .ok (.enter 52 args) w := enters_of Tryz.func52 (by kernel_rfl) rfl args w
theorem insN_any (ih : Inhabited NmS) {w : World} {g cap : Nat} (a b : Nat) (d : Array NmS) (hH : @HoldsK NmS ih NmS.cells 2 w g 0 d) (hg : g < w.heap.size) (hab : a ≤ b) (hb : b ≤ d.size) (hsz : d.size < 4611686018427387904) :
    Calls Tryz.prog 134 #[.slice (some ⟨g, 0, none⟩) d.size cap, .int .i64 a, .int .i64 b, .func (.func 52) #[] #[]] w fun e w' => e = .returned (.tuple #[]) ∧ ∃ n os, w' = @sortWorldK NmS ih NmS.cells 2 w g 0 n (@Sort.insertionSort NmS ih (ltK NmS.n) d a b) os := by
  have := @AnyQ.insertionSortCmpFunc Tryz.prog laysN_ren NmS ih laysN 2 Tryz.isAgg49 Tryz.sizeOf49 NmS.cells (fun _ => rfl) (fun x v hv => by simp only [NmS.cells, List.mem_cons, List.not_mem_nil, or_false] at hv; rcases hv with rfl | rfl <;> rfl) (fun x y => cmpI (NmS.n x) (NmS.n y)) 52 #[] g 0 cap a b d w entersN (cmpLaysN g 0 d.size w ih) hH hg hab hb hsz
  rw [ltOfN] at this
  exact this
end Go.Proofs.YtkfhlgajeejgeaaGreatDoor

/- What the library's sorts answer, stable ones, at most 20 elements. -/
namespace Go.Proofs.YtkfhlgajeejgeaaGreatDoor
open Go.ChangeShapes Go.WideShapes Go.ChangeAt Go.RowKit Go.Sort Go.Lib
set_option linter.unusedVariables false
set_option linter.unusedSimpArgs false
set_option maxRecDepth 20000


/-- No element: nothing is done. -/
theorem insF_none (p : Option Addr) (n cap k : Nat) (hk : k ≤ 1000000) (w : World) : Calls Tryz.prog 120 #[.slice p n cap, .int .i64 (k : Int), .int .i64 (k : Int), .func (.func 48) #[] #[]] w fun e w' => e = .returned (.tuple #[]) ∧ w' = w := by
  go_enter Tryz.func120, Tryz.ntmps120
  go_wp2_with fail
  refine wp_loop_rounds 1 ?_
  rw [rounds_succ]
  go_wp2_with fail
  go_end0
  exact ⟨rfl, rfl⟩
set_option maxHeartbeats 2000000 in
theorem stabF_few {w : World} {B : Nat} {v : Value} {l : List FlS} (h : w.ownsRow B 44 5 v l.length (l.map FlS.cells).flatten) (hl : l.length ≤ 20) :
    Calls Tryz.prog 82 #[v, .int .i64 (l.length : Int), .func (.func 48) #[] #[]] w fun e w' => e = .returned (.tuple #[]) ∧ w'.ownsRow B 44 5 v l.length ((srtF FlS.tag l).map FlS.cells).flatten ∧ Kp (fun b => v.ownBlock = some b) w w' := by
  have ih : Inhabited FlS := ⟨⟨⟨#[]⟩, 0, 0, 0, ⟨#[]⟩⟩⟩
  obtain ⟨n, hn⟩ : ∃ n, l.length = n := ⟨_, rfl⟩
  have H : Hid (w.ownsRow B 44 5 v l.length (l.map FlS.cells).flatten) := h
  have HR : Hid (∀ (m n : Nat) (os : Array Obj), n = l.length → ∀ (g cap : Nat), v = .slice (some ⟨g, 0, none⟩) n cap → (@sortWorldK FlS ih FlS.cells 5 w g 0 m (@Sort.insertionSort FlS ih (ltK FlS.tag) l.toArray 0 l.toArray.size) os).ownsRow B 44 5 v n ((srtF FlS.tag l).map FlS.cells).flatten ∧ Kp (fun b => v.ownBlock = some b) w (@sortWorldK FlS ih FlS.cells 5 w g 0 m (@Sort.insertionSort FlS ih (ltK FlS.tag) l.toArray 0 l.toArray.size) os)) := by
    intro m n os hn g cap hv
    subst hv hn
    have e1 : (@Sort.insertionSort FlS ih (ltK FlS.tag) l.toArray 0 l.toArray.size).size = l.length := by
      rw [← Array.length_toList, @insSort_srt FlS ih, srtF_len]
    obtain ⟨a1, a2⟩ := @own_sortedK FlS ih FlS.cells 5 (by decide) (fun _ => rfl) w B 44 g l.length cap m _ (@Sort.insertionSort FlS ih (ltK FlS.tag) l.toArray 0 l.toArray.size) os h e1
    rw [@insSort_srt FlS ih] at a1
    exact ⟨a1, a2.weak (fun b _ e => by rw [e]; rfl)⟩
  rcases h.2 with ⟨hv, h0⟩ | ⟨g, cap, cur, hv, hB, hg, h4, h5, _⟩
  · have : l = [] := List.eq_nil_of_length_eq_zero h0
    subst this
    subst hv
    go_enter Tryz.func82, Tryz.ntmps82
    go_wp2_with fail
    refine wp_loop_rounds 1 ?_
    rw [rounds_succ]
    go_wp2_with (go_at_call 120; refine (insF_none none 0 0 0 (by decide) _).mono ?_; rintro e w1 ⟨rfl, rfl⟩)
    refine wp_loop_rounds 1 ?_
    rw [rounds_succ]
    go_wp2_with fail
    go_end0
    exact ⟨rfl, H.out, Kp.refl _ _⟩
  · have HB := @own_holdsK FlS ih FlS.cells 5 (by decide) (fun _ => rfl) w B 44 g l.length cap l (by rw [← hv]; exact h)
    have hgs := (Array.getElem?_eq_some_iff.1 hg).1
    have HC0 : Calls Tryz.prog 120 #[.slice (some ⟨g, 0, none⟩) n cap, .int .i64 (0 : Nat), .int .i64 n, .func (.func 48) #[] #[]] w fun e w' => e = .returned (.tuple #[]) ∧ ∃ m os, w' = @sortWorldK FlS ih FlS.cells 5 w g 0 m (@Sort.insertionSort FlS ih (ltK FlS.tag) l.toArray 0 l.toArray.size) os := by
      have := insF_any ih (cap := cap) 0 l.toArray.size l.toArray HB hgs (Nat.zero_le _) (Nat.le_refl _) (by simp; omega)
      simpa [hn] using this
    have HC : Hid (Calls Tryz.prog 120 #[.slice (some ⟨g, 0, none⟩) n cap, .int .i64 (0 : Nat), .int .i64 n, .func (.func 48) #[] #[]] w fun e w' => e = .returned (.tuple #[]) ∧ ∃ m os, w' = @sortWorldK FlS ih FlS.cells 5 w g 0 m (@Sort.insertionSort FlS ih (ltK FlS.tag) l.toArray 0 l.toArray.size) os) := HC0
    clear HC0
    have HV := HR.out
    rw [hn] at hv hl ⊢
    subst hv
    have HV : Hid (∀ (m : Nat) (os : Array Obj), (@sortWorldK FlS ih FlS.cells 5 w g 0 m (@Sort.insertionSort FlS ih (ltK FlS.tag) l.toArray 0 l.toArray.size) os).ownsRow B 44 5 (.slice (some ⟨g, 0, none⟩) n cap) n ((srtF FlS.tag l).map FlS.cells).flatten ∧ Kp (fun b => (Value.slice (some ⟨g, 0, none⟩) n cap).ownBlock = some b) w (@sortWorldK FlS ih FlS.cells 5 w g 0 m (@Sort.insertionSort FlS ih (ltK FlS.tag) l.toArray 0 l.toArray.size) os)) := fun m os => HV m n os hn.symm g cap rfl
    clear H HR HB hg hn h h5
    generalize hD : (@Sort.insertionSort FlS ih (ltK FlS.tag) l.toArray 0 l.toArray.size) = D at *
    clear hD
    rcases Nat.lt_or_ge n 20 with h20 | h20
    · go_enter Tryz.func82, Tryz.ntmps82
      go_wp2_with fail
      refine wp_loop_rounds 1 ?_
      rw [rounds_succ]
      go_wp2_with (go_at_call 120; refine HC.out.mono ?_; rintro e w1 ⟨rfl, m, os, rfl⟩)
      refine wp_loop_rounds 1 ?_
      rw [rounds_succ]
      go_wp2_with fail
      go_end0
      exact ⟨rfl, HV.out m os⟩
    · obtain rfl : n = 20 := by omega
      go_enter Tryz.func82, Tryz.ntmps82
      go_wp2_with fail
      refine wp_loop_rounds 2 ?_
      rw [rounds_succ]
      go_wp2_with (go_at_call 120; refine HC.out.mono ?_; rintro e w1 ⟨rfl, m, os, rfl⟩)
      rw [rounds_succ]
      go_wp2_with (go_at_call 120; refine (insF_none (some ⟨g, 0, none⟩) 20 cap 20 (by decide) _).mono ?_; rintro e w1 ⟨rfl, rfl⟩)
      refine wp_loop_rounds 1 ?_
      rw [rounds_succ]
      go_wp2_with fail
      go_end0
      exact ⟨rfl, HV.out m os⟩

/-- No element: nothing is done. -/
theorem insN_none (p : Option Addr) (n cap k : Nat) (hk : k ≤ 1000000) (w : World) : Calls Tryz.prog 134 #[.slice p n cap, .int .i64 (k : Int), .int .i64 (k : Int), .func (.func 52) #[] #[]] w fun e w' => e = .returned (.tuple #[]) ∧ w' = w := by
  go_enter Tryz.func134, Tryz.ntmps134
  go_wp2_with fail
  refine wp_loop_rounds 1 ?_
  rw [rounds_succ]
  go_wp2_with fail
  go_end0
  exact ⟨rfl, rfl⟩
set_option maxHeartbeats 2000000 in
theorem stabN_few {w : World} {B : Nat} {v : Value} {l : List NmS} (h : w.ownsRow B 49 2 v l.length (l.map NmS.cells).flatten) (hl : l.length ≤ 20) :
    Calls Tryz.prog 86 #[v, .int .i64 (l.length : Int), .func (.func 52) #[] #[]] w fun e w' => e = .returned (.tuple #[]) ∧ w'.ownsRow B 49 2 v l.length ((srtF NmS.n l).map NmS.cells).flatten ∧ Kp (fun b => v.ownBlock = some b) w w' := by
  have ih : Inhabited NmS := ⟨⟨⟨#[]⟩, 0⟩⟩
  obtain ⟨n, hn⟩ : ∃ n, l.length = n := ⟨_, rfl⟩
  have H : Hid (w.ownsRow B 49 2 v l.length (l.map NmS.cells).flatten) := h
  have HR : Hid (∀ (m n : Nat) (os : Array Obj), n = l.length → ∀ (g cap : Nat), v = .slice (some ⟨g, 0, none⟩) n cap → (@sortWorldK NmS ih NmS.cells 2 w g 0 m (@Sort.insertionSort NmS ih (ltK NmS.n) l.toArray 0 l.toArray.size) os).ownsRow B 49 2 v n ((srtF NmS.n l).map NmS.cells).flatten ∧ Kp (fun b => v.ownBlock = some b) w (@sortWorldK NmS ih NmS.cells 2 w g 0 m (@Sort.insertionSort NmS ih (ltK NmS.n) l.toArray 0 l.toArray.size) os)) := by
    intro m n os hn g cap hv
    subst hv hn
    have e1 : (@Sort.insertionSort NmS ih (ltK NmS.n) l.toArray 0 l.toArray.size).size = l.length := by
      rw [← Array.length_toList, @insSort_srt NmS ih, srtF_len]
    obtain ⟨a1, a2⟩ := @own_sortedK NmS ih NmS.cells 2 (by decide) (fun _ => rfl) w B 49 g l.length cap m _ (@Sort.insertionSort NmS ih (ltK NmS.n) l.toArray 0 l.toArray.size) os h e1
    rw [@insSort_srt NmS ih] at a1
    exact ⟨a1, a2.weak (fun b _ e => by rw [e]; rfl)⟩
  rcases h.2 with ⟨hv, h0⟩ | ⟨g, cap, cur, hv, hB, hg, h4, h5, _⟩
  · have : l = [] := List.eq_nil_of_length_eq_zero h0
    subst this
    subst hv
    go_enter Tryz.func86, Tryz.ntmps86
    go_wp2_with fail
    refine wp_loop_rounds 1 ?_
    rw [rounds_succ]
    go_wp2_with (go_at_call 134; refine (insN_none none 0 0 0 (by decide) _).mono ?_; rintro e w1 ⟨rfl, rfl⟩)
    refine wp_loop_rounds 1 ?_
    rw [rounds_succ]
    go_wp2_with fail
    go_end0
    exact ⟨rfl, H.out, Kp.refl _ _⟩
  · have HB := @own_holdsK NmS ih NmS.cells 2 (by decide) (fun _ => rfl) w B 49 g l.length cap l (by rw [← hv]; exact h)
    have hgs := (Array.getElem?_eq_some_iff.1 hg).1
    have HC0 : Calls Tryz.prog 134 #[.slice (some ⟨g, 0, none⟩) n cap, .int .i64 (0 : Nat), .int .i64 n, .func (.func 52) #[] #[]] w fun e w' => e = .returned (.tuple #[]) ∧ ∃ m os, w' = @sortWorldK NmS ih NmS.cells 2 w g 0 m (@Sort.insertionSort NmS ih (ltK NmS.n) l.toArray 0 l.toArray.size) os := by
      have := insN_any ih (cap := cap) 0 l.toArray.size l.toArray HB hgs (Nat.zero_le _) (Nat.le_refl _) (by simp; omega)
      simpa [hn] using this
    have HC : Hid (Calls Tryz.prog 134 #[.slice (some ⟨g, 0, none⟩) n cap, .int .i64 (0 : Nat), .int .i64 n, .func (.func 52) #[] #[]] w fun e w' => e = .returned (.tuple #[]) ∧ ∃ m os, w' = @sortWorldK NmS ih NmS.cells 2 w g 0 m (@Sort.insertionSort NmS ih (ltK NmS.n) l.toArray 0 l.toArray.size) os) := HC0
    clear HC0
    have HV := HR.out
    rw [hn] at hv hl ⊢
    subst hv
    have HV : Hid (∀ (m : Nat) (os : Array Obj), (@sortWorldK NmS ih NmS.cells 2 w g 0 m (@Sort.insertionSort NmS ih (ltK NmS.n) l.toArray 0 l.toArray.size) os).ownsRow B 49 2 (.slice (some ⟨g, 0, none⟩) n cap) n ((srtF NmS.n l).map NmS.cells).flatten ∧ Kp (fun b => (Value.slice (some ⟨g, 0, none⟩) n cap).ownBlock = some b) w (@sortWorldK NmS ih NmS.cells 2 w g 0 m (@Sort.insertionSort NmS ih (ltK NmS.n) l.toArray 0 l.toArray.size) os)) := fun m os => HV m n os hn.symm g cap rfl
    clear H HR HB hg hn h h5
    generalize hD : (@Sort.insertionSort NmS ih (ltK NmS.n) l.toArray 0 l.toArray.size) = D at *
    clear hD
    rcases Nat.lt_or_ge n 20 with h20 | h20
    · go_enter Tryz.func86, Tryz.ntmps86
      go_wp2_with fail
      refine wp_loop_rounds 1 ?_
      rw [rounds_succ]
      go_wp2_with (go_at_call 134; refine HC.out.mono ?_; rintro e w1 ⟨rfl, m, os, rfl⟩)
      refine wp_loop_rounds 1 ?_
      rw [rounds_succ]
      go_wp2_with fail
      go_end0
      exact ⟨rfl, HV.out m os⟩
    · obtain rfl : n = 20 := by omega
      go_enter Tryz.func86, Tryz.ntmps86
      go_wp2_with fail
      refine wp_loop_rounds 2 ?_
      rw [rounds_succ]
      go_wp2_with (go_at_call 134; refine HC.out.mono ?_; rintro e w1 ⟨rfl, m, os, rfl⟩)
      rw [rounds_succ]
      go_wp2_with (go_at_call 134; refine (insN_none (some ⟨g, 0, none⟩) 20 cap 20 (by decide) _).mono ?_; rintro e w1 ⟨rfl, rfl⟩)
      refine wp_loop_rounds 1 ?_
      rw [rounds_succ]
      go_wp2_with fail
      go_end0
      exact ⟨rfl, HV.out m os⟩
end Go.Proofs.YtkfhlgajeejgeaaGreatDoor

/- What slices.SortStableFunc answers, at rows of one's own. -/
namespace Go.Proofs.YtkfhlgajeejgeaaGreatDoor
open Go.ChangeShapes Go.WideShapes Go.ChangeAt Go.RowKit Go.Sort Go.Lib
set_option linter.unusedVariables false
set_option linter.unusedSimpArgs false
set_option maxRecDepth 20000

/-- So many named ones at most. -/
def capN : Nat := 20
theorem stabN_any {w : World} {B : Nat} {v : Value} {l : List NmS} (h : w.ownsRow B 49 2 v l.length (l.map NmS.cells).flatten) (hl : l.length ≤ capN) :
    Calls Tryz.prog 86 #[v, .int .i64 (l.length : Int), .func (.func 52) #[] #[]] w fun e w' => e = .returned (.tuple #[]) ∧ w'.ownsRow B 49 2 v l.length ((srtF NmS.n l).map NmS.cells).flatten ∧ Kp (fun b => v.ownBlock = some b) w w' := stabN_few h hl
theorem sortF_any {w : World} {B : Nat} {v : Value} {l : List FlS} (h : w.ownsRow B 44 5 v l.length (flRows l).flatten) (hl : l.length ≤ 20) :
    Calls Tryz.prog 47 #[v, .func (.func 48) #[] #[]] w fun e w' => e = .returned (.tuple #[]) ∧ w'.ownsRow B 44 5 v l.length (flRows (srtF FlS.tag l)).flatten ∧ Kp (fun b => v.ownBlock = some b) w w' := by
  obtain ⟨a, c, hv⟩ := own_form h
  subst hv
  have HC := stabF_few h hl
  obtain ⟨N, hN⟩ : ∃ N, l.length = N := ⟨_, rfl⟩
  rw [hN] at HC ⊢
  have HC : Hid _ := HC
  clear h hl hN
  go_enter Tryz.func47, Tryz.ntmps47
  go_wp2_with (go_at_call 82; refine Calls.mono HC.out ?_; rintro e w1 ⟨rfl, h1, h2⟩)
  go_end0
  exact ⟨rfl, h1, h2⟩
theorem sortN_any {w : World} {B : Nat} {v : Value} {l : List NmS} (h : w.ownsRow B 49 2 v l.length (nmRows l).flatten) (hl : l.length ≤ capN) :
    Calls Tryz.prog 51 #[v, .func (.func 52) #[] #[]] w fun e w' => e = .returned (.tuple #[]) ∧ w'.ownsRow B 49 2 v l.length (nmRows (srtF NmS.n l)).flatten ∧ Kp (fun b => v.ownBlock = some b) w w' := by
  obtain ⟨a, c, hv⟩ := own_form h
  subst hv
  have HC := stabN_any h hl
  obtain ⟨N, hN⟩ : ∃ N, l.length = N := ⟨_, rfl⟩
  rw [hN] at HC ⊢
  have HC : Hid _ := HC
  clear h hl hN
  go_enter Tryz.func51, Tryz.ntmps51
  go_wp2_with (go_at_call 86; refine Calls.mono HC.out ?_; rintro e w1 ⟨rfl, h1, h2⟩)
  go_end0
  exact ⟨rfl, h1, h2⟩
end Go.Proofs.YtkfhlgajeejgeaaGreatDoor

/- What print's fresh answers: a list in memory of its own. -/
namespace Go.Proofs.YtkfhlgajeejgeaaGreatDoor
open Go.ChangeShapes Go.WideShapes Go.ChangeAt Go.RowKit
set_option linter.unusedVariables false
set_option linter.unusedSimpArgs false
set_option maxRecDepth 20000

set_option maxHeartbeats 1000000 in
theorem pfreshM_any {w : World} {v : Value} {rs : List (List Value)} (hr : RowG w v 3 rs) (hl : ∀ r ∈ rs, r.length = 3) (h1 : ∀ u ∈ rs.flatten, u.oneCell' = true) (hn : rs.length ≤ 1000000) :
    Calls Tryz.prog 25 #[v] w fun e w' => ∃ u, e = .returned u ∧ w'.ownsRow w.heap.size 40 3 u rs.length rs.flatten ∧ Below w.heap.size w w' := by
  have HR : Hid (RowG w v 3 rs) := hr
  obtain ⟨a, c, rfl, q1, q2⟩ := hr.form2
  clear hr
  go_enter Tryz.func25, Tryz.ntmps25
  go_wp2_with (at_builtin; refine wpList_joinG rfl _ _ 22 40 3 64 _ rfl Tryz.underlying22 infoMs rfl (by decide) w.heap.size (.slice none 0 0) 0 [] rfl (World.ownsRow_nil _ _ _ _) (.slice a rs.length c) rs rfl HR.out hl h1 (by omega) (by decide) (Nat.le_refl _) ?_)
  intro u w1 h2 h3
  have hb : Below w.heap.size w w1 := (Below.refl _ _).grown h3 (Nat.le_refl _) (fun k hk => by cases hk)
  go_wp2_with fail
  go_ret
  exact ⟨u, rfl, h2, hb⟩
set_option maxHeartbeats 1000000 in
theorem pfreshE_any {w : World} {v : Value} {rs : List (List Value)} (hr : RowG w v 2 rs) (hl : ∀ r ∈ rs, r.length = 2) (h1 : ∀ u ∈ rs.flatten, u.oneCell' = true) (hn : rs.length ≤ 1000000) :
    Calls Tryz.prog 26 #[v] w fun e w' => ∃ u, e = .returned u ∧ w'.ownsRow w.heap.size 47 2 u rs.length rs.flatten ∧ Below w.heap.size w w' := by
  have HR : Hid (RowG w v 2 rs) := hr
  obtain ⟨a, c, rfl, q1, q2⟩ := hr.form2
  clear hr
  go_enter Tryz.func26, Tryz.ntmps26
  go_wp2_with (at_builtin; refine wpList_joinG rfl _ _ 23 47 2 40 _ rfl Tryz.underlying23 infoEn rfl (by decide) w.heap.size (.slice none 0 0) 0 [] rfl (World.ownsRow_nil _ _ _ _) (.slice a rs.length c) rs rfl HR.out hl h1 (by omega) (by decide) (Nat.le_refl _) ?_)
  intro u w1 h2 h3
  have hb : Below w.heap.size w w1 := (Below.refl _ _).grown h3 (Nat.le_refl _) (fun k hk => by cases hk)
  go_wp2_with fail
  go_ret
  exact ⟨u, rfl, h2, hb⟩
set_option maxHeartbeats 1000000 in
theorem pfreshT_any {w : World} {v : Value} {rs : List (List Value)} (hr : RowG w v 3 rs) (hl : ∀ r ∈ rs, r.length = 3) (h1 : ∀ u ∈ rs.flatten, u.oneCell' = true) (hn : rs.length ≤ 1000000) :
    Calls Tryz.prog 27 #[v] w fun e w' => ∃ u, e = .returned u ∧ w'.ownsRow w.heap.size 54 3 u rs.length rs.flatten ∧ Below w.heap.size w w' := by
  have HR : Hid (RowG w v 3 rs) := hr
  obtain ⟨a, c, rfl, q1, q2⟩ := hr.form2
  clear hr
  go_enter Tryz.func27, Tryz.ntmps27
  go_wp2_with (at_builtin; refine wpList_joinG rfl _ _ 24 54 3 48 _ rfl Tryz.underlying24 infoMt rfl (by decide) w.heap.size (.slice none 0 0) 0 [] rfl (World.ownsRow_nil _ _ _ _) (.slice a rs.length c) rs rfl HR.out hl h1 (by omega) (by decide) (Nat.le_refl _) ?_)
  intro u w1 h2 h3
  have hb : Below w.heap.size w w1 := (Below.refl _ _).grown h3 (Nat.le_refl _) (fun k hk => by cases hk)
  go_wp2_with fail
  go_ret
  exact ⟨u, rfl, h2, hb⟩
set_option maxHeartbeats 1000000 in
theorem pfreshF_any {w : World} {v : Value} {rs : List (List Value)} (hr : RowG w v 5 rs) (hl : ∀ r ∈ rs, r.length = 5) (h1 : ∀ u ∈ rs.flatten, u.oneCell' = true) (hn : rs.length ≤ 1000000) :
    Calls Tryz.prog 45 #[v] w fun e w' => ∃ u, e = .returned u ∧ w'.ownsRow w.heap.size 44 5 u rs.length rs.flatten ∧ Below w.heap.size w w' := by
  have HR : Hid (RowG w v 5 rs) := hr
  obtain ⟨a, c, rfl, q1, q2⟩ := hr.form2
  clear hr
  go_enter Tryz.func45, Tryz.ntmps45
  go_wp2_with (at_builtin; refine wpList_joinG rfl _ _ 37 44 5 56 _ rfl Tryz.underlying37 infoFl rfl (by decide) w.heap.size (.slice none 0 0) 0 [] rfl (World.ownsRow_nil _ _ _ _) (.slice a rs.length c) rs rfl HR.out hl h1 (by omega) (by decide) (Nat.le_refl _) ?_)
  intro u w1 h2 h3
  have hb : Below w.heap.size w w1 := (Below.refl _ _).grown h3 (Nat.le_refl _) (fun k hk => by cases hk)
  go_wp2_with fail
  go_ret
  exact ⟨u, rfl, h2, hb⟩
set_option maxHeartbeats 1000000 in
theorem pfreshI_any {w : World} {v : Value} {rs : List (List Value)} (hr : RowG w v 1 rs) (hl : ∀ r ∈ rs, r.length = 1) (h1 : ∀ u ∈ rs.flatten, u.oneCell' = true) (hn : rs.length ≤ 1000000) :
    Calls Tryz.prog 46 #[v] w fun e w' => ∃ u, e = .returned u ∧ w'.ownsRow w.heap.size 3 1 u rs.length rs.flatten ∧ Below w.heap.size w w' := by
  have HR : Hid (RowG w v 1 rs) := hr
  obtain ⟨a, c, rfl, q1, q2⟩ := hr.form2
  clear hr
  go_enter Tryz.func46, Tryz.ntmps46
  go_wp2_with (at_builtin; refine wpList_joinG rfl _ _ 38 3 1 8 _ rfl Tryz.underlying38 infoIn rfl (by decide) w.heap.size (.slice none 0 0) 0 [] rfl (World.ownsRow_nil _ _ _ _) (.slice a rs.length c) rs rfl HR.out hl h1 (by omega) (by decide) (Nat.le_refl _) ?_)
  intro u w1 h2 h3
  have hb : Below w.heap.size w w1 := (Below.refl _ _).grown h3 (Nat.le_refl _) (fun k hk => by cases hk)
  go_wp2_with fail
  go_ret
  exact ⟨u, rfl, h2, hb⟩
set_option maxHeartbeats 1000000 in
theorem pfreshN_any {w : World} {v : Value} {rs : List (List Value)} (hr : RowG w v 2 rs) (hl : ∀ r ∈ rs, r.length = 2) (h1 : ∀ u ∈ rs.flatten, u.oneCell' = true) (hn : rs.length ≤ 1000000) :
    Calls Tryz.prog 50 #[v] w fun e w' => ∃ u, e = .returned u ∧ w'.ownsRow w.heap.size 49 2 u rs.length rs.flatten ∧ Below w.heap.size w w' := by
  have HR : Hid (RowG w v 2 rs) := hr
  obtain ⟨a, c, rfl, q1, q2⟩ := hr.form2
  clear hr
  go_enter Tryz.func50, Tryz.ntmps50
  go_wp2_with (at_builtin; refine wpList_joinG rfl _ _ 45 49 2 24 _ rfl Tryz.underlying45 infoNm rfl (by decide) w.heap.size (.slice none 0 0) 0 [] rfl (World.ownsRow_nil _ _ _ _) (.slice a rs.length c) rs rfl HR.out hl h1 (by omega) (by decide) (Nat.le_refl _) ?_)
  intro u w1 h2 h3
  have hb : Below w.heap.size w w1 := (Below.refl _ _).grown h3 (Nat.le_refl _) (fun k hk => by cases hk)
  go_wp2_with fail
  go_ret
  exact ⟨u, rfl, h2, hb⟩
end Go.Proofs.YtkfhlgajeejgeaaGreatDoor

/- A region that draws its order: behind the operation for which the condition is kept, one operation alone is ready. -/
namespace Go.Proofs.YtkfhlgajeejgeaaGreatDoor
set_option linter.unusedVariables false
set_option linter.unusedSimpArgs false
section
variable {P : Program} {md : Region.Mode} {ops : Array Oper} {Q : Exit → Act → World → Prop} {T : World → Prop} {m : Nat}
theorem M_runA {oi : Oper} {fuel : Nat} {listed listed' : Array Bool} {a : Act} {w : World} (i d : Nat) (v : Value) (w' : World) (hi : ops[i]? = some oi) (hd : oi.dst = some d)
    (hr : Region.ready md ops listed = [i]) (hwt : Region.wanted oi (yielded ops a.tmps) = true) (hl : listed.setIfInBounds i true = listed') (hx : (execOp a.eval oi).run P w = .ok (.value v) w') (hm : listed'.getD m true = true)
    (h : wpAnyM P md ops Q T m fuel listed' { a with tmps := a.tmps.setIfInBounds d v } w') : wpAnyM P md ops Q T m (fuel + 1) listed a w := by
  subst hl
  refine ⟨fun h0 => (by rw [hr] at h0; cases h0), fun j hj => ?_⟩
  rw [hr, List.mem_singleton] at hj
  subst hj
  unfold wpOp
  simp only [hi]
  rw [if_pos hwt]
  refine .inl ?_
  unfold Oper.wp
  rw [hx, Oper.upon_value, hd]
  exact ⟨fun h0 => (by rw [hm] at h0; cases h0), h⟩
end
end Go.Proofs.YtkfhlgajeejgeaaGreatDoor

/- What print's canonMessage and canonEnum answer. -/
namespace Go.Proofs.YtkfhlgajeejgeaaGreatDoor
open Go.ChangeShapes Go.WideShapes Go.ChangeAt Go.RowKit
set_option linter.unusedVariables false
set_option linter.unusedSimpArgs false
set_option maxRecDepth 20000

set_option maxHeartbeats 4000000 in
theorem canonM_any {w : World} {vf vr : Value} {m : MsS} (hf : RowG w vf 5 (flRows m.fields)) (hr : RowG w vr 1 (inRows m.reserved)) (h1 : m.fields.length ≤ 20) (h2 : m.reserved.length ≤ 1000) :
    Calls Tryz.prog 28 #[.agg #[.string m.name, vf, vr]] w fun e w' => ∃ uf ur, e = .returned (.agg #[.string m.name, uf, ur]) ∧ w'.ownsRow w.heap.size 44 5 uf m.fields.length (flRows (canonM m).fields).flatten ∧ w'.ownsRow w.heap.size 3 1 ur m.reserved.length (inRows (canonM m).reserved).flatten ∧ Below w.heap.size w w' := by
  obtain ⟨af, cf, rfl, p1, p2⟩ := hf.form2
  obtain ⟨ar, cr, rfl, q1, q2⟩ := hr.form2
  obtain ⟨nm, mf, mr⟩ := m
  simp only [canonM] at *
  have HF : Hid (RowG w (.slice af (flRows mf).length cf) 5 (flRows mf)) := hf
  have HR : Hid (RowG w (.slice ar (inRows mr).length cr) 1 (inRows mr)) := hr
  have HLF : Hid ((flRows mf).length = mf.length) := by show _ = _; simp [flRows]
  have HLR : Hid ((inRows mr).length = mr.length) := by show _ = _; simp [inRows]
  generalize hnF : (flRows mf).length = nF at *
  generalize hnR : (inRows mr).length = nR at *
  have HNF : Hid ((flRows mf).length = nF) := hnF
  have HNR : Hid ((inRows mr).length = nR) := hnR
  clear hf hr hnF hnR
  have H1 : Hid (mf.length ≤ 20) := h1
  have H2 : Hid (mr.length ≤ 1000) := h2
  clear h1 h2
  go_enter Tryz.func28, Tryz.ntmps28
  go_wp2_with fail
  refine M_region (T := fun W => W.cell? ⟨w.heap.size, 1, none⟩ = some (.slice af nF cf) ∧ W.cell? ⟨w.heap.size, 2, none⟩ = some (.slice ar nR cr)) (m := 7) (by kernel_rfl) ?_
  have HB0 : Hid (Below w.heap.size w ((w.alloc (.cells #[.string nm, .slice af nF cf, .slice ar nR cr] 40)).alloc (.cells #[.string ⟨#[]⟩, .slice none 0 0, .slice none 0 0] 40)).drew) := below_drewN 1 (((Below.refl _ _).alloc (Nat.le_refl _) _).alloc (by simp) _)
  have HX0 : Hid (Blk ((w.alloc (.cells #[.string nm, .slice af nF cf, .slice ar nR cr] 40)).alloc (.cells #[.string ⟨#[]⟩, .slice none 0 0, .slice none 0 0] 40)).drew w.heap.size #[.string nm, .slice af nF cf, .slice ar nR cr] 40) := (Blk.new w _ _).below (below_drewN 1 ((Below.refl _ _).alloc (Nat.le_refl _) _))
  have HR0 : Hid (Blk ((w.alloc (.cells #[.string nm, .slice af nF cf, .slice ar nR cr] 40)).alloc (.cells #[.string ⟨#[]⟩, .slice none 0 0, .slice none 0 0] 40)).drew (w.heap.size + 1) #[.string ⟨#[]⟩, .slice none 0 0, .slice none 0 0] 40) := by
    have := Blk.new (w.alloc (.cells #[.string nm, .slice af nF cf, .slice ar nR cr] 40)) #[.string ⟨#[]⟩, .slice none 0 0, .slice none 0 0] 40
    rw [show (w.alloc (.cells #[.string nm, .slice af nF cf, .slice ar nR cr] 40)).heap.size = w.heap.size + 1 by simp] at this
    exact this
  have HS0 : Hid (((w.alloc (.cells #[.string nm, .slice af nF cf, .slice ar nR cr] 40)).alloc (.cells #[.string ⟨#[]⟩, .slice none 0 0, .slice none 0 0] 40)).drew.heap.size = w.heap.size + 2) := by show _ = _; simp [World.drew]
  generalize ((w.alloc (.cells #[.string nm, .slice af nF cf, .slice ar nR cr] 40)).alloc (.cells #[.string ⟨#[]⟩, .slice none 0 0, .slice none 0 0] 40)).drew = W0 at *
  obtain ⟨b0, hb0⟩ : ∃ n, w.heap.size = n := ⟨_, rfl⟩
  rw [hb0] at HX0 HR0 HS0 ⊢
  have HBZ : Hid (w.heap.size = b0) := hb0
  clear hb0
  have hTW : ∀ W, Below W0.heap.size W0 W → W.cell? ⟨b0, 1, none⟩ = some (.slice af nF cf) ∧ W.cell? ⟨b0, 2, none⟩ = some (.slice ar nR cr) := fun W hW => ⟨(HX0.out.below hW).cell 1, (HX0.out.below hW).cell 2⟩
  have hT := hTW W0 (Below.refl _ _)
  refine M_take 0 3 (.pointer (some ⟨b0, 1, none⟩)) _ rfl rfl (by kernel_rfl) (by kernel_rfl) (by kernel_rfl) (by kernel_rfl) (by kernel_rfl) (fun _ _ _ h => h) (by rfl) (fun w' hw' => ?_) hT (listed' := #[true, false, false, false, false, false, false, false, false, false]) (by kernel_rfl) rfl ?_
  · obtain ⟨g1, g2⟩ := hw'; go_simp
  simp only [List.setIfInBounds_toArray, List.set_cons_zero, List.set_cons_succ]
  refine M_take 3 6 (.pointer (some ⟨b0, 2, none⟩)) _ rfl rfl (by kernel_rfl) (by kernel_rfl) (by kernel_rfl) (by kernel_rfl) (by kernel_rfl) (fun _ _ _ h => h) (by rfl) (fun w' hw' => ?_) hT (listed' := #[true, false, false, true, false, false, false, false, false, false]) (by kernel_rfl) rfl ?_
  · obtain ⟨g1, g2⟩ := hw'; go_simp
  simp only [List.setIfInBounds_toArray, List.set_cons_zero, List.set_cons_succ]
  refine M_take 1 4 (.slice af nF cf) _ rfl rfl (by kernel_rfl) (by kernel_rfl) (by kernel_rfl) (by kernel_rfl) (by kernel_rfl) (fun _ _ _ h => h) (by rfl) (fun w' hw' => ?_) hT (listed' := #[true, true, false, true, false, false, false, false, false, false]) (by kernel_rfl) rfl ?_
  · obtain ⟨g1, g2⟩ := hw'; go_simp
  simp only [List.setIfInBounds_toArray, List.set_cons_zero, List.set_cons_succ]
  refine M_take 4 7 (.slice ar nR cr) _ rfl rfl (by kernel_rfl) (by kernel_rfl) (by kernel_rfl) (by kernel_rfl) (by kernel_rfl) (fun _ _ _ h => h) (by rfl) (fun w' hw' => ?_) hT (listed' := #[true, true, false, true, true, false, false, false, false, false]) (by kernel_rfl) rfl ?_
  · obtain ⟨g1, g2⟩ := hw'; go_simp
  simp only [List.setIfInBounds_toArray, List.set_cons_zero, List.set_cons_succ]
  refine M_call 2 5 45 #[.slice af nF cf] rfl rfl (by kernel_rfl) (by rfl) (listed' := #[true, true, true, true, true, false, false, false, false, false]) (by kernel_rfl) (fun W => by go_simp) ?_
  refine (pfreshF_any (HF.out.below HB0.out) (flr_len _) (flr_one _) (by have := HLF.out; have := HNF.out; have := H1.out; omega)).mono ?_
  rintro e W1 ⟨uf, rfl, ho1, hb1⟩
  have hT := hTW W1 hb1
  rw [HNF.out] at ho1
  obtain ⟨fa, fc, hu⟩ := own_form ho1
  subst hu
  refine ⟨_, rfl, hT, ?_⟩
  simp only [List.setIfInBounds_toArray, List.set_cons_zero, List.set_cons_succ]
  have HO1 : Hid (W1.ownsRow W0.heap.size 44 5 (.slice fa nF fc) nF (flRows mf).flatten) := ho1
  clear ho1
  refine M_take 6 9 (.pointer (some ⟨b0, 1, none⟩)) _ rfl rfl (by kernel_rfl) (by kernel_rfl) (by kernel_rfl) (by kernel_rfl) (by kernel_rfl) (fun _ _ _ h => h) (by rfl) (fun w' hw' => ?_) hT (listed' := #[true, true, true, true, true, false, true, false, false, false]) (by kernel_rfl) rfl ?_
  · obtain ⟨g1, g2⟩ := hw'; go_simp
  simp only [List.setIfInBounds_toArray, List.set_cons_zero, List.set_cons_succ]
  refine M_call 5 8 46 #[.slice ar nR cr] rfl rfl (by kernel_rfl) (by rfl) (listed' := #[true, true, true, true, true, true, true, false, false, false]) (by kernel_rfl) (fun W => by go_simp) ?_
  refine (pfreshI_any ((HR.out.below HB0.out).below hb1) (inr_len _) (inr_one _) (by have := HLR.out; have := HNR.out; have := H2.out; omega)).mono ?_
  rintro e W2 ⟨ur, rfl, ho2, hb2⟩
  have hb02 : Below W0.heap.size W0 W2 := hb1.trans (hb2.mono hb1.size)
  have hT := hTW W2 hb02
  rw [HNR.out] at ho2
  obtain ⟨ra, rc, hu⟩ := own_form ho2
  subst hu
  refine ⟨_, rfl, hT, ?_⟩
  simp only [List.setIfInBounds_toArray, List.set_cons_zero, List.set_cons_succ]
  have HO2 : Hid (W2.ownsRow W0.heap.size 3 1 (.slice ra nR rc) nR (inRows mr).flatten) := own_base ho2 hb1.size
  have HO1 : Hid (W2.ownsRow W0.heap.size 44 5 (.slice fa nF fc) nF (flRows mf).flatten) := own_below HO1.out hb2
  clear ho2 hb2 hb1
  have BX2 := HX0.out.below hb02
  have BR2 := HR0.out.below hb02
  have hbw : Below w.heap.size w W2 := HB0.out.trans (hb02.mono HB0.out.size)
  have HSZ : Hid (b0 + 2 = W0.heap.size) := HS0.out.symm
  have x1 := (BX2.cell 1).trans rfl
  have x2 := (BX2.cell 2).trans rfl
  have z1 := BX2.froz 1
  have z2 := BX2.froz 2
  refine M_store 7 (W2.setCell ⟨b0, 1, none⟩ (.slice fa nF fc)) rfl rfl (by kernel_rfl) (by rfl) (listed' := #[true, true, true, true, true, true, true, true, false, false]) (by kernel_rfl) (by go_simp) (by kernel_rfl) ?_
  have BX3 : Blk (W2.setCell ⟨b0, 1, none⟩ (.slice fa nF fc)) b0 #[.string nm, .slice fa nF fc, .slice ar nR cr] 40 := BX2.set 1 _ rfl
  have y2 := (BX3.cell 2).trans rfl
  have z3 := BX3.froz 2
  refine M_runA 8 10 (.pointer (some ⟨b0, 2, none⟩)) (W2.setCell ⟨b0, 1, none⟩ (.slice fa nF fc)) rfl rfl (by kernel_rfl) (by rfl) (listed' := #[true, true, true, true, true, true, true, true, true, false]) (by kernel_rfl) (by go_simp) (by kernel_rfl) ?_
  simp only [List.setIfInBounds_toArray, List.set_cons_zero, List.set_cons_succ]
  refine M_store 9 ((W2.setCell ⟨b0, 1, none⟩ (.slice fa nF fc)).setCell ⟨b0, 2, none⟩ (.slice ra nR rc)) rfl rfl (by kernel_rfl) (by rfl) (listed' := #[true, true, true, true, true, true, true, true, true, true]) (by kernel_rfl) (by go_simp) (by kernel_rfl) ?_
  refine M_done (by kernel_rfl) ?_ _
  have KS : Kp (fun k => k = b0) W2 ((W2.setCell ⟨b0, 1, none⟩ (.slice fa nF fc)).setCell ⟨b0, 2, none⟩ (.slice ra nR rc)) := by
    refine Kp.setCell ?_ (fun _ => by simp) _
    refine Kp.setCell ?_ (fun _ => by simp) _
    exact Kp.refl _ _
  have BX4 : Blk ((W2.setCell ⟨b0, 1, none⟩ (.slice fa nF fc)).setCell ⟨b0, 2, none⟩ (.slice ra nR rc)) b0 #[.string nm, .slice fa nF fc, .slice ra nR rc] 40 := BX3.set 2 _ rfl
  have BR4 := BR2.kp KS (by omega)
  have HO1' : Hid (((W2.setCell ⟨b0, 1, none⟩ (.slice fa nF fc)).setCell ⟨b0, 2, none⟩ (.slice ra nR rc)).ownsRow W0.heap.size 44 5 (.slice fa nF fc) nF (flRows mf).flatten) := own_kp HO1.out KS (fun k hk => by have := HSZ.out; omega)
  have HO2' : Hid (((W2.setCell ⟨b0, 1, none⟩ (.slice fa nF fc)).setCell ⟨b0, 2, none⟩ (.slice ra nR rc)).ownsRow W0.heap.size 3 1 (.slice ra nR rc) nR (inRows mr).flatten) := own_kp HO2.out KS (fun k hk => by have := HSZ.out; omega)
  have hb4 : Below w.heap.size w ((W2.setCell ⟨b0, 1, none⟩ (.slice fa nF fc)).setCell ⟨b0, 2, none⟩ (.slice ra nR rc)) := hbw.trans (KS.toBelow hbw.size (fun k e => by have := HBZ.out; omega))
  generalize ((W2.setCell ⟨b0, 1, none⟩ (.slice fa nF fc)).setCell ⟨b0, 2, none⟩ (.slice ra nR rc)) = W4 at *
  clear x1 x2 z1 z2 y2 z3 BX3 KS HO1 HO2 BX2 BR2 hbw hT hTW HX0 HR0 HB0 hb02 HF HR
  have x1 := (BX4.cell 1).trans rfl
  go_wp2_with fail
  clear x1
  have HS1 := sortF_any (l := mf) (by rw [HLF.out.symm]; exact HO1'.out) H1.out
  rw [← HLF.out] at HS1
  refine HS1.mono ?_
  rintro e W5 ⟨rfl, ho5, k5⟩
  have HO5 : Hid (W5.ownsRow W0.heap.size 44 5 (.slice fa nF fc) nF (flRows (srtF FlS.tag mf)).flatten) := ho5
  have hlow : ∀ b, (Value.slice fa nF fc).ownBlock = some b → W0.heap.size ≤ b := fun b hb => (HO1'.out.lt b hb).1
  have BX5 := BX4.kp k5 (fun e => by have := hlow _ e; have := HSZ.out; omega)
  have BR5 := BR4.kp k5 (fun e => by have := hlow _ e; have := HSZ.out; omega)
  have HO6 : Hid (W5.ownsRow W0.heap.size 3 1 (.slice ra nR rc) nR (inRows mr).flatten) := own_kpV HO2'.out k5 (fun k hv hq => own_apart HO1'.out HO2'.out (by decide) k hq hv)
  have hb5 : Below w.heap.size w W5 := hb4.trans (k5.toBelow hb4.size (fun k e => by have := hlow _ e; have := HSZ.out; have := HBZ.out; omega))
  clear HO1' HO2' BX4 BR4 hb4 k5 hlow ho5 HS1
  have x2 := (BX5.cell 2).trans rfl
  go_wp2_with fail
  clear x2
  have HS1 := sortI_any (ns := mr) (by rw [HLR.out.symm]; exact HO6.out) (by have := H2.out; omega)
  rw [← HLR.out] at HS1
  refine HS1.mono ?_
  rintro e W7 ⟨rfl, ho7, k7⟩
  have hlow : ∀ b, (Value.slice ra nR rc).ownBlock = some b → W0.heap.size ≤ b := fun b hb => (HO6.out.lt b hb).1
  have BX7 := BX5.kp k7 (fun e => by have := hlow _ e; have := HSZ.out; omega)
  have BR7 := BR5.kp k7 (fun e => by have := hlow _ e; have := HSZ.out; omega)
  have HO7 : Hid (W7.ownsRow W0.heap.size 3 1 (.slice ra nR rc) nR (inRows (srtF (fun x => x) mr)).flatten) := ho7
  have HO8 : Hid (W7.ownsRow W0.heap.size 44 5 (.slice fa nF fc) nF (flRows (srtF FlS.tag mf)).flatten) := own_kpV HO5.out k7 (fun k hv hq => own_apart HO6.out HO5.out (by decide) k hq hv)
  have hb7 : Below w.heap.size w W7 := hb5.trans (k7.toBelow hb5.size (fun k e => by have := hlow _ e; have := HSZ.out; have := HBZ.out; omega))
  clear HO5 HO6 BX5 BR5 hb5 k7 hlow ho7 HS1
  have x0 := (BX7.cell 0).trans rfl
  have x1 := (BX7.cell 1).trans rfl
  have x2 := (BX7.cell 2).trans rfl
  have r0 := (BR7.cell 0).trans rfl
  have r1 := (BR7.cell 1).trans rfl
  have r2 := (BR7.cell 2).trans rfl
  have s0 := BR7.froz 0
  have s1 := BR7.froz 1
  have s2 := BR7.froz 2
  go_wp2_with fail
  refine bodyPost_ret (results_cell rfl _ _ _ ⟨b0 + 1, 0, none⟩ (.agg #[.string nm, .slice fa nF fc, .slice ra nR rc]) (by go_simp) (by go_simp)) rfl ?_
  have KS : Kp (fun k => k = b0 + 1) W7 (((W7.setCell ⟨b0 + 1, 0, none⟩ (.string nm)).setCell ⟨b0 + 1, 1, none⟩ (.slice fa nF fc)).setCell ⟨b0 + 1, 2, none⟩ (.slice ra nR rc)) := by
    refine Kp.setCell ?_ (fun _ => by simp) _
    refine Kp.setCell ?_ (fun _ => by simp) _
    refine Kp.setCell ?_ (fun _ => by simp) _
    exact Kp.refl _ _
  have hle : w.heap.size ≤ W0.heap.size := by have := HSZ.out; have := HBZ.out; omega
  refine ⟨_, _, rfl, ?_, ?_, hb7.trans (KS.toBelow hb7.size (fun k e => by have := HBZ.out; omega))⟩
  · rw [HLF.out.symm]
    exact own_base (own_kp HO8.out KS (fun k hk => by have := HSZ.out; omega)) hle
  · rw [HLR.out.symm]
    exact own_base (own_kp HO7.out KS (fun k hk => by have := HSZ.out; omega)) hle
set_option maxHeartbeats 4000000 in
theorem canonE_any {w : World} {vf : Value} {m : EnS} (hf : RowG w vf 2 (nmRows m.values)) (h1 : m.values.length ≤ capN) :
    Calls Tryz.prog 29 #[.agg #[.string m.name, vf]] w fun e w' => ∃ uf, e = .returned (.agg #[.string m.name, uf]) ∧ w'.ownsRow w.heap.size 49 2 uf m.values.length (nmRows (canonE m).values).flatten ∧ Below w.heap.size w w' := by
  obtain ⟨af, cf, rfl, p1, p2⟩ := hf.form2
  obtain ⟨nm, mf⟩ := m
  simp only [canonE] at *
  have HF : Hid (RowG w (.slice af (nmRows mf).length cf) 2 (nmRows mf)) := hf
  have HLF : Hid ((nmRows mf).length = mf.length) := by show _ = _; simp [nmRows]
  generalize hnF : (nmRows mf).length = nF at *
  have HNF : Hid ((nmRows mf).length = nF) := hnF
  clear hf hnF
  have H1 : Hid (mf.length ≤ capN) := h1
  have hcap : capN ≤ 1000 := by decide
  clear h1
  have HB0 : Hid (Below w.heap.size w ((w.alloc (.cells #[.string nm, .slice af nF cf] 47)).alloc (.cells #[.string ⟨#[]⟩, .slice none 0 0] 47))) := ((Below.refl _ _).alloc (Nat.le_refl _) _).alloc (by simp) _
  have HX0 : Hid (Blk ((w.alloc (.cells #[.string nm, .slice af nF cf] 47)).alloc (.cells #[.string ⟨#[]⟩, .slice none 0 0] 47)) w.heap.size #[.string nm, .slice af nF cf] 47) := (Blk.new w _ _).below ((Below.refl _ _).alloc (Nat.le_refl _) _)
  have HR0 : Hid (Blk ((w.alloc (.cells #[.string nm, .slice af nF cf] 47)).alloc (.cells #[.string ⟨#[]⟩, .slice none 0 0] 47)) (w.heap.size + 1) #[.string ⟨#[]⟩, .slice none 0 0] 47) := by
    have := Blk.new (w.alloc (.cells #[.string nm, .slice af nF cf] 47)) #[.string ⟨#[]⟩, .slice none 0 0] 47
    rw [show (w.alloc (.cells #[.string nm, .slice af nF cf] 47)).heap.size = w.heap.size + 1 by simp] at this
    exact this
  have HS0 : Hid (((w.alloc (.cells #[.string nm, .slice af nF cf] 47)).alloc (.cells #[.string ⟨#[]⟩, .slice none 0 0] 47)).heap.size = w.heap.size + 2) := by show _ = _; simp
  go_enter Tryz.func29, Tryz.ntmps29
  go_wp2_with fail
  generalize ((w.alloc (.cells #[.string nm, .slice af nF cf] 47)).alloc (.cells #[.string ⟨#[]⟩, .slice none 0 0] 47)) = W0 at *
  obtain ⟨b0, hb0⟩ : ∃ n, w.heap.size = n := ⟨_, rfl⟩
  rw [hb0] at HX0 HR0 HS0 ⊢
  have HBZ : Hid (w.heap.size = b0) := hb0
  clear hb0
  refine (pfreshN_any (HF.out.below HB0.out) (nmr_len _) (nmr_one _) (by have := HLF.out; have := HNF.out; have := H1.out; omega)).mono ?_
  rintro e W1 ⟨uf, rfl, ho1, hb1⟩
  rw [HNF.out] at ho1
  obtain ⟨fa, fc, hu⟩ := own_form ho1
  subst hu
  have HO1 : Hid (W1.ownsRow W0.heap.size 49 2 (.slice fa nF fc) nF (nmRows mf).flatten) := ho1
  clear ho1
  have BX1 := HX0.out.below hb1
  have BR1 := HR0.out.below hb1
  have hbw : Below w.heap.size w W1 := HB0.out.trans (hb1.mono HB0.out.size)
  have HSZ : Hid (b0 + 2 = W0.heap.size) := HS0.out.symm
  have x1 := (BX1.cell 1).trans rfl
  have z1 := BX1.froz 1
  have KS : Kp (fun k => k = b0) W1 (W1.setCell ⟨b0, 1, none⟩ (.slice fa nF fc)) := by
    refine Kp.setCell ?_ (fun _ => by simp) _
    exact Kp.refl _ _
  have BX4 : Blk (W1.setCell ⟨b0, 1, none⟩ (.slice fa nF fc)) b0 #[.string nm, .slice fa nF fc] 47 := BX1.set 1 _ rfl
  have BR4 := BR1.kp KS (by omega)
  have HO1' : Hid ((W1.setCell ⟨b0, 1, none⟩ (.slice fa nF fc)).ownsRow W0.heap.size 49 2 (.slice fa nF fc) nF (nmRows mf).flatten) := own_kp HO1.out KS (fun k hk => by have := HSZ.out; omega)
  have hb4 : Below w.heap.size w (W1.setCell ⟨b0, 1, none⟩ (.slice fa nF fc)) := hbw.trans (KS.toBelow hbw.size (fun k e => by have := HBZ.out; omega))
  have x1' := (BX4.cell 1).trans rfl
  clear HX0 HR0 HB0 hb1 HF BR1 HO1 hbw KS
  go_wp2_with fail
  generalize (W1.setCell ⟨b0, 1, none⟩ (.slice fa nF fc)) = W4 at *
  clear x1 z1 x1' BX1
  have HS1 := sortN_any (l := mf) (by rw [HLF.out.symm]; exact HO1'.out) H1.out
  rw [← HLF.out] at HS1
  refine HS1.mono ?_
  rintro e W5 ⟨rfl, ho5, k5⟩
  have HO5 : Hid (W5.ownsRow W0.heap.size 49 2 (.slice fa nF fc) nF (nmRows (srtF NmS.n mf)).flatten) := ho5
  have hlow : ∀ b, (Value.slice fa nF fc).ownBlock = some b → W0.heap.size ≤ b := fun b hb => (HO1'.out.lt b hb).1
  have BX5 := BX4.kp k5 (fun e => by have := hlow _ e; have := HSZ.out; omega)
  have BR5 := BR4.kp k5 (fun e => by have := hlow _ e; have := HSZ.out; omega)
  have hb5 : Below w.heap.size w W5 := hb4.trans (k5.toBelow hb4.size (fun k e => by have := hlow _ e; have := HSZ.out; have := HBZ.out; omega))
  clear HO1' BX4 BR4 hb4 k5 hlow ho5 HS1
  have x0 := (BX5.cell 0).trans rfl
  have x1 := (BX5.cell 1).trans rfl
  have r0 := (BR5.cell 0).trans rfl
  have r1 := (BR5.cell 1).trans rfl
  have s0 := BR5.froz 0
  have s1 := BR5.froz 1
  go_wp2_with fail
  refine bodyPost_ret (results_cell rfl _ _ _ ⟨b0 + 1, 0, none⟩ (.agg #[.string nm, .slice fa nF fc]) (by go_simp) (by go_simp)) rfl ?_
  have KS : Kp (fun k => k = b0 + 1) W5 ((W5.setCell ⟨b0 + 1, 0, none⟩ (.string nm)).setCell ⟨b0 + 1, 1, none⟩ (.slice fa nF fc)) := by
    refine Kp.setCell ?_ (fun _ => by simp) _
    refine Kp.setCell ?_ (fun _ => by simp) _
    exact Kp.refl _ _
  have hle : w.heap.size ≤ W0.heap.size := by have := HSZ.out; have := HBZ.out; omega
  refine ⟨_, rfl, ?_, hb5.trans (KS.toBelow hb5.size (fun k e => by have := HBZ.out; omega))⟩
  rw [HLF.out.symm]
  exact own_base (own_kp HO5.out KS (fun k hk => by have := HSZ.out; omega)) hle
end Go.Proofs.YtkfhlgajeejgeaaGreatDoor

/- Rows whose cells are written one by one. -/
namespace Go.Proofs.YtkfhlgajeejgeaaGreatDoor
open Go.ChangeShapes Go.WideShapes Go.ChangeAt Go.RowKit
set_option linter.unusedVariables false
set_option linter.unusedSimpArgs false
set_option maxRecDepth 20000

theorem flat_set {size : Nat} : ∀ (rs : List (List Value)), (∀ r ∈ rs, r.length = size) → ∀ (j : Nat) (r : List Value), rs[j]? = some r → ∀ (c : Nat) (u : Value), c < size → rs.flatten.set (j * size + c) u = (rs.set j (r.set c u)).flatten
  | [], _, j, r, h, _, _, _ => by simp at h
  | x :: l, hl, 0, r, h, c, u, hc => by
    obtain rfl : x = r := by simpa using h
    have hx := hl x (List.mem_cons_self ..)
    rw [List.flatten_cons, Nat.zero_mul, Nat.zero_add, List.set_append_left _ _ (by omega), List.set_cons_zero, List.flatten_cons]
  | x :: l, hl, j + 1, r, h, c, u, hc => by
    have hx := hl x (List.mem_cons_self ..)
    have ih := flat_set l (fun r hr => hl r (List.mem_cons_of_mem _ hr)) j r (by simpa using h) c u hc
    rw [List.flatten_cons, List.set_append_right _ _ (by rw [hx, Nat.add_mul]; omega), List.set_cons_succ, List.flatten_cons, ← ih]
    congr 2
    rw [hx, Nat.add_mul]; omega
/-- A cell of a field. -/
theorem set3 {rs : List (List Value)} (hl : ∀ r ∈ rs, r.length = 3) {k : Nat} (hk : k < rs.length) (a b c : Value) : ((rs.flatten.set (k * 3) a).set (k * 3 + 1) b).set (k * 3 + 2) c = (rs.set k [a, b, c]).flatten := by
  obtain ⟨r, hr⟩ : ∃ r, rs[k]? = some r := ⟨_, List.getElem?_eq_getElem hk⟩
  have h3 := hl r (List.mem_of_getElem? hr)
  match r, h3 with
  | [x, y, z], _ =>
    have l1 : ∀ q ∈ rs.set k [a, y, z], q.length = 3 := fun q hq => by
      rcases List.mem_or_eq_of_mem_set hq with h | rfl
      · exact hl q h
      · rfl
    have l2 : ∀ q ∈ rs.set k [a, b, z], q.length = 3 := fun q hq => by
      rcases List.mem_or_eq_of_mem_set hq with h | rfl
      · exact hl q h
      · rfl
    have e1 := flat_set rs hl k _ hr 0 a (by decide)
    rw [Nat.add_zero] at e1
    rw [e1]
    have e2 := flat_set _ l1 k [a, y, z] (by rw [List.getElem?_set_self hk]) 1 b (by decide)
    have e3 := flat_set _ l2 k [a, b, z] (by rw [List.getElem?_set_self hk]) 2 c (by decide)
    simp only [List.set_cons_zero, List.set_cons_succ, List.set_set] at e2 e3 ⊢
    rw [e2, e3]
theorem set2 {rs : List (List Value)} (hl : ∀ r ∈ rs, r.length = 2) {k : Nat} (hk : k < rs.length) (a b : Value) : (rs.flatten.set (k * 2) a).set (k * 2 + 1) b = (rs.set k [a, b]).flatten := by
  obtain ⟨r, hr⟩ : ∃ r, rs[k]? = some r := ⟨_, List.getElem?_eq_getElem hk⟩
  have h3 := hl r (List.mem_of_getElem? hr)
  match r, h3 with
  | [x, y], _ =>
    have l1 : ∀ q ∈ rs.set k [a, y], q.length = 2 := fun q hq => by
      rcases List.mem_or_eq_of_mem_set hq with h | rfl
      · exact hl q h
      · rfl
    have e1 := flat_set rs hl k _ hr 0 a (by decide)
    rw [Nat.add_zero] at e1
    rw [e1]
    have e2 := flat_set _ l1 k [a, y] (by rw [List.getElem?_set_self hk]) 1 b (by decide)
    simp only [List.set_cons_zero, List.set_cons_succ, List.set_set] at e2 ⊢
    rw [e2]
theorem own_hi {w : World} {B e size q n cap : Nat} {xs : List Value} (h : w.ownsRow B e size (.slice (some ⟨q, 0, none⟩) n cap) n xs) : B ≤ q := by
  rcases h.2 with ⟨h, _⟩ | ⟨q', cap', cur, h1, h2, _⟩
  · cases h
  · simp only [Value.slice.injEq, Option.some.injEq, Addr.mk.injEq] at h1
    obtain ⟨⟨rfl, _⟩, _⟩ := h1
    exact h2
end Go.Proofs.YtkfhlgajeejgeaaGreatDoor
