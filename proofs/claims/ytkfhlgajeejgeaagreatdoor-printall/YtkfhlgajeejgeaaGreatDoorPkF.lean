/- What print's message and enum write. -/
import Derived.Shelf.RegionOpenPlain
import Derived.Sort.Grow
import Derived.Shelf.SlSortCmp.QuietGrown
import Derived.Shelf.SlSortCmp.Insertion
import Derived.Test.YtkfhlgajeejgeaaGreatDoorPkE
import Derived.Test.YtkfhlgajeejgeaaGreatDoorPkB
import Derived.Test.YtkfhlgajeejgeaaGreatDoorPkC
namespace Go.Proofs.YtkfhlgajeejgeaaGreatDoor
open Go.ChangeShapes Go.WideShapes Go.ChangeAt Go.RowKit
set_option linter.unusedVariables false
set_option linter.unusedSimpArgs false
set_option maxRecDepth 20000

theorem pieces_cons (p : ByteArray) (ps : List ByteArray) : piecesL (p :: ps) = p.data.toList ++ piecesL ps := rfl
theorem pieces_nil : piecesL [] = [] := rfl
theorem map_take {α β : Type} (f : α → List β) {l : List α} {k : Nat} {x : α} (h : l[k]? = some x) : ((l.take (k + 1)).map f).flatten = ((l.take k).map f).flatten ++ f x := by
  rw [List.take_add_one, h]; simp
theorem map_take_le {α β : Type} (f : α → List β) (l : List α) (k : Nat) : ((l.take k).map f).flatten.length ≤ (l.map f).flatten.length := by
  have e : (l.map f).flatten = ((l.take k).map f).flatten ++ ((l.drop k).map f).flatten := by
    rw [← List.flatten_append, ← List.map_append, List.take_append_drop]
  rw [e, List.length_append]; exact Nat.le_add_right _ _
theorem field_pieces (f : FlS) : piecesL [⟨#[32, 32]⟩, labTx f.label, wordTx f.kind f.tname, ⟨#[32]⟩, f.name, ⟨#[32, 61, 32]⟩, ⟨(Lib.itoa f.tag).toArray⟩, ⟨#[59]⟩] ++ [10] = fieldL f := by
  simp [piecesL, fieldL, labTx, wordTx]
theorem val_pieces (f : NmS) : piecesL [⟨#[32, 32]⟩, f.name, ⟨#[32, 61, 32]⟩, ⟨(Lib.itoa f.n).toArray⟩, ⟨#[59]⟩] ++ [10] = valL f := by
  simp [piecesL, valL]
def mHead (m : MsS) : List UInt8 := [109, 101, 115, 115, 97, 103, 101, 32] ++ m.name.data.toList ++ [32, 123, 10]
def eHead (m : EnS) : List UInt8 := [101, 110, 117, 109, 32] ++ m.name.data.toList ++ [32, 123, 10]
theorem mhead_pieces (n : ByteArray) (f : List FlS) (r : List Int) : piecesL [⟨#[109, 101, 115, 115, 97, 103, 101, 32]⟩, n, ⟨#[32, 123]⟩] ++ [10] = mHead ⟨n, f, r⟩ := by
  simp [piecesL, mHead]
theorem ehead_pieces (n : ByteArray) (f : List NmS) : piecesL [⟨#[101, 110, 117, 109, 32]⟩, n, ⟨#[32, 123]⟩] ++ [10] = eHead ⟨n, f⟩ := by
  simp [piecesL, eHead]
theorem msgL_eq (m : MsS) : msgL m = mHead m ++ (m.fields.map fieldL).flatten ++ resL m.reserved ++ [125, 10] := by simp [msgL, mHead]
theorem enumL_eq (m : EnS) : enumL m = eHead m ++ (m.values.map valL).flatten ++ [125, 10] := by simp [enumL, eHead]
theorem res_pieces {ns : List Int} (h : ns ≠ []) : piecesL [⟨#[32, 32, 114, 101, 115, 101, 114, 118, 101, 100, 32]⟩, numsB ns, ⟨#[59]⟩] ++ [10] = resL ns := by
  unfold resL
  rw [if_neg h]
  simp [piecesL, numsB]
set_option maxHeartbeats 2000000 in
theorem enum_any {w0 w : World} {b : Nat} {bs : List UInt8} {vf : Value} {m : EnS} (h : Pg w0 b bs w) (hf : RowG w0 vf 2 (nmRows m.values)) (ht : PTab w0) (hw : EnW m) (hlen : bs.length + (enumL m).length ≤ 1000000000) :
    Calls Tryz.prog 32 #[.pointer (some ⟨b, 0, none⟩), .agg #[.string m.name, vf]] w fun e w' => e = .returned (.tuple #[]) ∧ Pg w0 b (bs ++ enumL m) w' ∧ Ot b w w' := by
  obtain ⟨af, cf, rfl, p1, p2⟩ := hf.form2
  obtain ⟨nm, mf⟩ := m
  simp only at *
  have HW : Hid (EnW ⟨nm, mf⟩) := hw
  have HL : Hid (bs.length + (enumL ⟨nm, mf⟩).length ≤ 1000000000) := hlen
  have HML : Hid (enumL ⟨nm, mf⟩ = eHead ⟨nm, mf⟩ ++ (mf.map valL).flatten ++ [125, 10]) := enumL_eq _
  have HF : Hid (RowG w0 (.slice af (nmRows mf).length cf) 2 (nmRows mf)) := hf
  have HLF : Hid ((nmRows mf).length = mf.length) := by show _ = _; simp [nmRows]
  generalize hnF : (nmRows mf).length = nF at *
  have HP : Hid (Pg w0 b bs w) := h
  have HT : Hid (PTab w0) := ht
  have hlt := h.lt
  have HLT : Hid (b < w.heap.size) := hlt
  have hbx : Below w.heap.size w (w.alloc (.cells #[.string nm, .slice af nF cf] 47)) := (Below.refl _ _).alloc (Nat.le_refl _) _
  have BX0 : Blk (w.alloc (.cells #[.string nm, .slice af nF cf] 47)) w.heap.size #[.string nm, .slice af nF cf] 47 := Blk.new w _ _
  have HOX : Hid (Ot b w (w.alloc (.cells #[.string nm, .slice af nF cf] 47))) := Ot.ofBelow hbx
  have HPX : Hid (Pg w0 b bs (w.alloc (.cells #[.string nm, .slice af nF cf] 47))) := h.below hbx
  clear h hf ht hw hlen hlt hnF 
  go_enter Tryz.func32, Tryz.ntmps32
  go_wp2_with fail
  obtain ⟨bx, hbxe⟩ : ∃ n, w.heap.size = n := ⟨_, rfl⟩
  rw [hbxe] at BX0 HLT hbx
  have hne : bx ≠ b := by have := HLT.out; omega
  have hal : ∀ (W : World) (cs : Array Value), Below W.heap.size W (W.alloc (.cells cs 9)) := fun W cs => (Below.refl _ _).alloc (Nat.le_refl _) _
  refine (line_any (n := 3) (ps := [⟨#[101, 110, 117, 109, 32]⟩, nm, ⟨#[32, 123]⟩]) (HPX.out.below (hal _ _)) (Blk.newAt (b := w.heap.size + 1) (by simp)) rfl (by decide) (by
    have h1 := HL.out
    have h2 : (piecesL [⟨#[101, 110, 117, 109, 32]⟩, nm, ⟨#[32, 123]⟩] ++ [10]).length = (eHead ⟨nm, mf⟩).length := by rw [ehead_pieces nm mf]
    rw [HML.out] at h1
    simp only [List.length_append, List.length_cons, List.length_nil] at h1 h2 ⊢
    omega)).mono ?_
  rintro e w1 ⟨rfl, hp1, ho1⟩
  have HP1 : Hid (Pg w0 b (bs ++ eHead ⟨nm, mf⟩ ++ ((mf.take 0).map valL).flatten) w1) := by
    show Pg _ _ _ _
    rw [List.take_zero, List.map_nil, List.flatten_nil, List.append_nil, ← ehead_pieces nm mf, ← List.append_assoc]
    exact hp1
  have HO1 : Hid (Ot b w w1) := HOX.out.trans ((Ot.ofBelow (hal _ _)).trans ho1)
  have BX1 : Blk w1 bx #[.string nm, .slice af nF cf] 47 := ho1.blk (BX0.below (hal _ _)) hne (by decide)
  rw [hbxe]
  clear hp1 ho1 BX0 HPX HOX hbx hbxe
  have x1 := (BX1.cell 1).trans rfl
  go_wp2_with fail
  clear x1
  go_loopw [14] (fun iv wr => ∃ k : Nat, iv = .int .i64 (k : Int) ∧ k ≤ nF ∧ Hid (Pg w0 b (bs ++ eHead ⟨nm, mf⟩ ++ ((mf.take k).map valL).flatten) wr) ∧ Hid (Ot b w wr) ∧ Blk wr bx #[.string nm, .slice af nF cf] 47) (fun iv _ => nF - (intOf iv).toNat)
  case atStart => exact ⟨0, rfl, by omega, HP1, HO1, BX1⟩
  case round =>
    obtain ⟨k, rfl, hk, HPk, HOk, BXk⟩ := hrel
    clear HP1 HO1 BX1
    by_cases hlt : k < nF
    · obtain ⟨f, hf⟩ : ∃ n, mf[k]? = some n := ⟨_, List.getElem?_eq_getElem (by rw [← HLF.out]; exact hlt)⟩
      have hrr : (nmRows mf)[k]? = some f.cells := by simp [nmRows, hf]
      obtain ⟨g, off, rfl, cc⟩ := (HF.out.below HPk.out.bel).get hrr
      have HFW : Hid (NmW f) := HW.out.2 f (List.mem_of_getElem? hf)
      have HTK : Hid (((mf.take (k + 1)).map valL).flatten = ((mf.take k).map valL).flatten ++ valL f) := map_take valL hf
      have HLE : Hid ((bs ++ eHead ⟨nm, mf⟩ ++ ((mf.take k).map valL).flatten).length + (valL f).length ≤ 1000000000) := by
        have h1 := HL.out
        have h2 := map_take_le valL mf (k + 1)
        rw [HTK.out, List.length_append] at h2
        rw [HML.out] at h1
        simp only [List.length_append, List.length_cons, List.length_nil] at h1 h2
        show _ ≤ _
        simp only [List.length_append]
        omega
      obtain ⟨f0, f1⟩ := f
      have c0 := cc 0 _ rfl
      have c1 := cc 1 _ rfl
      rw [Nat.add_zero] at c0
      clear hf hrr cc
      have hkn : (k : Int) < (nF : Int) := by omega
      go_wp2_with fail
      clear c0 c1
      have BF0 : Blk (wr.alloc (.cells #[.string f0, .int .i64 f1] 49)).drew wr.heap.size #[.string f0, .int .i64 f1] 49 := Blk.new wr _ _
      have hbf : Below wr.heap.size wr (wr.alloc (.cells #[.string f0, .int .i64 f1] 49)).drew := below_drewN 1 ((Below.refl _ _).alloc (Nat.le_refl _) _)
      have HPW : Hid (Pg w0 b (bs ++ eHead ⟨nm, mf⟩ ++ ((mf.take k).map valL).flatten) (wr.alloc (.cells #[.string f0, .int .i64 f1] 49)).drew) := HPk.out.below hbf
      have HOW : Hid (Ot b w (wr.alloc (.cells #[.string f0, .int .i64 f1] 49)).drew) := HOk.out.trans (Ot.ofBelow hbf)
      have BXW := BXk.below hbf
      have hbfb : wr.heap.size ≠ b := by have := HPk.out.lt; omega
      refine wp_region_held_drew (S := fun W => Blk W wr.heap.size #[.string f0, .int .i64 f1] 49) (by kernel_rfl) BF0 (fun hS => ?_)
      clear BF0
      generalize (wr.alloc (.cells #[.string f0, .int .i64 f1] 49)).drew = W0 at *
      obtain ⟨bf, hbfe⟩ : ∃ n, wr.heap.size = n := ⟨_, rfl⟩
      rw [hbfe] at hS hbfb ⊢
      clear hbfe hbf HPk HOk BXk
      refine rg_take 0 18 (.pointer (some ⟨b, 0, none⟩)) _ rfl rfl (by kernel_rfl) (by kernel_rfl) (by kernel_rfl) (fun _ _ _ h => h) (by rfl) (fun w' hw' => ?_) hS (listed' := #[true, false, false, false, false, false, false, false]) (by kernel_rfl) rfl ?_
      · go_simp
      simp only [List.setIfInBounds_toArray, List.set_cons_zero, List.set_cons_succ]
      refine rg_take 1 19 (.pointer (some ⟨bf, 0, none⟩)) _ rfl rfl (by kernel_rfl) (by kernel_rfl) (by kernel_rfl) (fun _ _ _ h => h) (by rfl) (fun w' hw' => ?_) hS (listed' := #[true, true, false, false, false, false, false, false]) (by kernel_rfl) rfl ?_
      · go_simp
      simp only [List.setIfInBounds_toArray, List.set_cons_zero, List.set_cons_succ]
      refine rg_take 3 21 (.pointer (some ⟨bf, 1, none⟩)) _ rfl rfl (by kernel_rfl) (by kernel_rfl) (by kernel_rfl) (fun _ _ _ h => h) (by rfl) (fun w' hw' => ?_) hS (listed' := #[true, true, false, true, false, false, false, false]) (by kernel_rfl) rfl ?_
      · go_simp
      simp only [List.setIfInBounds_toArray, List.set_cons_zero, List.set_cons_succ]
      refine rg_take 2 20 (.string f0) _ rfl rfl (by kernel_rfl) (by kernel_rfl) (by kernel_rfl) (fun _ _ _ h => h) (by rfl) (fun w' hw' => ?_) hS (listed' := #[true, true, true, true, false, false, false, false]) (by kernel_rfl) rfl ?_
      · have c0 := (hw'.cell 0).trans rfl; go_simp
      simp only [List.setIfInBounds_toArray, List.set_cons_zero, List.set_cons_succ]
      refine rg_take 4 22 (.int .i64 f1) _ rfl rfl (by kernel_rfl) (by kernel_rfl) (by kernel_rfl) (fun _ _ _ h => h) (by rfl) (fun w' hw' => ?_) hS (listed' := #[true, true, true, true, true, false, false, false]) (by kernel_rfl) rfl ?_
      · have c1 := (hw'.cell 1).trans rfl; go_simp
      simp only [List.setIfInBounds_toArray, List.set_cons_zero, List.set_cons_succ]
      refine rg_call 5 23 57 #[.int .i64 f1] rfl rfl (by kernel_rfl) (by rfl) (listed' := #[true, true, true, true, true, true, false, false]) (by kernel_rfl) (fun W => by go_simp) ?_
      refine (itoa_any f1 HFW.out.2.1 HFW.out.2.2 (HT.out.below HPW.out.bel)).mono ?_
      rintro e W3 ⟨rfl, hb3⟩
      have hS := hS.below hb3
      refine ⟨_, rfl, hS, ?_⟩
      simp only [List.setIfInBounds_toArray, List.set_cons_zero, List.set_cons_succ]
      have HPL : Hid (piecesL [⟨#[32, 32]⟩, f0, ⟨#[32, 61, 32]⟩, ⟨(Lib.itoa f1).toArray⟩, ⟨#[59]⟩] ++ [10] = valL ⟨f0, f1⟩) := val_pieces ⟨f0, f1⟩
      have HP3 : Hid (Pg w0 b (bs ++ eHead ⟨nm, mf⟩ ++ ((mf.take k).map valL).flatten) W3) := HPW.out.below hb3
      have HO3 : Hid (Ot b w W3) := HOW.out.trans (Ot.ofBelow hb3)
      have BX3 := BXW.below hb3
      generalize (⟨(Lib.itoa f1).toArray⟩ : ByteArray) = t3 at *
      have hS4 := hS.below (hal W3 #[.string ⟨#[32, 32]⟩, .string f0, .string ⟨#[32, 61, 32]⟩, .string t3, .string ⟨#[59]⟩])
      refine rg_run 6 24 (.slice (some ⟨W3.heap.size, 0, none⟩) 5 5) (W3.alloc (.cells #[.string ⟨#[32, 32]⟩, .string f0, .string ⟨#[32, 61, 32]⟩, .string t3, .string ⟨#[59]⟩] 9)) rfl rfl (by kernel_rfl) (by rfl) (listed' := #[true, true, true, true, true, true, true, false]) (by kernel_rfl) (by go_simp) hS4 ?_
      simp only [List.setIfInBounds_toArray, List.set_cons_zero, List.set_cons_succ]
      refine rg_call 7 25 30 #[.pointer (some ⟨b, 0, none⟩), .slice (some ⟨W3.heap.size, 0, none⟩) 5 5] rfl rfl (by kernel_rfl) (by rfl) (listed' := #[true, true, true, true, true, true, true, true]) (by kernel_rfl) (fun W => by go_simp) ?_
      refine (line_any (n := 5) (ps := [⟨#[32, 32]⟩, f0, ⟨#[32, 61, 32]⟩, t3, ⟨#[59]⟩]) (HP3.out.below (hal _ _)) (Blk.new _ _ _) rfl (by decide) (by
        have h1 := HLE.out
        rw [← HPL.out] at h1
        simp only [List.length_append, List.length_cons, List.length_nil] at h1 ⊢
        omega)).mono ?_
      rintro e W5 ⟨rfl, hp5, ho5⟩
      have HP5 : Hid (Pg w0 b (bs ++ eHead ⟨nm, mf⟩ ++ ((mf.take (k + 1)).map valL).flatten) W5) := by
        show Pg _ _ _ _
        rw [HTK.out, ← HPL.out, ← List.append_assoc, ← List.append_assoc]
        exact hp5
      have HO5 : Hid (Ot b w W5) := HO3.out.trans ((Ot.ofBelow (hal _ _)).trans ho5)
      have BX5 := ho5.blk (BX3.below (hal _ _)) hne (by decide)
      have hS5 : Blk W5 bf #[.string f0, .int .i64 f1] 49 := ho5.blk hS4 hbfb (by decide)
      refine ⟨_, rfl, hS5, ?_⟩
      simp only [List.setIfInBounds_toArray, List.set_cons_zero, List.set_cons_succ]
      refine wpAnyH_done (by kernel_rfl) ?_ _
      clear hp5 ho5 hS4 hS5 hS HP3 HO3 BX3 HPW HOW BXW
      go_wp2_with fail
      go_roundw
      case rel => exact ⟨k + 1, by go_num, by omega, HP5, HO5, BX5⟩
      case measure => simp [intOf]; omega
    · obtain rfl : k = nF := by omega
      have hkn : ¬ (k : Int) < (k : Int) := by omega
      have HP1 : Hid (Pg w0 b (bs ++ eHead ⟨nm, mf⟩ ++ (mf.map valL).flatten) wr) := by
        have := HPk.out
        rw [List.take_of_length_le (by rw [← HLF.out]; omega)] at this
        exact this
      clear HPk
      go_wp2_with fail
      refine (line_any (n := 1) (ps := [⟨#[125]⟩]) (HP1.out.below (hal _ _)) (Blk.new _ _ _) rfl (by decide) (by
        have h1 := HL.out
        rw [HML.out] at h1
        simp only [piecesL, List.map_cons, List.map_nil, List.flatten_cons, List.flatten_nil, List.length_append, List.length_cons, List.length_nil] at h1 ⊢
        omega)).mono ?_
      rintro e w9 ⟨rfl, hp9, ho9⟩
      have HP9 : Hid (Pg w0 b (bs ++ enumL ⟨nm, mf⟩) w9) := by
        show Pg _ _ _ _
        rw [HML.out]
        simpa [piecesL, List.append_assoc] using hp9
      have HO9 : Hid (Ot b w w9) := HOk.out.trans ((Ot.ofBelow (hal _ _)).trans ho9)
      clear hp9 ho9
      go_wp2_with fail
      go_end0
      exact ⟨rfl, HP9.out, HO9.out⟩
end Go.Proofs.YtkfhlgajeejgeaaGreatDoor

/- What print's message writes. -/
namespace Go.Proofs.YtkfhlgajeejgeaaGreatDoor
open Go.ChangeShapes Go.WideShapes Go.ChangeAt Go.RowKit
set_option linter.unusedVariables false
set_option linter.unusedSimpArgs false
set_option maxRecDepth 20000

set_option maxHeartbeats 2000000 in
theorem message_any {w0 w : World} {b : Nat} {bs : List UInt8} {vf vr : Value} {m : MsS} (h : Pg w0 b bs w) (hf : RowG w0 vf 5 (flRows m.fields)) (hr : RowG w0 vr 1 (inRows m.reserved)) (ht : PTab w0) (hw : MsW m) (hrn : m.reserved.length ≤ 1000) (hlen : bs.length + (msgL m).length ≤ 1000000000) :
    Calls Tryz.prog 31 #[.pointer (some ⟨b, 0, none⟩), .agg #[.string m.name, vf, vr]] w fun e w' => e = .returned (.tuple #[]) ∧ Pg w0 b (bs ++ msgL m) w' ∧ Ot b w w' := by
  obtain ⟨af, cf, rfl, p1, p2⟩ := hf.form2
  obtain ⟨ar, cr, rfl, q1, q2⟩ := hr.form2
  obtain ⟨nm, mf, mr⟩ := m
  simp only at *
  have HR : Hid (RowG w0 (.slice ar (inRows mr).length cr) 1 (inRows mr)) := hr
  have HLR : Hid ((inRows mr).length = mr.length) := by show _ = _; simp [inRows]
  have HW : Hid (MsW ⟨nm, mf, mr⟩) := hw
  have HRN : Hid (mr.length ≤ 1000) := hrn
  have HL : Hid (bs.length + (msgL ⟨nm, mf, mr⟩).length ≤ 1000000000) := hlen
  have HML : Hid (msgL ⟨nm, mf, mr⟩ = mHead ⟨nm, mf, mr⟩ ++ (mf.map fieldL).flatten ++ resL mr ++ [125, 10]) := msgL_eq _
  have HF : Hid (RowG w0 (.slice af (flRows mf).length cf) 5 (flRows mf)) := hf
  have HLF : Hid ((flRows mf).length = mf.length) := by show _ = _; simp [flRows]
  generalize hnF : (flRows mf).length = nF at *
  generalize hnR : (inRows mr).length = nR at *
  have HP : Hid (Pg w0 b bs w) := h
  have HT : Hid (PTab w0) := ht
  have hlt := h.lt
  have HLT : Hid (b < w.heap.size) := hlt
  have hbx : Below w.heap.size w (w.alloc (.cells #[.string nm, .slice af nF cf, .slice ar nR cr] 40)) := (Below.refl _ _).alloc (Nat.le_refl _) _
  have BX0 : Blk (w.alloc (.cells #[.string nm, .slice af nF cf, .slice ar nR cr] 40)) w.heap.size #[.string nm, .slice af nF cf, .slice ar nR cr] 40 := Blk.new w _ _
  have HOX : Hid (Ot b w (w.alloc (.cells #[.string nm, .slice af nF cf, .slice ar nR cr] 40))) := Ot.ofBelow hbx
  have HPX : Hid (Pg w0 b bs (w.alloc (.cells #[.string nm, .slice af nF cf, .slice ar nR cr] 40))) := h.below hbx
  clear h hf ht hw hlen hlt hnF hr hrn hnR
  go_enter Tryz.func31, Tryz.ntmps31
  go_wp2_with fail
  obtain ⟨bx, hbxe⟩ : ∃ n, w.heap.size = n := ⟨_, rfl⟩
  rw [hbxe] at BX0 HLT hbx
  have hne : bx ≠ b := by have := HLT.out; omega
  have hal : ∀ (W : World) (cs : Array Value), Below W.heap.size W (W.alloc (.cells cs 9)) := fun W cs => (Below.refl _ _).alloc (Nat.le_refl _) _
  refine (line_any (n := 3) (ps := [⟨#[109, 101, 115, 115, 97, 103, 101, 32]⟩, nm, ⟨#[32, 123]⟩]) (HPX.out.below (hal _ _)) (Blk.newAt (b := w.heap.size + 1) (by simp)) rfl (by decide) (by
    have h1 := HL.out
    have h2 : (piecesL [⟨#[109, 101, 115, 115, 97, 103, 101, 32]⟩, nm, ⟨#[32, 123]⟩] ++ [10]).length = (mHead ⟨nm, mf, mr⟩).length := by rw [mhead_pieces nm mf mr]
    rw [HML.out] at h1
    simp only [List.length_append, List.length_cons, List.length_nil] at h1 h2 ⊢
    omega)).mono ?_
  rintro e w1 ⟨rfl, hp1, ho1⟩
  have HP1 : Hid (Pg w0 b (bs ++ mHead ⟨nm, mf, mr⟩ ++ ((mf.take 0).map fieldL).flatten) w1) := by
    show Pg _ _ _ _
    rw [List.take_zero, List.map_nil, List.flatten_nil, List.append_nil, ← mhead_pieces nm mf mr, ← List.append_assoc]
    exact hp1
  have HO1 : Hid (Ot b w w1) := HOX.out.trans ((Ot.ofBelow (hal _ _)).trans ho1)
  have BX1 : Blk w1 bx #[.string nm, .slice af nF cf, .slice ar nR cr] 40 := ho1.blk (BX0.below (hal _ _)) hne (by decide)
  rw [hbxe]
  clear hp1 ho1 BX0 HPX HOX hbx hbxe
  have x1 := (BX1.cell 1).trans rfl
  go_wp2_with fail
  clear x1
  go_loopw [14] (fun iv wr => ∃ k : Nat, iv = .int .i64 (k : Int) ∧ k ≤ nF ∧ Hid (Pg w0 b (bs ++ mHead ⟨nm, mf, mr⟩ ++ ((mf.take k).map fieldL).flatten) wr) ∧ Hid (Ot b w wr) ∧ Blk wr bx #[.string nm, .slice af nF cf, .slice ar nR cr] 40) (fun iv _ => nF - (intOf iv).toNat)
  case atStart => exact ⟨0, rfl, by omega, HP1, HO1, BX1⟩
  case round =>
    obtain ⟨k, rfl, hk, HPk, HOk, BXk⟩ := hrel
    clear HP1 HO1 BX1
    by_cases hlt : k < nF
    · obtain ⟨f, hf⟩ : ∃ n, mf[k]? = some n := ⟨_, List.getElem?_eq_getElem (by rw [← HLF.out]; exact hlt)⟩
      have hrr : (flRows mf)[k]? = some f.cells := by simp [flRows, hf]
      obtain ⟨g, off, rfl, cc⟩ := (HF.out.below HPk.out.bel).get hrr
      have HFW : Hid (FlW f) := HW.out.2.1 f (List.mem_of_getElem? hf)
      have HTK : Hid (((mf.take (k + 1)).map fieldL).flatten = ((mf.take k).map fieldL).flatten ++ fieldL f) := map_take fieldL hf
      have HLE : Hid ((bs ++ mHead ⟨nm, mf, mr⟩ ++ ((mf.take k).map fieldL).flatten).length + (fieldL f).length ≤ 1000000000) := by
        have h1 := HL.out
        have h2 := map_take_le fieldL mf (k + 1)
        rw [HTK.out, List.length_append] at h2
        rw [HML.out] at h1
        simp only [List.length_append, List.length_cons, List.length_nil] at h1 h2
        show _ ≤ _
        simp only [List.length_append]
        omega
      obtain ⟨f0, f1, f2, f3, f4⟩ := f
      have c0 := cc 0 _ rfl
      have c1 := cc 1 _ rfl
      have c2 := cc 2 _ rfl
      have c3 := cc 3 _ rfl
      have c4 := cc 4 _ rfl
      rw [Nat.add_zero] at c0
      clear hf hrr cc
      have hkn : (k : Int) < (nF : Int) := by omega
      go_wp2_with fail
      clear c0 c1 c2 c3 c4
      have BF0 : Blk (wr.alloc (.cells #[.string f0, .int .i64 f1, .int .i64 f2, .int .i64 f3, .string f4] 44)).drew wr.heap.size #[.string f0, .int .i64 f1, .int .i64 f2, .int .i64 f3, .string f4] 44 := Blk.new wr _ _
      have hbf : Below wr.heap.size wr (wr.alloc (.cells #[.string f0, .int .i64 f1, .int .i64 f2, .int .i64 f3, .string f4] 44)).drew := below_drewN 1 ((Below.refl _ _).alloc (Nat.le_refl _) _)
      have HPW : Hid (Pg w0 b (bs ++ mHead ⟨nm, mf, mr⟩ ++ ((mf.take k).map fieldL).flatten) (wr.alloc (.cells #[.string f0, .int .i64 f1, .int .i64 f2, .int .i64 f3, .string f4] 44)).drew) := HPk.out.below hbf
      have HOW : Hid (Ot b w (wr.alloc (.cells #[.string f0, .int .i64 f1, .int .i64 f2, .int .i64 f3, .string f4] 44)).drew) := HOk.out.trans (Ot.ofBelow hbf)
      have BXW := BXk.below hbf
      have hbfb : wr.heap.size ≠ b := by have := HPk.out.lt; omega
      refine wp_region_held_drew (S := fun W => Blk W wr.heap.size #[.string f0, .int .i64 f1, .int .i64 f2, .int .i64 f3, .string f4] 44) (by kernel_rfl) BF0 (fun hS => ?_)
      clear BF0
      generalize (wr.alloc (.cells #[.string f0, .int .i64 f1, .int .i64 f2, .int .i64 f3, .string f4] 44)).drew = W0 at *
      obtain ⟨bf, hbfe⟩ : ∃ n, wr.heap.size = n := ⟨_, rfl⟩
      rw [hbfe] at hS hbfb ⊢
      clear hbfe hbf HPk HOk BXk
      refine rg_take 0 18 (.pointer (some ⟨b, 0, none⟩)) _ rfl rfl (by kernel_rfl) (by kernel_rfl) (by kernel_rfl) (fun _ _ _ h => h) (by rfl) (fun w' hw' => ?_) hS (listed' := #[true, false, false, false, false, false, false, false, false, false, false, false, false, false]) (by kernel_rfl) rfl ?_
      · go_simp
      simp only [List.setIfInBounds_toArray, List.set_cons_zero, List.set_cons_succ]
      refine rg_take 1 19 (.pointer (some ⟨bf, 2, none⟩)) _ rfl rfl (by kernel_rfl) (by kernel_rfl) (by kernel_rfl) (fun _ _ _ h => h) (by rfl) (fun w' hw' => ?_) hS (listed' := #[true, true, false, false, false, false, false, false, false, false, false, false, false, false]) (by kernel_rfl) rfl ?_
      · go_simp
      simp only [List.setIfInBounds_toArray, List.set_cons_zero, List.set_cons_succ]
      refine rg_take 4 22 (.pointer (some ⟨bf, 3, none⟩)) _ rfl rfl (by kernel_rfl) (by kernel_rfl) (by kernel_rfl) (fun _ _ _ h => h) (by rfl) (fun w' hw' => ?_) hS (listed' := #[true, true, false, false, true, false, false, false, false, false, false, false, false, false]) (by kernel_rfl) rfl ?_
      · go_simp
      simp only [List.setIfInBounds_toArray, List.set_cons_zero, List.set_cons_succ]
      refine rg_take 7 25 (.pointer (some ⟨bf, 0, none⟩)) _ rfl rfl (by kernel_rfl) (by kernel_rfl) (by kernel_rfl) (fun _ _ _ h => h) (by rfl) (fun w' hw' => ?_) hS (listed' := #[true, true, false, false, true, false, false, true, false, false, false, false, false, false]) (by kernel_rfl) rfl ?_
      · go_simp
      simp only [List.setIfInBounds_toArray, List.set_cons_zero, List.set_cons_succ]
      refine rg_take 9 27 (.pointer (some ⟨bf, 1, none⟩)) _ rfl rfl (by kernel_rfl) (by kernel_rfl) (by kernel_rfl) (fun _ _ _ h => h) (by rfl) (fun w' hw' => ?_) hS (listed' := #[true, true, false, false, true, false, false, true, false, true, false, false, false, false]) (by kernel_rfl) rfl ?_
      · go_simp
      simp only [List.setIfInBounds_toArray, List.set_cons_zero, List.set_cons_succ]
      refine rg_take 2 20 (.int .i64 f2) _ rfl rfl (by kernel_rfl) (by kernel_rfl) (by kernel_rfl) (fun _ _ _ h => h) (by rfl) (fun w' hw' => ?_) hS (listed' := #[true, true, true, false, true, false, false, true, false, true, false, false, false, false]) (by kernel_rfl) rfl ?_
      · have c2 := (hw'.cell 2).trans rfl; go_simp
      simp only [List.setIfInBounds_toArray, List.set_cons_zero, List.set_cons_succ]
      refine rg_take 5 23 (.agg #[.int .i64 f3, .string f4]) _ rfl rfl (by kernel_rfl) (by kernel_rfl) (by kernel_rfl) (fun _ _ _ h => h) (by rfl) (fun w' hw' => ?_) hS (listed' := #[true, true, true, false, true, true, false, true, false, true, false, false, false, false]) (by kernel_rfl) rfl ?_
      · have c3 := (hw'.cell 3).trans rfl; have c4 := (hw'.cell 4).trans rfl; go_simp
      simp only [List.setIfInBounds_toArray, List.set_cons_zero, List.set_cons_succ]
      refine rg_take 8 26 (.string f0) _ rfl rfl (by kernel_rfl) (by kernel_rfl) (by kernel_rfl) (fun _ _ _ h => h) (by rfl) (fun w' hw' => ?_) hS (listed' := #[true, true, true, false, true, true, false, true, true, true, false, false, false, false]) (by kernel_rfl) rfl ?_
      · have c0 := (hw'.cell 0).trans rfl; go_simp
      simp only [List.setIfInBounds_toArray, List.set_cons_zero, List.set_cons_succ]
      refine rg_take 10 28 (.int .i64 f1) _ rfl rfl (by kernel_rfl) (by kernel_rfl) (by kernel_rfl) (fun _ _ _ h => h) (by rfl) (fun w' hw' => ?_) hS (listed' := #[true, true, true, false, true, true, false, true, true, true, true, false, false, false]) (by kernel_rfl) rfl ?_
      · have c1 := (hw'.cell 1).trans rfl; go_simp
      simp only [List.setIfInBounds_toArray, List.set_cons_zero, List.set_cons_succ]
      refine rg_call 3 21 55 #[.int .i64 f2] rfl rfl (by kernel_rfl) (by rfl) (listed' := #[true, true, true, true, true, true, false, true, true, true, true, false, false, false]) (by kernel_rfl) (fun W => by go_simp) ?_
      refine (plabel_any f2 _).mono ?_
      rintro e W1 ⟨rfl, rfl⟩
      refine ⟨_, rfl, hS, ?_⟩
      simp only [List.setIfInBounds_toArray, List.set_cons_zero, List.set_cons_succ]
      refine rg_call 6 24 56 #[.agg #[.int .i64 f3, .string f4]] rfl rfl (by kernel_rfl) (by rfl) (listed' := #[true, true, true, true, true, true, true, true, true, true, true, false, false, false]) (by kernel_rfl) (fun W => by go_simp) ?_
      refine (word_any f3 f4 _).mono ?_
      rintro e W2 ⟨rfl, hb2⟩
      have hS := hS.below hb2
      refine ⟨_, rfl, hS, ?_⟩
      simp only [List.setIfInBounds_toArray, List.set_cons_zero, List.set_cons_succ]
      refine rg_call 11 29 57 #[.int .i64 f1] rfl rfl (by kernel_rfl) (by rfl) (listed' := #[true, true, true, true, true, true, true, true, true, true, true, true, false, false]) (by kernel_rfl) (fun W => by go_simp) ?_
      refine (itoa_any f1 HFW.out.2.2.1.1 HFW.out.2.2.1.2 (HT.out.below (HPW.out.below hb2).bel)).mono ?_
      rintro e W3 ⟨rfl, hb3⟩
      have hS := hS.below hb3
      refine ⟨_, rfl, hS, ?_⟩
      simp only [List.setIfInBounds_toArray, List.set_cons_zero, List.set_cons_succ]
      have HPL : Hid (piecesL [⟨#[32, 32]⟩, labTx f2, wordTx f3 f4, ⟨#[32]⟩, f0, ⟨#[32, 61, 32]⟩, ⟨(Lib.itoa f1).toArray⟩, ⟨#[59]⟩] ++ [10] = fieldL ⟨f0, f1, f2, f3, f4⟩) := field_pieces ⟨f0, f1, f2, f3, f4⟩
      have HP3 : Hid (Pg w0 b (bs ++ mHead ⟨nm, mf, mr⟩ ++ ((mf.take k).map fieldL).flatten) W3) := (HPW.out.below hb2).below hb3
      have HO3 : Hid (Ot b w W3) := (HOW.out.trans (Ot.ofBelow hb2)).trans (Ot.ofBelow hb3)
      have BX3 := (BXW.below hb2).below hb3
      generalize labTx f2 = t1 at *
      generalize wordTx f3 f4 = t2 at *
      generalize (⟨(Lib.itoa f1).toArray⟩ : ByteArray) = t3 at *
      have hS4 := hS.below (hal W3 #[.string ⟨#[32, 32]⟩, .string t1, .string t2, .string ⟨#[32]⟩, .string f0, .string ⟨#[32, 61, 32]⟩, .string t3, .string ⟨#[59]⟩])
      refine rg_run 12 30 (.slice (some ⟨W3.heap.size, 0, none⟩) 8 8) (W3.alloc (.cells #[.string ⟨#[32, 32]⟩, .string t1, .string t2, .string ⟨#[32]⟩, .string f0, .string ⟨#[32, 61, 32]⟩, .string t3, .string ⟨#[59]⟩] 9)) rfl rfl (by kernel_rfl) (by rfl) (listed' := #[true, true, true, true, true, true, true, true, true, true, true, true, true, false]) (by kernel_rfl) (by go_simp) hS4 ?_
      simp only [List.setIfInBounds_toArray, List.set_cons_zero, List.set_cons_succ]
      refine rg_call 13 31 30 #[.pointer (some ⟨b, 0, none⟩), .slice (some ⟨W3.heap.size, 0, none⟩) 8 8] rfl rfl (by kernel_rfl) (by rfl) (listed' := #[true, true, true, true, true, true, true, true, true, true, true, true, true, true]) (by kernel_rfl) (fun W => by go_simp) ?_
      refine (line_any (n := 8) (ps := [⟨#[32, 32]⟩, t1, t2, ⟨#[32]⟩, f0, ⟨#[32, 61, 32]⟩, t3, ⟨#[59]⟩]) (HP3.out.below (hal _ _)) (Blk.new _ _ _) rfl (by decide) (by
        have h1 := HLE.out
        rw [← HPL.out] at h1
        simp only [List.length_append, List.length_cons, List.length_nil] at h1 ⊢
        omega)).mono ?_
      rintro e W5 ⟨rfl, hp5, ho5⟩
      have HP5 : Hid (Pg w0 b (bs ++ mHead ⟨nm, mf, mr⟩ ++ ((mf.take (k + 1)).map fieldL).flatten) W5) := by
        show Pg _ _ _ _
        rw [HTK.out, ← HPL.out, ← List.append_assoc, ← List.append_assoc]
        exact hp5
      have HO5 : Hid (Ot b w W5) := HO3.out.trans ((Ot.ofBelow (hal _ _)).trans ho5)
      have BX5 := ho5.blk (BX3.below (hal _ _)) hne (by decide)
      have hS5 : Blk W5 bf #[.string f0, .int .i64 f1, .int .i64 f2, .int .i64 f3, .string f4] 44 := ho5.blk hS4 hbfb (by decide)
      refine ⟨_, rfl, hS5, ?_⟩
      simp only [List.setIfInBounds_toArray, List.set_cons_zero, List.set_cons_succ]
      refine wpAnyH_done (by kernel_rfl) ?_ _
      clear hp5 ho5 hS4 hS5 hS HP3 HO3 BX3 HPW HOW BXW
      go_wp2_with fail
      go_roundw
      case rel => exact ⟨k + 1, by go_num, by omega, HP5, HO5, BX5⟩
      case measure => simp [intOf]; omega
    · obtain rfl : k = nF := by omega
      have hkn : ¬ (k : Int) < (k : Int) := by omega
      have HP1 : Hid (Pg w0 b (bs ++ mHead ⟨nm, mf, mr⟩ ++ (mf.map fieldL).flatten) wr) := by
        have := HPk.out
        rw [List.take_of_length_le (by rw [← HLF.out]; omega)] at this
        exact this
      clear HPk
      have x2 := (BXk.cell 2).trans rfl
      by_cases hz : mr = []
      · have HRZ : Hid (resL mr = []) := by show _ = _; rw [hz]; rfl
        have hnR : nR = 0 := by rw [HLR.out, hz]; rfl
        subst hnR
        clear hz
        go_wp2_with fail
        clear x2
        refine (line_any (n := 1) (ps := [⟨#[125]⟩]) (HP1.out.below (hal _ _)) (Blk.new _ _ _) rfl (by decide) (by
          have h1 := HL.out
          rw [HML.out] at h1
          simp only [piecesL, List.map_cons, List.map_nil, List.flatten_cons, List.flatten_nil, List.length_append, List.length_cons, List.length_nil] at h1 ⊢
          omega)).mono ?_
        rintro e w9 ⟨rfl, hp9, ho9⟩
        have HP9 : Hid (Pg w0 b (bs ++ msgL ⟨nm, mf, mr⟩) w9) := by
          show Pg _ _ _ _
          rw [HML.out]
          skip
          simpa [piecesL, List.append_assoc, HRZ.out] using hp9
        have HO9 : Hid (Ot b w w9) := HOk.out.trans ((Ot.ofBelow (hal _ _)).trans ho9)
        clear hp9 ho9
        go_wp2_with fail
        go_end0
        exact ⟨rfl, HP9.out, HO9.out⟩
      · have hnR : 0 < nR := by rw [HLR.out]; exact List.length_pos_iff.2 hz
        have hnR' : (0 : Int) < (nR : Int) := by omega
        have HZ : Hid (mr ≠ []) := hz
        have HRP : Hid (piecesL [⟨#[32, 32, 114, 101, 115, 101, 114, 118, 101, 100, 32]⟩, numsB mr, ⟨#[59]⟩] ++ [10] = resL mr) := res_pieces hz
        clear hz
        go_wp2_with fail
        refine (pnumbers_any (HR.out.below HP1.out.bel) HZ.out HRN.out (fun n hn => HW.out.2.2 n hn) (HT.out.below HP1.out.bel)).mono ?_
        rintro e w2 ⟨rfl, hb2⟩
        have HP2 : Hid (Pg w0 b (bs ++ mHead ⟨nm, mf, mr⟩ ++ (mf.map fieldL).flatten) w2) := HP1.out.below hb2
        have HO2 : Hid (Ot b w w2) := HOk.out.trans (Ot.ofBelow hb2)
        clear x2 HP1 HOk hb2
        generalize numsB mr = tn at *
        go_wp2_with fail
        refine (line_any (n := 3) (ps := [⟨#[32, 32, 114, 101, 115, 101, 114, 118, 101, 100, 32]⟩, tn, ⟨#[59]⟩]) (HP2.out.below (hal _ _)) (Blk.new _ _ _) rfl (by decide) (by
          have h1 := HL.out
          rw [HML.out, ← HRP.out] at h1
          simp only [List.length_append, List.length_cons, List.length_nil] at h1 ⊢
          omega)).mono ?_
        rintro e w3 ⟨rfl, hp3, ho3⟩
        have HP3 : Hid (Pg w0 b (bs ++ mHead ⟨nm, mf, mr⟩ ++ (mf.map fieldL).flatten ++ resL mr) w3) := by
          show Pg _ _ _ _
          rw [← HRP.out, ← List.append_assoc]
          exact hp3
        have HO3 : Hid (Ot b w w3) := HO2.out.trans ((Ot.ofBelow (hal _ _)).trans ho3)
        have HRZ : Hid (True) := trivial
        clear hp3 ho3 HP2 HO2
        go_wp2_with fail
        refine (line_any (n := 1) (ps := [⟨#[125]⟩]) (HP3.out.below (hal _ _)) (Blk.new _ _ _) rfl (by decide) (by
          have h1 := HL.out
          rw [HML.out] at h1
          simp only [piecesL, List.map_cons, List.map_nil, List.flatten_cons, List.flatten_nil, List.length_append, List.length_cons, List.length_nil] at h1 ⊢
          omega)).mono ?_
        rintro e w9 ⟨rfl, hp9, ho9⟩
        have HP9 : Hid (Pg w0 b (bs ++ msgL ⟨nm, mf, mr⟩) w9) := by
          show Pg _ _ _ _
          rw [HML.out]
          skip
          simpa [piecesL, List.append_assoc, HRZ.out] using hp9
        have HO9 : Hid (Ot b w w9) := HO3.out.trans ((Ot.ofBelow (hal _ _)).trans ho9)
        clear hp9 ho9
        go_wp2_with fail
        go_end0
        exact ⟨rfl, HP9.out, HO9.out⟩
end Go.Proofs.YtkfhlgajeejgeaaGreatDoor

/- Two runs in order, side by side, made one: plain mathematics of slices' symMerge (two runs parted about the middle, turned, each half made one). -/
namespace Go.Proofs.YtkfhlgajeejgeaaGreatDoor
set_option linter.unusedVariables false
set_option linter.unusedSimpArgs false

/-- The key at a place. -/
def kx {α : Type} (key : α → Int) (l : List α) (i : Nat) : Int := ((l[i]?).map key).getD 0
theorem kx_at {α : Type} {key : α → Int} {l : List α} {i : Nat} {x : α} (h : l[i]? = some x) : kx key l i = key x := by unfold kx; rw [h]; rfl
theorem up_idx {α : Type} {key : α → Int} {l : List α} (h : UpK key l) {i j : Nat} {x y : α} (hx : l[i]? = some x) (hy : l[j]? = some y) (hij : i ≤ j) : key x ≤ key y := by
  obtain ⟨hi, rfl⟩ := List.getElem?_eq_some_iff.1 hx
  obtain ⟨hj, rfl⟩ := List.getElem?_eq_some_iff.1 hy
  rcases Nat.lt_or_ge i j with h1 | h1
  · exact List.pairwise_iff_getElem.1 h i j hi hj h1
  · have : i = j := by omega
    subst this
    exact Int.le_refl _
theorem mem_take_idx {α : Type} {l : List α} {k : Nat} {x : α} (h : x ∈ l.take k) : ∃ j, j < k ∧ l[j]? = some x := by
  obtain ⟨j, hj⟩ := List.mem_iff_getElem?.1 h
  have hl := (List.getElem?_eq_some_iff.1 hj).1
  rw [List.length_take] at hl
  rw [List.getElem?_take_of_lt (by omega)] at hj
  exact ⟨j, by omega, hj⟩
theorem mem_drop_idx {α : Type} {l : List α} {k : Nat} {x : α} (h : x ∈ l.drop k) : ∃ j, k ≤ j ∧ l[j]? = some x := by
  obtain ⟨j, hj⟩ := List.mem_iff_getElem?.1 h
  rw [List.getElem?_drop] at hj
  exact ⟨k + j, by omega, hj⟩
theorem filter_none {α : Type} {key : α → Int} {l : List α} {t : Int} (h : ∀ x ∈ l, key x ≠ t) : l.filter (fun x => key x == t) = [] := by
  rw [List.filter_eq_nil_iff]
  intro x hx
  simpa using h x hx
/-- Y ahead of X, where all of Y are below all of X. -/
theorem filter_turn {α : Type} (key : α → Int) (X Y : List α) (h : ∀ x ∈ X, ∀ y ∈ Y, key y < key x) (t : Int) : (Y ++ X).filter (fun x => key x == t) = (X ++ Y).filter (fun x => key x == t) := by
  rw [List.filter_append, List.filter_append]
  by_cases hx : ∃ x ∈ X, key x = t
  · obtain ⟨x, hx, rfl⟩ := hx
    rw [filter_none (l := Y) (fun y hy => by have := h x hx y hy; omega)]
    simp
  · rw [filter_none (l := X) (fun x hm e => hx ⟨x, hm, e⟩)]
    simp
theorem up_app {α : Type} {key : α → Int} {a b : List α} (ha : UpK key a) (hb : UpK key b) (h : ∀ x ∈ a, ∀ y ∈ b, key x ≤ key y) : UpK key (a ++ b) := List.pairwise_append.2 ⟨ha, hb, h⟩
theorem up_split {α : Type} {key : α → Int} {l : List α} (h : UpK key l) (k : Nat) : UpK key (l.take k) ∧ UpK key (l.drop k) ∧ ∀ x ∈ l.take k, ∀ y ∈ l.drop k, key x ≤ key y := by
  have := h
  unfold UpK at this
  rw [← List.take_append_drop k l] at this
  exact List.pairwise_append.1 this
/-- Both halves made one. -/
theorem halves_srt {α : Type} (key : α → Int) (X1 X2 Y1 Y2 : List α) (h1 : ∀ x ∈ X2, ∀ y ∈ Y1, key y < key x) (h2 : ∀ u ∈ X1 ++ Y1, ∀ v ∈ X2 ++ Y2, key u ≤ key v) :
    srtF key (X1 ++ Y1) ++ srtF key (X2 ++ Y2) = srtF key ((X1 ++ X2) ++ (Y1 ++ Y2)) := by
  have a1 := srtF_srt key (X1 ++ Y1)
  have a2 := srtF_srt key (X2 ++ Y2)
  refine srtK_eq key ⟨up_app a1.1 a2.1 (fun x hx y hy => h2 x ((srtF_mem key _ _).1 hx) y ((srtF_mem key _ _).1 hy)), fun t => ?_⟩
  rw [List.filter_append, a1.2 t, a2.2 t]
  have := filter_turn key X2 Y1 h1 t
  simp only [List.filter_append] at this ⊢
  rw [List.append_assoc, ← List.append_assoc (Y1.filter _), this]
  simp
/-- Where the two runs are parted: what the search has found. -/
structure Cut {α : Type} (key : α → Int) (L : List α) (a m b start : Nat) : Prop where
  lo : (if (a + b) / 2 < m then (a + b) / 2 + m - b else a) ≤ start
  hi : start ≤ (if (a + b) / 2 < m then (a + b) / 2 else m)
  e1 : start = (if (a + b) / 2 < m then (a + b) / 2 + m - b else a) ∨ kx key L (start - 1) ≤ kx key L ((a + b) / 2 + m - start)
  e2 : start = (if (a + b) / 2 < m then (a + b) / 2 else m) ∨ kx key L ((a + b) / 2 + m - 1 - start) < kx key L start
theorem Cut.bd {α : Type} {key : α → Int} {L : List α} {a m b start : Nat} (h : Cut key L a m b start) (h1 : a ≤ m) (h2 : m ≤ b) : a ≤ start ∧ start ≤ m ∧ m ≤ (a + b) / 2 + m - start ∧ (a + b) / 2 + m - start ≤ b := by
  have := h.lo
  have := h.hi
  split at this <;> split at * <;> omega
theorem Cut.parts {α : Type} {key : α → Int} {A X Y B : List α} {a m b start : Nat} (ha : a = A.length) (hm : m = a + X.length) (hb : b = m + Y.length) (ux : UpK key X) (uy : UpK key Y) (h : Cut key (A ++ X ++ Y ++ B) a m b start) :
    (∀ x ∈ X.drop (start - a), ∀ y ∈ Y.take ((a + b) / 2 - start), key y < key x) ∧
    (∀ u ∈ X.take (start - a) ++ Y.take ((a + b) / 2 - start), ∀ v ∈ X.drop (start - a) ++ Y.drop ((a + b) / 2 - start), key u ≤ key v) := by
  have hbd := h.bd (by omega) (by omega)
  have kX : ∀ j x, X[j]? = some x → kx key (A ++ X ++ Y ++ B) (a + j) = key x := by
    intro j x hj
    have hl := (List.getElem?_eq_some_iff.1 hj).1
    refine kx_at ?_
    rw [List.append_assoc, List.append_assoc, List.getElem?_append_right (by omega), List.getElem?_append_left (by omega)]
    rw [show a + j - A.length = j by omega]; exact hj
  have kY : ∀ j y, Y[j]? = some y → kx key (A ++ X ++ Y ++ B) (m + j) = key y := by
    intro j y hj
    have hl := (List.getElem?_eq_some_iff.1 hj).1
    refine kx_at ?_
    rw [List.append_assoc (A ++ X), List.getElem?_append_right (by rw [List.length_append]; omega), List.getElem?_append_left (by rw [List.length_append]; omega)]
    rw [show m + j - (A ++ X).length = j by rw [List.length_append]; omega]; exact hj
  obtain ⟨x1, x2, x3⟩ := up_split ux (start - a)
  obtain ⟨y1, y2, y3⟩ := up_split uy ((a + b) / 2 - start)
  have c1 : ∀ x ∈ X.drop (start - a), ∀ y ∈ Y.take ((a + b) / 2 - start), key y < key x := by
    intro x hx y hy
    obtain ⟨i, hi, hxi⟩ := mem_drop_idx hx
    obtain ⟨j, hj, hyj⟩ := mem_take_idx hy
    have hil := (List.getElem?_eq_some_iff.1 hxi).1
    have hjl := (List.getElem?_eq_some_iff.1 hyj).1
    obtain ⟨x0, hx0⟩ : ∃ z, X[start - a]? = some z := ⟨_, List.getElem?_eq_getElem (by omega)⟩
    obtain ⟨y0, hy0⟩ : ∃ z, Y[(a + b) / 2 - start - 1]? = some z := ⟨_, List.getElem?_eq_getElem (by omega)⟩
    have q1 := up_idx ux hx0 hxi hi
    have q2 := up_idx uy hyj hy0 (by omega)
    have q3 := kX _ _ hx0
    have q4 := kY _ _ hy0
    rw [show a + (start - a) = start by omega] at q3
    rw [show m + ((a + b) / 2 - start - 1) = (a + b) / 2 + m - 1 - start by omega] at q4
    rcases h.e2 with e | e
    · exfalso
      split at e <;> omega
    · omega
  refine ⟨c1, ?_⟩
  intro u hu v hv
  rcases List.mem_append.1 hu with hu | hu
  · rcases List.mem_append.1 hv with hv | hv
    · exact x3 u hu v hv
    · obtain ⟨i, hi, hui⟩ := mem_take_idx hu
      obtain ⟨j, hj, hvj⟩ := mem_drop_idx hv
      have hil := (List.getElem?_eq_some_iff.1 hui).1
      have hjl := (List.getElem?_eq_some_iff.1 hvj).1
      obtain ⟨x0, hx0⟩ : ∃ z, X[start - a - 1]? = some z := ⟨_, List.getElem?_eq_getElem (by omega)⟩
      obtain ⟨y0, hy0⟩ : ∃ z, Y[(a + b) / 2 - start]? = some z := ⟨_, List.getElem?_eq_getElem (by omega)⟩
      have q1 := up_idx ux hui hx0 (by omega)
      have q2 := up_idx uy hy0 hvj hj
      have q3 := kX _ _ hx0
      have q4 := kY _ _ hy0
      rw [show a + (start - a - 1) = start - 1 by omega] at q3
      rw [show m + ((a + b) / 2 - start) = (a + b) / 2 + m - start by omega] at q4
      rcases h.e1 with e | e
      · exfalso
        split at e <;> omega
      · omega
  · rcases List.mem_append.1 hv with hv | hv
    · exact Int.le_of_lt (c1 v hv u hu)
    · exact y3 u hu v hv
/-- The two halves, made one each, are the whole. -/
theorem Cut.srt {α : Type} {key : α → Int} {A X Y B : List α} {a m b start : Nat} (ha : a = A.length) (hm : m = a + X.length) (hb : b = m + Y.length) (ux : UpK key X) (uy : UpK key Y) (h : Cut key (A ++ X ++ Y ++ B) a m b start) :
    srtF key (X.take (start - a) ++ Y.take ((a + b) / 2 - start)) ++ srtF key (X.drop (start - a) ++ Y.drop ((a + b) / 2 - start)) = srtF key (X ++ Y) := by
  obtain ⟨h1, h2⟩ := h.parts ha hm hb ux uy
  rw [halves_srt key _ _ _ _ h1 h2, List.take_append_drop, List.take_append_drop]
theorem srt_one {α : Type} {key : α → Int} {X Y : List α} (ux : UpK key X) (uy : UpK key Y) (h : X = [] ∨ Y = []) : srtF key (X ++ Y) = X ++ Y := by
  rcases h with rfl | rfl
  · rw [List.nil_append]; exact srtF_id key uy
  · rw [List.append_nil]; exact srtF_id key ux
/-- One ahead of a run: it goes behind those that are below it. -/
theorem one_ahead {α : Type} {key : α → Int} {A Y B : List α} {x : α} {a i : Nat} (ha : a = A.length) (uy : UpK key Y) (h1 : a + 1 ≤ i) (h2 : i ≤ a + 1 + Y.length)
    (e1 : i = a + 1 ∨ kx key (A ++ [x] ++ Y ++ B) (i - 1) < kx key (A ++ [x] ++ Y ++ B) a) (e2 : i = a + 1 + Y.length ∨ kx key (A ++ [x] ++ Y ++ B) a ≤ kx key (A ++ [x] ++ Y ++ B) i) :
    srtF key ([x] ++ Y) = Y.take (i - a - 1) ++ [x] ++ Y.drop (i - a - 1) := by
  have k0 : kx key (A ++ [x] ++ Y ++ B) a = key x := by
    refine kx_at ?_
    rw [List.append_assoc, List.append_assoc, List.getElem?_append_right (by omega)]
    rw [show a - A.length = 0 by omega]; rfl
  have kY : ∀ j y, Y[j]? = some y → kx key (A ++ [x] ++ Y ++ B) (a + 1 + j) = key y := by
    intro j y hj
    have hl := (List.getElem?_eq_some_iff.1 hj).1
    refine kx_at ?_
    rw [List.append_assoc (A ++ [x]), List.getElem?_append_right (by simp; omega), List.getElem?_append_left (by simp; omega)]
    rw [show a + 1 + j - (A ++ [x]).length = j by simp; omega]; exact hj
  obtain ⟨y1, y2, y3⟩ := up_split uy (i - a - 1)
  have c1 : ∀ y ∈ Y.take (i - a - 1), key y < key x := by
    intro y hy
    obtain ⟨j, hj, hyj⟩ := mem_take_idx hy
    have hjl := (List.getElem?_eq_some_iff.1 hyj).1
    obtain ⟨y0, hy0⟩ : ∃ z, Y[i - a - 2]? = some z := ⟨_, List.getElem?_eq_getElem (by omega)⟩
    have q2 := up_idx uy hyj hy0 (by omega)
    have q4 := kY _ _ hy0
    rw [show a + 1 + (i - a - 2) = i - 1 by omega] at q4
    rcases e1 with e | e
    · omega
    · omega
  have c2 : ∀ y ∈ Y.drop (i - a - 1), key x ≤ key y := by
    intro y hy
    obtain ⟨j, hj, hyj⟩ := mem_drop_idx hy
    have hjl := (List.getElem?_eq_some_iff.1 hyj).1
    obtain ⟨y0, hy0⟩ : ∃ z, Y[i - a - 1]? = some z := ⟨_, List.getElem?_eq_getElem (by omega)⟩
    have q2 := up_idx uy hy0 hyj (by omega)
    have q4 := kY _ _ hy0
    rw [show a + 1 + (i - a - 1) = i by omega] at q4
    rcases e2 with e | e
    · omega
    · omega
  symm
  refine srtK_eq key ⟨?_, fun t => ?_⟩
  · rw [List.append_assoc]
    refine up_app y1 (up_app (List.pairwise_singleton _ _) y2 (fun u hu v hv => by simp at hu; subst hu; exact c2 v hv)) ?_
    intro u hu v hv
    rcases List.mem_append.1 hv with hv | hv
    · simp at hv; subst hv; exact Int.le_of_lt (c1 u hu)
    · exact y3 u hu v hv
  · have := filter_turn key [x] (Y.take (i - a - 1)) (fun u hu y hy => by simp at hu; subst hu; exact c1 y hy) t
    rw [List.filter_append, this, ← List.filter_append, List.append_assoc, List.take_append_drop]
/-- One behind a run: it goes ahead of those that are above it. -/
theorem one_behind {α : Type} {key : α → Int} {A X B : List α} {y : α} {a m i : Nat} (ha : a = A.length) (hm : m = a + X.length) (ux : UpK key X) (h1 : a ≤ i) (h2 : i ≤ m)
    (e1 : i = a ∨ kx key (A ++ X ++ [y] ++ B) (i - 1) ≤ kx key (A ++ X ++ [y] ++ B) m) (e2 : i = m ∨ kx key (A ++ X ++ [y] ++ B) m < kx key (A ++ X ++ [y] ++ B) i) :
    srtF key (X ++ [y]) = X.take (i - a) ++ [y] ++ X.drop (i - a) := by
  have k0 : kx key (A ++ X ++ [y] ++ B) m = key y := by
    refine kx_at ?_
    rw [List.append_assoc (A ++ X), List.getElem?_append_right (by rw [List.length_append]; omega)]
    rw [show m - (A ++ X).length = 0 by rw [List.length_append]; omega]; rfl
  have kX : ∀ j x, X[j]? = some x → kx key (A ++ X ++ [y] ++ B) (a + j) = key x := by
    intro j x hj
    have hl := (List.getElem?_eq_some_iff.1 hj).1
    refine kx_at ?_
    rw [List.append_assoc, List.append_assoc, List.getElem?_append_right (by omega), List.getElem?_append_left (by omega)]
    rw [show a + j - A.length = j by omega]; exact hj
  obtain ⟨x1, x2, x3⟩ := up_split ux (i - a)
  have c1 : ∀ x ∈ X.take (i - a), key x ≤ key y := by
    intro x hx
    obtain ⟨j, hj, hxj⟩ := mem_take_idx hx
    have hjl := (List.getElem?_eq_some_iff.1 hxj).1
    obtain ⟨x0, hx0⟩ : ∃ z, X[i - a - 1]? = some z := ⟨_, List.getElem?_eq_getElem (by omega)⟩
    have q2 := up_idx ux hxj hx0 (by omega)
    have q4 := kX _ _ hx0
    rw [show a + (i - a - 1) = i - 1 by omega] at q4
    rcases e1 with e | e
    · omega
    · omega
  have c2 : ∀ x ∈ X.drop (i - a), key y < key x := by
    intro x hx
    obtain ⟨j, hj, hxj⟩ := mem_drop_idx hx
    have hjl := (List.getElem?_eq_some_iff.1 hxj).1
    obtain ⟨x0, hx0⟩ : ∃ z, X[i - a]? = some z := ⟨_, List.getElem?_eq_getElem (by omega)⟩
    have q2 := up_idx ux hx0 hxj (by omega)
    have q4 := kX _ _ hx0
    rw [show a + (i - a) = i by omega] at q4
    rcases e2 with e | e
    · omega
    · omega
  symm
  refine srtK_eq key ⟨?_, fun t => ?_⟩
  · refine up_app (up_app x1 (List.pairwise_singleton _ _) (fun u hu v hv => by simp at hv; subst hv; exact c1 u hu)) x2 ?_
    intro u hu v hv
    rcases List.mem_append.1 hu with hu | hu
    · exact x3 u hu v hv
    · simp at hu; subst hu; exact Int.le_of_lt (c2 v hv)
  · have := filter_turn key (X.drop (i - a)) [y] (fun x hx u hu => by simp at hu; subst hu; exact c2 x hx) t
    rw [List.append_assoc, List.filter_append, this, ← List.filter_append, ← List.append_assoc, List.take_append_drop]
/-- Two that stand side by side, changed. -/
theorem swap_side {α : Type} (P Q : List α) (x y : α) : ((P ++ x :: y :: Q).set P.length y).set (P.length + 1) x = P ++ y :: x :: Q := by
  rw [List.set_append_right _ _ (Nat.le_refl _), Nat.sub_self, List.set_cons_zero, List.set_append_right _ _ (by omega), show P.length + 1 - P.length = 1 by omega]
  rfl
end Go.Proofs.YtkfhlgajeejgeaaGreatDoor

/- Rows whose cells are written one by one. -/
namespace Go.Proofs.YtkfhlgajeejgeaaGreatDoor
open Go.ChangeShapes Go.WideShapes Go.ChangeAt Go.RowKit
set_option linter.unusedVariables false
set_option linter.unusedSimpArgs false
set_option maxRecDepth 20000

theorem flat_set {size : Nat} : ∀ (rs : List (List Value)), (∀ r ∈ rs, r.length = size) → ∀ (j : Nat) (r : List Value), rs[j]? = some r → ∀ (c : Nat) (u : Value), c < size → rs.flatten.set (j * size + c) u = (rs.set j (r.set c u)).flatten
  | [], _, j, r, h, _, _, _ => by simp at h
  | x :: l, hl, 0, r, h, c, u, hc => by
    obtain rfl : x = r := by simpa using h
    have hx := hl x (List.mem_cons_self ..)
    rw [List.flatten_cons, Nat.zero_mul, Nat.zero_add, List.set_append_left _ _ (by omega), List.set_cons_zero, List.flatten_cons]
  | x :: l, hl, j + 1, r, h, c, u, hc => by
    have hx := hl x (List.mem_cons_self ..)
    have ih := flat_set l (fun r hr => hl r (List.mem_cons_of_mem _ hr)) j r (by simpa using h) c u hc
    rw [List.flatten_cons, List.set_append_right _ _ (by rw [hx, Nat.add_mul]; omega), List.set_cons_succ, List.flatten_cons, ← ih]
    congr 2
    rw [hx, Nat.add_mul]; omega
/-- A cell of a field. -/
theorem set3 {rs : List (List Value)} (hl : ∀ r ∈ rs, r.length = 3) {k : Nat} (hk : k < rs.length) (a b c : Value) : ((rs.flatten.set (k * 3) a).set (k * 3 + 1) b).set (k * 3 + 2) c = (rs.set k [a, b, c]).flatten := by
  obtain ⟨r, hr⟩ : ∃ r, rs[k]? = some r := ⟨_, List.getElem?_eq_getElem hk⟩
  have h3 := hl r (List.mem_of_getElem? hr)
  match r, h3 with
  | [x, y, z], _ =>
    have l1 : ∀ q ∈ rs.set k [a, y, z], q.length = 3 := fun q hq => by
      rcases List.mem_or_eq_of_mem_set hq with h | rfl
      · exact hl q h
      · rfl
    have l2 : ∀ q ∈ rs.set k [a, b, z], q.length = 3 := fun q hq => by
      rcases List.mem_or_eq_of_mem_set hq with h | rfl
      · exact hl q h
      · rfl
    have e1 := flat_set rs hl k _ hr 0 a (by decide)
    rw [Nat.add_zero] at e1
    rw [e1]
    have e2 := flat_set _ l1 k [a, y, z] (by rw [List.getElem?_set_self hk]) 1 b (by decide)
    have e3 := flat_set _ l2 k [a, b, z] (by rw [List.getElem?_set_self hk]) 2 c (by decide)
    simp only [List.set_cons_zero, List.set_cons_succ, List.set_set] at e2 e3 ⊢
    rw [e2, e3]
theorem set2 {rs : List (List Value)} (hl : ∀ r ∈ rs, r.length = 2) {k : Nat} (hk : k < rs.length) (a b : Value) : (rs.flatten.set (k * 2) a).set (k * 2 + 1) b = (rs.set k [a, b]).flatten := by
  obtain ⟨r, hr⟩ : ∃ r, rs[k]? = some r := ⟨_, List.getElem?_eq_getElem hk⟩
  have h3 := hl r (List.mem_of_getElem? hr)
  match r, h3 with
  | [x, y], _ =>
    have l1 : ∀ q ∈ rs.set k [a, y], q.length = 2 := fun q hq => by
      rcases List.mem_or_eq_of_mem_set hq with h | rfl
      · exact hl q h
      · rfl
    have e1 := flat_set rs hl k _ hr 0 a (by decide)
    rw [Nat.add_zero] at e1
    rw [e1]
    have e2 := flat_set _ l1 k [a, y] (by rw [List.getElem?_set_self hk]) 1 b (by decide)
    simp only [List.set_cons_zero, List.set_cons_succ, List.set_set] at e2 ⊢
    rw [e2]
theorem own_hi {w : World} {B e size q n cap : Nat} {xs : List Value} (h : w.ownsRow B e size (.slice (some ⟨q, 0, none⟩) n cap) n xs) : B ≤ q := by
  rcases h.2 with ⟨h, _⟩ | ⟨q', cap', cur, h1, h2, _⟩
  · cases h
  · simp only [Value.slice.injEq, Option.some.injEq, Addr.mk.injEq] at h1
    obtain ⟨⟨rfl, _⟩, _⟩ := h1
    exact h2
end Go.Proofs.YtkfhlgajeejgeaaGreatDoor

/- What slices' swapRange answers, of named numbers. -/
namespace Go.Proofs.YtkfhlgajeejgeaaGreatDoor
open Go.ChangeShapes Go.WideShapes Go.ChangeAt Go.RowKit
set_option linter.unusedVariables false
set_option linter.unusedSimpArgs false
set_option maxRecDepth 20000

theorem nml_len (l : List NmS) : ∀ x ∈ nmRows l, x.length = 2 := fun x hx => by simp only [nmRows, List.mem_map] at hx; obtain ⟨_, _, rfl⟩ := hx; rfl
/-- A row of named numbers, two of them changed. -/
theorem own_swap {w : World} {B q n cap : Nat} {l : List NmS} (h : w.ownsRow B 49 2 (.slice (some ⟨q, 0, none⟩) n cap) n (nmRows l).flatten) {i j : Nat} (hi : i < l.length) (hj : j < l.length) (x y : NmS) :
    ((((w.setCell ⟨q, i * 2, none⟩ (.string x.name)).setCell ⟨q, i * 2 + 1, none⟩ (.int .i64 x.n)).setCell ⟨q, j * 2, none⟩ (.string y.name)).setCell ⟨q, j * 2 + 1, none⟩ (.int .i64 y.n)).ownsRow B 49 2 (.slice (some ⟨q, 0, none⟩) n cap) n (nmRows ((l.set i x).set j y)).flatten := by
  have h1 := own_set (own_set h (j := i * 2) (.string x.name)) (j := i * 2 + 1) (.int .i64 x.n)
  rw [set2 (nml_len l) (by simpa [nmRows] using hi)] at h1
  have e1 : (nmRows l).set i [Value.string x.name, Value.int .i64 x.n] = nmRows (l.set i x) := by simp [nmRows, List.map_set, NmS.cells]
  rw [e1] at h1
  have h2 := own_set (own_set h1 (j := j * 2) (.string y.name)) (j := j * 2 + 1) (.int .i64 y.n)
  rw [set2 (nml_len _) (by simpa [nmRows] using hj)] at h2
  have e2 : (nmRows (l.set i x)).set j [Value.string y.name, Value.int .i64 y.n] = nmRows ((l.set i x).set j y) := by simp [nmRows, List.map_set, NmS.cells]
  rw [e2] at h2
  exact h2
/-- The first i of two runs have changed places. -/
def swpL {α : Type} (P X M Y Q : List α) (i : Nat) : List α := P ++ Y.take i ++ X.drop i ++ M ++ X.take i ++ Y.drop i ++ Q
theorem swpL_zero {α : Type} (P X M Y Q : List α) : swpL P X M Y Q 0 = P ++ X ++ M ++ Y ++ Q := by simp [swpL]
theorem swpL_all {α : Type} {P X M Y Q : List α} {i : Nat} (h1 : i = X.length) (h2 : X.length = Y.length) : swpL P X M Y Q i = P ++ Y ++ M ++ X ++ Q := by
  subst h1
  have a1 : Y.take X.length = Y := by rw [h2, List.take_length]
  have a2 : X.drop X.length = [] := List.drop_length
  have a3 : X.take X.length = X := List.take_length
  have a4 : Y.drop X.length = [] := by rw [h2, List.drop_length]
  unfold swpL
  rw [a1, a2, a3, a4]; simp
theorem swpL_len {α : Type} {P X M Y Q : List α} {i : Nat} (h : X.length = Y.length) : (swpL P X M Y Q i).length = (P ++ X ++ M ++ Y ++ Q).length := by
  simp [swpL]; omega
theorem swpL_step {α : Type} {P X M Y Q : List α} {i : Nat} (h : X.length = Y.length) {x y : α} (hx : X[i]? = some x) (hy : Y[i]? = some y) :
    (swpL P X M Y Q i)[P.length + i]? = some x ∧ (swpL P X M Y Q i)[P.length + X.length + M.length + i]? = some y ∧
    ((swpL P X M Y Q i).set (P.length + i) y).set (P.length + X.length + M.length + i) x = swpL P X M Y Q (i + 1) := by
  obtain ⟨hi, rfl⟩ := List.getElem?_eq_some_iff.1 hx
  obtain ⟨hj, rfl⟩ := List.getElem?_eq_some_iff.1 hy
  have dx : X.drop i = X[i] :: X.drop (i + 1) := List.drop_eq_getElem_cons hi
  have dy : Y.drop i = Y[i] :: Y.drop (i + 1) := List.drop_eq_getElem_cons hj
  have tx : X.take (i + 1) = X.take i ++ [X[i]] := by rw [List.take_add_one, hx]; rfl
  have ty : Y.take (i + 1) = Y.take i ++ [Y[i]] := by rw [List.take_add_one, hy]; rfl
  have e : swpL P X M Y Q i = (P ++ Y.take i) ++ X[i] :: ((X.drop (i + 1) ++ M ++ X.take i) ++ Y[i] :: (Y.drop (i + 1) ++ Q)) := by
    unfold swpL; rw [dx, dy]; simp only [List.append_assoc, List.cons_append, List.nil_append]
  have e2 : swpL P X M Y Q (i + 1) = (P ++ Y.take i) ++ Y[i] :: ((X.drop (i + 1) ++ M ++ X.take i) ++ X[i] :: (Y.drop (i + 1) ++ Q)) := by
    unfold swpL; rw [tx, ty]; simp only [List.append_assoc, List.cons_append, List.nil_append]
  have l1 : (P ++ Y.take i).length = P.length + i := by simp; omega
  have l2 : (X.drop (i + 1) ++ M ++ X.take i).length = X.length - 1 + M.length := by simp; omega
  rw [e, e2]
  generalize (P ++ Y.take i) = U at *
  generalize (X.drop (i + 1) ++ M ++ X.take i) = V at *
  have g1 : P.length + X.length + M.length + i = U.length + (V.length + 1) := by omega
  rw [← l1, g1]
  refine ⟨?_, ?_, ?_⟩
  · rw [List.getElem?_append_right (Nat.le_refl _), Nat.sub_self]; rfl
  · rw [List.getElem?_append_right (by omega), show U.length + (V.length + 1) - U.length = V.length + 1 by omega, List.getElem?_cons_succ, List.getElem?_append_right (Nat.le_refl _), Nat.sub_self]; rfl
  · rw [List.set_append_right _ _ (Nat.le_refl _), Nat.sub_self, List.set_cons_zero, List.set_append_right _ _ (by omega), show U.length + (V.length + 1) - U.length = V.length + 1 by omega, List.set_cons_succ, List.set_append_right _ _ (Nat.le_refl _), Nat.sub_self, List.set_cons_zero]
set_option maxHeartbeats 4000000 in
theorem swapR_any {w : World} {B q n cap : Nat} {P X M Y Q : List NmS} (h : w.ownsRow B 49 2 (.slice (some ⟨q, 0, none⟩) n cap) n (nmRows (P ++ X ++ M ++ Y ++ Q)).flatten) (hl : n = (P ++ X ++ M ++ Y ++ Q).length) (hxy : X.length = Y.length) (hn : n ≤ 1000) (a b k : Nat) (ha : a = P.length) (hb : b = P.length + X.length + M.length) (hk : k = X.length) :
    Calls Tryz.prog 181 #[.slice (some ⟨q, 0, none⟩) n cap, .int .i64 (a : Int), .int .i64 (b : Int), .int .i64 (k : Int), .func (.func 52) #[] #[]] w fun e w' => e = .returned (.tuple #[]) ∧ w'.ownsRow B 49 2 (.slice (some ⟨q, 0, none⟩) n cap) n (nmRows (P ++ Y ++ M ++ X ++ Q)).flatten ∧ Kp (fun x => x = q) w w' := by
  have HL : Hid (n = (P ++ X ++ M ++ Y ++ Q).length) := hl
  have HXY : Hid (X.length = Y.length) := hxy
  have HA : Hid (a = P.length) := ha
  have HB : Hid (b = P.length + X.length + M.length) := hb
  have HKX : Hid (k = X.length) := hk
  have hbn : b + k ≤ n := by rw [hl]; simp; omega
  have hab : a + k ≤ b := by omega
  have H0 : Hid (w.ownsRow B 49 2 (.slice (some ⟨q, 0, none⟩) n cap) n (nmRows (swpL P X M Y Q 0)).flatten) := by show World.ownsRow _ _ _ _ _ _ _; rw [swpL_zero]; exact h
  clear h hl hxy ha hb hk
  go_enter Tryz.func181, Tryz.ntmps181
  go_wp2_with fail
  go_loopw [10] (fun iv wr => ∃ i : Nat, iv = .int .i64 (i : Int) ∧ i ≤ k ∧ Hid (wr.ownsRow B 49 2 (.slice (some ⟨q, 0, none⟩) n cap) n (nmRows (swpL P X M Y Q i)).flatten) ∧ Hid (Kp (fun x => x = q) w wr)) (fun iv _ => k - (intOf iv).toNat)
  case atStart => exact ⟨0, rfl, by omega, H0, Kp.refl _ _⟩
  case round =>
    clear H0
    obtain ⟨i, rfl, hi, HO, HK⟩ := hrel
    by_cases hlt : i < k
    · have hltz : (i : Int) < (k : Int) := by omega
      obtain ⟨⟨x0, x1⟩, hx⟩ : ∃ x, X[i]? = some x := ⟨_, List.getElem?_eq_getElem (by rw [← HKX.out]; exact hlt)⟩
      obtain ⟨⟨y0, y1⟩, hy⟩ : ∃ x, Y[i]? = some x := ⟨_, List.getElem?_eq_getElem (by rw [← HXY.out, ← HKX.out]; exact hlt)⟩
      obtain ⟨s1, s2, s3⟩ := swpL_step (P := P) (M := M) (Q := Q) HXY.out hx hy
      rw [← HB.out] at s2 s3
      rw [← HA.out] at s1 s3
      have hd : wr.ownsRow B 49 2 (.slice (some ⟨q, 0, none⟩) n cap) n (nmRows (swpL P X M Y Q i)).flatten := HO.out
      have r1 : (nmRows (swpL P X M Y Q i))[a + i]? = some [Value.string x0, Value.int .i64 x1] := by simp [nmRows, s1, NmS.cells]
      have r2 : (nmRows (swpL P X M Y Q i))[b + i]? = some [Value.string y0, Value.int .i64 y1] := by simp [nmRows, s2, NmS.cells]
      have c0 := own_at (nml_len _) hd r1 (j := 0) rfl
      have c1 := own_at (nml_len _) hd r1 (j := 1) rfl
      have d0 := own_at (nml_len _) hd r2 (j := 0) rfl
      have d1 := own_at (nml_len _) hd r2 (j := 1) rfl
      rw [Nat.add_zero] at c0 d0
      have f0 : wr.frozen? ⟨q, (a + i) * 2, none⟩ = false := own_froz hd _
      have f1 : wr.frozen? ⟨q, (a + i) * 2 + 1, none⟩ = false := own_froz hd _
      have f2 : wr.frozen? ⟨q, (b + i) * 2, none⟩ = false := own_froz hd _
      have f3 : wr.frozen? ⟨q, (b + i) * 2 + 1, none⟩ = false := own_froz hd _
      have i1 := (List.getElem?_eq_some_iff.1 s1).1
      have i2 := (List.getElem?_eq_some_iff.1 s2).1
      have HN : Hid (((((wr.setCell ⟨q, (a + i) * 2, none⟩ (.string y0)).setCell ⟨q, (a + i) * 2 + 1, none⟩ (.int .i64 y1)).setCell ⟨q, (b + i) * 2, none⟩ (.string x0)).setCell ⟨q, (b + i) * 2 + 1, none⟩ (.int .i64 x1)).drew.ownsRow B 49 2 (.slice (some ⟨q, 0, none⟩) n cap) n (nmRows (swpL P X M Y Q (i + 1))).flatten) := by
        have := own_swap hd i1 i2 ⟨y0, y1⟩ ⟨x0, x1⟩
        rw [s3] at this
        exact own_below this (below_drewN 1 (Below.refl _ _))
      have HKN : Hid (Kp (fun x => x = q) w ((((wr.setCell ⟨q, (a + i) * 2, none⟩ (.string y0)).setCell ⟨q, (a + i) * 2 + 1, none⟩ (.int .i64 y1)).setCell ⟨q, (b + i) * 2, none⟩ (.string x0)).setCell ⟨q, (b + i) * 2 + 1, none⟩ (.int .i64 x1)).drew) := by
        show Kp _ _ _
        refine Kp.trans ?_ (Kp.ofBelow (below_drewN 1 (Below.refl _ _)))
        refine Kp.setCell ?_ (fun _ => by simp) _
        refine Kp.setCell ?_ (fun _ => by simp) _
        refine Kp.setCell ?_ (fun _ => by simp) _
        refine Kp.setCell ?_ (fun _ => by simp) _
        exact HK.out
      have nai : ((a + i : Nat) : Int) = (a : Int) + (i : Int) := by omega
      have nbi : ((b + i : Nat) : Int) = (b : Int) + (i : Int) := by omega
      have w1 : IntKind.i64.wrap ((a : Int) + (i : Int)) = (a : Int) + (i : Int) := by rw [IntKind.wrap_i64]; omega
      have w2 : IntKind.i64.wrap ((b : Int) + (i : Int)) = (b : Int) + (i : Int) := by rw [IntKind.wrap_i64]; omega
      have z1 : (a : Int) + (i : Int) < (n : Int) := by omega
      have z2 : (b : Int) + (i : Int) < (n : Int) := by omega
      have z3 : (0 : Int) ≤ (a : Int) + (i : Int) := by omega
      have z4 : (0 : Int) ≤ (b : Int) + (i : Int) := by omega
      have t1 : ((a : Int) + (i : Int)).toNat = a + i := by omega
      have t2 : ((b : Int) + (i : Int)).toNat = b + i := by omega
      clear s1 s2 s3 hd r1 r2 hx hy i1 i2 nai nbi
      have mixed : Tryz.prog.follows Departure.mixedOrders = true := by kernel_rfl
      go_wp2_with fail
      go_big_region_o
      all_goals go_wp2_with fail
      go_roundw
      case rel => exact ⟨i + 1, by go_num, by omega, HN, HKN⟩
      case measure => simp [intOf]; omega
    · obtain rfl : i = k := by omega
      have hltz : ¬ (i : Int) < (i : Int) := by omega
      have HE : Hid (wr.ownsRow B 49 2 (.slice (some ⟨q, 0, none⟩) n cap) n (nmRows (P ++ Y ++ M ++ X ++ Q)).flatten) := by
        show World.ownsRow _ _ _ _ _ _ _
        have := HO.out
        rw [swpL_all HKX.out HXY.out] at this
        exact this
      go_wp2_with fail
      go_end0
      exact ⟨rfl, by simpa only [List.append_assoc] using HE.out, HK.out⟩
end Go.Proofs.YtkfhlgajeejgeaaGreatDoor

/- What slices' rotate answers, of named numbers. -/
namespace Go.Proofs.YtkfhlgajeejgeaaGreatDoor
open Go.ChangeShapes Go.WideShapes Go.ChangeAt Go.RowKit
set_option linter.unusedVariables false
set_option linter.unusedSimpArgs false
set_option maxRecDepth 20000

/-- The row as it stands within rotate: i ahead of the place m, j behind it; what it shall be does not change. -/
structure RotAt (R L : List NmS) (m i j : Nat) (A X Y B : List NmS) : Prop where
  row : L = A ++ X ++ Y ++ B
  goal : A ++ Y ++ X ++ B = R
  hi : X.length = i
  hj : Y.length = j
  hm : A.length + i = m
theorem RotAt.left {R L : List NmS} {m i j : Nat} {A X Y B : List NmS} (h : RotAt R L m i j A X Y B) (hij : j < i) : RotAt R (A ++ Y ++ X.drop j ++ X.take j ++ B) m (i - j) j (A ++ Y) (X.drop j) (X.take j) B := by
  have h1 := h.hi
  have h2 := h.hj
  have h3 := h.hm
  refine ⟨rfl, ?_, by rw [List.length_drop]; omega, by rw [List.length_take]; omega, by rw [List.length_append]; omega⟩
  rw [← h.goal, List.append_assoc (A ++ Y), List.take_append_drop]
theorem RotAt.right {R L : List NmS} {m i j : Nat} {A X Y B : List NmS} (h : RotAt R L m i j A X Y B) (hij : i < j) : RotAt R (A ++ Y.drop (j - i) ++ Y.take (j - i) ++ (X ++ B)) m i (j - i) A (Y.drop (j - i)) (Y.take (j - i)) (X ++ B) := by
  have h1 := h.hi
  have h2 := h.hj
  have h3 := h.hm
  refine ⟨rfl, ?_, by rw [List.length_drop]; omega, by rw [List.length_take]; omega, by omega⟩
  rw [← h.goal, List.append_assoc A, List.take_append_drop, List.append_assoc (A ++ Y)]
theorem wrapN (x : Int) (h1 : -9223372036854775808 ≤ x) (h2 : x ≤ 9223372036854775807) : IntKind.i64.wrap x = x := by rw [IntKind.wrap_i64]; omega
set_option maxHeartbeats 4000000 in
theorem rotR_any {w : World} {B q n cap : Nat} {A X Y Z : List NmS} (h : w.ownsRow B 49 2 (.slice (some ⟨q, 0, none⟩) n cap) n (nmRows (A ++ X ++ Y ++ Z)).flatten) (hl : n = (A ++ X ++ Y ++ Z).length) (hn : n ≤ 1000) (a m b : Nat) (ha : a = A.length) (hm : m = A.length + X.length) (hb : b = A.length + X.length + Y.length) (hx : 0 < X.length) (hy : 0 < Y.length) :
    Calls Tryz.prog 166 #[.slice (some ⟨q, 0, none⟩) n cap, .int .i64 (a : Int), .int .i64 (m : Int), .int .i64 (b : Int), .func (.func 52) #[] #[]] w fun e w' => e = .returned (.tuple #[]) ∧ w'.ownsRow B 49 2 (.slice (some ⟨q, 0, none⟩) n cap) n (nmRows (A ++ Y ++ X ++ Z)).flatten ∧ Kp (fun x => x = q) w w' := by
  have hbn : b ≤ n := by rw [hl]; simp; omega
  obtain ⟨R, hR⟩ : ∃ R, A ++ Y ++ X ++ Z = R := ⟨_, rfl⟩
  obtain ⟨i0, hi0⟩ : ∃ i, X.length = i := ⟨_, rfl⟩
  obtain ⟨j0, hj0⟩ : ∃ j, Y.length = j := ⟨_, rfl⟩
  have hma : m = a + i0 := by omega
  have hbm : b = m + j0 := by omega
  have H0 : Hid (∃ A' X' Y' B' L, RotAt R L m i0 j0 A' X' Y' B' ∧ L.length = n ∧ w.ownsRow B 49 2 (.slice (some ⟨q, 0, none⟩) n cap) n (nmRows L).flatten) := ⟨A, X, Y, Z, _, ⟨rfl, hR, hi0, hj0, by omega⟩, hl.symm, h⟩
  rw [hR]
  have hij0 : 0 < i0 ∧ 0 < j0 := by omega
  obtain ⟨hi1, hj1⟩ := hij0
  clear h hl ha hm hb hx hy hR hi0 hj0
  have e1 : IntKind.i64.wrap ((m : Int) - (a : Int)) = (i0 : Int) := by rw [wrapN _ (by omega) (by omega)]; omega
  have e2 : IntKind.i64.wrap ((b : Int) - (m : Int)) = (j0 : Int) := by rw [wrapN _ (by omega) (by omega)]; omega
  have e1' : (m : Int) - (a : Int) = (i0 : Int) := by omega
  have e2' : (b : Int) - (m : Int) = (j0 : Int) := by omega
  have hi0m : i0 ≤ m := by omega
  have hj0n : m + j0 ≤ n := by omega
  clear hma hbm hbn
  go_enter Tryz.func166, Tryz.ntmps166
  go_wp2_with fail
  go_loopw [10, 11] (fun iv jv wr => ∃ i j : Nat, iv = .int .i64 (i : Int) ∧ jv = .int .i64 (j : Int) ∧ 0 < i ∧ 0 < j ∧ i ≤ m ∧ m + j ≤ n ∧ Hid (∃ A' X' Y' B' L, RotAt R L m i j A' X' Y' B' ∧ L.length = n ∧ wr.ownsRow B 49 2 (.slice (some ⟨q, 0, none⟩) n cap) n (nmRows L).flatten) ∧ Hid (Kp (fun x => x = q) w wr)) (fun iv jv _ => (intOf iv).toNat + (intOf jv).toNat)
  case atStart => exact ⟨i0, j0, by first | rfl | (congr 1; omega), by first | rfl | (congr 1; omega), hi1, hj1, by omega, by omega, H0, Kp.refl _ _⟩
  case round =>
    clear H0
    obtain ⟨i, j, rfl, rfl, hi, hj, him, hjm, HO, HK⟩ := hrel
    obtain ⟨A', X', Y', B', L, hat, hL, hown⟩ := HO.out
    have HAT : Hid (RotAt R L m i j A' X' Y' B') := hat
    have HLN : Hid (L.length = n) := hL
    have hrow := hat.row
    have HLX : Hid (X'.length = i) := hat.hi
    have HLY : Hid (Y'.length = j) := hat.hj
    have HLM : Hid (A'.length + i = m) := hat.hm
    rw [hrow] at hown hL
    have HOW : Hid (wr.ownsRow B 49 2 (.slice (some ⟨q, 0, none⟩) n cap) n (nmRows (A' ++ X' ++ Y' ++ B')).flatten) := hown
    have HLL : Hid ((A' ++ X' ++ Y' ++ B').length = n) := hL
    clear hat hL hown hrow HO
    obtain ⟨p, hp⟩ : ∃ p, m - i = p := ⟨_, rfl⟩
    have wmi : IntKind.i64.wrap ((m : Int) - (i : Int)) = (p : Int) := by rw [wrapN _ (by omega) (by omega)]; omega
    have wmi' : (m : Int) - (i : Int) = (p : Int) := by omega
    by_cases hij : i = j
    · subst hij
      have hne : ((i : Int) != (i : Int)) = false := by simp
      go_wp2_with fail
      have hHS := swapR_any (P := A') (X := X') (M := []) (Y := Y') (Q := B') (by simpa using HOW.out) (by have := HLL.out; simp at this ⊢; omega) (by rw [HLX.out, HLY.out]) hn p m i (by have := HLM.out; omega) (by rw [HLX.out]; have := HLM.out; simp; omega) HLX.out.symm
      refine hHS.mono ?_
      rintro e w1 ⟨rfl, h1, h2⟩
      have HE : Hid (w1.ownsRow B 49 2 (.slice (some ⟨q, 0, none⟩) n cap) n (nmRows R).flatten) := by
        show World.ownsRow _ _ _ _ _ _ _
        rw [← HAT.out.goal]
        simpa using h1
      have HK2 : Hid (Kp (fun x => x = q) w w1) := HK.out.trans h2
      clear h1 h2 hHS
      go_wp2_with fail
      go_end0
      exact ⟨rfl, HE.out, HK2.out⟩
    · have hne : ((i : Int) != (j : Int)) = true := by simp; omega
      by_cases hgt : j < i
      · have hgz : (j : Int) < (i : Int) := by omega
        go_wp2_with fail
        have hHS := swapR_any (P := A') (X := X'.take j) (M := X'.drop j) (Y := Y') (Q := B') (by rw [List.append_assoc A', List.take_append_drop]; exact HOW.out) (by have := HLL.out; simp at this ⊢; omega) (by rw [List.length_take, HLX.out, HLY.out]; omega) hn p m j (by have := HLM.out; omega) (by rw [List.length_take, List.length_drop, HLX.out]; have := HLM.out; omega) (by rw [List.length_take, HLX.out]; omega)
        refine hHS.mono ?_
        rintro e w1 ⟨rfl, h1, h2⟩
        have HE : Hid (∃ A' X' Y' B' L, RotAt R L m (i - j) j A' X' Y' B' ∧ L.length = n ∧ w1.ownsRow B 49 2 (.slice (some ⟨q, 0, none⟩) n cap) n (nmRows L).flatten) := ⟨_, _, _, _, _, HAT.out.left hgt, by have := HLL.out; have := HLX.out; simp at *; omega, h1⟩
        have HK2 : Hid (Kp (fun x => x = q) w w1) := HK.out.trans h2
        obtain ⟨d, hd⟩ : ∃ d, i - j = d := ⟨_, rfl⟩
        rw [hd] at HE
        have e3 : IntKind.i64.wrap ((i : Int) - (j : Int)) = (d : Int) := by rw [wrapN _ (by omega) (by omega)]; omega
        have e3' : (i : Int) - (j : Int) = (d : Int) := by omega
        clear h1 h2 hHS
        go_wp2_with fail
        go_roundw
        case rel => exact ⟨d, j, by first | rfl | (congr 1; omega), by first | rfl | (congr 1; omega), by omega, by omega, by omega, by omega, HE, HK2⟩
        case measure => simp [intOf]; omega
      · have hgz : ¬ (j : Int) < (i : Int) := by omega
        obtain ⟨r, hr⟩ : ∃ r, m + j - i = r := ⟨_, rfl⟩
        obtain ⟨d, hd⟩ : ∃ d, j - i = d := ⟨_, rfl⟩
        have e4 : IntKind.i64.wrap ((m : Int) + (j : Int)) = (m : Int) + (j : Int) := wrapN _ (by omega) (by omega)
        have e5 : IntKind.i64.wrap ((m : Int) + (j : Int) - (i : Int)) = (r : Int) := by rw [wrapN _ (by omega) (by omega)]; omega
        have e5' : (m : Int) + (j : Int) - (i : Int) = (r : Int) := by omega
        go_wp2_with fail
        have hHS := swapR_any (P := A') (X := X') (M := Y'.take (j - i)) (Y := Y'.drop (j - i)) (Q := B') (by rw [List.append_assoc (A' ++ X'), List.take_append_drop]; exact HOW.out) (by have := HLL.out; simp at this ⊢; omega) (by rw [List.length_drop, HLX.out, HLY.out]; omega) hn p r i (by have := HLM.out; omega) (by rw [List.length_take, HLX.out, HLY.out]; have := HLM.out; omega) HLX.out.symm
        refine hHS.mono ?_
        rintro e w1 ⟨rfl, h1, h2⟩
        have HE : Hid (∃ A' X' Y' B' L, RotAt R L m i d A' X' Y' B' ∧ L.length = n ∧ w1.ownsRow B 49 2 (.slice (some ⟨q, 0, none⟩) n cap) n (nmRows L).flatten) := ⟨_, _, _, _, _, by have := HAT.out.right (by omega); rw [hd] at this; exact this, by have := HLL.out; have := HLY.out; simp at *; omega, by rw [← List.append_assoc]; rw [hd] at h1; exact h1⟩
        have HK2 : Hid (Kp (fun x => x = q) w w1) := HK.out.trans h2
        have e3 : IntKind.i64.wrap ((j : Int) - (i : Int)) = (d : Int) := by rw [wrapN _ (by omega) (by omega)]; omega
        have e3' : (j : Int) - (i : Int) = (d : Int) := by omega
        clear h1 h2 hHS
        go_wp2_with fail
        go_roundw
        case rel => exact ⟨i, d, by first | rfl | (congr 1; omega), by first | rfl | (congr 1; omega), by omega, by omega, by omega, by omega, HE, HK2⟩
        case measure => simp [intOf]; omega
end Go.Proofs.YtkfhlgajeejgeaaGreatDoor

/- What print's byTag and byNumber answer. -/
namespace Go.Proofs.YtkfhlgajeejgeaaGreatDoor
open Go.ChangeShapes Go.WideShapes Go.ChangeAt Go.RowKit Go.Sort
set_option linter.unusedVariables false
set_option linter.unusedSimpArgs false
set_option maxRecDepth 20000

def cmpI (a b : Int) : Int := if a < b then -1 else if b < a then 1 else 0
theorem cmpI_lt (a b : Int) : decide (cmpI a b < 0) = decide (a < b) := by
  unfold cmpI
  split
  · rename_i h; simp [h]
  · split <;> simp <;> omega
theorem isNaN_any (a : Int) (w : World) : Calls Tryz.prog 122 #[.int .i64 a] w fun e w' => e = .returned (.bool false) ∧ w' = w := by
  go_enter Tryz.func122, Tryz.ntmps122
  go_wp2_with fail
  go_ret
  exact ⟨rfl, rfl⟩
set_option maxHeartbeats 1000000 in
theorem compare_any (a b : Int) (w : World) : Calls Tryz.prog 83 #[.int .i64 a, .int .i64 b] w fun e w' => e = .returned (.int .i64 (cmpI a b)) ∧ w' = w := by
  by_cases h1 : a < b
  · have e : cmpI a b = -1 := by unfold cmpI; rw [if_pos h1]
    rw [e]
    clear e
    go_enter Tryz.func83, Tryz.ntmps83
    go_wp2_with (go_at_call 122; refine (isNaN_any _ _).mono ?_; rintro e w1 ⟨rfl, rfl⟩)
    go_ret
    exact ⟨rfl, rfl⟩
  by_cases h2 : b < a
  · have e : cmpI a b = 1 := by unfold cmpI; rw [if_neg h1, if_pos h2]
    rw [e]
    clear e
    go_enter Tryz.func83, Tryz.ntmps83
    go_wp2_with (go_at_call 122; refine (isNaN_any _ _).mono ?_; rintro e w1 ⟨rfl, rfl⟩)
    go_ret
    exact ⟨rfl, rfl⟩
  · have e : cmpI a b = 0 := by unfold cmpI; rw [if_neg h1, if_neg h2]
    rw [e]
    clear e
    go_enter Tryz.func83, Tryz.ntmps83
    go_wp2_with (go_at_call 122; refine (isNaN_any _ _).mono ?_; rintro e w1 ⟨rfl, rfl⟩)
    go_ret
    exact ⟨rfl, rfl⟩
set_option maxHeartbeats 1000000 in
theorem byTag_any (x y : FlS) (w : World) : Calls Tryz.prog 48 #[.agg x.cells.toArray, .agg y.cells.toArray] w fun e w' => e = .returned (.int .i64 (cmpI x.tag y.tag)) ∧ ∃ q os, w' = grow (w.drewN q) os := by
  obtain ⟨x0, x1, x2, x3, x4⟩ := x
  obtain ⟨y0, y1, y2, y3, y4⟩ := y
  show Calls Tryz.prog 48 #[.agg #[.string x0, .int .i64 x1, .int .i64 x2, .int .i64 x3, .string x4], .agg #[.string y0, .int .i64 y1, .int .i64 y2, .int .i64 y3, .string y4]] w fun e w' => e = .returned (.int .i64 (cmpI x1 y1)) ∧ ∃ q os, w' = grow (w.drewN q) os
  obtain ⟨c, hc⟩ : ∃ c, cmpI x1 y1 = c := ⟨_, rfl⟩
  have HC : ∀ W, Calls Tryz.prog 83 #[.int .i64 x1, .int .i64 y1] W fun e w' => e = .returned (.int .i64 c) ∧ w' = W := fun W => by rw [← hc]; exact compare_any x1 y1 W
  rw [hc]
  clear hc
  go_enter Tryz.func48, Tryz.ntmps48
  go_wp2_with (go_at_call 83; refine (HC _).mono ?_; rintro e w1 ⟨rfl, rfl⟩)
  go_ret
  exact ⟨rfl, 0, _, by rw [alloc_eq_grow, alloc_eq_grow, grow_grow]; rfl⟩
set_option maxHeartbeats 1000000 in
theorem byNumber_any (x y : NmS) (w : World) : Calls Tryz.prog 52 #[.agg x.cells.toArray, .agg y.cells.toArray] w fun e w' => e = .returned (.int .i64 (cmpI x.n y.n)) ∧ ∃ q os, w' = grow (w.drewN q) os := by
  obtain ⟨x0, x1⟩ := x
  obtain ⟨y0, y1⟩ := y
  show Calls Tryz.prog 52 #[.agg #[.string x0, .int .i64 x1], .agg #[.string y0, .int .i64 y1]] w fun e w' => e = .returned (.int .i64 (cmpI x1 y1)) ∧ ∃ q os, w' = grow (w.drewN q) os
  obtain ⟨c, hc⟩ : ∃ c, cmpI x1 y1 = c := ⟨_, rfl⟩
  have HC : ∀ W, Calls Tryz.prog 83 #[.int .i64 x1, .int .i64 y1] W fun e w' => e = .returned (.int .i64 c) ∧ w' = W := fun W => by rw [← hc]; exact compare_any x1 y1 W
  rw [hc]
  clear hc
  go_enter Tryz.func52, Tryz.ntmps52
  go_wp2_with (go_at_call 83; refine (HC _).mono ?_; rintro e w1 ⟨rfl, rfl⟩)
  go_ret
  exact ⟨rfl, 0, _, by rw [alloc_eq_grow, alloc_eq_grow, grow_grow]; rfl⟩
end Go.Proofs.YtkfhlgajeejgeaaGreatDoor

/- What slices' symMerge answers where one stands ahead of a run. -/
namespace Go.Proofs.YtkfhlgajeejgeaaGreatDoor
open Go.ChangeShapes Go.WideShapes Go.ChangeAt Go.RowKit
set_option linter.unusedVariables false
set_option linter.unusedSimpArgs false
set_option maxRecDepth 20000

/-- The one that stood ahead has gone k places to the right. -/
def oneL (A Y Z : List NmS) (x : NmS) (k : Nat) : List NmS := A ++ Y.take k ++ [x] ++ Y.drop k ++ Z
theorem oneL_step {A Y Z : List NmS} {x y : NmS} {k : Nat} (hy : Y[k]? = some y) :
    (oneL A Y Z x k)[A.length + k]? = some x ∧ (oneL A Y Z x k)[A.length + k + 1]? = some y ∧ ((oneL A Y Z x k).set (A.length + k) y).set (A.length + k + 1) x = oneL A Y Z x (k + 1) := by
  obtain ⟨hk, rfl⟩ := List.getElem?_eq_some_iff.1 hy
  have dy : Y.drop k = Y[k] :: Y.drop (k + 1) := List.drop_eq_getElem_cons hk
  have ty : Y.take (k + 1) = Y.take k ++ [Y[k]] := by rw [List.take_add_one, hy]; rfl
  have e : oneL A Y Z x k = (A ++ Y.take k) ++ x :: Y[k] :: (Y.drop (k + 1) ++ Z) := by
    unfold oneL; rw [dy]; simp only [List.append_assoc, List.cons_append, List.nil_append]
  have e2 : oneL A Y Z x (k + 1) = (A ++ Y.take k) ++ Y[k] :: x :: (Y.drop (k + 1) ++ Z) := by
    unfold oneL; rw [ty]; simp only [List.append_assoc, List.cons_append, List.nil_append]
  have l1 : (A ++ Y.take k).length = A.length + k := by simp; omega
  rw [e, e2]
  generalize (A ++ Y.take k) = U at *
  rw [← l1]
  refine ⟨?_, ?_, swap_side U _ _ _⟩
  · rw [List.getElem?_append_right (Nat.le_refl _), Nat.sub_self]; rfl
  · rw [List.getElem?_append_right (by omega), show U.length + 1 - U.length = 1 by omega]; rfl
set_option maxHeartbeats 4000000 in
theorem symA_any {w : World} {B q n cap : Nat} {A Y Z : List NmS} {x : NmS} (h : w.ownsRow B 49 2 (.slice (some ⟨q, 0, none⟩) n cap) n (nmRows (A ++ [x] ++ Y ++ Z)).flatten) (hl : n = (A ++ [x] ++ Y ++ Z).length) (hn : n ≤ 1000) (a m b : Nat) (ha : a = A.length) (hm : m = a + 1) (hb : b = a + 1 + Y.length) (uy : UpK NmS.n Y) :
    Calls Tryz.prog 135 #[.slice (some ⟨q, 0, none⟩) n cap, .int .i64 (a : Int), .int .i64 (m : Int), .int .i64 (b : Int), .func (.func 52) #[] #[]] w fun e w' => e = .returned (.tuple #[]) ∧ w'.ownsRow B 49 2 (.slice (some ⟨q, 0, none⟩) n cap) n (nmRows (A ++ srtF NmS.n ([x] ++ Y) ++ Z)).flatten ∧ Kp (fun x => x = q) w w' := by
  have hbn : b ≤ n := by rw [hl]; simp; omega
  have HL : Hid (n = (A ++ [x] ++ Y ++ Z).length) := hl
  have HA : Hid (a = A.length) := ha
  have HB : Hid (b = a + 1 + Y.length) := hb
  have HM : Hid (m = a + 1) := hm
  have UY : Hid (UpK NmS.n Y) := uy
  have hmb : m ≤ b := by omega
  have ham : a < m := by omega
  obtain ⟨L, hL⟩ : ∃ L, A ++ [x] ++ Y ++ Z = L := ⟨_, rfl⟩
  have HLL : Hid (A ++ [x] ++ Y ++ Z = L) := hL
  have HLn : Hid (L.length = n) := by show _ = _; rw [← hL, ← hl]
  rw [hL] at h
  have HO0 : Hid (w.ownsRow B 49 2 (.slice (some ⟨q, 0, none⟩) n cap) n (nmRows L).flatten) := h
  have hma : ((m : Int) - (a : Int)) = 1 := by omega
  have hma' : IntKind.i64.wrap ((m : Int) - (a : Int)) = 1 := by rw [hma]; decide
  obtain ⟨R, hR⟩ : ∃ R, A ++ srtF NmS.n ([x] ++ Y) ++ Z = R := ⟨_, rfl⟩
  have HR : Hid (A ++ srtF NmS.n ([x] ++ Y) ++ Z = R) := hR
  rw [hR]
  clear h hl ha hb hm uy hL hR
  go_enter Tryz.func135, Tryz.ntmps135
  go_wp2_with fail
  go_loopw [10, 11] (fun iv jv wr => ∃ i j : Nat, iv = .int .i64 (i : Int) ∧ jv = .int .i64 (j : Int) ∧ m ≤ i ∧ i ≤ j ∧ j ≤ b ∧ Hid ((i = m ∨ kx NmS.n L (i - 1) < kx NmS.n L a) ∧ (j = b ∨ kx NmS.n L a ≤ kx NmS.n L j)) ∧ Hid (wr.ownsRow B 49 2 (.slice (some ⟨q, 0, none⟩) n cap) n (nmRows L).flatten) ∧ Hid (Kp (fun x => x = q) w wr)) (fun iv jv _ => (intOf jv).toNat - (intOf iv).toNat)
  case atStart => exact ⟨m, b, rfl, rfl, by omega, by omega, by omega, ⟨.inl rfl, .inl rfl⟩, HO0, Kp.refl _ _⟩
  case round =>
    clear HO0
    obtain ⟨i, j, rfl, rfl, hmi, hij, hjb, HE, HO, HK⟩ := hrel
    by_cases hlt : i < j
    · have hltz : (i : Int) < (j : Int) := by omega
      obtain ⟨c, hc⟩ : ∃ c, (i + j) / 2 = c := ⟨_, rfl⟩
      have hc1 : i ≤ c := by omega
      have hc2 : c < j := by omega
      obtain ⟨⟨x0, x1⟩, hx⟩ : ∃ x, L[c]? = some x := ⟨_, List.getElem?_eq_getElem (by rw [HLn.out]; omega)⟩
      obtain ⟨⟨y0, y1⟩, hy⟩ : ∃ x, L[a]? = some x := ⟨_, List.getElem?_eq_getElem (by rw [HLn.out]; omega)⟩
      have kc : kx NmS.n L c = x1 := kx_at hx
      have ka : kx NmS.n L a = y1 := kx_at hy
      have r1 : (nmRows L)[c]? = some [Value.string x0, Value.int .i64 x1] := by simp [nmRows, hx, NmS.cells]
      have r2 : (nmRows L)[a]? = some [Value.string y0, Value.int .i64 y1] := by simp [nmRows, hy, NmS.cells]
      have c0 := own_at (nml_len _) HO.out r1 (j := 0) rfl
      have c1 := own_at (nml_len _) HO.out r1 (j := 1) rfl
      have d0 := own_at (nml_len _) HO.out r2 (j := 0) rfl
      have d1 := own_at (nml_len _) HO.out r2 (j := 1) rfl
      rw [Nat.add_zero] at c0 d0
      have KC : Hid (kx NmS.n L c = x1 ∧ kx NmS.n L a = y1) := ⟨kc, ka⟩
      have hsum : IntKind.i64.wrap ((i : Int) + (j : Int)) = (i : Int) + (j : Int) := wrapN _ (by omega) (by omega)
      have hq : q < wr.heap.size := World.block_lt_of_cell? _ _ c0
      have c0g : ∀ n' os', (Sort.grow (wr.drewN n') os').cell? ⟨q, c * 2, none⟩ = some (.string x0) := fun n' os' => cell_grown hq c0 n' os'
      have c1g : ∀ n' os', (Sort.grow (wr.drewN n') os').cell? ⟨q, c * 2 + 1, none⟩ = some (.int .i64 x1) := fun n' os' => cell_grown hq c1 n' os'
      have d0g : ∀ n' os', (Sort.grow (wr.drewN n') os').cell? ⟨q, a * 2, none⟩ = some (.string y0) := fun n' os' => cell_grown hq d0 n' os'
      have d1g : ∀ n' os', (Sort.grow (wr.drewN n') os').cell? ⟨q, a * 2 + 1, none⟩ = some (.int .i64 y1) := fun n' os' => cell_grown hq d1 n' os'
      have hcg : ∀ n' os', Calls Tryz.prog 52 #[.agg #[.string x0, .int .i64 x1], .agg #[.string y0, .int .i64 y1]] (Sort.grow (wr.drewN n') os') fun e w' => e = .returned (.int .i64 (cmpI x1 y1)) ∧ ∃ q os'', w' = Sort.grow ((Sort.grow (wr.drewN n') os').drewN q) os'' := fun n' os' => byNumber_any ⟨x0, x1⟩ ⟨y0, y1⟩ _
      have HCG : Hid _ := hcg
      clear r1 r2 hx hy kc ka c0 c1 d0 d1 hcg
      have hcz : ((i : Int) + (j : Int)) / 2 = (c : Int) := by omega
      have hcn : (c : Int) < (n : Int) := by omega
      have han : (a : Int) < (n : Int) := by omega
      have mixed : Tryz.prog.follows Departure.mixedOrders = true := by kernel_rfl
      by_cases hlv : x1 < y1
      · have hz : cmpI x1 y1 < 0 := by unfold cmpI; rw [if_pos hlv]; decide
        have HE2 : Hid ((c + 1 = m ∨ kx NmS.n L (c + 1 - 1) < kx NmS.n L a) ∧ (j = b ∨ kx NmS.n L a ≤ kx NmS.n L j)) := ⟨.inr (by rw [Nat.add_sub_cancel, KC.out.1, KC.out.2]; exact hlv), HE.out.2⟩
        go_wp2_with fail
        go_quiet_grown (first | (go_at_call 52; refine Calls.grown_of (HCG.out _ _)))
        have HO2 : Hid ((Sort.grow (wr.drewN nq) osq).ownsRow B 49 2 (.slice (some ⟨q, 0, none⟩) n cap) n (nmRows L).flatten) := own_below HO.out (below_grow wr nq osq)
        have HK2 : Hid (Kp (fun x => x = q) w (Sort.grow (wr.drewN nq) osq)) := HK.out.trans (Kp.ofBelow (below_grow wr nq osq))
        go_wp2_with fail
        go_roundw
        case rel => exact ⟨c + 1, j, by go_num, rfl, by omega, by omega, by omega, HE2, HO2, HK2⟩
        case measure => simp [intOf]; omega
      · have hz : ¬ cmpI x1 y1 < 0 := by unfold cmpI; rw [if_neg hlv]; split <;> decide
        have HE2 : Hid ((i = m ∨ kx NmS.n L (i - 1) < kx NmS.n L a) ∧ (c = b ∨ kx NmS.n L a ≤ kx NmS.n L c)) := ⟨HE.out.1, .inr (by rw [KC.out.1, KC.out.2]; omega)⟩
        go_wp2_with fail
        go_quiet_grown (first | (go_at_call 52; refine Calls.grown_of (HCG.out _ _)))
        have HO2 : Hid ((Sort.grow (wr.drewN nq) osq).ownsRow B 49 2 (.slice (some ⟨q, 0, none⟩) n cap) n (nmRows L).flatten) := own_below HO.out (below_grow wr nq osq)
        have HK2 : Hid (Kp (fun x => x = q) w (Sort.grow (wr.drewN nq) osq)) := HK.out.trans (Kp.ofBelow (below_grow wr nq osq))
        go_wp2_with fail
        go_roundw
        case rel => exact ⟨i, c, rfl, rfl, by omega, by omega, by omega, HE2, HO2, HK2⟩
        case measure => simp [intOf]; omega
    · obtain rfl : i = j := by omega
      have hltz : ¬ (i : Int) < (i : Int) := by omega
      have HRI : Hid (oneL A Y Z x (i - a - 1) = R) := by
        show _ = _
        rw [← HR.out]
        have := one_ahead (key := NmS.n) (A := A) (Y := Y) (B := Z) (x := x) (i := i) HA.out UY.out (by have := HM.out; omega) (by have := HB.out; omega) (by rw [HLL.out, ← HM.out]; exact HE.out.1) (by rw [HLL.out, ← HB.out]; exact HE.out.2)
        rw [this]
        unfold oneL
        simp only [List.append_assoc]
      have HO0 : Hid (wr.ownsRow B 49 2 (.slice (some ⟨q, 0, none⟩) n cap) n (nmRows (oneL A Y Z x (a - a))).flatten) := by
        show World.ownsRow _ _ _ _ _ _ _
        rw [Nat.sub_self, show oneL A Y Z x 0 = L by rw [← HLL.out]; simp [oneL]]
        exact HO.out
      have hi1 : IntKind.i64.wrap ((i : Int) - 1) = (i : Int) - 1 := wrapN _ (by omega) (by omega)
      have hai : a + 1 ≤ i := by omega
      have HYI : Hid (i - a - 1 ≤ Y.length) := by have := HB.out; show _ ≤ _; omega
      clear HE HO
      go_wp2_with fail
      go_loopw [13] (fun kv wr => ∃ k : Nat, kv = .int .i64 (k : Int) ∧ a ≤ k ∧ k + 1 ≤ i ∧ Hid (wr.ownsRow B 49 2 (.slice (some ⟨q, 0, none⟩) n cap) n (nmRows (oneL A Y Z x (k - a))).flatten) ∧ Hid (Kp (fun x => x = q) w wr)) (fun kv _ => i - (intOf kv).toNat)
      case atStart => exact ⟨a, rfl, by omega, hai, HO0, HK⟩
      case round =>
        clear HO0 HK
        obtain ⟨k, rfl, hak, hki, HO, HK⟩ := hrel
        by_cases hlt : k + 1 < i
        · have hltz2 : (k : Int) < (i : Int) - 1 := by omega
          obtain ⟨⟨y0, y1⟩, hy⟩ : ∃ y, Y[k - a]? = some y := ⟨_, List.getElem?_eq_getElem (by have := HYI.out; omega)⟩
          obtain ⟨s1, s2, s3⟩ := oneL_step (A := A) (Z := Z) (x := x) hy
          rw [← HA.out, show a + (k - a) = k by omega] at s1 s2 s3
          obtain ⟨x0, x1⟩ := x
          have r1 : (nmRows (oneL A Y Z ⟨x0, x1⟩ (k - a)))[k]? = some [Value.string x0, Value.int .i64 x1] := by simp [nmRows, s1, NmS.cells]
          have r2 : (nmRows (oneL A Y Z ⟨x0, x1⟩ (k - a)))[k + 1]? = some [Value.string y0, Value.int .i64 y1] := by simp [nmRows, s2, NmS.cells]
          have c0 := own_at (nml_len _) HO.out r1 (j := 0) rfl
          have c1 := own_at (nml_len _) HO.out r1 (j := 1) rfl
          have d0 := own_at (nml_len _) HO.out r2 (j := 0) rfl
          have d1 := own_at (nml_len _) HO.out r2 (j := 1) rfl
          rw [Nat.add_zero] at c0 d0
          have f0 : wr.frozen? ⟨q, k * 2, none⟩ = false := own_froz HO.out _
          have f1 : wr.frozen? ⟨q, k * 2 + 1, none⟩ = false := own_froz HO.out _
          have f2 : wr.frozen? ⟨q, (k + 1) * 2, none⟩ = false := own_froz HO.out _
          have f3 : wr.frozen? ⟨q, (k + 1) * 2 + 1, none⟩ = false := own_froz HO.out _
          have i1 := (List.getElem?_eq_some_iff.1 s1).1
          have i2 := (List.getElem?_eq_some_iff.1 s2).1
          have HN : Hid (((((wr.setCell ⟨q, k * 2, none⟩ (.string y0)).setCell ⟨q, k * 2 + 1, none⟩ (.int .i64 y1)).setCell ⟨q, (k + 1) * 2, none⟩ (.string x0)).setCell ⟨q, (k + 1) * 2 + 1, none⟩ (.int .i64 x1)).drew.ownsRow B 49 2 (.slice (some ⟨q, 0, none⟩) n cap) n (nmRows (oneL A Y Z ⟨x0, x1⟩ (k + 1 - a))).flatten) := by
            have := own_swap HO.out i1 i2 ⟨y0, y1⟩ ⟨x0, x1⟩
            rw [s3, show k - a + 1 = k + 1 - a by omega] at this
            exact own_below this (below_drewN 1 (Below.refl _ _))
          have HKN : Hid (Kp (fun x => x = q) w ((((wr.setCell ⟨q, k * 2, none⟩ (.string y0)).setCell ⟨q, k * 2 + 1, none⟩ (.int .i64 y1)).setCell ⟨q, (k + 1) * 2, none⟩ (.string x0)).setCell ⟨q, (k + 1) * 2 + 1, none⟩ (.int .i64 x1)).drew) := by
            show Kp _ _ _
            refine Kp.trans ?_ (Kp.ofBelow (below_drewN 1 (Below.refl _ _)))
            refine Kp.setCell ?_ (fun _ => by simp) _
            refine Kp.setCell ?_ (fun _ => by simp) _
            refine Kp.setCell ?_ (fun _ => by simp) _
            refine Kp.setCell ?_ (fun _ => by simp) _
            exact HK.out
          have w1 : IntKind.i64.wrap ((k : Int) + 1) = (k : Int) + 1 := wrapN _ (by omega) (by omega)
          have z1 : (k : Int) < (n : Int) := by omega
          have z2 : (k : Int) + 1 < (n : Int) := by omega
          have z4 : (0 : Int) ≤ (k : Int) + 1 := by omega
          have t2 : ((k : Int) + 1).toNat = k + 1 := by omega
          have mixed : Tryz.prog.follows Departure.mixedOrders = true := by kernel_rfl
          clear s1 s2 s3 r1 r2 hy i1 i2
          go_wp2_with fail
          go_big_region_o
          all_goals go_wp2_with fail
          go_roundw
          case rel => exact ⟨k + 1, by go_num, by omega, by omega, HN, HKN⟩
          case measure => simp [intOf]; omega
        · have hltz2 : ¬ (k : Int) < (i : Int) - 1 := by omega
          have HE : Hid (wr.ownsRow B 49 2 (.slice (some ⟨q, 0, none⟩) n cap) n (nmRows R).flatten) := by
            show World.ownsRow _ _ _ _ _ _ _
            rw [← HRI.out, show i - a - 1 = k - a by omega]
            exact HO.out
          go_wp2_with fail
          refine bodyPost_ret (results_none rfl _ _ _) rfl ?_
          exact ⟨rfl, HE.out, HK.out⟩
end Go.Proofs.YtkfhlgajeejgeaaGreatDoor
