/- WireLimits answers true. -/
import Derived.Test.YtfbekeebllcdbabWrOwn
import Derived.Test.YtfbekeebllcdbabWrBack
import Derived.Test.YtfbekeebllcdbabWrPut
import Derived.Deep.OwnRows
namespace Go.Proofs.Ytfbekeebllcdbab
open Go.ChangeShapes Go.WideShapes Go.ChangeAt Go.RowKit
set_option linter.unusedVariables false
set_option linter.unusedSimpArgs false
set_option maxRecDepth 20000

theorem infoByte1 : (Try.prog.info? 5).map (fun i => (i.zero, i.size, i.bytes)) = some (some (.int .u8 0), 1, 1) := infoByte
/-- Zeros that were made. -/
theorem holds_zeros (w : World) (n : Nat) : Holds (w.alloc (.cells (madeCells #[.int .u8 0] n) 5)) (some ⟨w.heap.size, 0, none⟩) (List.replicate n 0) := by
  refine Holds.of fun j hj => ?_
  rw [List.length_replicate] at hj
  rw [World.cell?_alloc_at _ _ _ _ rfl, Nat.zero_add]
  have : (madeCells #[Value.int .u8 0] n)[j]? = some (.int .u8 0) := by simp [madeCells, hj, Nat.mod_one]
  rw [this]
  simp [List.getD_eq_getElem?_getD, hj]
theorem digs_two {v : Nat} (h1 : 128 ≤ v) (h2 : v < 16384) : (digs v).length = 2 := by
  rw [digs_big (by omega), digs_small (by omega)]; rfl
theorem putL_one (b : ByteArray) (h1 : 128 ≤ b.size) (h2 : b.size ≤ 4096) : putL [⟨1, 1, 0, b⟩] = if b.size + 3 ≤ 4096 then (flatN [⟨1, 1, 0, b⟩], 0) else ([], 4) := by
  have hok : [(⟨1, 1, 0, b⟩ : Fd)].all okF = true := by simp [okF, okV]; omega
  have hl : (flatN [⟨1, 1, 0, b⟩]).length = b.size + 3 := by
    have := fieldN_text 1 0 b
    rw [flatN_cons, flatN_nil, List.append_nil, show (⟨1, 1, 0, b⟩ : Fd) = ⟨((1 : Nat) : Int), 1, 0, b⟩ from rfl, this, List.length_append, List.length_append, bytesN_len, digs_two h1 (by omega), digs_small (by decide)]
    simp; omega
  rw [putL, if_pos hok, hl]
/-- One field in new memory. -/
theorem one_made (w : World) (r : Fd) : HoldsR (w.alloc (.cells #[.int .i64 r.tag, .int .i64 r.wire, .int .i64 r.n, .string r.b] 26)) (some ⟨w.heap.size, 0, none⟩) [r] := by
  intro b hb j u hu
  obtain rfl : ⟨w.heap.size, 0, none⟩ = b := by simpa using hb
  rw [Addr.add_lit, World.cell?_alloc_at _ _ _ _ rfl, Nat.zero_add]
  simpa [rawCells, Fd.cells] using hu

set_option maxHeartbeats 2000000 in
theorem wireLimits_walk (w : World) :
    Calls Try.prog 3 #[] w fun e w' => e = .returned (.bool true) ∧ Below w.heap.size w w' := by
  obtain ⟨Z1, hZ1⟩ : ∃ Z, madeCells #[Value.int .u8 0] 4093 = Z := ⟨_, rfl⟩
  obtain ⟨Z2, hZ2⟩ : ∃ Z, madeCells #[Value.int .u8 0] 4097 = Z := ⟨_, rfl⟩
  have hmk1 : ∀ W : World, (Instr.makeSlice 22 (.int .i64 4093) (.int .i64 4093)).run Try.prog W = .ok (.slice (some ⟨W.heap.size, 0, none⟩) 4093 4093) (W.alloc (.cells Z1 5)) := fun W => by
    rw [← hZ1]; exact run_make_row' (P := Try.prog) 22 5 (.int .u8 0) 1 Try.underlying22 infoByte1 rfl .i64 .i64 4093 (by decide) (by decide) W
  have hmk2 : ∀ W : World, (Instr.makeSlice 22 (.int .i64 4097) (.int .i64 4097)).run Try.prog W = .ok (.slice (some ⟨W.heap.size, 0, none⟩) 4097 4097) (W.alloc (.cells Z2 5)) := fun W => by
    rw [← hZ2]; exact run_make_row' (P := Try.prog) 22 5 (.int .u8 0) 1 Try.underlying22 infoByte1 rfl .i64 .i64 4097 (by decide) (by decide) W
  obtain ⟨big, hbig⟩ : ∃ s, strN (List.replicate 4093 0) = s := ⟨_, rfl⟩
  have hsz : big.size = 4093 := by rw [← hbig, strN_size, List.length_replicate]
  have hcv : ∀ W : World, (convert 22 9 (.slice (some ⟨W.heap.size, 0, none⟩) 4093 4093)).run Try.prog (W.alloc (.cells Z1 5)) = .ok (.string big) (W.alloc (.cells Z1 5)) := fun W => by
    have := conv_holds (W.alloc (.cells (madeCells #[.int .u8 0] 4093) 5)) (some ⟨W.heap.size, 0, none⟩) (List.replicate 4093 0) 4093 (fun h => by cases h) (holds_zeros W 4093)
    rw [List.length_replicate, hZ1, hbig] at this
    exact this
  have G1 : Hid (∀ W g, g = W.heap.size → Calls Try.prog 7 #[.slice (some ⟨g, 0, none⟩) 4097 4097] (W.alloc (.cells Z2 5)) fun e w' => ∃ v, e = .returned (.tuple #[v, .int .i64 4]) ∧ Below W.heap.size W w') := by
    rintro W g rfl
    have hh := holds_zeros W 4097
    rw [hZ2] at hh
    have h := wget_any (some ⟨W.heap.size, 0, none⟩) (List.replicate 4097 0) 4097 4097 _ List.length_replicate hh (fun n hn => by rw [List.eq_of_mem_replicate hn]; decide) (Nat.le_refl _) (by decide) (.inr ⟨_, _, rfl⟩)
    rw [show getL (List.replicate 4097 0) = ([], 4) from by rw [getL, if_pos (by rw [List.length_replicate]; decide)]] at h
    refine h.mono ?_
    rintro e w' ⟨v, rfl, -, hb⟩
    exact ⟨v, rfl, (below_one W _).trans (hb.mono (by simp))⟩
  have G2 : Hid (∀ W g, g = W.heap.size → Calls Try.prog 7 #[.slice (some ⟨g, 0, none⟩) 2 2] (W.alloc (.cells #[.int .u8 1, .int .u8 0] 5)) fun e w' => ∃ v, e = .returned (.tuple #[v, .int .i64 7]) ∧ Below W.heap.size W w') := by
    rintro W g rfl
    have hh : Holds (W.alloc (.cells #[.int .u8 1, .int .u8 0] 5)) (some ⟨W.heap.size, 0, none⟩) [1, 0] := by simpa [byteCells] using holds_made W [1, 0]
    have h := wget_any (some ⟨W.heap.size, 0, none⟩) [1, 0] 2 2 _ rfl hh (by simp) (Nat.le_refl _) (by decide) (.inr ⟨_, _, rfl⟩)
    have hx : nextN [1, 0] 0 = (fd0, 0, 7) := next_tag (h := 1) (q := 1) (by decide) (by decide)
    rw [show getL [1, 0] = ([], 7) from by rw [getL, if_neg (by simp), getA_err (by simp) hx (by decide)]] at h
    refine h.mono ?_
    rintro e w' ⟨v, rfl, -, hb⟩
    exact ⟨v, rfl, (below_one W _).trans (hb.mono (by simp))⟩
  have K1 : Hid (∀ W, Calls Try.prog 5 #[.slice none 0 0, .agg #[.int .i64 500, .int .i64 0, .int .i64 1, .string ⟨#[]⟩]] W fun e w' => ∃ v, e = .returned (.tuple #[v, .bool true]) ∧ Below W.heap.size W w') := fun W => by
    refine (wput_ok ⟨500, 0, 1, ⟨#[]⟩⟩ none [] 0 0 W (by unfold okF okV; rw [(toList_empty ⟨#[]⟩).2 rfl]; rfl) (by unfold Is64; simp) rfl (fun _ => ⟨rfl, rfl⟩) (Nat.le_refl _) (by decide) (by decide) Holds.nil).mono ?_
    rintro e w' ⟨v, rfl, -, hb⟩
    exact ⟨v, rfl, hb⟩
  have K2 : Hid (∀ W, Calls Try.prog 5 #[.slice none 0 0, .agg #[.int .i64 501, .int .i64 0, .int .i64 1, .string ⟨#[]⟩]] W fun e w' => ∃ v, e = .returned (.tuple #[v, .bool false]) ∧ Below W.heap.size W w') := fun W => by
    refine (wput_no 501 0 1 ⟨#[]⟩ none 0 0 W (by unfold okV; simp) (fun _ => ⟨rfl, rfl⟩) (Nat.le_refl _) (by decide)).mono ?_
    rintro e w' ⟨rfl, hb⟩
    exact ⟨_, rfl, hb⟩
  have K3 : Hid (∀ W, Calls Try.prog 5 #[.slice none 0 0, .agg #[.int .i64 0, .int .i64 0, .int .i64 1, .string ⟨#[]⟩]] W fun e w' => ∃ v, e = .returned (.tuple #[v, .bool false]) ∧ Below W.heap.size W w') := fun W => by
    refine (wput_no 0 0 1 ⟨#[]⟩ none 0 0 W (by unfold okV; simp) (fun _ => ⟨rfl, rfl⟩) (Nat.le_refl _) (by decide)).mono ?_
    rintro e w' ⟨rfl, hb⟩
    exact ⟨_, rfl, hb⟩
  have hp1 := putL_one big (by omega) (by omega)
  rw [if_pos (by omega)] at hp1
  obtain ⟨hok1, hl1⟩ : [(⟨1, 1, 0, big⟩ : Fd)].all okF = true ∧ (flatN [⟨1, 1, 0, big⟩]).length = 4096 := by
    refine ⟨by simp [okF, okV]; omega, ?_⟩
    have := fieldN_text 1 0 big
    rw [flatN_cons, flatN_nil, List.append_nil, show (⟨1, 1, 0, big⟩ : Fd) = ⟨((1 : Nat) : Int), 1, 0, big⟩ from rfl, this, List.length_append, List.length_append, bytesN_len, digs_two (v := big.size) (by omega) (by omega), digs_small (by decide)]
    simp; omega
  have n64 : ∀ (b : ByteArray), ∀ r ∈ [(⟨1, 1, 0, b⟩ : Fd)], Is64 r.n := fun b r hr => by simp at hr; subst hr; unfold Is64; simp
  have P1 : Hid (∀ W g, g = W.heap.size → Calls Try.prog 6 #[.slice (some ⟨g, 0, none⟩) 1 1] (W.alloc (.cells #[.int .i64 1, .int .i64 1, .int .i64 0, .string big] 26)) fun e w' => ∃ v, e = .returned (.tuple #[v, .int .i64 0]) ∧ w'.ownsRow W.heap.size 5 1 v 4096 (byteCells (flatN [⟨1, 1, 0, big⟩])) ∧ Below W.heap.size W w') := by
    rintro W g rfl
    have h := wputall_any (some ⟨W.heap.size, 0, none⟩) [⟨1, 1, 0, big⟩] 1 1 _ rfl (.inr ⟨_, _, rfl⟩) (Nat.le_refl _) (by decide) (by decide) (one_made W ⟨1, 1, 0, big⟩) (n64 big)
    rw [hp1] at h
    refine h.mono ?_
    rintro e w' ⟨v, rfl, ho, hb⟩
    simp only [hl1] at ho
    exact ⟨v, rfl, own_mono ho (by simp), (below_one W _).trans (hb.mono (by simp))⟩
  have P2 : Hid (∀ (b : ByteArray) W g, b.size = 4094 → g = W.heap.size → Calls Try.prog 6 #[.slice (some ⟨g, 0, none⟩) 1 1] (W.alloc (.cells #[.int .i64 1, .int .i64 1, .int .i64 0, .string b] 26)) fun e w' => ∃ v, e = .returned (.tuple #[v, .int .i64 4]) ∧ Below W.heap.size W w') := by
    rintro b W g hb4 rfl
    have hp2 := putL_one b (by omega) (by omega)
    rw [if_neg (by omega)] at hp2
    have h := wputall_any (some ⟨W.heap.size, 0, none⟩) [⟨1, 1, 0, b⟩] 1 1 _ rfl (.inr ⟨_, _, rfl⟩) (Nat.le_refl _) (by decide) (by decide) (one_made W ⟨1, 1, 0, b⟩) (n64 b)
    rw [hp2] at h
    refine h.mono ?_
    rintro e w' ⟨v, rfl, -, hb⟩
    exact ⟨v, rfl, (below_one W _).trans (hb.mono (by simp))⟩
  have G3 : Hid (∀ B W v, W.ownsRow B 5 1 v 4096 (byteCells (flatN [⟨1, 1, 0, big⟩])) → Calls Try.prog 7 #[v] W fun e w' => ∃ g cc, e = .returned (.tuple #[.slice (some ⟨g, 0, none⟩) 1 cc, .int .i64 0]) ∧ 1 ≤ cc ∧ w'.cell? ⟨g, 3, none⟩ = some (.string big) ∧ Below W.heap.size W w') := fun B W v ho => by
    refine (get_own ho (flatN_lt _) (getL_put hok1 (n64 big) (by omega))).mono ?_
    rintro e w' ⟨u, rfl, hu, hb⟩
    obtain ⟨a3, cap3, rfl, -, h31, h32, -, h34⟩ := own_openR hu
    rcases h31 with ⟨_, h, _⟩ | ⟨g, rfl, -⟩
    · simp at h
    · have := (h34.at (i := 0) rfl).2.2.2
      refine ⟨g, cap3, rfl, h32, ?_, hb⟩
      simpa using this
  have hsa : (big ++ (⟨#[97]⟩ : ByteArray)).size = 4094 := by rw [ByteArray.size_append, hsz]; rfl
  have HSA : Hid ((big ++ (⟨#[97]⟩ : ByteArray)).size = 4094) := hsa
  have HSZ : Hid (big.size = 4093) := hsz
  clear hbig hZ1 hZ2 hp1 hok1 hl1 n64 hsa hsz
  go_enter Try.func3, Try.ntmps3
  go_wp2_with fail
  refine (K1.out _).mono ?_
  rintro e w1 ⟨v1, rfl, hb1⟩
  clear K1
  go_wp2_with fail
  refine (K2.out _).mono ?_
  rintro e w2 ⟨v2, rfl, hb2⟩
  have hbb2 : Below w.heap.size w w2 := hb1.trans (hb2.mono hb1.size)
  clear K2 hb1 hb2
  go_wp2_with fail
  refine (K3.out _).mono ?_
  rintro e w3 ⟨v3, rfl, hb3⟩
  have hbb3 : Below w.heap.size w w3 := hbb2.trans (hb3.mono hbb2.size)
  clear K3 hb3 hbb2
  go_wp2_with fail
  refine (P1.out _ _ (by simp)).mono ?_
  rintro e w4 ⟨x, rfl, ho4, hb4⟩
  have hbb4 : Below w.heap.size w w4 := (hbb3.alloc hbb3.size _).trans (hb4.mono (by simp; have := hbb3.size; omega))
  obtain ⟨ax, cx, rfl, hn4, h41 | ⟨gx, rfl, h42, h43⟩, -, -, -⟩ := own_open ho4
  · exact absurd hn4 (by rw [h41.2.1]; simp)
  rw [← hn4] at ho4 ⊢
  have HO4 : Hid (w4.ownsRow _ 5 1 (.slice (some ⟨gx, 0, none⟩) 4096 cx) 4096 (byteCells (flatN [⟨1, 1, 0, big⟩]))) := ho4
  clear P1 ho4 hb4 hn4 h42 h43 hbb3 hmk1 hcv
  have hadd := HSZ.out
  go_wp2_with fail
  refine (P2.out _ _ _ HSA.out rfl).mono ?_
  rintro e w5 ⟨v5, rfl, hb5⟩
  have hbb5 : Below w.heap.size w w5 := hbb4.trans (hb5.mono hbb4.size)
  have HO5 := own_belowH HO4 hb5
  clear P2 HO4 hb5 hbb4
  go_wp2_with fail
  refine (G1.out _ _ rfl).mono ?_
  rintro e w6 ⟨v6, rfl, hb6⟩
  have hbb6 : Below w.heap.size w w6 := hbb5.trans (hb6.mono hbb5.size)
  have HO6 := own_belowH HO5 hb6
  clear G1 HO5 hb6 hbb5 hmk2
  go_wp2_with fail
  refine (G2.out _ _ rfl).mono ?_
  rintro e w7 ⟨v7, rfl, hb7⟩
  have hbb7 : Below w.heap.size w w7 := hbb6.trans (hb7.mono hbb6.size)
  have HO7 := own_belowH HO6 hb7
  clear G2 HO6 hb7 hbb6
  have C3 : Hid (Calls Try.prog 7 #[.slice (some ⟨gx, 0, none⟩) 4096 cx] w7 fun e w' => ∃ g cc, e = .returned (.tuple #[.slice (some ⟨g, 0, none⟩) 1 cc, .int .i64 0]) ∧ 1 ≤ cc ∧ w'.cell? ⟨g, 3, none⟩ = some (.string big) ∧ Below w7.heap.size w7 w') := G3.out _ _ _ HO7.out
  clear G3 HO7
  go_wp2_with fail
  refine C3.out.mono ?_
  rintro e w8 ⟨g, cc, rfl, hcc, hcell, hb8⟩
  have hbb8 : Below w.heap.size w w8 := hbb7.trans (hb8.mono hbb7.size)
  clear C3 hb8 hbb7
  go_wp2_with fail
  refine (wawake_any _).mono ?_
  rintro e w9 ⟨rfl, hb9⟩
  have hbb9 : Below w.heap.size w w9 := hbb8.trans (hb9.mono hbb8.size)
  clear hb9 hbb8
  go_wp2_with fail
  go_ret
  exact ⟨rfl, hbb9⟩
end Go.Proofs.Ytfbekeebllcdbab
