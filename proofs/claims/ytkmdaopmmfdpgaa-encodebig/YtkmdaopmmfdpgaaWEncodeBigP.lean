/- EncodeBig answers true. -/
import Derived.Test.YtkmdaopmmfdpgaaPkH
import Derived.Test.YtkmdaopmmfdpgaaPkN
namespace Go.Proofs.Ytkmdaopmmfdpgaa
open Go.ChangeShapes Go.WideShapes Go.ChangeAt Go.RowKit
set_option linter.unusedVariables false
set_option linter.unusedSimpArgs false
set_option maxRecDepth 20000

def txT (s : ByteArray) : Tr := oneT 1 ⟨2, 0, s, [], []⟩
theorem two64 : Is64 2 := ⟨by decide, by decide⟩
theorem tx_chk (s : ByteArray) : chkN 2 (txT s) = true := by
  have he : (⟨#[]⟩ : ByteArray) = ByteArray.empty := rfl
  simp [chkN, dpN, okN, lvB, txT, oneT, subs, entsB, restB, risesB, he]
theorem tx_raws (s : ByteArray) : rawsA 2 (txT s) = if 4096 < s.size then ([], 4) else ([⟨1, 1, 0, s⟩], 0) := by
  unfold rawsA
  rw [if_pos ⟨rfl, tx_chk s⟩]
  have h1 : fsE (bytE (2 - 1)) (txT s).es = [flE (bytE 1) 1 ⟨2, 0, s, [], []⟩] := by simp [fsE, enE, txT, oneT]
  have h2 : flE (bytE 1) 1 ⟨2, 0, s, [], []⟩ = if 4096 < s.size then (fd0, 4) else (⟨1, 1, 0, s⟩, 0) := by
    unfold flE; rw [if_neg (by simp), if_pos rfl]
  unfold rwE
  rw [h1, h2]
  split
  · rename_i h; simp [errE, fd0]
  · rename_i h
    simp only [errE, if_pos, ne_eq, not_true, if_false]
    rw [show (txT s).rest = [] from rfl, List.append_nil, List.map_cons, List.map_nil, sortF_id rfl]
theorem tx_big (s : ByteArray) (h : 4096 < s.size) : encA 2 (txT s) = ([], 4) := by
  unfold encA ofR; rw [tx_raws, if_pos h, if_pos (by decide)]
theorem tx_enc (s : ByteArray) (h : ¬ 4096 < s.size) : encA 2 (txT s) = putL [⟨1, 1, 0, s⟩] := by
  unfold encA ofR; rw [tx_raws, if_neg h]; rfl
theorem tx_five (s : ByteArray) (h : s.size = 5) : (encA 2 (txT s)).1.length = 7 := by
  rw [tx_enc s (by omega)]
  have hok : [(⟨1, 1, 0, s⟩ : Fd)].all okF = true := by simp [okF, okV]; omega
  have hl : (flatN [⟨1, 1, 0, s⟩]).length = 7 := by
    have := fieldN_text 1 0 s
    rw [flatN_cons, flatN_nil, List.append_nil, show (⟨1, 1, 0, s⟩ : Fd) = ⟨((1 : Nat) : Int), 1, 0, s⟩ from rfl, this, List.length_append, List.length_append, bytesN_len, digs_small (v := s.size) (by omega), digs_small (by decide), h]
    rfl
  rw [putL, if_pos hok, hl, if_pos (by decide)]
  exact hl
theorem lf_num : encA 2 ⟨1, 0, ⟨#[]⟩, [], []⟩ = ([], 1) := by decide +kernel
theorem lf_msg : encA 2 ⟨3, 0, ⟨#[]⟩, [], []⟩ = ([], 0) := by decide +kernel
theorem lf_s (k : Int) : SmN 2 ⟨k, 0, ⟨#[]⟩, [], []⟩ := ⟨Nat.zero_le _, by simp, by simp, by simp, by simp⟩
theorem lf_c (k : Int) : cntN 2 ⟨k, 0, ⟨#[]⟩, [], []⟩ ≤ 1000 := by simp [cntN, subs]
def BigP (n : Nat) (w : World) (e : Ending) (w' : World) : Prop := ∃ b1, e = .returned (.agg #[.int .i64 3, .int .i64 0, .string ⟨#[]⟩, .slice (some ⟨b1, 0, none⟩) 1 1, .slice none 0 0]) ∧ TrW 2 w' (.agg #[.int .i64 3, .int .i64 0, .string ⟨#[]⟩, .slice (some ⟨b1, 0, none⟩) 1 1, .slice none 0 0]) (txT (strN (List.replicate n 0))) ∧ Below w.heap.size w w'
set_option maxHeartbeats 1000000 in
theorem ebig_any (n : Nat) (hn : n ≤ 5000) (w : World) : Calls Try.prog 22 #[.int .i64 (n : Int)] w (BigP n w) := by
  obtain ⟨Z, hZ⟩ : ∃ Z, madeCells #[Value.int .u8 0] n = Z := ⟨_, rfl⟩
  obtain ⟨T, hT⟩ : ∃ T, strN (List.replicate n 0) = T := ⟨_, rfl⟩
  have HT : Hid (strN (List.replicate n 0) = T) := hT
  have HTS : Hid (T.size = n) := (by rw [← hT, strN_size, List.length_replicate] : T.size = n)
  have hmk : ∀ W : World, (Instr.makeSlice 29 (.int .i64 (n : Int)) (.int .i64 (n : Int))).run Try.prog W = .ok (.slice (some ⟨W.heap.size, 0, none⟩) n n) (W.alloc (.cells Z 5)) := fun W => by
    rw [← hZ]; exact run_make_row' (P := Try.prog) 29 5 (.int .u8 0) 1 Try.underlying29 infoByte1 rfl .i64 .i64 n (by omega) (by omega) W
  have hcv : ∀ W : World, (convert 29 9 (.slice (some ⟨W.heap.size, 0, none⟩) n n)).run Try.prog (W.alloc (.cells Z 5)) = .ok (.string T) (W.alloc (.cells Z 5)) := fun W => by
    have := conv_holds (W.alloc (.cells (madeCells #[.int .u8 0] n) 5)) (some ⟨W.heap.size, 0, none⟩) (List.replicate n 0) n (fun h => by cases h) (holds_zeros W n)
    rw [List.length_replicate, hZ, hT] at this
    exact this
  have hcv2 := hcv (w.alloc (Obj.cells #[.int .i64 0, .int .i64 0, .string ⟨#[]⟩, .slice none 0 0, .slice none 0 0] 25))
  rw [show (w.alloc (Obj.cells #[.int .i64 0, .int .i64 0, .string ⟨#[]⟩, .slice none 0 0, .slice none 0 0] 25)).heap.size = w.heap.size + 1 from by simp] at hcv2
  clear hZ hT hcv
  go_enter Try.func22, Try.ntmps22
  go_wp2_with fail
  have B0 : Blk ((((w.alloc (Obj.cells #[.int .i64 3, .int .i64 0, .string ⟨#[]⟩, .slice (some ⟨w.heap.size + 1 + 1 + 1, 0, none⟩) 1 1, .slice none 0 0] 25)).alloc (Obj.cells Z 5)).alloc (Obj.cells #[.int .i64 2, .int .i64 0, .string T, .slice none 0 0, .slice none 0 0] 25)).alloc (Obj.cells #[.int .i64 1, .slice (some ⟨w.heap.size + 1 + 1, 0, none⟩) 1 1] 41)) w.heap.size #[.int .i64 3, .int .i64 0, .string ⟨#[]⟩, .slice (some ⟨w.heap.size + 1 + 1 + 1, 0, none⟩) 1 1, .slice none 0 0] 25 := (((Blk.newAt rfl).up _).up _).up _
  have B2 : Blk ((((w.alloc (Obj.cells #[.int .i64 3, .int .i64 0, .string ⟨#[]⟩, .slice (some ⟨w.heap.size + 1 + 1 + 1, 0, none⟩) 1 1, .slice none 0 0] 25)).alloc (Obj.cells Z 5)).alloc (Obj.cells #[.int .i64 2, .int .i64 0, .string T, .slice none 0 0, .slice none 0 0] 25)).alloc (Obj.cells #[.int .i64 1, .slice (some ⟨w.heap.size + 1 + 1, 0, none⟩) 1 1] 41)) (w.heap.size + 1 + 1) #[.int .i64 2, .int .i64 0, .string T, .slice none 0 0, .slice none 0 0] 25 := (Blk.newAt (by simp)).up _
  have B3 : Blk ((((w.alloc (Obj.cells #[.int .i64 3, .int .i64 0, .string ⟨#[]⟩, .slice (some ⟨w.heap.size + 1 + 1 + 1, 0, none⟩) 1 1, .slice none 0 0] 25)).alloc (Obj.cells Z 5)).alloc (Obj.cells #[.int .i64 2, .int .i64 0, .string T, .slice none 0 0, .slice none 0 0] 25)).alloc (Obj.cells #[.int .i64 1, .slice (some ⟨w.heap.size + 1 + 1, 0, none⟩) 1 1] 41)) (w.heap.size + 1 + 1 + 1) #[.int .i64 1, .slice (some ⟨w.heap.size + 1 + 1, 0, none⟩) 1 1] 41 := Blk.newAt (by simp)
  have hb : Below w.heap.size w ((((w.alloc (Obj.cells #[.int .i64 3, .int .i64 0, .string ⟨#[]⟩, .slice (some ⟨w.heap.size + 1 + 1 + 1, 0, none⟩) 1 1, .slice none 0 0] 25)).alloc (Obj.cells Z 5)).alloc (Obj.cells #[.int .i64 2, .int .i64 0, .string T, .slice none 0 0, .slice none 0 0] 25)).alloc (Obj.cells #[.int .i64 1, .slice (some ⟨w.heap.size + 1 + 1, 0, none⟩) 1 1] 41)) := by
    repeat' first | exact Below.refl _ _ | refine Below.alloc ?_ (by simp <;> omega) _
  have hTW := oneT_W one64 two64 zero64 (s := T) (by rw [HTS.out]; omega) B2 B3
  have c0 := (B0.cell 0).trans rfl
  have c1 := (B0.cell 1).trans rfl
  have c2 := (B0.cell 2).trans rfl
  have c3 := (B0.cell 3).trans rfl
  have c4 := (B0.cell 4).trans rfl
  clear B0 B2 B3
  generalize ((((w.alloc (Obj.cells #[.int .i64 3, .int .i64 0, .string ⟨#[]⟩, .slice (some ⟨w.heap.size + 1 + 1 + 1, 0, none⟩) 1 1, .slice none 0 0] 25)).alloc (Obj.cells Z 5)).alloc (Obj.cells #[.int .i64 2, .int .i64 0, .string T, .slice none 0 0, .slice none 0 0] 25)).alloc (Obj.cells #[.int .i64 1, .slice (some ⟨w.heap.size + 1 + 1, 0, none⟩) 1 1] 41)) = W at *
  refine bodyPost_ret (results_cell rfl _ _ _ ⟨w.heap.size, 0, none⟩ (.agg #[.int .i64 3, .int .i64 0, .string ⟨#[]⟩, .slice (some ⟨w.heap.size + 1 + 1 + 1, 0, none⟩) 1 1, .slice none 0 0]) (by go_simp) (by go_simp)) rfl ⟨_, rfl, ?_, hb⟩
  rw [HT.out]
  exact hTW
set_option maxHeartbeats 1000000 in
theorem encodeBig_walk (w : World) :
    Calls Try.prog 7 #[] w fun e w' => e = .returned (.bool true) ∧ Below w.heap.size w w' := by
  have hmf : ∀ (fn : Fn) (first cap : Array Value) (w : World), (Instr.makeFunc fn first cap).run Try.prog w = .ok (.func fn first cap) w := fun _ _ _ _ => rfl
  obtain ⟨ns, hns, hL⟩ : ∃ ns, encA 2 (txT (strN (List.replicate 4093 0))) = (ns, 0) ∧ ns.length = 4096 := by
    have hsz : (strN (List.replicate 4093 0)).size = 4093 := by rw [strN_size, List.length_replicate]
    rw [tx_enc _ (by rw [hsz]; decide), putL_one _ (by rw [hsz]; decide) (by rw [hsz]; decide), if_pos (by rw [hsz]; decide)]
    refine ⟨_, rfl, ?_⟩
    have := fieldN_text 1 0 (strN (List.replicate 4093 0))
    rw [flatN_cons, flatN_nil, List.append_nil, show (⟨1, 1, 0, strN (List.replicate 4093 0)⟩ : Fd) = ⟨((1 : Nat) : Int), 1, 0, strN (List.replicate 4093 0)⟩ from rfl, this, List.length_append, List.length_append, bytesN_len, hsz, digs_two (v := 4093) (by decide) (by decide), digs_small (v := 2 * 1 + 1) (by decide)]
    rfl
  have A1 : Hid (encA 2 (txT (strN (List.replicate 4093 0))) = (ns, 0)) := hns
  have A2 : Hid (encA 2 (txT (strN (List.replicate 4094 0))) = ([], 4)) := (by
    have hsz : (strN (List.replicate 4094 0)).size = 4094 := by rw [strN_size, List.length_replicate]
    rw [tx_enc _ (by rw [hsz]; decide), putL_one _ (by rw [hsz]; decide) (by rw [hsz]; decide), if_neg (by rw [hsz]; decide)] : encA 2 (txT (strN (List.replicate 4094 0))) = ([], 4))
  have A3 : Hid (encA 2 (txT (strN (List.replicate 4097 0))) = ([], 4)) := tx_big _ (by rw [strN_size, List.length_replicate]; decide)
  have A6 : Hid ((encA 2 (txT (strN (List.replicate 5 0)))).1.length = 7) := tx_five _ (by rw [strN_size, List.length_replicate])
  have HL : Hid (ns.length = 4096) := hL
  clear hns hL
  have hb0 : Below w.heap.size w w := Below.refl _ _
  go_enter Try.func7, Try.ntmps7
  go_wp2_with fail
  refine Calls.mono (ebig_any 4093 (by decide) _) ?_
  rintro e w1 ⟨g1, rfl, ht1, hm1⟩
  have hbw1 : Below w.heap.size w w1 := hb0.trans (hm1.mono hb0.size)
  have HE1 : Hid (Calls Try.prog 12 #[.agg #[.int .i64 3, .int .i64 0, .string ⟨#[]⟩, .slice (some ⟨g1, 0, none⟩) 1 1, .slice none 0 0]] w1 (EncP (ns, 0) w1)) := (by
    have h1 := encode_any ht1 (by decide) oneT_c (oneT_s (by rw [strN_size, List.length_replicate]; decide))
    rw [A1.out] at h1
    exact h1 : Calls Try.prog _ _ _ _)
  clear hm1 ht1
  go_wp2_with fail
  refine Calls.mono HE1.out ?_
  rintro e w2 ⟨r1, rfl, ho1, hn1⟩
  have hbw2 : Below w.heap.size w w2 := hbw1.trans (hn1.mono hbw1.size)
  obtain ⟨x1, y1, rfl, -⟩ := own_open ho1
  clear HE1 ho1 hn1 hbw1
  simp only [HL.out]
  go_wp2_with fail
  refine Calls.mono (ebig_any 4094 (by decide) _) ?_
  rintro e w3 ⟨g2, rfl, ht2, hm2⟩
  have hbw3 : Below w.heap.size w w3 := hbw2.trans (hm2.mono hbw2.size)
  have HE2 : Hid (Calls Try.prog 12 #[.agg #[.int .i64 3, .int .i64 0, .string ⟨#[]⟩, .slice (some ⟨g2, 0, none⟩) 1 1, .slice none 0 0]] w3 (EncP ([], 4) w3)) := (by
    have h1 := encode_any ht2 (by decide) oneT_c (oneT_s (by rw [strN_size, List.length_replicate]; decide))
    rw [A2.out] at h1
    exact h1 : Calls Try.prog _ _ _ _)
  clear hm2 ht2
  go_wp2_with fail
  refine Calls.mono HE2.out ?_
  rintro e w4 ⟨r2, rfl, ho2, hn2⟩
  have hbw4 : Below w.heap.size w w4 := hbw3.trans (hn2.mono hbw3.size)
  obtain ⟨x2, y2, rfl, -⟩ := own_open ho2
  clear HE2 ho2 hn2 hbw3
  go_wp2_with fail
  refine Calls.mono (ebig_any 4097 (by decide) _) ?_
  rintro e w5 ⟨g3, rfl, ht3, hm3⟩
  have hbw5 : Below w.heap.size w w5 := hbw4.trans (hm3.mono hbw4.size)
  have HE3 : Hid (Calls Try.prog 12 #[.agg #[.int .i64 3, .int .i64 0, .string ⟨#[]⟩, .slice (some ⟨g3, 0, none⟩) 1 1, .slice none 0 0]] w5 (EncP ([], 4) w5)) := (by
    have h1 := encode_any ht3 (by decide) oneT_c (oneT_s (by rw [strN_size, List.length_replicate]; decide))
    rw [A3.out] at h1
    exact h1 : Calls Try.prog _ _ _ _)
  clear hm3 ht3
  go_wp2_with fail
  refine Calls.mono HE3.out ?_
  rintro e w6 ⟨r3, rfl, ho3, hn3⟩
  have hbw6 : Below w.heap.size w w6 := hbw5.trans (hn3.mono hbw5.size)
  obtain ⟨x3, y3, rfl, -⟩ := own_open ho3
  clear HE3 ho3 hn3 hbw5
  have HE4 : Hid (Calls Try.prog 12 #[.agg #[.int .i64 1, .int .i64 0, .string ⟨#[]⟩, .slice none 0 0, .slice none 0 0]] w6 (EncP ([], 1) w6)) := (by
    have h1 := encode_any (w := w6) ⟨_, rfl, trR_leaf 1 w6 1 one64⟩ (by decide) (lf_c 1) (lf_s 1)
    rw [lf_num] at h1
    exact h1 : Calls Try.prog _ _ _ _)
  go_wp2_with fail
  refine Calls.mono HE4.out ?_
  rintro e w7 ⟨r4, rfl, ho4, hn4⟩
  have hbw7 : Below w.heap.size w w7 := hbw6.trans (hn4.mono hbw6.size)
  obtain ⟨x4, y4, rfl, -⟩ := own_open ho4
  clear HE4 ho4 hn4
  have HE5 : Hid (Calls Try.prog 12 #[.agg #[.int .i64 3, .int .i64 0, .string ⟨#[]⟩, .slice none 0 0, .slice none 0 0]] w7 (EncP ([], 0) w7)) := (by
    have h1 := encode_any (w := w7) ⟨_, rfl, trR_leaf 1 w7 3 three64⟩ (by decide) (lf_c 3) (lf_s 3)
    rw [lf_msg] at h1
    exact h1 : Calls Try.prog _ _ _ _)
  go_wp2_with fail
  refine Calls.mono HE5.out ?_
  rintro e w8 ⟨r5, rfl, ho5, hn5⟩
  have hbw8 : Below w.heap.size w w8 := hbw7.trans (hn5.mono hbw7.size)
  obtain ⟨x5, y5, rfl, -⟩ := own_open ho5
  clear HE5 ho5 hn5
  go_wp2_with fail
  refine Calls.mono (ebig_any 5 (by decide) _) ?_
  rintro e w9 ⟨g6, rfl, ht6, hm6⟩
  have hbw9 : Below w.heap.size w w9 := hbw8.trans (hm6.mono hbw8.size)
  have HE6 : Hid (Calls Try.prog 17 #[.agg #[.int .i64 3, .int .i64 0, .string ⟨#[]⟩, .slice (some ⟨g6, 0, none⟩) 1 1, .slice none 0 0]] w9 fun e w' => e = .returned (.int .i64 7) ∧ Below w9.heap.size w9 w') := (by
    have h1 := elen_any ht6 (by decide) oneT_c (oneT_s (by rw [strN_size, List.length_replicate]; decide))
    rw [A6.out] at h1
    exact h1 : Calls Try.prog _ _ _ _)
  clear hm6 ht6
  go_wp2_with fail
  refine Calls.mono HE6.out ?_
  rintro e w10 ⟨rfl, hn6⟩
  have hbw10 : Below w.heap.size w w10 := hbw9.trans (hn6.mono hbw9.size)
  clear HE6 hn6
  go_wp2_with fail
  refine (eawake_any _).mono ?_
  rintro e w11 ⟨rfl, hn7⟩
  have hbw11 : Below w.heap.size w w11 := hbw10.trans (hn7.mono hbw10.size)
  go_wp2_with fail
  go_ret
  exact ⟨rfl, hbw11⟩
end Go.Proofs.Ytkmdaopmmfdpgaa
