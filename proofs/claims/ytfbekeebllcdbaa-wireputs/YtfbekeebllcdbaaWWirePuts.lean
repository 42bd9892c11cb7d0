/- WirePuts answers true at all bytes, every field and any list. -/
import Derived.Test.YtfbekeebllcdbaaWrRefAll
import Derived.Test.YtfbekeebllcdbaaWrOwn
import Derived.Test.YtfbekeebllcdbaaRwRaws
import Derived.Test.YtfbekeebllcdbaaRwOpen
import Derived.Test.YtfbekeebllcdbaaCrIn
import Derived.Test.YtfbekeebllcdbaaQb
namespace Go.Proofs.Ytfbekeebllcdbaa
open Go.ChangeShapes Go.WideShapes Go.ChangeAt Go.RowKit
set_option linter.unusedVariables false
set_option linter.unusedSimpArgs false
set_option maxRecDepth 20000

/-- Put, and the text of what it answers. -/
theorem putx (r : Fd) (a : Option Addr) (ns : List Nat) (N cap : Nat) (w : World) (hn : Is64 r.n) (hN : ns.length = N) (ha : a = none → ns = [] ∧ cap = 0) (hc : N ≤ cap) (hm : cap ≤ maxLen) (hl : N ≤ 140737488355328) (hh : Holds w a ns) :
    Calls Try.prog 11 #[.slice a N cap, .agg #[.int .i64 r.tag, .int .i64 r.wire, .int .i64 r.n, .string r.b]] w fun e w' => ∃ v, e = .returned (.tuple #[v, .bool (okF r)]) ∧
      (∀ W, Below w'.heap.size w' W → (convert 22 9 v).run Try.prog W = .ok (.string (if okF r = true then strN ns ++ strN (fieldN r) else strN ns)) W) ∧ Below w.heap.size w w' := by
  cases hr : okF r with
  | true =>
    refine (wput_ok r a ns N cap w hr hn hN ha hc hm hl hh).mono ?_
    rintro e w' ⟨v, rfl, ho, hb⟩
    refine ⟨v, rfl, fun W hW => ?_, hb⟩
    rw [if_pos rfl, ← strN_append]
    exact conv_own (own_below ho hW)
  | false =>
    refine (wput_no r.tag r.wire r.n r.b a N cap w hr (fun h => ⟨by rw [← hN, (ha h).1]; rfl, (ha h).2⟩) hc hm).mono ?_
    rintro e w' ⟨rfl, hb⟩
    refine ⟨_, rfl, fun W hW => ?_, hb⟩
    rw [if_neg (by decide)]
    have := conv_holds W a ns N (fun h => (ha h).1) ((hh.below hb).below hW)
    rw [hN] at this
    exact this

set_option maxHeartbeats 4000000 in
theorem puts_walk (a : Option Addr) (N cap : Nat) (ns : List Nat) (r : Fd) (a2 : Option Addr) (N2 cap2' : Nat) (rs : List Fd) (w : World) (hb : CameIn w a N cap ns) (hn : Is64 r.n) (hr : CameR w a2 N2 cap2' rs) :
    Calls Try.prog 3 #[.slice a N cap, r.val, .slice a2 N2 cap2'] w fun e w' => e = .returned (.bool true) ∧ Below w.heap.size w w' := by
  have HB : Hid (CameIn w a N cap ns) := hb
  have HR2 : Hid (CameR w a2 N2 cap2' rs) := hr
  have hN1 := hb.le
  have hN2 := hb.max
  obtain ⟨sm, hsm⟩ : ∃ b, smallB rs = b := ⟨_, rfl⟩
  have S1 : Hid (∀ W, Below w.heap.size w W → Calls Try.prog 9 #[.slice a2 N2 cap2'] W fun e w' => e = .returned (.bool sm) ∧ Below W.heap.size W w') := fun W hW => by
    refine (small_any a2 rs N2 cap2' W hr.len hr.adr hr.le hr.max (hr.holds.below hW)).mono ?_
    rintro e w' ⟨rfl, rfl⟩
    exact ⟨by rw [hsm], Below.refl _ _⟩
  have HPX : Hid (∀ a' c' W, Holds W a' ns → (a' = none → ns = [] ∧ c' = 0) → N ≤ c' → c' ≤ maxLen → Calls Try.prog 11 #[.slice a' N c', .agg #[.int .i64 r.tag, .int .i64 r.wire, .int .i64 r.n, .string r.b]] W fun e w' => ∃ v, e = .returned (.tuple #[v, .bool (okF r)]) ∧ (∀ V, Below w'.heap.size w' V → (convert 22 9 v).run Try.prog V = .ok (.string (if okF r = true then strN ns ++ strN (fieldN r) else strN ns)) V) ∧ Below W.heap.size W w') := fun a' c' W h1 h2 h3 h4 => putx r a' ns N c' W hn hb.len h2 h3 h4 (by omega) h1
  have HRF : Hid (okF r = true → ∀ W, Calls Try.prog 13 #[.agg #[.int .i64 r.tag, .int .i64 r.wire, .int .i64 r.n, .string r.b]] W fun e w' => ∃ v, e = .returned v ∧ w'.ownsRow W.heap.size 5 1 v (fieldN r).length (byteCells (fieldN r)) ∧ Below W.heap.size W w') := fun h W => rfield_any r W h hn
  have HFL : Hid (okF r = true → (fieldN r).length ≤ 4116) := fun h => (fieldN_len h hn).2
  obtain ⟨ok, hok⟩ : ∃ b, okF r = b := ⟨_, rfl⟩
  have HOK : Hid (okV r.tag r.wire r.n r.b = ok) := hok
  rw [hok] at HPX HRF HFL
  have hsmall : sm = true → N2 ≤ 60 := fun h => by rw [← hr.len]; exact small_len (by rw [hsm]; exact h)
  obtain ⟨t, k, n, s⟩ := r
  simp only [Fd.val] at HPX HRF HOK HFL hn ⊢
  generalize fieldN ⟨t, k, n, s⟩ = fs at *
  clear hb hr hok hn hsm
  obtain ⟨Y, hY⟩ : ∃ Y, putL rs = Y := ⟨_, rfl⟩
  have HY : Hid (putL rs = Y) := hY
  clear hY
  go_enter Try.func3, Try.ntmps3
  go_wp2_with fail
  refine (S1.out _ (below_one _ _)).mono ?_
  rintro e w0 ⟨rfl, hb0⟩
  have hbw0 : Below w.heap.size w w0 := (below_one w _).trans (hb0.mono (by simp))
  have hcs : ∀ j v, [Value.int .i64 t, .int .i64 k, .int .i64 n, .string s][j]? = some v → w0.cell? ⟨w.heap.size, j, none⟩ = some v := by
    intro j v hj; rw [hb0.cell (by simp)]; simpa using hj
  have c0 := hcs 0 _ rfl
  have c1 := hcs 1 _ rfl
  have c2 := hcs 2 _ rfl
  have c3 := hcs 3 _ rfl
  clear hb0 hcs S1
  cases sm with
  | false =>
    clear hsmall
    go_wp2_with fail
    refine (wawake_any _).mono ?_
    rintro e w5 ⟨rfl, hb5⟩
    have hbb5 : Below w.heap.size w w5 := hbw0.trans (hb5.mono hbw0.size)
    clear hb5
    go_wp2_with fail
    go_ret
    exact ⟨rfl, hbb5⟩
  | true =>
  have hN60 := hsmall rfl
  clear hsmall
  by_cases hs5 : 5000 < s.size
  · have hd : decide ((5000 : Int) < (s.size : Int)) = true := by simp; omega
    go_wp2_with fail
    refine (wawake_any _).mono ?_
    rintro e w5 ⟨rfl, hb5⟩
    have hbb5 : Below w.heap.size w w5 := hbw0.trans (hb5.mono hbw0.size)
    clear hb5
    go_wp2_with fail
    go_ret
    exact ⟨rfl, hbb5⟩
  · have hd : decide ((5000 : Int) < (s.size : Int)) = false := by simp; omega
    obtain ⟨B0, hB0⟩ : ∃ B, w.heap.size = B := ⟨_, rfl⟩
    rw [hB0] at c0 c1 c2 c3
    have HB0 : Hid (CameIn w0 a N cap ns) := HB.out.below hbw0
    have HBW : Hid (Below w.heap.size w w0) := hbw0
    clear hbw0 hs5
    simp only [hB0]
    have HEQ : Hid (w.heap.size = B0) := hB0
    clear hB0
    go_wp2_with (first
      | (at_builtin; refine wpList_join rfl _ _ rfl w0.heap.size (.slice none 0 0) 0 [] rfl (World.ownsRow_nil _ _ _ _) a ns _ _ rfl HB0.out.len.symm HB0.out.nil HB0.out.holds ?c1 ?c2 ?_)
      | fail)
    case c1 => rw [HB0.out.len]; simp; omega
    case c2 => exact Nat.le_refl _
    intro r1 w1 ho1 hg1
    have hb1 : Below w0.heap.size w0 w1 := (Below.refl _ _).grown hg1 (Nat.le_refl _) (fun k hk => by cases hk)
    have HO1 : Hid (w1.ownsRow w0.heap.size 5 1 r1 ns.length (byteCells ns)) := by show World.ownsRow _ _ _ _ _ _ _; simpa using ho1
    clear ho1 hg1
    go_wp2_with (first
      | (at_builtin; refine wpList_join rfl _ _ rfl w0.heap.size r1 _ ns rfl (HO1.out.alloc _) (some ⟨w1.heap.size, 0, none⟩) [99] _ _ rfl rfl (fun h => by cases h) ?c1 ?c2 ?c3 ?_)
      | fail)
    case c1 => simpa [byteCells] using holds_made w1 [99]
    case c2 => rw [HB0.out.len]; simp; omega
    case c3 => have := hb1.size; simp; omega
    intro r2 w2 ho2 hg2
    have hb2 : Below w0.heap.size w0 w2 := (hb1.alloc hb1.size _).grown hg2 (by have := hb1.size; simp; omega) (fun k hk => (HO1.out.lt k hk).1)
    obtain ⟨aa, cap2, rfl, _, h21 | ⟨g2, rfl, h22, h23⟩, h24, h25, h26⟩ := own_open ho2
    · exact absurd h21.2.1 (by simp)
    have HH2 : Hid (Holds w2 (some ⟨g2, 0, none⟩) (ns ++ [99])) := h26
    have hl2 : (ns ++ [99]).length = N + 1 := by rw [List.length_append, HB0.out.len]; rfl
    rw [hl2] at h24 ⊢
    have HCM : Hid (cap2 ≤ maxLen) := h25
    unfold maxLen at h25
    have C4 : Hid (Calls Try.prog 11 #[.slice (some ⟨g2, 0, none⟩) N cap2, .agg #[.int .i64 t, .int .i64 k, .int .i64 n, .string s]] w2 fun e w' => ∃ v, e = .returned (.tuple #[v, .bool ok]) ∧ (∀ V, Below w'.heap.size w' V → (convert 22 9 v).run Try.prog V = .ok (.string (if ok = true then strN ns ++ strN fs else strN ns)) V) ∧ Below w2.heap.size w2 w') := HPX.out _ _ _ HH2.out.take (fun h => by cases h) (by omega) HCM.out
    have d9 : w2.cell? ⟨g2, N, none⟩ = some (.int .u8 99) := by
      have := HH2.out.at N (by rw [hl2]; omega)
      rw [Nat.zero_add] at this
      rw [this, ← HB0.out.len]
      simp
    have hw0 : ∀ o u, w0.cell? ⟨B0, o, none⟩ = some u → w2.cell? ⟨B0, o, none⟩ = some u := fun o u h => by rw [hb2.cell (World.block_lt_of_cell? _ _ h)]; exact h
    have d0 := hw0 _ _ c0
    have d1 := hw0 _ _ c1
    have d2 := hw0 _ _ c2
    have d3 := hw0 _ _ c3
    have hbw2 : Below w.heap.size w w2 := HBW.out.trans (hb2.mono HBW.out.size)
    clear ho2 hg2 h22 h23 h26 hl2 HO1 hb1 hb2 HPX HH2 hw0 c0 c1 c2 c3 HB0 HBW
    go_wp2_with fail
    refine C4.out.mono ?_
    rintro e wd ⟨x, rfl, hcx, hb3⟩
    have hw2 : ∀ b o u, w2.cell? ⟨b, o, none⟩ = some u → wd.cell? ⟨b, o, none⟩ = some u := fun b o u h => by rw [hb3.cell (World.block_lt_of_cell? _ _ h)]; exact h
    replace d0 := hw2 _ _ _ d0
    replace d1 := hw2 _ _ _ d1
    replace d2 := hw2 _ _ _ d2
    replace d3 := hw2 _ _ _ d3
    replace d9 := hw2 _ _ _ d9
    have hbd : Below w.heap.size w wd := hbw2.trans (hb3.mono hbw2.size)
    have HCX : Hid (∀ V, Below wd.heap.size wd V → (convert 22 9 x).run Try.prog V = .ok (.string (if ok = true then strN ns ++ strN fs else strN ns)) V) := hcx
    have V0 := conv_holds wd a ns cap (fun h => (HB.out.nil h).1) (HB.out.holds.below hbd)
    rw [HB.out.len] at V0
    have hS := strN_size ns
    rw [HB.out.len] at hS
    clear C4 hcx hb3 hw2 hbw2
    generalize strN ns = SN at *
    go_wp2_with fail
    refine (rcheckV_any t k n s _).mono ?_
    rintro e w6 ⟨rfl, hb6⟩
    rw [HOK.out]
    have hw6 : ∀ b o u, wd.cell? ⟨b, o, none⟩ = some u → w6.cell? ⟨b, o, none⟩ = some u := fun b o u h => by rw [hb6.cell (World.block_lt_of_cell? _ _ h)]; exact h
    replace d0 := hw6 _ _ _ d0
    replace d1 := hw6 _ _ _ d1
    replace d2 := hw6 _ _ _ d2
    replace d3 := hw6 _ _ _ d3
    replace d9 := hw6 _ _ _ d9
    have hbd6 : Below w.heap.size w w6 := hbd.trans (hb6.mono hbd.size)
    have HCX6 : Hid (∀ V, Below w6.heap.size w6 V → (convert 22 9 x).run Try.prog V = .ok (.string (if ok = true then SN ++ strN fs else SN)) V) := fun V hV => HCX.out V (hb6.trans (hV.mono hb6.size))
    clear HCX V0 hw6 hb6 hbd
    cases ok with
    | false =>
      have CX : Hid (∀ V, Below w6.heap.size w6 V → (convert 22 9 x).run Try.prog V = .ok (.string SN) V) := fun V hV => by have := HCX6.out V hV; simpa using this
      clear HCX6 HRF HFL
      go_wp2_with fail
      refine (raws_any a2 rs N2 cap2' w6 HR2.out.len (by omega) HR2.out.nil (HR2.out.holds.below hbd6)).mono ?_
      rintro e w8 ⟨r8, rfl, ho8, hb8⟩
      have C8 : Hid (Calls Try.prog 14 #[r8] w8 fun e w' => ∃ v, e = .returned (.tuple #[v, .int .i64 (Y.2 : Int)]) ∧ w'.ownsRow w8.heap.size 5 1 v Y.1.length (byteCells Y.1) ∧ Below w8.heap.size w8 w') := by rw [← HY.out]; exact putall_own ho8 (by rw [HR2.out.len]; omega) HR2.out.n64
      have hbd_8 : Below w6.heap.size w6 w8 := hb8
      clear ho8 hb8
      go_wp2_with fail
      refine C8.out.mono ?_
      rintro e w9 ⟨y, rfl, ho9, hb9⟩
      have hbd_9 : Below w6.heap.size w6 w9 := hbd_8.trans (hb9.mono hbd_8.size)
      have hbw9 : Below w.heap.size w w9 := hbd6.trans (hbd_9.mono hbd6.size)
      have C9 : Hid (Calls Try.prog 16 #[.slice a2 N2 cap2'] w9 fun e w' => ∃ v, e = .returned (.tuple #[v, .int .i64 (Y.2 : Int)]) ∧ w'.ownsRow w9.heap.size 5 1 v Y.1.length (byteCells Y.1) ∧ Below w9.heap.size w9 w') := by
        rw [← HY.out]
        exact rputall_any a2 rs N2 cap2' w9 HR2.out.len HR2.out.adr HR2.out.le HR2.out.max (by omega) (HR2.out.holds.below hbw9) HR2.out.n64
      clear C8 hbd_8 hb9
      go_wp2_with fail
      refine C9.out.mono ?_
      rintro e wz ⟨z, rfl, hoz, hbz⟩
      have hbd_z : Below w6.heap.size w6 wz := hbd_9.trans (hbz.mono hbd_9.size)
      have hbwz : Below w.heap.size w wz := hbd6.trans (hbd_z.mono hbd6.size)
      have ho9z := own_below ho9 hbz
      have V1 : ∀ q : Kept wz.heap.size wz, (convert 22 9 y).run Try.prog q.w = .ok (.string (strN Y.1)) q.w := fun q => conv_own (own_below ho9z q.below)
      have V2 : ∀ q : Kept wz.heap.size wz, (convert 22 9 z).run Try.prog q.w = .ok (.string (strN Y.1)) q.w := fun q => conv_own (own_below hoz q.below)
      have V3 : ∀ q : Kept wz.heap.size wz, (convert 22 9 x).run Try.prog q.w = .ok (.string SN) q.w := fun q => CX.out _ (hbd_z.trans (q.below.mono hbd_z.size))
      have HCQ : ∀ (q : Kept wz.heap.size wz) (b : Nat) (o : Nat) (u : Value), w6.cell? ⟨b, o, none⟩ = some u → q.w.cell? ⟨b, o, none⟩ = some u := fun q b o u h => by
        rw [(hbd_z.trans (q.below.mono hbd_z.size)).cell (World.block_lt_of_cell? _ _ h)]; exact h
      have q0 : ∀ q : Kept wz.heap.size wz, q.w.cell? ⟨B0, 0, none⟩ = some (.int .i64 t) := fun q => HCQ q _ _ _ d0
      have q1 : ∀ q : Kept wz.heap.size wz, q.w.cell? ⟨B0, 1, none⟩ = some (.int .i64 k) := fun q => HCQ q _ _ _ d1
      have q2 : ∀ q : Kept wz.heap.size wz, q.w.cell? ⟨B0, 2, none⟩ = some (.int .i64 n) := fun q => HCQ q _ _ _ d2
      have q3 : ∀ q : Kept wz.heap.size wz, q.w.cell? ⟨B0, 3, none⟩ = some (.string s) := fun q => HCQ q _ _ _ d3
      have q9 : ∀ q : Kept wz.heap.size wz, q.w.cell? ⟨g2, N, none⟩ = some (.int .u8 99) := fun q => HCQ q _ _ _ d9
      have A1 : Hid (∀ W, Below wz.heap.size wz W → Calls Try.prog 10 #[] W fun e W' => e = .returned (.bool true) ∧ Below wz.heap.size wz W') := fun W hW => (wawake_any W).mono fun e W' h => ⟨h.1, hW.trans (h.2.mono hW.size)⟩
      have A2 : Hid (∀ W, Below wz.heap.size wz W → Calls Try.prog 17 #[.agg #[.int .i64 t, .int .i64 k, .int .i64 n, .string s]] W fun e W' => e = .returned (.bool false) ∧ Below wz.heap.size wz W') := fun W hW => (checkV_any t k n s W).mono fun e W' h => ⟨by rw [h.1, HOK.out], hW.trans (h.2.mono hW.size)⟩
      have A3 : Hid (∀ W, Below wz.heap.size wz W → Calls Try.prog 12 #[.agg #[.int .i64 t, .int .i64 k, .int .i64 n, .string s]] W fun e W' => e = .returned (.bool false) ∧ Below wz.heap.size wz W') := fun W hW => (rcheckV_any t k n s W).mono fun e W' h => ⟨by rw [h.1, HOK.out], hW.trans (h.2.mono hW.size)⟩
      clear C9 ho9 hoz ho9z hbd_9 hbz HCQ CX HY d0 d1 d2 d3 d9
      generalize strN Y.1 = SY at *
      generalize Y.2 = EY at *
      have hbel : Below wz.heap.size wz wz := Below.refl _ _
      go_wp2_with fail
      haveI := nonempty_qb hbel
      refine wp_region_qb hbel (by kernel_rfl) (by kernel_rfl) ?_
      repeat (go_big_quiet_step (first
        | (go_at_call 17; exact qb_call A2.out)
        | (go_at_call 12; exact qb_call A3.out)
        | (go_at_call 10; exact qb_call A1.out)))
      refine wpQuiet_nil ?_
      rintro W' ⟨⟨_, hW⟩, rfl⟩
      have hbW : Below w.heap.size w W' := hbwz.trans (hW.mono hbwz.size)
      clear V1 V2 V3 q0 q1 q2 q3 q9 hbd_z hbwz
      go_wp2_with fail
      go_ret
      exact ⟨rfl, hbW⟩
    | true =>
      have CX6 : Hid (∀ V, Below w6.heap.size w6 V → (convert 22 9 x).run Try.prog V = .ok (.string (SN ++ strN fs)) V) := fun V hV => by have := HCX6.out V hV; simpa using this
      have hFS := strN_size fs
      have hfl : fs.length ≤ 4116 := by first | exact HFL.out rfl | exact HFL.out trivial | simpa using HFL.out
      have hfs : (strN fs).size ≤ 4116 := by omega
      clear HCX6 HFL hFS hfl
      go_wp2_with fail
      refine (HRF.out trivial _).mono ?_
      rintro e w7 ⟨v7, rfl, ho7, hb7⟩
      have hw7 : ∀ b o u, w6.cell? ⟨b, o, none⟩ = some u → w7.cell? ⟨b, o, none⟩ = some u := fun b o u h => by rw [hb7.cell (World.block_lt_of_cell? _ _ h)]; exact h
      replace d0 := hw7 _ _ _ d0
      replace d1 := hw7 _ _ _ d1
      replace d2 := hw7 _ _ _ d2
      replace d3 := hw7 _ _ _ d3
      replace d9 := hw7 _ _ _ d9
      have hbd7 : Below w.heap.size w w7 := hbd6.trans (hb7.mono hbd6.size)
      have V7 := conv_own ho7
      have CX : Hid (∀ V, Below w7.heap.size w7 V → (convert 22 9 x).run Try.prog V = .ok (.string (SN ++ strN fs)) V) := fun V hV => CX6.out V (hb7.trans (hV.mono hb7.size))
      clear CX6 HRF ho7 hw7 hb7 hbd6
      generalize strN fs = FS at *
      go_wp2_with fail
      refine (raws_any a2 rs N2 cap2' w7 HR2.out.len (by omega) HR2.out.nil (HR2.out.holds.below hbd7)).mono ?_
      rintro e w8 ⟨r8, rfl, ho8, hb8⟩
      have C8 : Hid (Calls Try.prog 14 #[r8] w8 fun e w' => ∃ v, e = .returned (.tuple #[v, .int .i64 (Y.2 : Int)]) ∧ w'.ownsRow w8.heap.size 5 1 v Y.1.length (byteCells Y.1) ∧ Below w8.heap.size w8 w') := by rw [← HY.out]; exact putall_own ho8 (by rw [HR2.out.len]; omega) HR2.out.n64
      have hbd_8 : Below w7.heap.size w7 w8 := hb8
      clear ho8 hb8
      go_wp2_with fail
      refine C8.out.mono ?_
      rintro e w9 ⟨y, rfl, ho9, hb9⟩
      have hbd_9 : Below w7.heap.size w7 w9 := hbd_8.trans (hb9.mono hbd_8.size)
      have hbw9 : Below w.heap.size w w9 := hbd7.trans (hbd_9.mono hbd7.size)
      have C9 : Hid (Calls Try.prog 16 #[.slice a2 N2 cap2'] w9 fun e w' => ∃ v, e = .returned (.tuple #[v, .int .i64 (Y.2 : Int)]) ∧ w'.ownsRow w9.heap.size 5 1 v Y.1.length (byteCells Y.1) ∧ Below w9.heap.size w9 w') := by
        rw [← HY.out]
        exact rputall_any a2 rs N2 cap2' w9 HR2.out.len HR2.out.adr HR2.out.le HR2.out.max (by omega) (HR2.out.holds.below hbw9) HR2.out.n64
      clear C8 hbd_8 hb9
      go_wp2_with fail
      refine C9.out.mono ?_
      rintro e wz ⟨z, rfl, hoz, hbz⟩
      have hbd_z : Below w7.heap.size w7 wz := hbd_9.trans (hbz.mono hbd_9.size)
      have hbwz : Below w.heap.size w wz := hbd7.trans (hbd_z.mono hbd7.size)
      have ho9z := own_below ho9 hbz
      have V1 : ∀ q : Kept wz.heap.size wz, (convert 22 9 y).run Try.prog q.w = .ok (.string (strN Y.1)) q.w := fun q => conv_own (own_below ho9z q.below)
      have V2 : ∀ q : Kept wz.heap.size wz, (convert 22 9 z).run Try.prog q.w = .ok (.string (strN Y.1)) q.w := fun q => conv_own (own_below hoz q.below)
      have V3 : ∀ q : Kept wz.heap.size wz, (convert 22 9 x).run Try.prog q.w = .ok (.string (SN ++ FS)) q.w := fun q => CX.out _ (hbd_z.trans (q.below.mono hbd_z.size))
      have HCQ : ∀ (q : Kept wz.heap.size wz) (b : Nat) (o : Nat) (u : Value), w7.cell? ⟨b, o, none⟩ = some u → q.w.cell? ⟨b, o, none⟩ = some u := fun q b o u h => by
        rw [(hbd_z.trans (q.below.mono hbd_z.size)).cell (World.block_lt_of_cell? _ _ h)]; exact h
      have q0 : ∀ q : Kept wz.heap.size wz, q.w.cell? ⟨B0, 0, none⟩ = some (.int .i64 t) := fun q => HCQ q _ _ _ d0
      have q1 : ∀ q : Kept wz.heap.size wz, q.w.cell? ⟨B0, 1, none⟩ = some (.int .i64 k) := fun q => HCQ q _ _ _ d1
      have q2 : ∀ q : Kept wz.heap.size wz, q.w.cell? ⟨B0, 2, none⟩ = some (.int .i64 n) := fun q => HCQ q _ _ _ d2
      have q3 : ∀ q : Kept wz.heap.size wz, q.w.cell? ⟨B0, 3, none⟩ = some (.string s) := fun q => HCQ q _ _ _ d3
      have q9 : ∀ q : Kept wz.heap.size wz, q.w.cell? ⟨g2, N, none⟩ = some (.int .u8 99) := fun q => HCQ q _ _ _ d9
      have A1 : Hid (∀ W, Below wz.heap.size wz W → Calls Try.prog 10 #[] W fun e W' => e = .returned (.bool true) ∧ Below wz.heap.size wz W') := fun W hW => (wawake_any W).mono fun e W' h => ⟨h.1, hW.trans (h.2.mono hW.size)⟩
      have A2 : Hid (∀ W, Below wz.heap.size wz W → Calls Try.prog 17 #[.agg #[.int .i64 t, .int .i64 k, .int .i64 n, .string s]] W fun e W' => e = .returned (.bool true) ∧ Below wz.heap.size wz W') := fun W hW => (checkV_any t k n s W).mono fun e W' h => ⟨by rw [h.1, HOK.out], hW.trans (h.2.mono hW.size)⟩
      have A3 : Hid (∀ W, Below wz.heap.size wz W → Calls Try.prog 12 #[.agg #[.int .i64 t, .int .i64 k, .int .i64 n, .string s]] W fun e W' => e = .returned (.bool true) ∧ Below wz.heap.size wz W') := fun W hW => (rcheckV_any t k n s W).mono fun e W' h => ⟨by rw [h.1, HOK.out], hW.trans (h.2.mono hW.size)⟩
      clear C9 ho9 hoz ho9z hbd_9 hbz HCQ CX HY d0 d1 d2 d3 d9
      generalize strN Y.1 = SY at *
      generalize Y.2 = EY at *
      have hbel : Below wz.heap.size wz wz := Below.refl _ _
      go_wp2_with fail
      haveI := nonempty_qb hbel
      refine wp_region_qb hbel (by kernel_rfl) (by kernel_rfl) ?_
      repeat (go_big_quiet_step (first
        | (go_at_call 17; exact qb_call A2.out)
        | (go_at_call 12; exact qb_call A3.out)
        | (go_at_call 10; exact qb_call A1.out)))
      refine wpQuiet_nil ?_
      rintro W' ⟨⟨_, hW⟩, rfl⟩
      have hbW : Below w.heap.size w W' := hbwz.trans (hW.mono hbwz.size)
      clear V1 V2 V3 q0 q1 q2 q3 q9 hbd_z hbwz
      go_wp2_with fail
      go_ret
      exact ⟨rfl, hbW⟩

theorem wirePuts_walk (a : Option Addr) (N cap : Nat) (zs : List Int) (r : Fd) (a2 : Option Addr) (N2 cap2 : Nat) (rs : List Fd) (w : World) (hz : IsRow .u8 w a N cap zs) (hb : cap * Try.prog.bytesOf 5 ≤ 140737488351232) (hr : Is64 r.tag ∧ Is64 r.wire ∧ Is64 r.n) (h2 : CameR w a2 N2 cap2 rs) :
    Calls Try.prog 3 #[.slice a N cap, r.val, .slice a2 N2 cap2] w fun e w' => e = .returned (.bool true) ∧ Below w.heap.size w w' := by
  obtain ⟨ns, hc⟩ := row_in hz hb
  exact puts_walk a N cap ns r a2 N2 cap2 rs w hc hr.2.2 h2
end Go.Proofs.Ytfbekeebllcdbaa
