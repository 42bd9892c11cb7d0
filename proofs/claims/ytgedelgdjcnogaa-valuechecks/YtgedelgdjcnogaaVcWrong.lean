/- Whether a rest may be; isWrong. -/
import Derived.Test.YtgedelgdjcnogaaVcKind
import Derived.Test.YtgedelgdjcnogaaFdLeaf
import Derived.Test.YtgedelgdjcnogaaSoRis
namespace Go.Proofs.Ytgedelgdjcnogaa
open Go.ChangeShapes Go.WideShapes Go.ChangeAt Go.RowKit
set_option linter.unusedVariables false
set_option linter.unusedSimpArgs false
set_option maxRecDepth 20000

theorem rowG_holdsR {w : World} {a : Option Addr} {N cap : Nat} {l : List Fd} (h : RowG w (.slice a N cap) 4 (fdRows l)) : HoldsR w a l := by
  obtain ⟨a', cap', e, _, _, _, h4⟩ := h.form
  simp only [Value.slice.injEq] at e
  obtain ⟨rfl, _, _⟩ := e
  intro b hb j u hu
  rw [rawCells_flat] at hu
  obtain ⟨i, c, k, h1, h2, rfl⟩ := flat_inv (fdRows l) (fdr_len l) j u hu
  obtain ⟨g, off, e, hc⟩ := h4 (by intro e; rw [e] at h1; simp at h1)
  rw [hb] at e
  cases e
  have := hc i c u k h1 h2
  rw [Nat.add_assoc] at this
  rw [Addr.add_lit]
  exact this
theorem rest_all {l : List Fd} {p : Fd → Bool} {i : Nat} {f : Fd} (h : ∀ x ∈ l.take i, p x = true) (hf : l[i]? = some f) (hp : p f = true) : ∀ x ∈ l.take (i + 1), p x = true := by
  rw [take_atQ hf]
  intro x hx
  rcases List.mem_append.1 hx with hx | hx
  · exact h x hx
  · obtain rfl : x = f := by simpa using hx
    exact hp
set_option maxHeartbeats 2000000 in
theorem restMayBe_any (n : Nat) (v ve : Value) (l : List Fd) (es : List (Int × List Tr)) (w : World) (h : RowG w v 4 (fdRows l)) (he : EnsQ n w ve es) (hr : RisT es) (hl : es.length ≤ 1000000) :
    Calls Try.prog 53 #[v, ve] w fun e w' => e = .returned (.bool (restB l es)) ∧ Below w.heap.size w w' := by
  obtain ⟨a, cap, rfl, h1, h2, h3, -, -⟩ := rest_holds h
  obtain ⟨N, hN⟩ : ∃ N, l.length = N := ⟨_, rfl⟩
  obtain ⟨R, hR⟩ : ∃ R, restB l es = R := ⟨_, rfl⟩
  rw [hR]
  rw [hN] at h1 ⊢
  have HH : Hid (RowG w (.slice a N cap) 4 (fdRows l)) := (by rw [← hN]; exact h : RowG w (.slice a N cap) 4 (fdRows l))
  have HN : Hid (l.length = N) := hN
  have HR : Hid (restB l es = R) := hR
  have HT : Hid (∀ W tag, Below w.heap.size w W → Calls Try.prog 61 #[ve, .int .i64 tag] W fun e w' => e = .returned (.bool (hasB es tag)) ∧ Below W.heap.size W w') := fun W tag hW => hasTag_any n ve es tag W (he.belowEQ hW) hr hl
  have HRS : Hid (∀ W, Below w.heap.size w W → Calls Try.prog 62 #[.slice a N cap] W fun e w' => e = .returned (.bool (risesB l)) ∧ Below W.heap.size W w') := fun W hW => rising_any a l N cap W hN h3 h1 h2 (rowG_holdsR (HH.out.below hW))
  obtain ⟨pe, ce, rfl, -⟩ := RowP.open he
  unfold maxLen at h2
  generalize es.length = El at *
  clear h hN hR h3 he hr
  go_enter Try.func53, Try.ntmps53
  go_wp2_with fail
  go_loopw [9] (fun iv wr => ∃ i : Nat, iv = .int .i64 (i : Int) ∧ i ≤ N ∧ Hid (∀ f ∈ l.take i, (okF f && !hasB es f.tag) = true) ∧ Below w.heap.size w wr) (fun iv _ => N - (intOf iv).toNat)
  case atStart => exact ⟨0, rfl, by omega, (by simp : ∀ f ∈ l.take 0, (okF f && !hasB es f.tag) = true), Below.refl _ _⟩
  case round =>
    obtain ⟨i, rfl, hi, HI, hbel⟩ := hrel
    by_cases hlt : i < N
    · obtain ⟨f, hf⟩ : ∃ r, l[i]? = some r := ⟨_, List.getElem?_eq_getElem (by rw [HN.out]; exact hlt)⟩
      obtain ⟨g, off, rfl, cc⟩ := (HH.out.below hbel).get (show (fdRows l)[i]? = some f.cells by simp [fdRows, hf])
      have p0 := cc 0 _ rfl
      have p1 := cc 1 _ rfl
      have p2 := cc 2 _ rfl
      have p3 := cc 3 _ rfl
      simp only [Nat.add_zero] at p0
      have HF : Hid (l[i]? = some f) := hf
      have HM : Hid (f ∈ l) := List.mem_of_getElem? hf
      have HFO : Hid (okF f = okV f.tag f.wire f.n f.b) := (rfl : okF f = okV f.tag f.wire f.n f.b)
      have HTG : Hid (∀ W, Below w.heap.size w W → Calls Try.prog 61 #[.slice pe El ce, .int .i64 f.tag] W fun e w' => e = .returned (.bool (hasB es f.tag)) ∧ Below W.heap.size W w') := fun W hW => HT.out W f.tag hW
      clear cc hf
      obtain ⟨O, hO⟩ : ∃ O, okV f.tag f.wire f.n f.b = O := ⟨_, rfl⟩
      obtain ⟨B, hB⟩ : ∃ B, hasB es f.tag = B := ⟨_, rfl⟩
      have HO : Hid (okV f.tag f.wire f.n f.b = O) := hO
      have HB : Hid (hasB es f.tag = B) := hB
      have HCK : Hid (∀ W, Calls Try.prog 60 #[.agg #[.int .i64 f.tag, .int .i64 f.wire, .int .i64 f.n, .string f.b]] W fun e w' => e = .returned (.bool O) ∧ Below W.heap.size W w') := fun W => by rw [← hO]; exact checkV_any f.tag f.wire f.n f.b W
      rw [hB] at HTG
      clear hO hB
      generalize hft : f.tag = ft at *
      generalize hfw : f.wire = fw at *
      generalize hfn : f.n = fn at *
      generalize hfb : f.b = fb at *
      have HE : Hid (f.tag = ft ∧ f.wire = fw ∧ f.n = fn ∧ f.b = fb) := ⟨hft, hfw, hfn, hfb⟩
      clear hft hfw hfn hfb
      have hal : Below wr.heap.size wr (wr.alloc (Obj.cells #[.int .i64 ft, .int .i64 fw, .int .i64 fn, .string fb] 83)) := (Below.refl _ _).alloc (Nat.le_refl _) _
      have BE : Blk (wr.alloc (Obj.cells #[.int .i64 ft, .int .i64 fw, .int .i64 fn, .string fb] 83)) wr.heap.size #[.int .i64 ft, .int .i64 fw, .int .i64 fn, .string fb] 83 := Blk.new wr _ _
      go_wp2_with fail
      refine (HCK.out _).mono ?_
      rintro e w2 ⟨rfl, hb2⟩
      have hb3 : Below wr.heap.size wr w2 := hal.trans (hb2.mono hal.size)
      have hbw : Below w.heap.size w w2 := hbel.trans (hb3.mono hbel.size)
      have q0 := ((BE.below hb2).cell 0).trans rfl
      generalize wr.heap.size = bw at *
      clear hb2 hb3 hbel hal BE p0 p1 p2 p3 HCK
      cases O with
      | false =>
        obtain rfl : R = false := by
          rw [← HR.out, restB, Bool.and_eq_false_iff]
          left
          rw [List.all_eq_false]
          exact ⟨f, HM.out, by rw [HFO.out, HE.out.1, HO.out]; simp⟩
        go_wp2_with fail
        go_ret
        exact ⟨rfl, hbw⟩
      | true =>
        go_wp2_with fail
        refine (HTG.out _ hbw).mono ?_
        rintro e w4 ⟨rfl, hb4⟩
        have hbw4 : Below w.heap.size w w4 := hbw.trans (hb4.mono hbw.size)
        clear hb4 hbw HTG
        cases B with
        | true =>
          obtain rfl : R = false := by
            rw [← HR.out, restB, Bool.and_eq_false_iff]
            left
            rw [List.all_eq_false]
            exact ⟨f, HM.out, by rw [HE.out.1, HB.out]; simp⟩
          go_wp2_with fail
          go_ret
          exact ⟨rfl, hbw4⟩
        | false =>
          have HI2 : Hid (∀ f ∈ l.take (i + 1), (okF f && !hasB es f.tag) = true) := rest_all HI.out HF.out (by rw [HFO.out, HE.out.1, HO.out, HB.out]; rfl)
          go_wp2_with fail
          go_roundw
          case rel => exact ⟨i + 1, by go_num, by omega, HI2, hbw4⟩
          case measure => simp [intOf]; omega
    · have hall : R = risesB l := by
        have h5 := HI.out
        rw [List.take_of_length_le (by rw [HN.out]; omega)] at h5
        rw [← HR.out, restB, List.all_eq_true.2 h5]
        rfl
      have HRX : Hid (Calls Try.prog 62 #[.slice a N cap] wr fun e w' => e = .returned (.bool R) ∧ Below wr.heap.size wr w') := by
        rw [hall]; exact HRS.out wr hbel
      clear hall
      go_wp2_with fail
      refine HRX.out.mono ?_
      rintro e w2 ⟨rfl, hb2⟩
      have hbw : Below w.heap.size w w2 := hbel.trans (hb2.mono hbel.size)
      go_wp2_with fail
      go_ret
      exact ⟨rfl, hbw⟩
end Go.Proofs.Ytgedelgdjcnogaa
