/- ValueDepths answers true at every number. -/
import Derived.Test.YtkombjmookplpaaVoOf
import Derived.Test.YtkombjmookplpaaTvCopy
import Derived.Test.YtkombjmookplpaaVaTree
import Derived.Test.YtkombjmookplpaaVaKind
import Derived.Test.YtkombjmookplpaaVdMath
import Derived.Test.YtkombjmookplpaaLwPlaceV
namespace Go.Proofs.Ytkombjmookplpaa
open Go.ChangeShapes Go.WideShapes Go.ChangeAt Go.RowKit
set_option linter.unusedVariables false
set_option linter.unusedSimpArgs false
set_option maxRecDepth 20000

theorem TrV.v2d {n B : Nat} {w : World} {v : Value} {t : Tr} {bs : List Nat} (h : TrV n B w v t bs) : TrV2 n w v t := by
  obtain ⟨r, h1, h2, _⟩ := h
  exact ⟨r, h1, h2.trQ⟩
theorem TrO.inV {n B : Nat} {w : World} {r : List Value} {t : Tr} {bs : List Nat} (h : TrO n B w r t bs) : TrIn n w (.agg r.toArray) t := ⟨r, rfl, h.trC⟩
theorem TrO.inV2 {n B : Nat} {w : World} {r : List Value} {t : Tr} {bs : List Nat} (h : TrO n B w r t bs) : TrV2 n w (.agg r.toArray) t := ⟨r, rfl, h.trQ⟩
theorem VaO.oneK {n B : Nat} {w : World} {x : Value} {t : Tr} {bs : List Nat} (h : VaO n B w [x] t bs) : ∃ T u, x = .iface T u ∧ ∀ W, ∃ K : Int, (1 ≤ K ∧ K ≤ 3) ∧ Calls Try.prog 19 #[.agg #[.iface T u]] W fun e w' => e = .returned (.int .i64 K) ∧ Below W.heap.size W w' := by
  cases n with
  | zero => exact h.elim
  | succ n =>
    rcases h with ⟨h, _⟩ | ⟨h, _⟩ | ⟨g, vn, vr, rows, bss, h, _⟩
    · obtain rfl := (List.cons.inj h).1
      exact ⟨_, _, rfl, fun W => ⟨1, by omega, kind1_any _ W⟩⟩
    · obtain rfl := (List.cons.inj h).1
      exact ⟨_, _, rfl, fun W => ⟨2, by omega, kind2_any _ W⟩⟩
    · obtain rfl := (List.cons.inj h).1
      exact ⟨_, _, rfl, fun W => ⟨3, by omega, kind3_any _ W⟩⟩
set_option maxHeartbeats 4000000 in
theorem valueDepths_walk (n : Int) (hn : (Lit.int .i64 n).wf = true) (w : World) :
    Calls Try.prog 8 #[.int .i64 n] w fun e w' => e = .returned (.bool true) ∧ Below w.heap.size w w' := by
  obtain ⟨hn1, hn2⟩ := bounds_i64 hn
  have HP : Hid (∀ W, Calls Try.prog 30 #[.int .i64 n, .int .i64 30] W fun e w' => ∃ k : Nat, e = .returned (.int .i64 (k : Int)) ∧ (k : Int) < 30 ∧ w' = W) := fun W => lawPlace_any n 30 W hn1 hn2 (by omega) (by omega)
  clear hn hn1 hn2
  go_enter Try.func8, Try.ntmps8
  go_wp2_with fail
  refine (HP.out _).mono ?_
  rintro e w0 ⟨k, rfl, hk, rfl⟩
  clear HP
  have hk30 : k < 30 := by omega
  clear hk
  go_wp2_with fail
  have hb0 : Below w0.heap.size w0 (w0.alloc (Obj.cells #[.int .i64 1, .int .i64 5, .string ⟨#[]⟩, .slice none 0 0, .slice none 0 0] 25)) := (Below.refl _ _).alloc (Nat.le_refl _) _
  have HB0 : Hid (Blk (w0.alloc (Obj.cells #[.int .i64 1, .int .i64 5, .string ⟨#[]⟩, .slice none 0 0, .slice none 0 0] 25)) w0.heap.size #[.int .i64 1, .int .i64 5, .string ⟨#[]⟩, .slice none 0 0, .slice none 0 0] 25) := Blk.new w0 _ _
  have HT0 : Hid (TrO 1 (w0.heap.size + 1) (w0.alloc (Obj.cells #[.int .i64 1, .int .i64 5, .string ⟨#[]⟩, .slice none 0 0, .slice none 0 0] 25)) [.int .i64 1, .int .i64 5, .string ⟨#[]⟩, .slice none 0 0, .slice none 0 0] (chT 0) []) := ⟨_, _, [], [], rfl, (⟨by decide, by decide⟩ : Is64 1), (⟨by decide, by decide⟩ : Is64 5), (by decide : ByteArray.empty.size ≤ 140737488351232), by simp [Fd64, chT], World.ownsRow_nil _ _ _ _, RowO.nil _ _ _ _ _, rfl⟩
  generalize (w0.alloc (Obj.cells #[.int .i64 1, .int .i64 5, .string ⟨#[]⟩, .slice none 0 0, .slice none 0 0] 25)) = WA at *
  obtain ⟨bt, hbt⟩ : ∃ b, w0.heap.size = b := ⟨_, rfl⟩
  have HBT : Hid (w0.heap.size = bt) := hbt
  rw [hbt] at HB0 HT0 ⊢
  clear hbt
  go_loopw [5] (fun iv wr => ∃ (i : Nat) (K N : Int) (ca : Option Addr) (cn cc : Nat) (bs : List Nat), iv = .int .i64 (i : Int) ∧ i ≤ k ∧ Hid (Blk wr bt #[.int .i64 K, .int .i64 N, .string ⟨#[]⟩, .slice ca cn cc, .slice none 0 0] 25) ∧ Hid (TrO (i + 1) (bt + 1) wr [.int .i64 K, .int .i64 N, .string ⟨#[]⟩, .slice ca cn cc, .slice none 0 0] (chT i) bs) ∧ Hid (Apt (bt + 1) wr bs) ∧ Below w0.heap.size w0 wr) (fun iv _ => k - (intOf iv).toNat)
  case atStart => exact ⟨0, 1, 5, none, 0, 0, [], rfl, by omega, HB0, HT0, Apt.nil _ _, hb0⟩
  case round =>
    clear HB0 HT0 hb0
    obtain ⟨i, K, N, ca, cn, cc, bs, rfl, hi, HB, HT, HA, hbel⟩ := hrel
    have q0 := (HB.out.cell 0).trans rfl
    have q1 := (HB.out.cell 1).trans rfl
    have q2 := (HB.out.cell 2).trans rfl
    have q3 := (HB.out.cell 3).trans rfl
    have q4 := (HB.out.cell 4).trans rfl
    have hbl := HB.out.lt
    by_cases hlt : i < k
    · have z0 := HB.out.froz 0
      have z1 := HB.out.froz 1
      have z2 := HB.out.froz 2
      have z3 := HB.out.froz 3
      have z4 := HB.out.froz 4
      go_wp2_with fail
      go_roundw
      case rel =>
        have B1 : Blk (wr.setCell ⟨bt, 0, none⟩ (.int .i64 3)) bt #[.int .i64 3, .int .i64 N, .string ⟨#[]⟩, .slice ca cn cc, .slice none 0 0] 25 := HB.out.set 0 _ rfl
        have B2 : Blk ((wr.setCell ⟨bt, 0, none⟩ (.int .i64 3)).setCell ⟨bt, 1, none⟩ (.int .i64 0)) bt #[.int .i64 3, .int .i64 0, .string ⟨#[]⟩, .slice ca cn cc, .slice none 0 0] 25 := B1.set 1 _ rfl
        have B3 : Blk (((wr.setCell ⟨bt, 0, none⟩ (.int .i64 3)).setCell ⟨bt, 1, none⟩ (.int .i64 0)).setCell ⟨bt, 2, none⟩ (.string ⟨#[]⟩)) bt #[.int .i64 3, .int .i64 0, .string ⟨#[]⟩, .slice ca cn cc, .slice none 0 0] 25 := B2.set 2 _ rfl
        have B4 : Blk ((((wr.setCell ⟨bt, 0, none⟩ (.int .i64 3)).setCell ⟨bt, 1, none⟩ (.int .i64 0)).setCell ⟨bt, 2, none⟩ (.string ⟨#[]⟩)).setCell ⟨bt, 3, none⟩ (.slice (some ⟨wr.heap.size + 1, 0, none⟩) 1 1)) bt #[.int .i64 3, .int .i64 0, .string ⟨#[]⟩, .slice (some ⟨wr.heap.size + 1, 0, none⟩) 1 1, .slice none 0 0] 25 := B3.set 3 _ rfl
        have B5 : Blk (((((wr.setCell ⟨bt, 0, none⟩ (.int .i64 3)).setCell ⟨bt, 1, none⟩ (.int .i64 0)).setCell ⟨bt, 2, none⟩ (.string ⟨#[]⟩)).setCell ⟨bt, 3, none⟩ (.slice (some ⟨wr.heap.size + 1, 0, none⟩) 1 1)).setCell ⟨bt, 4, none⟩ (.slice none 0 0)) bt #[.int .i64 3, .int .i64 0, .string ⟨#[]⟩, .slice (some ⟨wr.heap.size + 1, 0, none⟩) 1 1, .slice none 0 0] 25 := B4.set 4 _ rfl
        have KS : Kp (fun q => q = bt) wr (((((wr.setCell ⟨bt, 0, none⟩ (.int .i64 3)).setCell ⟨bt, 1, none⟩ (.int .i64 0)).setCell ⟨bt, 2, none⟩ (.string ⟨#[]⟩)).setCell ⟨bt, 3, none⟩ (.slice (some ⟨wr.heap.size + 1, 0, none⟩) 1 1)).setCell ⟨bt, 4, none⟩ (.slice none 0 0)) := by
          refine Kp.setCell ?_ (fun _ => by simp) _
          refine Kp.setCell ?_ (fun _ => by simp) _
          refine Kp.setCell ?_ (fun _ => by simp) _
          refine Kp.setCell ?_ (fun _ => by simp) _
          refine Kp.setCell ?_ (fun _ => by simp) _
          exact Kp.refl _ _
        have hz : (((((wr.setCell ⟨bt, 0, none⟩ (.int .i64 3)).setCell ⟨bt, 1, none⟩ (.int .i64 0)).setCell ⟨bt, 2, none⟩ (.string ⟨#[]⟩)).setCell ⟨bt, 3, none⟩ (.slice (some ⟨wr.heap.size + 1, 0, none⟩) 1 1)).setCell ⟨bt, 4, none⟩ (.slice none 0 0)).heap.size = wr.heap.size := by simp
        clear B1 B2 B3 B4
        generalize (((((wr.setCell ⟨bt, 0, none⟩ (.int .i64 3)).setCell ⟨bt, 1, none⟩ (.int .i64 0)).setCell ⟨bt, 2, none⟩ (.string ⟨#[]⟩)).setCell ⟨bt, 3, none⟩ (.slice (some ⟨wr.heap.size + 1, 0, none⟩) 1 1)).setCell ⟨bt, 4, none⟩ (.slice none 0 0)) = WS at B5 KS hz ⊢
        have HTs : TrO (i + 1) (bt + 1) WS [.int .i64 K, .int .i64 N, .string ⟨#[]⟩, .slice ca cn cc, .slice none 0 0] (chT i) bs := HT.out.sm fun q hq => KS.block q (HA.out.2 q hq).2 (fun e => by have := (HA.out.2 q hq).1; omega)
        have HAs : Apt (bt + 1) WS bs := HA.out.mono KS.size
        have hbS : Below w0.heap.size w0 WS := hbel.trans (KS.toBelow hbel.size (fun q e => by have := HBT.out; omega))
        clear KS HT HA HB hbel q0 q1 q2 q3 q4 z0 z1 z2 z3 z4
        obtain ⟨p, hp⟩ : ∃ p, wr.heap.size = p := ⟨_, rfl⟩
        rw [hp] at hz hbl B5 ⊢
        have alB : Below WS.heap.size WS ((WS.alloc (Obj.cells #[.int .i64 K, .int .i64 N, .string ⟨#[]⟩, .slice ca cn cc, .slice none 0 0] 25)).alloc (Obj.cells #[.int .i64 (1 + (i : Int) % 9), .slice (some ⟨p, 0, none⟩) 1 1] 50)) := ((Below.refl _ _).alloc (Nat.le_refl _) _).alloc (by simp) _
        have BA : Blk ((WS.alloc (Obj.cells #[.int .i64 K, .int .i64 N, .string ⟨#[]⟩, .slice ca cn cc, .slice none 0 0] 25)).alloc (Obj.cells #[.int .i64 (1 + (i : Int) % 9), .slice (some ⟨p, 0, none⟩) 1 1] 50)) p #[.int .i64 K, .int .i64 N, .string ⟨#[]⟩, .slice ca cn cc, .slice none 0 0] 25 := by
          have := (Blk.new WS #[.int .i64 K, .int .i64 N, .string ⟨#[]⟩, .slice ca cn cc, .slice none 0 0] 25).below (w' := ((WS.alloc (Obj.cells #[.int .i64 K, .int .i64 N, .string ⟨#[]⟩, .slice ca cn cc, .slice none 0 0] 25)).alloc (Obj.cells #[.int .i64 (1 + (i : Int) % 9), .slice (some ⟨p, 0, none⟩) 1 1] 50))) ((Below.refl _ _).alloc (Nat.le_refl _) _)
          rwa [hz] at this
        have BB : Blk ((WS.alloc (Obj.cells #[.int .i64 K, .int .i64 N, .string ⟨#[]⟩, .slice ca cn cc, .slice none 0 0] 25)).alloc (Obj.cells #[.int .i64 (1 + (i : Int) % 9), .slice (some ⟨p, 0, none⟩) 1 1] 50)) (p + 1) #[.int .i64 (1 + (i : Int) % 9), .slice (some ⟨p, 0, none⟩) 1 1] 50 := by
          have := blk_new2T WS (Obj.cells #[.int .i64 K, .int .i64 N, .string ⟨#[]⟩, .slice ca cn cc, .slice none 0 0] 25) #[.int .i64 (1 + (i : Int) % 9), .slice (some ⟨p, 0, none⟩) 1 1] 50
          rwa [hz] at this
        have hU := ch_up (HTs.sm (Sm.below alB fun q hq => (HAs.2 q hq).2)) BA BB (by omega) (by omega) rfl
        have HA2 : Apt (bt + 1) ((WS.alloc (Obj.cells #[.int .i64 K, .int .i64 N, .string ⟨#[]⟩, .slice ca cn cc, .slice none 0 0] 25)).alloc (Obj.cells #[.int .i64 (1 + (i : Int) % 9), .slice (some ⟨p, 0, none⟩) 1 1] 50)) ([p + 1] ++ ([p] ++ bs)) := by
          refine (((HAs.new (w' := WS.alloc (Obj.cells #[.int .i64 K, .int .i64 N, .string ⟨#[]⟩, .slice ca cn cc, .slice none 0 0] 25)) (by omega) (by simp)).new (w' := ((WS.alloc (Obj.cells #[.int .i64 K, .int .i64 N, .string ⟨#[]⟩, .slice ca cn cc, .slice none 0 0] 25)).alloc (Obj.cells #[.int .i64 (1 + (i : Int) % 9), .slice (some ⟨p, 0, none⟩) 1 1] 50))) (by simp; omega) (by simp))).of_count fun q => ?_
          rw [show (WS.alloc (Obj.cells #[.int .i64 K, .int .i64 N, .string ⟨#[]⟩, .slice ca cn cc, .slice none 0 0] 25)).heap.size = p + 1 from by simp [hz], hz]
          simp only [List.count_append]
          omega
        exact ⟨i + 1, 3, 0, some ⟨p + 1, 0, none⟩, 1, 1, [p + 1] ++ ([p] ++ bs), by go_num, by omega, B5.below alB, hU, HA2, hbS.trans (alB.mono hbS.size)⟩
      case measure => simp [intOf]; omega
    · obtain rfl : i = k := by omega
      obtain ⟨t, ht⟩ : ∃ t, chT i = t := ⟨_, rfl⟩
      have FS : Hid (SmN (i + 1) t) := ht ▸ ch_sm i
      have FC : Hid (cntN (i + 1) t ≤ 1000) := by
        have := ch_cnt i
        rw [ht] at this
        exact (by omega : cntN (i + 1) t ≤ 1000)
      have FD : Hid (dpN (i + 1) t = i) := ht ▸ ch_dp i
      have FK : Hid (chkN (i + 1) t = decide (i ≤ 10)) := by
        have h1 := ch_dp i
        have h2 := ch_ok i
        rw [ht] at h1 h2
        exact (by rw [chkN, h1, h2, Bool.and_true] : chkN (i + 1) t = decide (i ≤ 10))
      rw [ht] at HT
      clear ht
      have HIN : Hid (TrIn (i + 1) wr (.agg #[.int .i64 K, .int .i64 N, .string ⟨#[]⟩, .slice ca cn cc, .slice none 0 0]) t) := HT.out.inV
      have HC : Hid (Calls Try.prog 11 #[.agg #[.int .i64 K, .int .i64 N, .string ⟨#[]⟩, .slice ca cn cc, .slice none 0 0]] wr (CopyP (i + 1) t wr)) := copy_any (i + 1) t _ wr HIN.out FS.out
      have HV2 : Hid (TrV2 (i + 1) wr (.agg #[.int .i64 K, .int .i64 N, .string ⟨#[]⟩, .slice ca cn cc, .slice none 0 0]) t) := HT.out.inV2
      go_wp2_with fail
      refine HC.out.mono ?_
      rintro e w2 ⟨xv, bs2, rfl, hX, hb2⟩
      have hbw2 : Below w0.heap.size w0 w2 := hbel.trans (hb2.mono hbel.size)
      have HO : Hid (Calls Try.prog 18 #[xv] w2 (OfP (i + 1) t w2)) := of_any (i + 1) t xv w2 hX.v2d (by omega) FC.out FS.out
      have HB2 : Hid (Blk w2 bt #[.int .i64 K, .int .i64 N, .string ⟨#[]⟩, .slice ca cn cc, .slice none 0 0] 25) := HB.out.below hb2
      have HVV : Hid (TrV2 (i + 1) w2 (.agg #[.int .i64 K, .int .i64 N, .string ⟨#[]⟩, .slice ca cn cc, .slice none 0 0]) t) := HV2.out.below hb2
      clear hX hb2 HC hbel HB HIN HV2 HT HA q0 q1 q2 q3 q4
      go_wp2_with fail
      refine HO.out.mono ?_
      rintro e w3 ⟨hOf, hb3⟩
      have hbw3 : Below w0.heap.size w0 w3 := hbw2.trans (hb3.mono hbw2.size)
      have HB3 : Hid (Blk w3 bt #[.int .i64 K, .int .i64 N, .string ⟨#[]⟩, .slice ca cn cc, .slice none 0 0] 25) := HB2.out.below hb3
      have HV3 : Hid (TrV2 (i + 1) w3 (.agg #[.int .i64 K, .int .i64 N, .string ⟨#[]⟩, .slice ca cn cc, .slice none 0 0]) t) := HVV.out.below hb3
      clear hb3 hbw2 HB2 HO HVV
      rw [FK.out] at hOf
      have HDP : Hid (∀ W, Below w3.heap.size w3 W → Calls Try.prog 14 #[.agg #[.int .i64 K, .int .i64 N, .string ⟨#[]⟩, .slice ca cn cc, .slice none 0 0]] W fun e w' => e = .returned (.int .i64 (i : Int)) ∧ Below W.heap.size W w') := fun W hW => by
        have := depth_any (i + 1) t _ W (HV3.out.below hW) (by omega) FC.out
        rw [FD.out] at this
        exact this
      have HCK : Hid (∀ W, Below w3.heap.size w3 W → Calls Try.prog 12 #[.agg #[.int .i64 K, .int .i64 N, .string ⟨#[]⟩, .slice ca cn cc, .slice none 0 0]] W fun e w' => e = .returned (.bool (decide (i ≤ 10))) ∧ Below W.heap.size W w') := fun W hW => by
        have := vcheck_any (i + 1) t _ W (HV3.out.below hW) (by omega) FC.out FS.out
        rw [FK.out] at this
        exact this
      clear FK FD FC HV3
      rcases hOf with ⟨hd, rfl⟩ | ⟨hd, x, bs3, rfl, hV, hA⟩
      · have hi10 : ¬ i ≤ 10 := by simpa using hd
        have hq10 : decide ((i : Int) ≤ 10) = false := by simp; omega
        have HCK2 : Hid (∀ W, Below w3.heap.size w3 W → Calls Try.prog 12 #[.agg #[.int .i64 K, .int .i64 N, .string ⟨#[]⟩, .slice ca cn cc, .slice none 0 0]] W fun e w' => e = .returned (.bool false) ∧ Below W.heap.size W w') := fun W hW => by
          have h := HCK.out W hW
          rwa [hd] at h
        clear HCK hd
        have hb4 : Below w3.heap.size w3 (w3.alloc (Obj.cells #[.nilIface] 34)) := (Below.refl _ _).alloc (Nat.le_refl _) _
        have HB4 : Hid (Blk (w3.alloc (Obj.cells #[.nilIface] 34)) bt #[.int .i64 K, .int .i64 N, .string ⟨#[]⟩, .slice ca cn cc, .slice none 0 0] 25) := HB3.out.below hb4
        have HX4 : Hid (Blk (w3.alloc (Obj.cells #[.nilIface] 34)) w3.heap.size #[.nilIface] 34) := Blk.new w3 _ _
        have hbw4 : Below w0.heap.size w0 (w3.alloc (Obj.cells #[.nilIface] 34)) := hbw3.trans (hb4.mono hbw3.size)
        have p0 := (HB4.out.cell 0).trans rfl
        have p1 := (HB4.out.cell 1).trans rfl
        have p2 := (HB4.out.cell 2).trans rfl
        have p3 := (HB4.out.cell 3).trans rfl
        have p4 := (HB4.out.cell 4).trans rfl
        go_wp2_with fail
        refine (HDP.out _ hb4).mono ?_
        rintro e w5 ⟨rfl, hb5⟩
        have HB5 : Hid (Blk w5 bt #[.int .i64 K, .int .i64 N, .string ⟨#[]⟩, .slice ca cn cc, .slice none 0 0] 25) := HB4.out.below hb5
        have HX5 : Hid (Blk w5 w3.heap.size #[.nilIface] 34) := HX4.out.below hb5
        have hb35 : Below w3.heap.size w3 w5 := hb4.trans (hb5.mono hb4.size)
        have hbw5 : Below w0.heap.size w0 w5 := hbw4.trans (hb5.mono hbw4.size)
        clear hb5 HB4 HX4 hb4 hbw4 p0 p1 p2 p3 p4 HDP
        have p0 := (HB5.out.cell 0).trans rfl
        have p1 := (HB5.out.cell 1).trans rfl
        have p2 := (HB5.out.cell 2).trans rfl
        have p3 := (HB5.out.cell 3).trans rfl
        have p4 := (HB5.out.cell 4).trans rfl
        go_wp2_with fail
        refine (HCK2.out _ hb35).mono ?_
        rintro e w6 ⟨rfl, hb6⟩
        have HX6 : Hid (Blk w6 w3.heap.size #[.nilIface] 34) := HX5.out.below hb6
        have hbw6 : Below w0.heap.size w0 w6 := hbw5.trans (hb6.mono hbw5.size)
        have hl6 : w3.heap.size < w6.heap.size := HX6.out.lt
        clear hb6 HB5 HX5 hbw5 p0 p1 p2 p3 p4 hb35 HCK2 HB3
        have p0 := (HX6.out.cell 0).trans rfl
        go_wp2_with fail
        refine (kind0_any _).mono ?_
        rintro e w7 ⟨rfl, hb7⟩
        have hbw7 : Below w0.heap.size w0 w7 := hbw6.trans (hb7.mono hbw6.size)
        clear hb7 hbw6 p0 HX6
        go_wp2_with fail
        refine (awake_any _).mono ?_
        rintro e w8 ⟨rfl, hb8⟩
        have hbw8 : Below w0.heap.size w0 w8 := hbw7.trans (hb8.mono hbw7.size)
        clear hb8 hbw7
        go_wp2_with fail
        go_ret
        exact ⟨rfl, hbw8⟩
      · obtain ⟨Ti, u, rfl, hK⟩ := hV.oneK
        have HKK : Hid (∀ W, ∃ K : Int, (1 ≤ K ∧ K ≤ 3) ∧ Calls Try.prog 19 #[.agg #[.iface Ti u]] W fun e w' => e = .returned (.int .i64 K) ∧ Below W.heap.size W w') := hK
        clear hV hA hK
        have hi10 : i ≤ 10 := by simpa using hd
        have hq10 : decide ((i : Int) ≤ 10) = true := by simp; omega
        have HCK2 : Hid (∀ W, Below w3.heap.size w3 W → Calls Try.prog 12 #[.agg #[.int .i64 K, .int .i64 N, .string ⟨#[]⟩, .slice ca cn cc, .slice none 0 0]] W fun e w' => e = .returned (.bool true) ∧ Below W.heap.size W w') := fun W hW => by
          have h := HCK.out W hW
          rwa [hd] at h
        clear HCK hd
        have hb4 : Below w3.heap.size w3 (w3.alloc (Obj.cells #[.iface Ti u] 34)) := (Below.refl _ _).alloc (Nat.le_refl _) _
        have HB4 : Hid (Blk (w3.alloc (Obj.cells #[.iface Ti u] 34)) bt #[.int .i64 K, .int .i64 N, .string ⟨#[]⟩, .slice ca cn cc, .slice none 0 0] 25) := HB3.out.below hb4
        have HX4 : Hid (Blk (w3.alloc (Obj.cells #[.iface Ti u] 34)) w3.heap.size #[.iface Ti u] 34) := Blk.new w3 _ _
        have hbw4 : Below w0.heap.size w0 (w3.alloc (Obj.cells #[.iface Ti u] 34)) := hbw3.trans (hb4.mono hbw3.size)
        have p0 := (HB4.out.cell 0).trans rfl
        have p1 := (HB4.out.cell 1).trans rfl
        have p2 := (HB4.out.cell 2).trans rfl
        have p3 := (HB4.out.cell 3).trans rfl
        have p4 := (HB4.out.cell 4).trans rfl
        go_wp2_with fail
        refine (HDP.out _ hb4).mono ?_
        rintro e w5 ⟨rfl, hb5⟩
        have HB5 : Hid (Blk w5 bt #[.int .i64 K, .int .i64 N, .string ⟨#[]⟩, .slice ca cn cc, .slice none 0 0] 25) := HB4.out.below hb5
        have HX5 : Hid (Blk w5 w3.heap.size #[.iface Ti u] 34) := HX4.out.below hb5
        have hb35 : Below w3.heap.size w3 w5 := hb4.trans (hb5.mono hb4.size)
        have hbw5 : Below w0.heap.size w0 w5 := hbw4.trans (hb5.mono hbw4.size)
        clear hb5 HB4 HX4 hb4 hbw4 p0 p1 p2 p3 p4 HDP
        have p0 := (HB5.out.cell 0).trans rfl
        have p1 := (HB5.out.cell 1).trans rfl
        have p2 := (HB5.out.cell 2).trans rfl
        have p3 := (HB5.out.cell 3).trans rfl
        have p4 := (HB5.out.cell 4).trans rfl
        go_wp2_with fail
        refine (HCK2.out _ hb35).mono ?_
        rintro e w6 ⟨rfl, hb6⟩
        have HX6 : Hid (Blk w6 w3.heap.size #[.iface Ti u] 34) := HX5.out.below hb6
        have hbw6 : Below w0.heap.size w0 w6 := hbw5.trans (hb6.mono hbw5.size)
        have hl6 : w3.heap.size < w6.heap.size := HX6.out.lt
        clear hb6 HB5 HX5 hbw5 p0 p1 p2 p3 p4 hb35 HCK2 HB3
        have p0 := (HX6.out.cell 0).trans rfl
        go_wp2_with fail
        obtain ⟨Kd, hKd, hKc⟩ := HKK.out w6
        have hKn : (Kd != 0) = true := by simp; omega
        refine hKc.mono ?_
        rintro e w7 ⟨rfl, hb7⟩
        have hbw7 : Below w0.heap.size w0 w7 := hbw6.trans (hb7.mono hbw6.size)
        clear hb7 hbw6 p0 HX6
        go_wp2_with fail
        refine (awake_any _).mono ?_
        rintro e w8 ⟨rfl, hb8⟩
        have hbw8 : Below w0.heap.size w0 w8 := hbw7.trans (hb8.mono hbw7.size)
        clear hb8 hbw7
        go_wp2_with fail
        go_ret
        exact ⟨rfl, hbw8⟩
end Go.Proofs.Ytkombjmookplpaa
