/- Whether a tree is one of a message. What Valid answers. What fieldOf, withoutEntry and Get answer. Two small schemas. The statements' own awake answers true. -/
import Derived.Test.YtiiegphbhfiffaaVlPackA
import Derived.Test.YtiiegphbhfiffaaCkFindMs
import Derived.Test.YtiiegphbhfiffaaVcCheck
import Derived.Test.YtiiegphbhfiffaaCkPack
import Derived.Test.YtiiegphbhfiffaaCkFindB
import Derived.Test.YtiiegphbhfiffaaBlkRow
/- Whether a tree is one of a message. -/
namespace Go.Proofs.Ytiiegphbhfiffaa
open Go.ChangeShapes Go.WideShapes Go.ChangeAt Go.RowKit
set_option linter.unusedVariables false
set_option linter.unusedSimpArgs false
set_option maxRecDepth 20000

theorem TrW.trI {n : Nat} {w : World} {t : Tr} {K N : Int} {S : ByteArray} {a1 a2 : Option Addr} {n1 c1 n2 c2 : Nat} (h : TrW n w (.agg #[.int .i64 K, .int .i64 N, .string S, .slice a1 n1 c1, .slice a2 n2 c2]) t) : TrI n w ⟨K, N, S, plOf (.slice a1 n1 c1), plOf (.slice a2 n2 c2)⟩ t := by
  obtain ⟨p1, p2, p3, p4, p5⟩ := h.parts
  obtain ⟨r, e, h⟩ := h
  have e1 : r = [.int .i64 K, .int .i64 N, .string S, .slice a1 n1 c1, .slice a2 n2 c2] := by simpa using congrArg (fun v => match v with | .agg a => a.toList | _ => []) e.symm
  subst e1
  refine ⟨.slice a1 n1 c1, .slice a2 n2 c2, by rw [idOf, p1, p2, p3], ?_⟩
  rw [p1, p2, p3]
  exact h
theorem flr_len5 (fs : List FlS) : ∀ r ∈ flRows fs, r.length = 5 := fun r hr => by
  simp only [flRows, List.mem_map] at hr
  obtain ⟨_, _, rfl⟩ := hr
  rfl
set_option maxHeartbeats 8000000 in
theorem message_step (s : ScS) (sn : ByteArray) (ma ea ta : Option Addr) (mn mc en ec tn tc b : Nat) (hl : ∀ m ∈ s.msgs, m.fields.length ≤ 20 ∧ m.reserved.length ≤ 40) (n : Nat) (IH : ∀ t nm v w, TrW n w v t → KnS s w b → ScIn w (.agg #[.string sn, .slice ma mn mc, .slice ea en ec, .slice ta tn tc]) s → Calls Try.prog 23 #[.agg #[.string sn, .slice ma mn mc, .slice ea en ec, .slice ta tn tc, .map (some b)], .string nm, v] w (MesP s (msgV n s nm t) b w))
    (t : Tr) (nm : ByteArray) (v : Value) (w : World) (ht : TrW (n + 1) w v t) (hk : KnS s w b) (hs : ScIn w (.agg #[.string sn, .slice ma mn mc, .slice ea en ec, .slice ta tn tc]) s) : Calls Try.prog 23 #[.agg #[.string sn, .slice ma mn mc, .slice ea en ec, .slice ta tn tc, .map (some b)], .string nm, v] w (MesP s (msgV (n + 1) s nm t) b w) := by
  have hmf : ∀ (fn : Fn) (first cap : Array Value) (w : World), (Instr.makeFunc fn first cap).run Try.prog w = .ok (.func fn first cap) w := fun _ _ _ _ => rfl
  obtain ⟨m, a1, c1, a2, c2, hmn, rfl, -, -, -, u1, u2, x1, x2, x3, x4, hr, he, hp1, hp2⟩ := ht.open
  obtain rfl : m = n := by omega
  obtain ⟨X, hX⟩ : ∃ X, msgV (m + 1) s nm t = X := ⟨_, rfl⟩
  have HV : Hid (msgV (m + 1) s nm t = X) := hX
  rw [hX]
  obtain ⟨K, hK⟩ : ∃ z, t.kind = z := ⟨_, rfl⟩
  obtain ⟨N, hN⟩ : ∃ z, t.n = z := ⟨_, rfl⟩
  obtain ⟨S, hS⟩ : ∃ z, t.s = z := ⟨_, rfl⟩
  obtain ⟨n1, hn1⟩ : ∃ z, t.es.length = z := ⟨_, rfl⟩
  obtain ⟨n2, hn2⟩ : ∃ z, t.rest.length = z := ⟨_, rfl⟩
  rw [hK, hN, hS, hn1, hn2] at ht ⊢
  rw [hn1] at he u1 x3
  rw [hn2] at hr x1 x4
  have HL : Hid (t.es.length = n1 ∧ t.rest.length = n2) := ⟨hn1, hn2⟩
  obtain ⟨⟨p1, m1⟩, hp1'⟩ : ∃ x, plOf (.slice a1 n1 c1) = x := ⟨_, rfl⟩
  obtain ⟨⟨p2, m2⟩, hp2'⟩ : ∃ x, plOf (.slice a2 n2 c2) = x := ⟨_, rfl⟩
  have HTI : Hid (TrI (m + 1) w ⟨K, N, S, (p1, m1), (p2, m2)⟩ t) := (by have h1 := ht.trI; rw [hp1', hp2'] at h1; exact h1 : TrI (m + 1) w ⟨K, N, S, (p1, m1), (p2, m2)⟩ t)
  have HIC : Hid (∀ W, Calls Try.prog 28 #[.agg #[.int .i64 K, .int .i64 N, .string S, .slice a1 n1 c1, .slice a2 n2 c2]] W fun e w' => e = .returned (.agg #[.int .i64 K, .int .i64 N, .string S, .pointer p1, .int .i64 (m1 : Int), .pointer p2, .int .i64 (m2 : Int)]) ∧ Below W.heap.size W w') := fun W => by
    have h1 := identity_any K N S a1 a2 n1 c1 n2 c2 W u1 u2 x3 x1 x2 x4
    rw [hp1', hp2'] at h1
    exact h1
  have HK : Hid (KnS s w b) := hk
  have HS : Hid (ScIn w (.agg #[.string sn, .slice ma mn mc, .slice ea en ec, .slice ta tn tc]) s) := hs
  have HE : Hid (EnsR m w (.slice a1 n1 c1) t.es) := he
  have HR : Hid (RowG w (.slice a2 n2 c2) 4 (fdRows t.rest)) := hr
  unfold maxLen at u2 x2
  have BF : Blk ((w.alloc (Obj.cells #[.string sn, .slice ma mn mc, .slice ea en ec, .slice ta tn tc, .map (some b)] 76)).alloc (Obj.cells #[.int .i64 K, .int .i64 N, .string S, .slice a1 n1 c1, .slice a2 n2 c2] 30)) w.heap.size #[.string sn, .slice ma mn mc, .slice ea en ec, .slice ta tn tc, .map (some b)] 76 := (Blk.new w _ _).below ((Below.refl _ _).alloc (Nat.le_refl _) _)
  have BT : Blk ((w.alloc (Obj.cells #[.string sn, .slice ma mn mc, .slice ea en ec, .slice ta tn tc, .map (some b)] 76)).alloc (Obj.cells #[.int .i64 K, .int .i64 N, .string S, .slice a1 n1 c1, .slice a2 n2 c2] 30)) (w.heap.size + 1) #[.int .i64 K, .int .i64 N, .string S, .slice a1 n1 c1, .slice a2 n2 c2] 30 := by
    have := Blk.new (w.alloc (Obj.cells #[.string sn, .slice ma mn mc, .slice ea en ec, .slice ta tn tc, .map (some b)] 76)) #[.int .i64 K, .int .i64 N, .string S, .slice a1 n1 c1, .slice a2 n2 c2] 30
    rwa [show (w.alloc (Obj.cells #[.string sn, .slice ma mn mc, .slice ea en ec, .slice ta tn tc, .map (some b)] 76)).heap.size = w.heap.size + 1 from by simp] at this
  have hbw : Below w.heap.size w ((w.alloc (Obj.cells #[.string sn, .slice ma mn mc, .slice ea en ec, .slice ta tn tc, .map (some b)] 76)).alloc (Obj.cells #[.int .i64 K, .int .i64 N, .string S, .slice a1 n1 c1, .slice a2 n2 c2] 30)) := ((Below.refl _ _).alloc (Nat.le_refl _) _).alloc (by simp) _
  clear hX hK hN hS hn1 hn2 hp1' hp2' hp1 hp2 x3 x4 hr he hk hs ht hmn
  go_enter Try.func23, Try.ntmps23
  go_wp2_with fail
  refine (HIC.out _).mono ?_
  rintro ee w1 ⟨rfl, hb1⟩
  have hbw1 : Below w.heap.size w w1 := hbw.trans (hb1.mono hbw.size)
  have al2 : Below w1.heap.size w1 (w1.alloc (Obj.cells #[.string nm, .int .i64 K, .int .i64 N, .string S, .pointer p1, .int .i64 (m1 : Int), .pointer p2, .int .i64 (m2 : Int)] 111)) := (Below.refl _ _).alloc (Nat.le_refl _) _
  have al3 : Below w1.heap.size w1 ((w1.alloc (Obj.cells #[.string nm, .int .i64 K, .int .i64 N, .string S, .pointer p1, .int .i64 (m1 : Int), .pointer p2, .int .i64 (m2 : Int)] 111)).alloc (Obj.cells #[] 112)) := al2.alloc al2.size _
  have hbw2 : Below w.heap.size w (w1.alloc (Obj.cells #[.string nm, .int .i64 K, .int .i64 N, .string S, .pointer p1, .int .i64 (m1 : Int), .pointer p2, .int .i64 (m2 : Int)] 111)) := hbw1.trans (al2.mono hbw1.size)
  have hbw3 : Below w.heap.size w ((w1.alloc (Obj.cells #[.string nm, .int .i64 K, .int .i64 N, .string S, .pointer p1, .int .i64 (m1 : Int), .pointer p2, .int .i64 (m2 : Int)] 111)).alloc (Obj.cells #[] 112)) := hbw1.trans (al3.mono hbw1.size)
  have BF2 : Blk (w1.alloc (Obj.cells #[.string nm, .int .i64 K, .int .i64 N, .string S, .pointer p1, .int .i64 (m1 : Int), .pointer p2, .int .i64 (m2 : Int)] 111)) w.heap.size #[.string sn, .slice ma mn mc, .slice ea en ec, .slice ta tn tc, .map (some b)] 76 := (BF.below hb1).below al2
  have BC2 : Blk (w1.alloc (Obj.cells #[.string nm, .int .i64 K, .int .i64 N, .string S, .pointer p1, .int .i64 (m1 : Int), .pointer p2, .int .i64 (m2 : Int)] 111)) w1.heap.size #[.string nm, .int .i64 K, .int .i64 N, .string S, .pointer p1, .int .i64 (m1 : Int), .pointer p2, .int .i64 (m2 : Int)] 111 := Blk.new w1 _ _
  have BF3 : Blk ((w1.alloc (Obj.cells #[.string nm, .int .i64 K, .int .i64 N, .string S, .pointer p1, .int .i64 (m1 : Int), .pointer p2, .int .i64 (m2 : Int)] 111)).alloc (Obj.cells #[] 112)) w.heap.size #[.string sn, .slice ma mn mc, .slice ea en ec, .slice ta tn tc, .map (some b)] 76 := (BF.below hb1).below al3
  have BT3 : Blk ((w1.alloc (Obj.cells #[.string nm, .int .i64 K, .int .i64 N, .string S, .pointer p1, .int .i64 (m1 : Int), .pointer p2, .int .i64 (m2 : Int)] 111)).alloc (Obj.cells #[] 112)) (w.heap.size + 1) #[.int .i64 K, .int .i64 N, .string S, .slice a1 n1 c1, .slice a2 n2 c2] 30 := (BT.below hb1).below al3
  have BC3 : Blk ((w1.alloc (Obj.cells #[.string nm, .int .i64 K, .int .i64 N, .string S, .pointer p1, .int .i64 (m1 : Int), .pointer p2, .int .i64 (m2 : Int)] 111)).alloc (Obj.cells #[] 112)) w1.heap.size #[.string nm, .int .i64 K, .int .i64 N, .string S, .pointer p1, .int .i64 (m1 : Int), .pointer p2, .int .i64 (m2 : Int)] 111 := BC2.below ((Below.refl _ _).alloc (Nat.le_refl _) _)
  obtain ⟨R, hlk, hR⟩ := (HK.out.below hbw2).look (nm := nm) (HTI.out.cel (Cel.ofBelow hbw2))
  have HR0 : Hid (R = true → X = 0) := fun h => by rw [← HV.out]; exact hR h
  have HLK : Hid ((Instr.lookup 74 (.map (some b)) (.agg #[.string nm, .int .i64 K, .int .i64 N, .string S, .pointer p1, .int .i64 (m1 : Int), .pointer p2, .int .i64 (m2 : Int)]) true).run Try.prog (w1.alloc (Obj.cells #[.string nm, .int .i64 K, .int .i64 N, .string S, .pointer p1, .int .i64 (m1 : Int), .pointer p2, .int .i64 (m2 : Int)] 111)) = .ok (.tuple #[.agg #[], .bool R]) (w1.alloc (Obj.cells #[.string nm, .int .i64 K, .int .i64 N, .string S, .pointer p1, .int .i64 (m1 : Int), .pointer p2, .int .i64 (m2 : Int)] 111))) := hlk
  have HK3 : Hid (KnS s ((w1.alloc (Obj.cells #[.string nm, .int .i64 K, .int .i64 N, .string S, .pointer p1, .int .i64 (m1 : Int), .pointer p2, .int .i64 (m2 : Int)] 111)).alloc (Obj.cells #[] 112)) b) := HK.out.below hbw3
  have HS3 : Hid (ScIn ((w1.alloc (Obj.cells #[.string nm, .int .i64 K, .int .i64 N, .string S, .pointer p1, .int .i64 (m1 : Int), .pointer p2, .int .i64 (m2 : Int)] 111)).alloc (Obj.cells #[] 112)) (.agg #[.string sn, .slice ma mn mc, .slice ea en ec, .slice ta tn tc]) s) := HS.out.below hbw3
  have HE3 : Hid (EnsR m ((w1.alloc (Obj.cells #[.string nm, .int .i64 K, .int .i64 N, .string S, .pointer p1, .int .i64 (m1 : Int), .pointer p2, .int .i64 (m2 : Int)] 111)).alloc (Obj.cells #[] 112)) (.slice a1 n1 c1) t.es) := HE.out.celE (Cel.ofBelow hbw3)
  have HRR3 : Hid (RowG ((w1.alloc (Obj.cells #[.string nm, .int .i64 K, .int .i64 N, .string S, .pointer p1, .int .i64 (m1 : Int), .pointer p2, .int .i64 (m2 : Int)] 111)).alloc (Obj.cells #[] 112)) (.slice a2 n2 c2) 4 (fdRows t.rest)) := HR.out.below hbw3
  have HTI3 : Hid (TrI (m + 1) ((w1.alloc (Obj.cells #[.string nm, .int .i64 K, .int .i64 N, .string S, .pointer p1, .int .i64 (m1 : Int), .pointer p2, .int .i64 (m2 : Int)] 111)).alloc (Obj.cells #[] 112)) ⟨K, N, S, (p1, m1), (p2, m2)⟩ t) := HTI.out.cel (Cel.ofBelow hbw3)
  have HKW : Hid (Kp (fun q => q = b) w ((w1.alloc (Obj.cells #[.string nm, .int .i64 K, .int .i64 N, .string S, .pointer p1, .int .i64 (m1 : Int), .pointer p2, .int .i64 (m2 : Int)] 111)).alloc (Obj.cells #[] 112))) := Kp.ofBelow hbw3
  have g4 := (BF2.cell 4).trans rfl
  have j0 := (BC2.cell 0).trans rfl
  have j1 := (BC2.cell 1).trans rfl
  have j2 := (BC2.cell 2).trans rfl
  have j3 := (BC2.cell 3).trans rfl
  have j4 := (BC2.cell 4).trans rfl
  have j5 := (BC2.cell 5).trans rfl
  have j6 := (BC2.cell 6).trans rfl
  have j7 := (BC2.cell 7).trans rfl
  clear hlk hR hb1 hbw hbw1 hbw2 hbw3 al2 al3 HK HS HE HR HTI HIC BF BT BF2 BC2
  cases R with
  | true =>
    have HX0 : Hid (0 = X) := (HR0.out rfl).symm
    go_wp2_with (first | (at_lookup; refine wpList_lookup_pl rfl _ _ rfl rfl rfl HLK.out ?_) | fail)
    go_ret
    exact MesP.of HX0.out HKW.out HK3.out
  | false =>
    obtain ⟨vm, ve, vt, hse, hms, -, -⟩ := HS3.out
    simp only [Value.agg.injEq, Array.mk.injEq, List.cons.injEq, and_true] at hse
    obtain ⟨hse0, rfl, rfl, rfl⟩ := hse
    have HMC : Hid (Calls Try.prog 21 #[.agg #[.string sn, .slice ma mn mc, .slice ea en ec, .slice ta tn tc], .string nm] ((w1.alloc (Obj.cells #[.string nm, .int .i64 K, .int .i64 N, .string S, .pointer p1, .int .i64 (m1 : Int), .pointer p2, .int .i64 (m2 : Int)] 111)).alloc (Obj.cells #[] 112)) fun e w' => ∃ vf vr, e = .returned (.tuple #[.agg #[.string ((msgOf s nm).getD zMs).name, vf, vr], .bool (msgOf s nm).isSome]) ∧ w'.ownsRow ((w1.alloc (Obj.cells #[.string nm, .int .i64 K, .int .i64 N, .string S, .pointer p1, .int .i64 (m1 : Int), .pointer p2, .int .i64 (m2 : Int)] 111)).alloc (Obj.cells #[] 112)).heap.size 49 5 vf ((msgOf s nm).getD zMs).fields.length (flRows ((msgOf s nm).getD zMs).fields).flatten ∧ w'.ownsRow ((w1.alloc (Obj.cells #[.string nm, .int .i64 K, .int .i64 N, .string S, .pointer p1, .int .i64 (m1 : Int), .pointer p2, .int .i64 (m2 : Int)] 111)).alloc (Obj.cells #[] 112)).heap.size 3 1 vr ((msgOf s nm).getD zMs).reserved.length (inRows ((msgOf s nm).getD zMs).reserved).flatten ∧ Below ((w1.alloc (Obj.cells #[.string nm, .int .i64 K, .int .i64 N, .string S, .pointer p1, .int .i64 (m1 : Int), .pointer p2, .int .i64 (m2 : Int)] 111)).alloc (Obj.cells #[] 112)).heap.size ((w1.alloc (Obj.cells #[.string nm, .int .i64 K, .int .i64 N, .string S, .pointer p1, .int .i64 (m1 : Int), .pointer p2, .int .i64 (m2 : Int)] 111)).alloc (Obj.cells #[] 112)) w') := cmessage_any hms hl
    clear hse0 hms
    have q0 := (BF3.cell 0).trans rfl
    have q1 := (BF3.cell 1).trans rfl
    have q2 := (BF3.cell 2).trans rfl
    have q3 := (BF3.cell 3).trans rfl
    obtain ⟨fs, hfs⟩ : ∃ z, ((msgOf s nm).getD zMs).fields = z := ⟨_, rfl⟩
    obtain ⟨mnm, hmnm⟩ : ∃ z, ((msgOf s nm).getD zMs).name = z := ⟨_, rfl⟩
    rw [hfs, hmnm] at HMC
    have HFS : Hid (((msgOf s nm).getD zMs).fields = fs) := hfs
    clear hfs hmnm
    generalize (msgOf s nm).isSome = okM at *
    go_wp2_with (first | (at_lookup; refine wpList_lookup_pl rfl _ _ rfl rfl rfl HLK.out ?_) | fail)
    refine HMC.out.mono ?_
    rintro ee w4 ⟨vf, vr, rfl, hof, hor, hb4⟩
    have hrf : RowG w4 vf 5 (flRows fs) := (RowG.own (flr_len5 fs) (by decide) hof).1
    obtain ⟨fa, fl, fc, rfl⟩ := row_slice hrf
    obtain ⟨ra, rc, hvr⟩ := own_form hor
    subst hvr
    obtain ⟨rl, hrl⟩ : ∃ z, ((msgOf s nm).getD zMs).reserved.length = z := ⟨_, rfl⟩
    rw [hrl]
    have al5 : Below w4.heap.size w4 (w4.alloc (Obj.cells #[.string mnm, .slice fa fl fc, .slice ra rl rc] 47)) := (Below.refl _ _).alloc (Nat.le_refl _) _
    have hb35 : Below ((w1.alloc (Obj.cells #[.string nm, .int .i64 K, .int .i64 N, .string S, .pointer p1, .int .i64 (m1 : Int), .pointer p2, .int .i64 (m2 : Int)] 111)).alloc (Obj.cells #[] 112)).heap.size ((w1.alloc (Obj.cells #[.string nm, .int .i64 K, .int .i64 N, .string S, .pointer p1, .int .i64 (m1 : Int), .pointer p2, .int .i64 (m2 : Int)] 111)).alloc (Obj.cells #[] 112)) (w4.alloc (Obj.cells #[.string mnm, .slice fa fl fc, .slice ra rl rc] 47)) := hb4.trans (al5.mono hb4.size)
    have BF5 : Blk (w4.alloc (Obj.cells #[.string mnm, .slice fa fl fc, .slice ra rl rc] 47)) w.heap.size #[.string sn, .slice ma mn mc, .slice ea en ec, .slice ta tn tc, .map (some b)] 76 := BF3.below hb35
    have BT5 : Blk (w4.alloc (Obj.cells #[.string mnm, .slice fa fl fc, .slice ra rl rc] 47)) (w.heap.size + 1) #[.int .i64 K, .int .i64 N, .string S, .slice a1 n1 c1, .slice a2 n2 c2] 30 := BT3.below hb35
    have BC5 : Blk (w4.alloc (Obj.cells #[.string mnm, .slice fa fl fc, .slice ra rl rc] 47)) w1.heap.size #[.string nm, .int .i64 K, .int .i64 N, .string S, .pointer p1, .int .i64 (m1 : Int), .pointer p2, .int .i64 (m2 : Int)] 111 := BC3.below hb35
    have BM5 : Blk (w4.alloc (Obj.cells #[.string mnm, .slice fa fl fc, .slice ra rl rc] 47)) w4.heap.size #[.string mnm, .slice fa fl fc, .slice ra rl rc] 47 := Blk.new w4 _ _
    have HK5 : Hid (KnS s (w4.alloc (Obj.cells #[.string mnm, .slice fa fl fc, .slice ra rl rc] 47)) b) := HK3.out.below hb35
    have HS5 : Hid (ScIn (w4.alloc (Obj.cells #[.string mnm, .slice fa fl fc, .slice ra rl rc] 47)) (.agg #[.string sn, .slice ma mn mc, .slice ea en ec, .slice ta tn tc]) s) := HS3.out.below hb35
    have HE5 : Hid (EnsR m (w4.alloc (Obj.cells #[.string mnm, .slice fa fl fc, .slice ra rl rc] 47)) (.slice a1 n1 c1) t.es) := HE3.out.celE (Cel.ofBelow hb35)
    have HRR5 : Hid (RowG (w4.alloc (Obj.cells #[.string mnm, .slice fa fl fc, .slice ra rl rc] 47)) (.slice a2 n2 c2) 4 (fdRows t.rest)) := HRR3.out.below hb35
    have HTI5 : Hid (TrI (m + 1) (w4.alloc (Obj.cells #[.string mnm, .slice fa fl fc, .slice ra rl rc] 47)) ⟨K, N, S, (p1, m1), (p2, m2)⟩ t) := HTI3.out.cel (Cel.ofBelow hb35)
    have HRF5 : Hid (RowG (w4.alloc (Obj.cells #[.string mnm, .slice fa fl fc, .slice ra rl rc] 47)) (.slice fa fl fc) 5 (flRows fs)) := hrf.below al5
    have HKW5 : Hid (Kp (fun q => q = b) w (w4.alloc (Obj.cells #[.string mnm, .slice fa fl fc, .slice ra rl rc] 47))) := HKW.out.trans (Kp.ofBelow hb35)
    have q3 := (BT5.cell 3).trans rfl
    have HVX : Hid (X = if errF (t.es.map (entV (msgV m s) fs)) ≠ 0 then errF (t.es.map (entV (msgV m s) fs)) else if (t.rest.any fun f => (fldOf fs f.tag).isSome) = true then 7 else 0) := (by rw [← HV.out, msgV, HFS.out] : X = _)
    clear hrl hof hor hrf hb4 al5 hb35 BF3 BT3 BC3 HK3 HS3 HE3 HRR3 HTI3 HMC HLK q0 q1 q2 g4 j0 j1 j2 j3 j4 j5 j6 j7 HKW
    obtain ⟨b0, hb0⟩ : ∃ z, w.heap.size = z := ⟨_, rfl⟩
    simp only [hb0] at BF5 BT5 q3 ⊢
    go_wp2_with fail
    clear q3
    generalize (w4.alloc (Obj.cells #[.string mnm, .slice fa fl fc, .slice ra rl rc] 47)) = W5 at *
    obtain ⟨bM, hbM⟩ : ∃ z, w4.heap.size = z := ⟨_, rfl⟩
    obtain ⟨bC, hbC⟩ : ∃ z, w1.heap.size = z := ⟨_, rfl⟩
    rw [hbM] at BM5
    rw [hbC] at BC5
    simp only [hbM, hbC]
    clear hbM hbC hb0
    go_loopw [37] (fun iv wr => ∃ i : Nat, iv = .int .i64 (i : Int) ∧ i ≤ n1 ∧ Hid (errF ((t.es.take i).map (entV (msgV m s) fs)) = 0) ∧ Kp (fun q => q = b) W5 wr ∧ Hid (KnS s wr b)) (fun iv _ => n1 - (intOf iv).toNat)
    case atStart => exact ⟨0, rfl, by omega, (by simp [errF] : errF ((t.es.take 0).map (entV (msgV m s) fs)) = 0), Kp.refl _ _, HK5⟩
    case round =>
      obtain ⟨i, rfl, hi, HI, hkp, HKR⟩ := hrel
      have hcel : Cel W5 wr := HK5.out.cel hkp
      have BFr := BF5.cel hcel
      have BMr := BM5.cel hcel
      have BTr := BT5.cel hcel
      have BCr := BC5.cel hcel
      by_cases hlt : i < n1
      · obtain ⟨e, hx⟩ : ∃ r, t.es[i]? = some r := ⟨_, List.getElem?_eq_getElem (by rw [HL.out.1]; exact hlt)⟩
        obtain ⟨gx, ox, xa, xc, rfl, y0, y1, -, hxt, hxc, hxm⟩ := ensR_get (HE5.out.celE hcel) hx
        have al : Below wr.heap.size wr (wr.alloc (Obj.cells #[.int .i64 e.1, .slice xa e.2.length xc] 61)) := (Below.refl _ _).alloc (Nat.le_refl _) _
        have htc := entry_step s sn ma ea ta mn mc en ec tn tc b m IH e fs mnm fa ra xa fl fc rl rc xc _ (hxt.celT (Cel.ofBelow al)) hxc hxm ((HRF5.out.cel hcel).below al) (HKR.out.below al) ((HS5.out.cel hcel).below al)
        obtain ⟨Y, hY⟩ : ∃ z, entV (msgV m s) fs e = z := ⟨_, rfl⟩
        have HY : Hid (entV (msgV m s) fs e = Y) := hY
        rw [hY] at htc
        obtain ⟨e1, he1⟩ : ∃ z, e.1 = z := ⟨_, rfl⟩
        obtain ⟨Xl, hXl⟩ : ∃ z, e.2.length = z := ⟨_, rfl⟩
        rw [he1, hXl] at htc al
        rw [he1] at y0
        rw [hXl] at y1
        have HTC : Hid (Calls Try.prog 43 #[.agg #[.string sn, .slice ma mn mc, .slice ea en ec, .slice ta tn tc, .map (some b)], .agg #[.string mnm, .slice fa fl fc, .slice ra rl rc], .agg #[.int .i64 e1, .slice xa Xl xc]] (wr.alloc (Obj.cells #[.int .i64 e1, .slice xa Xl xc] 61)) (MesP s Y b (wr.alloc (Obj.cells #[.int .i64 e1, .slice xa Xl xc] 61)))) := htc
        have HIX : Hid (t.es[i]? = some e) := hx
        have BFx := BFr.below al
        have BMx := BMr.below al
        have g0 := (BFx.cell 0).trans rfl
        have g1 := (BFx.cell 1).trans rfl
        have g2 := (BFx.cell 2).trans rfl
        have g3 := (BFx.cell 3).trans rfl
        have g4 := (BFx.cell 4).trans rfl
        have l0 := (BMx.cell 0).trans rfl
        have l1 := (BMx.cell 1).trans rfl
        have l2 := (BMx.cell 2).trans rfl
        clear hY he1 hXl hx hxt htc hxc hxm
        go_wp2_with fail
        refine Calls.mono HTC.out ?_
        rintro ee W6 ⟨rfl, hk6, hn6⟩
        have hkp6 : Kp (fun q => q = b) W5 W6 := (hkp.trans (Kp.ofBelow al)).trans hk6
        have HN6 : Hid (KnS s W6 b) := hn6
        have HKW6 : Hid (Kp (fun q => q = b) w W6) := HKW5.out.trans hkp6
        clear HTC hk6 hn6 BFx BMx g0 g1 g2 g3 g4 l0 l1 l2 y0 y1 al BFr BMr BTr BCr hkp HKR
        by_cases hY0 : Y = 0
        · subst hY0
          have HI2 : Hid (errF ((t.es.take (i + 1)).map (entV (msgV m s) fs)) = 0) := errF_on HIX.out HI.out HY.out
          clear HI
          go_wp2_with fail
          go_roundw
          case rel => exact ⟨i + 1, by go_num, by omega, HI2, hkp6, HN6⟩
          case measure => simp [intOf]; omega
        · have d4 : (Y != 0) = true := by simpa using hY0
          have HXY : Hid (Y = X) := (by
            have h1 : errF (t.es.map (entV (msgV m s) fs)) = Y := by rw [errF_hit HIX.out HI.out (by rw [HY.out]; exact hY0), HY.out]
            rw [HVX.out, h1, if_pos hY0] : Y = X)
          clear hY0
          go_wp2_with fail
          go_ret
          exact MesP.of HXY.out HKW6.out HN6.out
      · have HE0 : Hid (errF (t.es.map (entV (msgV m s) fs)) = 0) := (by
          have h1 := HI.out
          rw [List.take_of_length_le (by rw [HL.out.1]; omega)] at h1
          exact h1 : errF (t.es.map (entV (msgV m s) fs)) = 0)
        have z4 := (BTr.cell 4).trans rfl
        obtain ⟨B, hB⟩ : ∃ z, (t.rest.any fun f => (fldOf fs f.tag).isSome) = z := ⟨_, rfl⟩
        have HB : Hid ((t.rest.any fun f => (fldOf fs f.tag).isSome) = B) := hB
        have HCO : Hid (Calls Try.prog 44 #[.slice a2 n2 c2, .func (.func 45) #[] #[.pointer (some ⟨bM, 0, none⟩)]] wr fun e w' => e = .returned (.bool B) ∧ Below wr.heap.size wr w') := (by
          have h1 := containsR_any bM (.slice a2 n2 c2) t.rest wr (fun f => (fldOf fs f.tag).isSome) (HRR5.out.cel hcel) (fun W x hW _ => restc_any x (BMr.below hW) ((HRF5.out.cel hcel).below hW) ⟨_, _, _, rfl⟩)
          rw [hB] at h1
          exact h1 : Calls Try.prog _ _ wr _)
        clear hB HI BMr
        go_wp2_with fail
        refine HCO.out.mono ?_
        rintro ee w6 ⟨rfl, hb6⟩
        have HN6 : Hid (KnS s w6 b) := HKR.out.below hb6
        have HKW6 : Hid (Kp (fun q => q = b) w w6) := (HKW5.out.trans hkp).trans (Kp.ofBelow hb6)
        have BF6 := BFr.below hb6
        have BC6 := BCr.below hb6
        have HTI6 : Hid (TrI (m + 1) w6 ⟨K, N, S, (p1, m1), (p2, m2)⟩ t) := (HTI5.out.cel hcel).cel (Cel.ofBelow hb6)
        clear HCO hb6 z4 BTr BFr BCr hkp HKR hcel
        cases B with
        | true =>
          have HX7 : Hid (7 = X) := (by rw [HVX.out, HE0.out, if_neg (by simp), HB.out, if_pos rfl] : 7 = X)
          go_wp2_with fail
          go_ret
          exact MesP.of HX7.out HKW6.out HN6.out
        | false =>
          have HX0 : Hid (0 = X) := (by rw [HVX.out, HE0.out, if_neg (by simp), HB.out, if_neg (by simp)] : 0 = X)
          obtain ⟨w7, r1, r2, r3⟩ := HN6.out.update (nm := nm) HTI6.out (by rw [HV.out, ← HX0.out])
          have HUP : Hid ((Instr.mapUpdate 74 (.map (some b)) (.agg #[.string nm, .int .i64 K, .int .i64 N, .string S, .pointer p1, .int .i64 (m1 : Int), .pointer p2, .int .i64 (m2 : Int)]) (.agg #[])).run Try.prog w6 = .ok () w7) := r1
          have HN7 : Hid (KnS s w7 b) := r2
          have HKW7 : Hid (Kp (fun q => q = b) w w7) := HKW6.out.trans r3
          have g4 := (BF6.cell 4).trans rfl
          have j0 := (BC6.cell 0).trans rfl
          have j1 := (BC6.cell 1).trans rfl
          have j2 := (BC6.cell 2).trans rfl
          have j3 := (BC6.cell 3).trans rfl
          have j4 := (BC6.cell 4).trans rfl
          have j5 := (BC6.cell 5).trans rfl
          have j6 := (BC6.cell 6).trans rfl
          have j7 := (BC6.cell 7).trans rfl
          clear r1 r2 r3 BF6 BC6 HN6 HTI6
          go_wp2_with (first | (at_mapUpdate; refine wpList_update_pl rfl _ _ _ rfl rfl rfl rfl HUP.out ?_) | fail)
          go_ret
          exact MesP.of HX0.out HKW7.out HN7.out
theorem message_any (s : ScS) (sn : ByteArray) (ma ea ta : Option Addr) (mn mc en ec tn tc b : Nat) (hl : ∀ m ∈ s.msgs, m.fields.length ≤ 20 ∧ m.reserved.length ≤ 40) : ∀ (n : Nat) (t : Tr) (nm : ByteArray) (v : Value) (w : World), TrW n w v t → KnS s w b → ScIn w (.agg #[.string sn, .slice ma mn mc, .slice ea en ec, .slice ta tn tc]) s → Calls Try.prog 23 #[.agg #[.string sn, .slice ma mn mc, .slice ea en ec, .slice ta tn tc, .map (some b)], .string nm, v] w (MesP s (msgV n s nm t) b w)
  | 0, _, _, _, _, h, _, _ => by obtain ⟨r, _, h⟩ := h; exact h.elim
  | n + 1, t, nm, v, w, h, hk, hs => message_step s sn ma ea ta mn mc en ec tn tc b hl n (fun t nm v w h hk hs => message_any s sn ma ea ta mn mc en ec tn tc b hl n t nm v w h hk hs) t nm v w h hk hs
end Go.Proofs.Ytiiegphbhfiffaa
/- What Valid answers. -/
namespace Go.Proofs.Ytiiegphbhfiffaa
open Go.ChangeShapes Go.WideShapes Go.ChangeAt Go.RowKit
set_option linter.unusedVariables false
set_option linter.unusedSimpArgs false
set_option maxRecDepth 20000

theorem TrW.v2 {n : Nat} {w : World} {v : Value} {t : Tr} (h : TrW n w v t) : TrV2 n w v t := by
  obtain ⟨r, h1, h2⟩ := h
  exact ⟨r, h1, h2.trQ⟩
set_option maxHeartbeats 4000000 in
theorem fits_any {s : ScS} {vs v : Value} {n : Nat} {t : Tr} {nm : ByteArray} {w : World} (hs : ScIn w vs s) (hw : ScW s) (hf : FewL s) (ht : TrW n w v t) (hn : n ≤ 60) (hc : cntN n t ≤ 1000) (hsm : SmN n t) :
    Calls Try.prog 11 #[vs, .string nm, v] w fun e w' => e = .returned (.int .i64 (validA n s nm t)) ∧ Below w.heap.size w w' := by
  have hmm := @run_makeMap Try.prog
  obtain ⟨X, hX⟩ : ∃ X, validA n s nm t = X := ⟨_, rfl⟩
  have HV : Hid (validA n s nm t = X) := hX
  rw [hX]
  obtain ⟨m, a1, c1, a2, c2, -, rfl, -⟩ := ht.open
  have hs' := hs
  obtain ⟨vm, ve, vt, rfl, hms, hen, hmt⟩ := hs
  obtain ⟨ma, mc, rfl, -⟩ := hms.open
  obtain ⟨ea, ec, rfl, -⟩ := hen.open
  obtain ⟨ta, tn, tc, rfl⟩ := row_slice hmt
  have HFL : Hid (∀ m ∈ s.msgs, m.fields.length ≤ 20 ∧ m.reserved.length ≤ 40) := hf.flds
  generalize s.msgs.length = mn at *
  generalize s.enums.length = en at *
  generalize t.es.length = n1 at *
  generalize t.rest.length = n2 at *
  obtain ⟨K, hK⟩ : ∃ z, t.kind = z := ⟨_, rfl⟩
  obtain ⟨N, hN⟩ : ∃ z, t.n = z := ⟨_, rfl⟩
  obtain ⟨S, hS⟩ : ∃ z, t.s = z := ⟨_, rfl⟩
  obtain ⟨sn, hsn⟩ : ∃ z, s.name = z := ⟨_, rfl⟩
  have HT3 : Hid (t.kind = K) := hK
  rw [hK, hN, hS] at ht ⊢
  rw [hsn] at hs' ⊢
  have HCK : Hid (∀ W, Below w.heap.size w W → Calls Try.prog 20 #[.agg #[.string sn, .slice ma mn mc, .slice ea en ec, .slice ta tn tc]] W fun e w' => e = .returned (.int .i64 (checkA s)) ∧ Below W.heap.size W w') := fun W hW => check_any (hs'.below hW) hw hf
  have HMG : Hid (∀ W, Below w.heap.size w W → Calls Try.prog 21 #[.agg #[.string sn, .slice ma mn mc, .slice ea en ec, .slice ta tn tc], .string nm] W fun e w' => ∃ vf vr, e = .returned (.tuple #[.agg #[.string ((msgOf s nm).getD zMs).name, vf, vr], .bool (msgOf s nm).isSome]) ∧ (∃ a n c, vf = .slice a n c) ∧ (∃ a n c, vr = .slice a n c) ∧ Below W.heap.size W w') := fun W hW => by
    refine (cmessage_any (hms.below hW) HFL.out).mono ?_
    rintro e w' ⟨vf, vr, rfl, h1, h2, h3⟩
    obtain ⟨a, c, rfl⟩ := own_form h1
    obtain ⟨a', c', rfl⟩ := own_form h2
    exact ⟨_, _, rfl, ⟨_, _, _, rfl⟩, ⟨_, _, _, rfl⟩, h3⟩
  have HVC : Hid (∀ W, Below w.heap.size w W → Calls Try.prog 22 #[.agg #[.int .i64 K, .int .i64 N, .string S, .slice a1 n1 c1, .slice a2 n2 c2]] W fun e w' => e = .returned (.bool (chkN n t)) ∧ Below W.heap.size W w') := fun W hW => vcheck_any n t _ W ((ht.cel (Cel.ofBelow hW)).v2) hn hc hsm
  have HME : Hid (∀ W b, Below w.heap.size w W → KnS s W b → Calls Try.prog 23 #[.agg #[.string sn, .slice ma mn mc, .slice ea en ec, .slice ta tn tc, .map (some b)], .string nm, .agg #[.int .i64 K, .int .i64 N, .string S, .slice a1 n1 c1, .slice a2 n2 c2]] W (MesP s (msgV n s nm t) b W)) := fun W b hW hk => message_any s sn ma ea ta mn mc en ec tn tc b HFL.out n t nm _ W (ht.cel (Cel.ofBelow hW)) hk (hs'.below hW)
  have BS : Blk ((w.alloc (Obj.cells #[.string sn, .slice ma mn mc, .slice ea en ec, .slice ta tn tc] 26)).alloc (Obj.cells #[.int .i64 K, .int .i64 N, .string S, .slice a1 n1 c1, .slice a2 n2 c2] 30)) w.heap.size #[.string sn, .slice ma mn mc, .slice ea en ec, .slice ta tn tc] 26 := (Blk.new w _ _).below ((Below.refl _ _).alloc (Nat.le_refl _) _)
  have BT : Blk ((w.alloc (Obj.cells #[.string sn, .slice ma mn mc, .slice ea en ec, .slice ta tn tc] 26)).alloc (Obj.cells #[.int .i64 K, .int .i64 N, .string S, .slice a1 n1 c1, .slice a2 n2 c2] 30)) (w.heap.size + 1) #[.int .i64 K, .int .i64 N, .string S, .slice a1 n1 c1, .slice a2 n2 c2] 30 := by
    have := Blk.new (w.alloc (Obj.cells #[.string sn, .slice ma mn mc, .slice ea en ec, .slice ta tn tc] 26)) #[.int .i64 K, .int .i64 N, .string S, .slice a1 n1 c1, .slice a2 n2 c2] 30
    rwa [show (w.alloc (Obj.cells #[.string sn, .slice ma mn mc, .slice ea en ec, .slice ta tn tc] 26)).heap.size = w.heap.size + 1 from by simp] at this
  have hbw : Below w.heap.size w ((w.alloc (Obj.cells #[.string sn, .slice ma mn mc, .slice ea en ec, .slice ta tn tc] 26)).alloc (Obj.cells #[.int .i64 K, .int .i64 N, .string S, .slice a1 n1 c1, .slice a2 n2 c2] 30)) := ((Below.refl _ _).alloc (Nat.le_refl _) _).alloc (by simp) _
  clear hX hK hN hS hsn hs' hms hen hmt ht hw hf hn hc hsm
  go_enter Try.func11, Try.ntmps11
  go_wp2_with fail
  refine (HCK.out _ hbw).mono ?_
  rintro ee w1 ⟨rfl, hb1⟩
  have hbw1 : Below w.heap.size w w1 := hbw.trans (hb1.mono hbw.size)
  have BS1 := BS.below hb1
  have BT1 := BT.below hb1
  clear hb1 hbw BS BT HCK
  obtain ⟨A, hA⟩ : ∃ z, checkA s = z := ⟨_, rfl⟩
  have HA : Hid (checkA s = A) := hA
  rw [hA]
  clear hA
  by_cases hA0 : A = 0
  rotate_left
  · have d : (A != 0) = true := by simpa using hA0
    have HX1 : Hid (1 = X) := (by rw [← HV.out, validA, HA.out, if_pos hA0] : 1 = X)
    clear hA0
    go_wp2_with fail
    go_ret
    exact ⟨congrArg (fun z => Ending.returned (Value.int .i64 z)) HX1.out, hbw1⟩
  · subst hA0
    have f0 := (BS1.cell 0).trans rfl
    have f1 := (BS1.cell 1).trans rfl
    have f2 := (BS1.cell 2).trans rfl
    have f3 := (BS1.cell 3).trans rfl
    go_wp2_with fail
    refine (HMG.out _ hbw1).mono ?_
    rintro ee w2 ⟨vf, vr, rfl, ⟨fa, fl, fc, rfl⟩, ⟨ra, rl, rc, rfl⟩, hb2⟩
    obtain ⟨mnm, hmnm⟩ : ∃ z, ((msgOf s nm).getD zMs).name = z := ⟨_, rfl⟩
    obtain ⟨ok, hok⟩ : ∃ z, (msgOf s nm).isSome = z := ⟨_, rfl⟩
    have HOK : Hid ((msgOf s nm).isSome = ok) := hok
    rw [hmnm, hok]
    have al3 : Below w2.heap.size w2 (w2.alloc (Obj.cells #[.string mnm, .slice fa fl fc, .slice ra rl rc] 47)) := (Below.refl _ _).alloc (Nat.le_refl _) _
    have hbw2 : Below w.heap.size w w2 := hbw1.trans (hb2.mono hbw1.size)
    have hbw3 : Below w.heap.size w (w2.alloc (Obj.cells #[.string mnm, .slice fa fl fc, .slice ra rl rc] 47)) := hbw2.trans (al3.mono hbw2.size)
    have BS3 := (BS1.below hb2).below al3
    have BT3 := (BT1.below hb2).below al3
    have HVC3 : Hid (Calls Try.prog 22 #[.agg #[.int .i64 K, .int .i64 N, .string S, .slice a1 n1 c1, .slice a2 n2 c2]] (w2.alloc (Obj.cells #[.string mnm, .slice fa fl fc, .slice ra rl rc] 47)) fun e w' => e = .returned (.bool (chkN n t)) ∧ Below (w2.alloc (Obj.cells #[.string mnm, .slice fa fl fc, .slice ra rl rc] 47)).heap.size (w2.alloc (Obj.cells #[.string mnm, .slice fa fl fc, .slice ra rl rc] 47)) w') := HVC.out _ hbw3
    clear f0 f1 f2 f3 hmnm hok hb2 hbw1 hbw2 al3 BS1 BT1
    cases ok with
    | false =>
      have HX1 : Hid (14 = X) := (by rw [← HV.out, validA, HA.out, if_neg (by simp), if_pos HOK.out] : 14 = X)
      go_wp2_with fail
      go_ret
      exact ⟨congrArg (fun z => Ending.returned (Value.int .i64 z)) HX1.out, hbw3⟩
    | true =>
      have t0 := (BT3.cell 0).trans rfl
      have t1 := (BT3.cell 1).trans rfl
      have t2 := (BT3.cell 2).trans rfl
      have t3 := (BT3.cell 3).trans rfl
      have t4 := (BT3.cell 4).trans rfl
      go_wp2_with fail
      refine HVC3.out.mono ?_
      rintro ee w4 ⟨rfl, hb4⟩
      have hbw4 : Below w.heap.size w w4 := hbw3.trans (hb4.mono hbw3.size)
      have BS4 := BS3.below hb4
      have BT4 := BT3.below hb4
      clear t0 t1 t2 t3 t4 hb4 hbw3 BS3 BT3 HVC3
      have t0 := (BT4.cell 0).trans rfl
      obtain ⟨C, hC⟩ : ∃ z, chkN n t = z := ⟨_, rfl⟩
      have HC : Hid (chkN n t = C) := hC
      rw [hC]
      clear hC
      cases C with
      | false =>
        have HX1 : Hid (1 = X) := (by rw [← HV.out, validA, HA.out, if_neg (by simp), if_neg (by rw [HOK.out]; simp), if_pos (.inl HC.out)] : 1 = X)
        go_wp2_with fail
        go_ret
        exact ⟨congrArg (fun z => Ending.returned (Value.int .i64 z)) HX1.out, hbw4⟩
      | true =>
        by_cases hK3 : K = 3
        rotate_left
        · have d : (K != 3) = true := by simpa using hK3
          have HX1 : Hid (1 = X) := (by rw [← HV.out, validA, HA.out, if_neg (by simp), if_neg (by rw [HOK.out]; simp), if_pos (.inr (by rw [HT3.out]; exact hK3))] : 1 = X)
          clear hK3
          go_wp2_with fail
          go_ret
          exact ⟨congrArg (fun z => Ending.returned (Value.int .i64 z)) HX1.out, hbw4⟩
        · have d : (K != 3) = false := by simpa using hK3
          have HX1 : Hid (msgV n s nm t = X) := (by rw [← HV.out, validA, HA.out, if_neg (by simp), if_neg (by rw [HOK.out]; simp), if_neg (by rw [HC.out, HT3.out]; simp [hK3])] : msgV n s nm t = X)
          have alm : Below w4.heap.size w4 (w4.alloc (.map #[] 0)) := (Below.refl _ _).alloc (Nat.le_refl _) _
          have hbw5 : Below w.heap.size w (w4.alloc (.map #[] 0)) := hbw4.trans (alm.mono hbw4.size)
          have HM5 : Hid (Calls Try.prog 23 #[.agg #[.string sn, .slice ma mn mc, .slice ea en ec, .slice ta tn tc, .map (some w4.heap.size)], .string nm, .agg #[.int .i64 K, .int .i64 N, .string S, .slice a1 n1 c1, .slice a2 n2 c2]] (w4.alloc (.map #[] 0)) (MesP s X w4.heap.size (w4.alloc (.map #[] 0)))) := (by
            have h1 := HME.out (w4.alloc (.map #[] 0)) w4.heap.size hbw5 (KnS.made s w4)
            rw [HX1.out] at h1
            exact h1 : Calls Try.prog _ _ _ _)
          have BT5 := BT4.below alm
          have f0 := (BS4.cell 0).trans rfl
          have f1 := (BS4.cell 1).trans rfl
          have f2 := (BS4.cell 2).trans rfl
          have f3 := (BS4.cell 3).trans rfl
          have u0 := (BT5.cell 0).trans rfl
          have u1 := (BT5.cell 1).trans rfl
          have u2 := (BT5.cell 2).trans rfl
          have u3 := (BT5.cell 3).trans rfl
          have u4 := (BT5.cell 4).trans rfl
          have HLE : Hid (w.heap.size ≤ w4.heap.size) := hbw4.size
          clear hK3 HX1 HME HMG HVC BS4 BT4 BT5 alm hbw4
          go_wp2_with fail
          refine Calls.mono HM5.out ?_
          rintro ee w6 ⟨rfl, hk6, -⟩
          have hbe : Below w.heap.size w w6 := hbw5.trans (hk6.toBelow hbw5.size (fun q e => by rw [e]; exact HLE.out))
          clear hk6 hbw5 f0 f1 f2 f3 u0 u1 u2 u3 u4 HM5
          go_wp2_with fail
          go_ret
          exact ⟨rfl, hbe⟩
end Go.Proofs.Ytiiegphbhfiffaa
/- What fieldOf, withoutEntry and Get answer. -/
namespace Go.Proofs.Ytiiegphbhfiffaa
open Go.ChangeShapes Go.WideShapes Go.ChangeAt Go.RowKit
set_option linter.unusedVariables false
set_option linter.unusedSimpArgs false
set_option maxRecDepth 20000

def fieldA (s : ScS) (nm : ByteArray) (tag : Int) : Option FlS := (msgOf s nm).bind fun m => fldOf m.fields tag
theorem fieldA_none {s : ScS} {nm : ByteArray} {tag : Int} (h : (msgOf s nm).isSome = false) : fieldA s nm tag = none := by
  cases hq : msgOf s nm with
  | none => rw [fieldA, hq]; rfl
  | some m => rw [hq] at h; cases h
theorem fieldA_some {s : ScS} {nm : ByteArray} {tag : Int} (h : (msgOf s nm).isSome = true) : fieldA s nm tag = fldOf ((msgOf s nm).getD zMs).fields tag := by
  cases hq : msgOf s nm with
  | none => rw [hq] at h; cases h
  | some m => rw [fieldA, hq]; rfl
set_option maxHeartbeats 4000000 in
theorem fieldOf_any {s : ScS} {vs : Value} {nm : ByteArray} {tag : Int} {w : World} (hs : ScIn w vs s) (hl : ∀ m ∈ s.msgs, m.fields.length ≤ 20 ∧ m.reserved.length ≤ 40) :
    Calls Try.prog 25 #[vs, .string nm, .int .i64 tag] w fun e w' => e = .returned (.tuple #[flV ((fieldA s nm tag).getD zeroF), .bool (fieldA s nm tag).isSome]) ∧ Below w.heap.size w w' := by
  obtain ⟨vm, ve, vt, rfl, hms, hen, hmt⟩ := hs
  obtain ⟨ma, mc, rfl, -⟩ := hms.open
  obtain ⟨ea, ec, rfl, -⟩ := hen.open
  obtain ⟨ta, tn, tc, rfl⟩ := row_slice hmt
  generalize s.msgs.length = mn at *
  generalize s.enums.length = en at *
  obtain ⟨sn, hsn⟩ : ∃ z, s.name = z := ⟨_, rfl⟩
  rw [hsn]
  have BR : Blk ((w.alloc (Obj.cells #[.string sn, .slice ma mn mc, .slice ea en ec, .slice ta tn tc] 26)).alloc (Obj.cells #[.string ⟨#[]⟩, .int .i64 0, .int .i64 0, .int .i64 0, .string ⟨#[]⟩] 49)) (w.heap.size + 1) #[.string ⟨#[]⟩, .int .i64 0, .int .i64 0, .int .i64 0, .string ⟨#[]⟩] 49 := by
    have := Blk.new (w.alloc (Obj.cells #[.string sn, .slice ma mn mc, .slice ea en ec, .slice ta tn tc] 26)) #[.string ⟨#[]⟩, .int .i64 0, .int .i64 0, .int .i64 0, .string ⟨#[]⟩] 49
    rwa [show (w.alloc (Obj.cells #[.string sn, .slice ma mn mc, .slice ea en ec, .slice ta tn tc] 26)).heap.size = w.heap.size + 1 from by simp] at this
  have hbw : Below w.heap.size w ((w.alloc (Obj.cells #[.string sn, .slice ma mn mc, .slice ea en ec, .slice ta tn tc] 26)).alloc (Obj.cells #[.string ⟨#[]⟩, .int .i64 0, .int .i64 0, .int .i64 0, .string ⟨#[]⟩] 49)) := ((Below.refl _ _).alloc (Nat.le_refl _) _).alloc (by simp) _
  have HMG : Hid (Calls Try.prog 21 #[.agg #[.string sn, .slice ma mn mc, .slice ea en ec, .slice ta tn tc], .string nm] ((w.alloc (Obj.cells #[.string sn, .slice ma mn mc, .slice ea en ec, .slice ta tn tc] 26)).alloc (Obj.cells #[.string ⟨#[]⟩, .int .i64 0, .int .i64 0, .int .i64 0, .string ⟨#[]⟩] 49)) fun e w' => ∃ vf vr, e = .returned (.tuple #[.agg #[.string ((msgOf s nm).getD zMs).name, vf, vr], .bool (msgOf s nm).isSome]) ∧ w'.ownsRow ((w.alloc (Obj.cells #[.string sn, .slice ma mn mc, .slice ea en ec, .slice ta tn tc] 26)).alloc (Obj.cells #[.string ⟨#[]⟩, .int .i64 0, .int .i64 0, .int .i64 0, .string ⟨#[]⟩] 49)).heap.size 49 5 vf ((msgOf s nm).getD zMs).fields.length (flRows ((msgOf s nm).getD zMs).fields).flatten ∧ w'.ownsRow ((w.alloc (Obj.cells #[.string sn, .slice ma mn mc, .slice ea en ec, .slice ta tn tc] 26)).alloc (Obj.cells #[.string ⟨#[]⟩, .int .i64 0, .int .i64 0, .int .i64 0, .string ⟨#[]⟩] 49)).heap.size 3 1 vr ((msgOf s nm).getD zMs).reserved.length (inRows ((msgOf s nm).getD zMs).reserved).flatten ∧ Below ((w.alloc (Obj.cells #[.string sn, .slice ma mn mc, .slice ea en ec, .slice ta tn tc] 26)).alloc (Obj.cells #[.string ⟨#[]⟩, .int .i64 0, .int .i64 0, .int .i64 0, .string ⟨#[]⟩] 49)).heap.size ((w.alloc (Obj.cells #[.string sn, .slice ma mn mc, .slice ea en ec, .slice ta tn tc] 26)).alloc (Obj.cells #[.string ⟨#[]⟩, .int .i64 0, .int .i64 0, .int .i64 0, .string ⟨#[]⟩] 49)) w') := cmessage_any (hms.below hbw) hl
  clear hms hen hmt hsn
  obtain ⟨ok, hok⟩ : ∃ z, (msgOf s nm).isSome = z := ⟨_, rfl⟩
  have HOK : Hid ((msgOf s nm).isSome = ok) := hok
  obtain ⟨fs, hfs⟩ : ∃ z, ((msgOf s nm).getD zMs).fields = z := ⟨_, rfl⟩
  have HFS : Hid (((msgOf s nm).getD zMs).fields = fs) := hfs
  obtain ⟨mnm, hmnm⟩ : ∃ z, ((msgOf s nm).getD zMs).name = z := ⟨_, rfl⟩
  rw [hok, hfs, hmnm] at HMG
  obtain ⟨F, hF⟩ : ∃ z, fieldA s nm tag = z := ⟨_, rfl⟩
  have HF : Hid (fieldA s nm tag = F) := hF
  rw [hF]
  clear hok hfs hmnm hF
  cases ok with
  | false =>
    obtain rfl : F = none := by rw [← HF.out, fieldA_none HOK.out]
    simp only [flV, zeroF, Option.getD_none, Option.isSome_none]
    go_enter Try.func25, Try.ntmps25
    go_wp2_with fail
    refine HMG.out.mono ?_
    rintro ee w2 ⟨vf, vr, rfl, hof, hor, hb2⟩
    obtain ⟨fa, fc, hvf⟩ := own_form hof
    obtain ⟨ra, rc, hvr⟩ := own_form hor
    subst hvf hvr
    generalize ((msgOf s nm).getD zMs).reserved.length = rl at *
    generalize fs.length = fl at *
    have al3 : Below w2.heap.size w2 (w2.alloc (Obj.cells #[.string mnm, .slice fa fl fc, .slice ra rl rc] 47)) := (Below.refl _ _).alloc (Nat.le_refl _) _
    have hbw2 : Below w.heap.size w w2 := hbw.trans (hb2.mono hbw.size)
    have hbw3 : Below w.heap.size w (w2.alloc (Obj.cells #[.string mnm, .slice fa fl fc, .slice ra rl rc] 47)) := hbw2.trans (al3.mono hbw2.size)
    have BR3 := (BR.below hb2).below al3
    have r0 := (BR3.cell 0).trans rfl
    have z0 := BR3.froz 0
    have r1 := (BR3.cell 1).trans rfl
    have z1 := BR3.froz 1
    have r2 := (BR3.cell 2).trans rfl
    have z2 := BR3.froz 2
    have r3 := (BR3.cell 3).trans rfl
    have z3 := BR3.froz 3
    have r4 := (BR3.cell 4).trans rfl
    have z4 := BR3.froz 4
    clear hof hor hb2 hbw hbw2 al3 BR BR3 HMG
    go_wp2_with fail
    refine bodyPost_ret (results_two rfl _ _ _ ⟨w.heap.size + 1, 0, none⟩ (.agg #[.string ⟨#[]⟩, .int .i64 0, .int .i64 0, .int .i64 0, .string ⟨#[]⟩]) (by go_simp) (by go_simp)) rfl ⟨rfl, ?_⟩
    repeat' first | exact hbw3 | refine Below.setCell ?_ (by simp) _
  | true =>
    go_enter Try.func25, Try.ntmps25
    go_wp2_with fail
    refine HMG.out.mono ?_
    rintro ee w2 ⟨vf, vr, rfl, hof, hor, hb2⟩
    have hrf : RowG w2 vf 5 (flRows fs) := (RowG.own (flr_len5 fs) (by decide) hof).1
    obtain ⟨fa, fc, hvf⟩ := own_form hof
    obtain ⟨ra, rc, hvr⟩ := own_form hor
    subst hvf hvr
    obtain ⟨rl, hrl⟩ : ∃ z, ((msgOf s nm).getD zMs).reserved.length = z := ⟨_, rfl⟩
    rw [hrl]
    have al3 : Below w2.heap.size w2 (w2.alloc (Obj.cells #[.string mnm, .slice fa fs.length fc, .slice ra rl rc] 47)) := (Below.refl _ _).alloc (Nat.le_refl _) _
    have hbw2 : Below w.heap.size w w2 := hbw.trans (hb2.mono hbw.size)
    have hbw3 : Below w.heap.size w (w2.alloc (Obj.cells #[.string mnm, .slice fa fs.length fc, .slice ra rl rc] 47)) := hbw2.trans (al3.mono hbw2.size)
    have BR3 := (BR.below hb2).below al3
    have HFC : Hid (Calls Try.prog 47 #[.agg #[.string mnm, .slice fa fs.length fc, .slice ra rl rc], .int .i64 tag] (w2.alloc (Obj.cells #[.string mnm, .slice fa fs.length fc, .slice ra rl rc] 47)) fun e' w' => e' = .returned (.tuple #[flV (F.getD zeroF), .bool F.isSome]) ∧ Below (w2.alloc (Obj.cells #[.string mnm, .slice fa fs.length fc, .slice ra rl rc] 47)).heap.size (w2.alloc (Obj.cells #[.string mnm, .slice fa fs.length fc, .slice ra rl rc] 47)) w') := (by
      have h1 := cfield_any (snm := mnm) (nm := tag) (am := ra) (M := rl) (cm := rc) (hrf.below al3)
      have h2 : (fs.find? fun m => decide (m.tag = tag)) = F := by rw [← HF.out, fieldA_some HOK.out, HFS.out]; rfl
      rw [h2] at h1
      exact h1 : Calls Try.prog _ _ _ _)
    clear hof hor hb2 hbw hbw2 al3 BR HMG hrf hrl
    generalize fs.length = fl at *
    go_wp2_with fail
    refine HFC.out.mono ?_
    rintro ee w4 ⟨rfl, hb4⟩
    have hbw4 : Below w.heap.size w w4 := hbw3.trans (hb4.mono hbw3.size)
    have BR4 := BR3.below hb4
    have r0 := (BR4.cell 0).trans rfl
    have z0 := BR4.froz 0
    have r1 := (BR4.cell 1).trans rfl
    have z1 := BR4.froz 1
    have r2 := (BR4.cell 2).trans rfl
    have z2 := BR4.froz 2
    have r3 := (BR4.cell 3).trans rfl
    have z3 := BR4.froz 3
    have r4 := (BR4.cell 4).trans rfl
    have z4 := BR4.froz 4
    clear hb4 hbw3 BR3 BR4 HFC
    obtain ⟨Y, hY⟩ : ∃ z, F.getD zeroF = z := ⟨_, rfl⟩
    have HY : Hid (F.getD zeroF = Y) := hY
    rw [hY]
    clear hY
    obtain ⟨y1, y2, y3, y4, y5⟩ := Y
    simp only [flV]
    go_wp2_with fail
    refine bodyPost_ret (results_two rfl _ _ _ ⟨w.heap.size + 1, 0, none⟩ (.agg #[.string y1, .int .i64 y2, .int .i64 y3, .int .i64 y4, .string y5]) (by go_simp) (by go_simp)) rfl ⟨ret_two (by rw [HY.out]; rfl) rfl, ?_⟩
    repeat' first | exact hbw4 | refine Below.setCell ?_ (by simp) _
/-- What a message has of a field of which it has no entry. -/
def zeroL (f : FlS) : List Tr := if f.label = 1 ∧ kindT f.kind ≠ 0 then [⟨kindT f.kind, 0, ⟨#[]⟩, [], []⟩] else []
theorem kindT_64 (k : Int) : Is64 (kindT k) := by
  unfold kindT
  split
  · exact ⟨by decide, by decide⟩
  · split
    · exact ⟨by decide, by decide⟩
    · split
      · exact ⟨by decide, by decide⟩
      · exact ⟨by decide, by decide⟩
set_option maxHeartbeats 2000000 in
theorem without_any (f : FlS) (n : Nat) (w : World) : Calls Try.prog 27 #[flV f] w fun e w' => ∃ r, e = .returned r ∧ TrsR (n + 1) w' r (zeroL f) ∧ Below w.heap.size w w' := by
  obtain ⟨y1, y2, y3, y4, y5⟩ := f
  obtain ⟨kt, hkt⟩ : ∃ z, kindT y4 = z := ⟨_, rfl⟩
  have HKT : Hid (kindT y4 = kt) := hkt
  have al : Below w.heap.size w (w.alloc (Obj.cells #[.string y1, .int .i64 y2, .int .i64 y3, .int .i64 y4, .string y5] 49)) := (Below.refl _ _).alloc (Nat.le_refl _) _
  have BL : Blk (w.alloc (Obj.cells #[.string y1, .int .i64 y2, .int .i64 y3, .int .i64 y4, .string y5] 49)) w.heap.size #[.string y1, .int .i64 y2, .int .i64 y3, .int .i64 y4, .string y5] 49 := Blk.new w _ _
  have HK : Hid (Calls Try.prog 48 #[.agg #[.int .i64 y4, .string y5]] (w.alloc (Obj.cells #[.string y1, .int .i64 y2, .int .i64 y3, .int .i64 y4, .string y5] 49)) fun e w' => e = .returned (.int .i64 kt) ∧ Below (w.alloc (Obj.cells #[.string y1, .int .i64 y2, .int .i64 y3, .int .i64 y4, .string y5] 49)).heap.size (w.alloc (Obj.cells #[.string y1, .int .i64 y2, .int .i64 y3, .int .i64 y4, .string y5] 49)) w') := (by have h1 := kindOf_any y4 y5 (w.alloc (Obj.cells #[.string y1, .int .i64 y2, .int .i64 y3, .int .i64 y4, .string y5] 49)); rw [hkt] at h1; exact h1 : Calls Try.prog _ _ _ _)
  simp only [flV]
  clear hkt
  go_enter Try.func27, Try.ntmps27
  go_wp2_with fail
  refine HK.out.mono ?_
  rintro ee w1 ⟨rfl, hb1⟩
  have hbw : Below w.heap.size w w1 := al.trans (hb1.mono al.size)
  have BL1 := BL.below hb1
  have l2 := (BL1.cell 2).trans rfl
  clear hb1 al BL BL1 HK
  have ZN : Hid (¬ (y3 = 1 ∧ kt ≠ 0) → zeroL ⟨y1, y2, y3, y4, y5⟩ = []) := fun h => by rw [zeroL, if_neg]; rw [HKT.out]; exact h
  by_cases h1 : y3 = 1
  · have d1 : (y3 == 1) = true := by simpa using h1
    by_cases h2 : kt = 0
    · have d2 : (kt != 0) = false := by simpa using h2
      have HZ : Hid (zeroL ⟨y1, y2, y3, y4, y5⟩ = []) := ZN.out (by simp [h2])
      clear h1 h2 ZN
      go_wp2_with fail
      go_ret
      exact ⟨_, rfl, by rw [HZ.out]; exact RowP.nil _ _ _, hbw⟩
    · have d2 : (kt != 0) = true := by simpa using h2
      have HZ : Hid (zeroL ⟨y1, y2, y3, y4, y5⟩ = [⟨kt, 0, ⟨#[]⟩, [], []⟩]) := (by rw [zeroL, if_pos (by simp only; rw [HKT.out]; exact ⟨h1, h2⟩)]; simp only; rw [HKT.out] : zeroL ⟨y1, y2, y3, y4, y5⟩ = [⟨kt, 0, ⟨#[]⟩, [], []⟩])
      have BZ : Blk (w1.alloc (Obj.cells #[.int .i64 kt, .int .i64 0, .string ⟨#[]⟩, .slice none 0 0, .slice none 0 0] 30)) w1.heap.size #[.int .i64 kt, .int .i64 0, .string ⟨#[]⟩, .slice none 0 0, .slice none 0 0] 30 := Blk.new w1 _ _
      have HRW : Hid (TrsR (n + 1) (w1.alloc (Obj.cells #[.int .i64 kt, .int .i64 0, .string ⟨#[]⟩, .slice none 0 0, .slice none 0 0] 30)) (.slice (some ⟨w1.heap.size, 0, none⟩) 1 1) [⟨kt, 0, ⟨#[]⟩, [], []⟩]) := (by
        refine ⟨[[.int .i64 kt, .int .i64 0, .string ⟨#[]⟩, .slice none 0 0, .slice none 0 0]], RowG.blk BZ rfl (fun r hr => by simp at hr; subst hr; rfl) rfl (by decide), rfl, fun i x hx => ?_⟩
        match i, hx with
        | 0, hx =>
          simp at hx
          subst hx
          exact ⟨_, rfl, .slice none 0 0, .slice none 0 0, rfl, by have := kindT_64 y4; rw [HKT.out] at this; exact this, ⟨by show (-9223372036854775808 : Int) ≤ 0; decide, by show (0 : Int) ≤ 9223372036854775807; decide⟩, Nat.zero_le _, (fun f hf => by simp at hf), RowG.nil _ _, RowP.nil _ _ _, (fun g off n cap e => by cases e), fun g off n cap e => by cases e⟩
        | i + 1, hx => simp at hx : TrsR (n + 1) _ _ _)
      have hbe : Below w.heap.size w (w1.alloc (Obj.cells #[.int .i64 kt, .int .i64 0, .string ⟨#[]⟩, .slice none 0 0, .slice none 0 0] 30)) := hbw.alloc hbw.size _
      clear h1 h2 ZN BZ
      go_wp2_with fail
      go_ret
      exact ⟨_, rfl, by rw [HZ.out]; exact HRW.out, hbe⟩
  · have d1 : (y3 == 1) = false := by simpa using h1
    have HZ : Hid (zeroL ⟨y1, y2, y3, y4, y5⟩ = []) := ZN.out (by simp [h1])
    clear h1 ZN
    go_wp2_with fail
    go_ret
    exact ⟨_, rfl, by rw [HZ.out]; exact RowP.nil _ _ _, hbw⟩
/-- What stands under a tag, by Get. -/
def undL (es : List (Int × List Tr)) (tag : Int) : Option (List Tr) := (es.find? fun e => e.1 == tag).map (·.2)
def getA (s : ScS) (nm : ByteArray) (t : Tr) (tag : Int) : Option (List Tr) :=
  match fieldA s nm tag with
  | none => none
  | some f => if t.kind ≠ 3 then none else some ((undL t.es tag).getD (zeroL f))
theorem undL_step {es : List (Int × List Tr)} {i : Nat} {x : Int × List Tr} {tag : Int} (h : es[i]? = some x) (hn : ∀ e ∈ es.take i, e.1 ≠ tag) (hx : x.1 = tag) : undL es tag = some x.2 := by
  obtain ⟨hl, rfl⟩ := List.getElem?_eq_some_iff.1 h
  have h1 : es = es.take i ++ (es[i] :: es.drop (i + 1)) := by rw [← List.drop_eq_getElem_cons hl, List.take_append_drop]
  have h2 : (es.take i).find? (fun e => e.1 == tag) = none := by
    rw [List.find?_eq_none]
    intro e he
    simpa using hn e he
  have h3 : es.find? (fun e => e.1 == tag) = some es[i] := by
    conv => lhs; rw [h1]
    rw [List.find?_append, h2, Option.none_or, List.find?_cons_of_pos (by simpa using hx)]
  rw [undL, h3]
  rfl
theorem undL_no {es : List (Int × List Tr)} {tag : Int} (hn : ∀ e ∈ es, e.1 ≠ tag) : undL es tag = none := by
  have h2 : es.find? (fun e => e.1 == tag) = none := by
    rw [List.find?_eq_none]
    intro e he
    simpa using hn e he
  rw [undL, h2]
  rfl
/-- What Get answers. -/
def GetP (n : Nat) (s : ScS) (nm : ByteArray) (t : Tr) (tag : Int) (w : World) (e : Ending) (w' : World) : Prop := ∃ r, e = .returned (.tuple #[r, .bool (getA s nm t tag).isSome]) ∧ TrsR (n + 1) w' r ((getA s nm t tag).getD []) ∧ Below w.heap.size w w'
set_option maxHeartbeats 4000000 in
theorem get_step (n : Nat) {s : ScS} {vs v : Value} {t : Tr} {nm : ByteArray} {tag : Int} {w : World} (hs : ScIn w vs s) (hl : ∀ m ∈ s.msgs, m.fields.length ≤ 20 ∧ m.reserved.length ≤ 40) (ht : TrW (n + 2) w v t)
    (HC : ∀ (e : Int × List Tr) (u : Value) (W : World), e ∈ t.es → e.1 = tag → TrsR (n + 1) W u e.2 → Calls Try.prog 26 #[u] W fun e' w' => ∃ r, e' = .returned r ∧ TrsR (n + 1) w' r e.2 ∧ Below W.heap.size W w') :
    Calls Try.prog 16 #[vs, .string nm, v, .int .i64 tag] w (GetP n s nm t tag w) := by
  obtain ⟨m, a1, c1, a2, c2, hmn, rfl, -, -, -, u1, u2, -, -, -, -, -, he, -⟩ := ht.open
  obtain rfl : m = n + 1 := by omega
  have hs' := hs
  obtain ⟨vm, ve, vt, rfl, hms, hen, hmt⟩ := hs
  obtain ⟨ma, mc, rfl, -⟩ := hms.open
  obtain ⟨ea, ec, rfl, -⟩ := hen.open
  obtain ⟨ta, tn, tc, rfl⟩ := row_slice hmt
  generalize s.msgs.length = mn at *
  generalize s.enums.length = en at *
  obtain ⟨n1, hn1⟩ : ∃ z, t.es.length = z := ⟨_, rfl⟩
  rw [hn1] at u1 he ⊢
  have HN1 : Hid (t.es.length = n1) := hn1
  generalize t.rest.length = n2 at *
  obtain ⟨K, hK⟩ : ∃ z, t.kind = z := ⟨_, rfl⟩
  have HK : Hid (t.kind = K) := hK
  generalize t.n = N at *
  generalize t.s = S at *
  obtain ⟨sn, hsn⟩ : ∃ z, s.name = z := ⟨_, rfl⟩
  rw [hK]
  rw [hsn] at hs' ⊢
  unfold maxLen at u2
  have BS : Blk ((w.alloc (Obj.cells #[.string sn, .slice ma mn mc, .slice ea en ec, .slice ta tn tc] 26)).alloc (Obj.cells #[.int .i64 K, .int .i64 N, .string S, .slice a1 n1 c1, .slice a2 n2 c2] 30)) w.heap.size #[.string sn, .slice ma mn mc, .slice ea en ec, .slice ta tn tc] 26 := (Blk.new w _ _).below ((Below.refl _ _).alloc (Nat.le_refl _) _)
  have BT : Blk ((w.alloc (Obj.cells #[.string sn, .slice ma mn mc, .slice ea en ec, .slice ta tn tc] 26)).alloc (Obj.cells #[.int .i64 K, .int .i64 N, .string S, .slice a1 n1 c1, .slice a2 n2 c2] 30)) (w.heap.size + 1) #[.int .i64 K, .int .i64 N, .string S, .slice a1 n1 c1, .slice a2 n2 c2] 30 := by
    have := Blk.new (w.alloc (Obj.cells #[.string sn, .slice ma mn mc, .slice ea en ec, .slice ta tn tc] 26)) #[.int .i64 K, .int .i64 N, .string S, .slice a1 n1 c1, .slice a2 n2 c2] 30
    rwa [show (w.alloc (Obj.cells #[.string sn, .slice ma mn mc, .slice ea en ec, .slice ta tn tc] 26)).heap.size = w.heap.size + 1 from by simp] at this
  have hbw : Below w.heap.size w ((w.alloc (Obj.cells #[.string sn, .slice ma mn mc, .slice ea en ec, .slice ta tn tc] 26)).alloc (Obj.cells #[.int .i64 K, .int .i64 N, .string S, .slice a1 n1 c1, .slice a2 n2 c2] 30)) := ((Below.refl _ _).alloc (Nat.le_refl _) _).alloc (by simp) _
  have HFO : Hid (Calls Try.prog 25 #[.agg #[.string sn, .slice ma mn mc, .slice ea en ec, .slice ta tn tc], .string nm, .int .i64 tag] ((w.alloc (Obj.cells #[.string sn, .slice ma mn mc, .slice ea en ec, .slice ta tn tc] 26)).alloc (Obj.cells #[.int .i64 K, .int .i64 N, .string S, .slice a1 n1 c1, .slice a2 n2 c2] 30)) fun e w' => e = .returned (.tuple #[flV ((fieldA s nm tag).getD zeroF), .bool (fieldA s nm tag).isSome]) ∧ Below ((w.alloc (Obj.cells #[.string sn, .slice ma mn mc, .slice ea en ec, .slice ta tn tc] 26)).alloc (Obj.cells #[.int .i64 K, .int .i64 N, .string S, .slice a1 n1 c1, .slice a2 n2 c2] 30)).heap.size ((w.alloc (Obj.cells #[.string sn, .slice ma mn mc, .slice ea en ec, .slice ta tn tc] 26)).alloc (Obj.cells #[.int .i64 K, .int .i64 N, .string S, .slice a1 n1 c1, .slice a2 n2 c2] 30)) w') := fieldOf_any (hs'.below hbw) hl
  have HE : Hid (EnsR (n + 1) w (.slice a1 n1 c1) t.es) := he
  have HCO : Hid (∀ (e : Int × List Tr) (u : Value) (W : World), e ∈ t.es → e.1 = tag → TrsR (n + 1) W u e.2 → Calls Try.prog 26 #[u] W fun e' w' => ∃ r, e' = .returned r ∧ TrsR (n + 1) w' r e.2 ∧ Below W.heap.size W w') := HC
  obtain ⟨F, hF⟩ : ∃ z, fieldA s nm tag = z := ⟨_, rfl⟩
  have HF : Hid (fieldA s nm tag = F) := hF
  rw [hF] at HFO
  obtain ⟨Y, hY⟩ : ∃ z, F.getD zeroF = z := ⟨_, rfl⟩
  have HY : Hid (F.getD zeroF = Y) := hY
  rw [hY] at HFO
  obtain ⟨y1, y2, y3, y4, y5⟩ := Y
  simp only [flV] at HFO
  clear hF hY hK hsn hs' hms hen hmt ht he hn1 HC hmn
  go_enter Try.func16, Try.ntmps16
  go_wp2_with fail
  refine HFO.out.mono ?_
  rintro ee w1 ⟨rfl, hb1⟩
  have hbw1 : Below w.heap.size w w1 := hbw.trans (hb1.mono hbw.size)
  have al2 : Below w1.heap.size w1 (w1.alloc (Obj.cells #[.string y1, .int .i64 y2, .int .i64 y3, .int .i64 y4, .string y5] 49)) := (Below.refl _ _).alloc (Nat.le_refl _) _
  have hbw2 : Below w.heap.size w (w1.alloc (Obj.cells #[.string y1, .int .i64 y2, .int .i64 y3, .int .i64 y4, .string y5] 49)) := hbw1.trans (al2.mono hbw1.size)
  have BT2 := (BT.below hb1).below al2
  have BL2 : Blk (w1.alloc (Obj.cells #[.string y1, .int .i64 y2, .int .i64 y3, .int .i64 y4, .string y5] 49)) w1.heap.size #[.string y1, .int .i64 y2, .int .i64 y3, .int .i64 y4, .string y5] 49 := Blk.new w1 _ _
  have HE2 : Hid (EnsR (n + 1) (w1.alloc (Obj.cells #[.string y1, .int .i64 y2, .int .i64 y3, .int .i64 y4, .string y5] 49)) (.slice a1 n1 c1) t.es) := HE.out.celE (Cel.ofBelow hbw2)
  have t0 := (BT2.cell 0).trans rfl
  have t3 := (BT2.cell 3).trans rfl
  clear hb1 hbw hbw1 al2 BS BT HFO HE
  cases F with
  | none =>
    have HG : Hid (getA s nm t tag = none) := (by rw [getA, HF.out] : getA s nm t tag = none)
    simp only [Option.isSome_none]
    go_wp2_with fail
    go_ret2
    exact ⟨_, by rw [HG.out]; rfl, by rw [HG.out]; exact RowP.nil _ _ _, hbw2⟩
  | some f =>
    obtain rfl : f = ⟨y1, y2, y3, y4, y5⟩ := by have := HY.out; simpa using this
    simp only [Option.isSome_some]
    by_cases hK3 : K = 3
    rotate_left
    · have d : (K != 3) = true := by simpa using hK3
      have HG : Hid (getA s nm t tag = none) := (by rw [getA, HF.out]; simp only; rw [if_pos (by rw [HK.out]; exact hK3)] : getA s nm t tag = none)
      clear hK3
      go_wp2_with fail
      go_ret2
      exact ⟨_, by rw [HG.out]; rfl, by rw [HG.out]; exact RowP.nil _ _ _, hbw2⟩
    · have d : (K != 3) = false := by simpa using hK3
      have HG : Hid (getA s nm t tag = some ((undL t.es tag).getD (zeroL ⟨y1, y2, y3, y4, y5⟩))) := (by rw [getA, HF.out]; simp only; rw [if_neg (by rw [HK.out]; simpa using hK3)] : getA s nm t tag = some _)
      clear hK3
      go_wp2_with fail
      clear t0 t3 d
      generalize (w1.alloc (Obj.cells #[.string y1, .int .i64 y2, .int .i64 y3, .int .i64 y4, .string y5] 49)) = W2 at *
      obtain ⟨bL, hbL⟩ : ∃ z, w1.heap.size = z := ⟨_, rfl⟩
      rw [hbL] at BL2
      simp only [hbL]
      clear hbL BT2
      go_loopw [31] (fun iv wr => ∃ i : Nat, iv = .int .i64 (i : Int) ∧ i ≤ n1 ∧ Hid (∀ e ∈ t.es.take i, e.1 ≠ tag) ∧ Below W2.heap.size W2 wr) (fun iv _ => n1 - (intOf iv).toNat)
      case atStart => exact ⟨0, rfl, by omega, (by simp : ∀ e ∈ t.es.take 0, e.1 ≠ tag), Below.refl _ _⟩
      case round =>
        obtain ⟨i, rfl, hi, HI, hbel⟩ := hrel
        by_cases hlt : i < n1
        · obtain ⟨x, hx⟩ : ∃ r, t.es[i]? = some r := ⟨_, List.getElem?_eq_getElem (by rw [HN1.out]; exact hlt)⟩
          obtain ⟨gx, ox, xa, xc, rfl, y0, y1', -, hxt, hxc, hxm⟩ := ensR_get (HE2.out.celE (Cel.ofBelow hbel)) hx
          have al : Below wr.heap.size wr (wr.alloc (Obj.cells #[.int .i64 x.1, .slice xa x.2.length xc] 61)) := (Below.refl _ _).alloc (Nat.le_refl _) _
          have hb5 : Below W2.heap.size W2 (wr.alloc (Obj.cells #[.int .i64 x.1, .slice xa x.2.length xc] 61)) := hbel.trans (al.mono hbel.size)
          by_cases hxt' : x.1 = tag
          · have HCC : Hid (Calls Try.prog 26 #[.slice xa x.2.length xc] (wr.alloc (Obj.cells #[.int .i64 x.1, .slice xa x.2.length xc] 61)) fun e' w' => ∃ r, e' = .returned r ∧ TrsR (n + 1) w' r x.2 ∧ Below (wr.alloc (Obj.cells #[.int .i64 x.1, .slice xa x.2.length xc] 61)).heap.size (wr.alloc (Obj.cells #[.int .i64 x.1, .slice xa x.2.length xc] 61)) w') := HCO.out x _ _ (List.mem_of_getElem? hx) hxt' (hxt.celT (Cel.ofBelow al))
            have HG2 : Hid (getA s nm t tag = some x.2) := (by rw [HG.out, undL_step hx HI.out hxt']; rfl : getA s nm t tag = some x.2)
            have hq : (x.1 == tag) = true := by simpa using hxt'
            obtain ⟨Xl, hXl⟩ : ∃ z, x.2.length = z := ⟨_, rfl⟩
            obtain ⟨xt, hxt1⟩ : ∃ z, x.1 = z := ⟨_, rfl⟩
            rw [hXl, hxt1] at HCC al hb5
            rw [hxt1] at y0 hq
            rw [hXl] at y1'
            clear hx hxt hxt' HI HG hXl hxt1 hxc hxm
            go_wp2_with fail
            refine HCC.out.mono ?_
            rintro ee w6 ⟨r, rfl, hr6, hb6⟩
            have HR6 : Hid (TrsR (n + 1) w6 r x.2) := hr6
            have hbe : Below w.heap.size w w6 := hbw2.trans ((hb5.trans (hb6.mono hb5.size)).mono hbw2.size)
            obtain ⟨qa, qc, hqr, -⟩ := RowP.open hr6
            subst hqr
            clear hr6 hb6 hb5 HCC y0 y1' al hbel hq
            generalize x.2.length = Ql at *
            go_wp2_with fail
            go_ret2
            exact ⟨_, by rw [HG2.out]; rfl, by rw [HG2.out]; exact HR6.out, hbe⟩
          · have hq : (x.1 == tag) = false := by simpa using hxt'
            have HI2 : Hid (∀ e ∈ t.es.take (i + 1), e.1 ≠ tag) := (by
              obtain ⟨hl', e'⟩ := List.getElem?_eq_some_iff.1 hx
              rw [List.take_succ_eq_append_getElem hl', e']
              intro e he
              rcases List.mem_append.1 he with he | he
              · exact HI.out e he
              · obtain rfl : e = x := by simpa using he
                exact hxt' : ∀ e ∈ t.es.take (i + 1), e.1 ≠ tag)
            generalize x.2.length = Xl at *
            generalize x.1 = xt at *
            clear hx hxt hxt' HI
            go_wp2_with fail
            clear y0 y1' al hbel hq
            go_roundw
            case rel => exact ⟨i + 1, by go_num, by omega, HI2, hb5⟩
            case measure => simp [intOf]; omega
        · have HG2 : Hid (getA s nm t tag = some (zeroL ⟨y1, y2, y3, y4, y5⟩)) := (by
            have h1 := HI.out
            rw [List.take_of_length_le (by rw [HN1.out]; omega)] at h1
            rw [HG.out, undL_no h1]; rfl : getA s nm t tag = some _)
          have BLr := BL2.below hbel
          have l0 := (BLr.cell 0).trans rfl
          have l1 := (BLr.cell 1).trans rfl
          have l2 := (BLr.cell 2).trans rfl
          have l3 := (BLr.cell 3).trans rfl
          have l4 := (BLr.cell 4).trans rfl
          have HWE : Hid (Calls Try.prog 27 #[.agg #[.string y1, .int .i64 y2, .int .i64 y3, .int .i64 y4, .string y5]] wr fun e w' => ∃ r, e = .returned r ∧ TrsR (n + 1) w' r (zeroL ⟨y1, y2, y3, y4, y5⟩) ∧ Below wr.heap.size wr w') := without_any ⟨y1, y2, y3, y4, y5⟩ n wr
          clear HI HG BLr
          go_wp2_with fail
          refine HWE.out.mono ?_
          rintro ee w6 ⟨r, rfl, hr6, hb6⟩
          have HR6 : Hid (TrsR (n + 1) w6 r (zeroL ⟨y1, y2, y3, y4, y5⟩)) := hr6
          have hbe : Below w.heap.size w w6 := hbw2.trans ((hbel.trans (hb6.mono hbel.size)).mono hbw2.size)
          obtain ⟨qa, qc, hqr, -⟩ := RowP.open hr6
          subst hqr
          clear hr6 hb6 HWE hbel l0 l1 l2 l3 l4
          generalize (zeroL ⟨y1, y2, y3, y4, y5⟩).length = Ql at *
          go_wp2_with fail
          go_ret2
          exact ⟨_, by rw [HG2.out]; rfl, by rw [HG2.out]; exact HR6.out, hbe⟩
end Go.Proofs.Ytiiegphbhfiffaa
/- Two small schemas. -/
namespace Go.Proofs.Ytiiegphbhfiffaa
open Go.ChangeShapes Go.WideShapes Go.ChangeAt Go.RowKit
set_option linter.unusedVariables false
set_option linter.unusedSimpArgs false
set_option maxRecDepth 20000

def awA : ScS := ⟨⟨#[97]⟩, [⟨⟨#[109]⟩, [⟨⟨#[120]⟩, 1, 1, 1, ⟨#[]⟩⟩], []⟩], [], []⟩
def awB : ScS := ⟨⟨#[97]⟩, [⟨⟨#[109]⟩, [⟨⟨#[120]⟩, 1, 1, 1, ⟨#[]⟩⟩, ⟨⟨#[121]⟩, 1, 1, 1, ⟨#[]⟩⟩], []⟩], [], []⟩
theorem awA_ok : checkA awA = 0 := by decide +kernel
theorem awB_ok : checkA awB = 7 := by decide +kernel
theorem flW_aw (n : ByteArray) (h : n.size ≤ 140737488351232) : FlW ⟨n, 1, 1, 1, ⟨#[]⟩⟩ := by
  have h1 : I64 1 := ⟨by decide, by decide⟩
  exact ⟨h, Nat.zero_le _, h1, h1, h1⟩
theorem awA_w : ScW awA := ⟨by decide, fun m hm => by simp [awA] at hm; subst hm; exact ⟨by decide, fun f hf => by simp at hf; subst hf; exact flW_aw _ (by decide), fun n hn => by simp at hn⟩, fun m hm => by simp [awA] at hm, fun m hm => by simp [awA] at hm⟩
theorem awB_w : ScW awB := ⟨by decide, fun m hm => by simp [awB] at hm; subst hm; exact ⟨by decide, fun f hf => by simp at hf; rcases hf with rfl | rfl <;> exact flW_aw _ (by decide), fun n hn => by simp at hn⟩, fun m hm => by simp [awB] at hm, fun m hm => by simp [awB] at hm⟩
theorem awA_f : FewL awA := ⟨by decide, by decide, by decide, fun m hm => by simp [awA] at hm; subst hm; exact ⟨by decide, by decide⟩, fun m hm => by simp [awA] at hm⟩
theorem awB_f : FewL awB := ⟨by decide, by decide, by decide, fun m hm => by simp [awB] at hm; subst hm; exact ⟨by decide, by decide⟩, fun m hm => by simp [awB] at hm⟩
end Go.Proofs.Ytiiegphbhfiffaa
/- The statements' own awake answers true. -/
namespace Go.Proofs.Ytiiegphbhfiffaa
open Go.ChangeShapes Go.WideShapes Go.ChangeAt Go.RowKit
set_option linter.unusedVariables false
set_option linter.unusedSimpArgs false
set_option maxRecDepth 20000

def awZ : Tr := ⟨3, 0, ⟨#[]⟩, [(1, [⟨1, 0, ⟨#[]⟩, [], []⟩])], []⟩
def awM : Tr := ⟨3, 0, ⟨#[]⟩, [], []⟩
theorem awZ_v : validA 2 awA ⟨#[109]⟩ awZ = 12 := by decide +kernel
theorem awM_v : validA 2 awA ⟨#[109]⟩ awM = 0 := by decide +kernel
theorem awM_g : getA awA ⟨#[109]⟩ awM 1 = some [⟨1, 0, ⟨#[]⟩, [], []⟩] := by simp [getA, fieldA, msgOf, fldOf, awA, awM, undL, zeroL, kindT]
theorem awZ_s : SmN 2 awZ := by
  refine ⟨by decide, by decide, by decide, by simp [awZ], fun e he => ?_⟩
  simp [awZ] at he
  subst he
  exact ⟨by decide, fun x hx => by simp at hx; subst hx; exact ⟨by decide, by decide, by decide, by simp, by simp⟩⟩
theorem awM_s : SmN 2 awM := ⟨by decide, by decide, by decide, by simp [awM], by simp [awM]⟩
theorem trR_leaf (n : Nat) (w : World) (k : Int) (hk : Is64 k) : TrR (n + 1) w [.int .i64 k, .int .i64 0, .string ⟨#[]⟩, .slice none 0 0, .slice none 0 0] ⟨k, 0, ⟨#[]⟩, [], []⟩ :=
  ⟨.slice none 0 0, .slice none 0 0, rfl, hk, ⟨by show (-9223372036854775808 : Int) ≤ 0; decide, by show (0 : Int) ≤ 9223372036854775807; decide⟩, Nat.zero_le _, (fun f hf => by simp at hf), RowG.nil _ _, RowP.nil _ _ _, (fun g off n cap e => by cases e), fun g off n cap e => by cases e⟩
theorem Blk.pln {w : World} {b n c : Nat} {cs : Array Value} {t : TypeId} (h : Blk w b cs t) : PlnV w (.slice (some ⟨b, 0, none⟩) n c) := fun g off m cap e _ => by
  simp at e
  obtain ⟨⟨rfl, -⟩, -⟩ := e
  exact ⟨_, _, h⟩
theorem one64 : Is64 1 := ⟨by decide, by decide⟩
theorem three64 : Is64 3 := ⟨by decide, by decide⟩
set_option maxHeartbeats 4000000 in
theorem awake_any (w : World) : Calls Try.prog 7 #[] w fun e w' => e = .returned (.bool true) ∧ Below w.heap.size w w' := by
  go_enter Try.func7, Try.ntmps7
  go_wp2_with fail
  have B0 : Blk ((((((w.alloc (Obj.cells #[.string ⟨#[120]⟩, .int .i64 1, .int .i64 1, .int .i64 1, .string ⟨#[]⟩] 49)).alloc (Obj.cells #[.string ⟨#[109]⟩, .slice (some ⟨w.heap.size, 0, none⟩) 1 1, .slice none 0 0] 47)).alloc (Obj.cells #[.string ⟨#[97]⟩, .slice (some ⟨w.heap.size + 1, 0, none⟩) 1 1, .slice none 0 0, .slice none 0 0] 26)).alloc (Obj.cells #[.int .i64 1, .int .i64 0, .string ⟨#[]⟩, .slice none 0 0, .slice none 0 0] 30)).alloc (Obj.cells #[.int .i64 1, .slice (some ⟨w.heap.size + 1 + 1 + 1, 0, none⟩) 1 1] 61)).alloc (Obj.cells #[.int .i64 3, .int .i64 0, .string ⟨#[]⟩, .slice (some ⟨w.heap.size + 1 + 1 + 1 + 1, 0, none⟩) 1 1, .slice none 0 0] 30)) (w.heap.size) #[.string ⟨#[120]⟩, .int .i64 1, .int .i64 1, .int .i64 1, .string ⟨#[]⟩] 49 := ((((((Blk.newAt (by simp)).up _).up _).up _).up _).up _)
  have B1 : Blk ((((((w.alloc (Obj.cells #[.string ⟨#[120]⟩, .int .i64 1, .int .i64 1, .int .i64 1, .string ⟨#[]⟩] 49)).alloc (Obj.cells #[.string ⟨#[109]⟩, .slice (some ⟨w.heap.size, 0, none⟩) 1 1, .slice none 0 0] 47)).alloc (Obj.cells #[.string ⟨#[97]⟩, .slice (some ⟨w.heap.size + 1, 0, none⟩) 1 1, .slice none 0 0, .slice none 0 0] 26)).alloc (Obj.cells #[.int .i64 1, .int .i64 0, .string ⟨#[]⟩, .slice none 0 0, .slice none 0 0] 30)).alloc (Obj.cells #[.int .i64 1, .slice (some ⟨w.heap.size + 1 + 1 + 1, 0, none⟩) 1 1] 61)).alloc (Obj.cells #[.int .i64 3, .int .i64 0, .string ⟨#[]⟩, .slice (some ⟨w.heap.size + 1 + 1 + 1 + 1, 0, none⟩) 1 1, .slice none 0 0] 30)) (w.heap.size + 1) #[.string ⟨#[109]⟩, .slice (some ⟨w.heap.size, 0, none⟩) 1 1, .slice none 0 0] 47 := (((((Blk.newAt (by simp)).up _).up _).up _).up _)
  have B2 : Blk ((((((w.alloc (Obj.cells #[.string ⟨#[120]⟩, .int .i64 1, .int .i64 1, .int .i64 1, .string ⟨#[]⟩] 49)).alloc (Obj.cells #[.string ⟨#[109]⟩, .slice (some ⟨w.heap.size, 0, none⟩) 1 1, .slice none 0 0] 47)).alloc (Obj.cells #[.string ⟨#[97]⟩, .slice (some ⟨w.heap.size + 1, 0, none⟩) 1 1, .slice none 0 0, .slice none 0 0] 26)).alloc (Obj.cells #[.int .i64 1, .int .i64 0, .string ⟨#[]⟩, .slice none 0 0, .slice none 0 0] 30)).alloc (Obj.cells #[.int .i64 1, .slice (some ⟨w.heap.size + 1 + 1 + 1, 0, none⟩) 1 1] 61)).alloc (Obj.cells #[.int .i64 3, .int .i64 0, .string ⟨#[]⟩, .slice (some ⟨w.heap.size + 1 + 1 + 1 + 1, 0, none⟩) 1 1, .slice none 0 0] 30)) (w.heap.size + 1 + 1) #[.string ⟨#[97]⟩, .slice (some ⟨w.heap.size + 1, 0, none⟩) 1 1, .slice none 0 0, .slice none 0 0] 26 := ((((Blk.newAt (by simp)).up _).up _).up _)
  have B3 : Blk ((((((w.alloc (Obj.cells #[.string ⟨#[120]⟩, .int .i64 1, .int .i64 1, .int .i64 1, .string ⟨#[]⟩] 49)).alloc (Obj.cells #[.string ⟨#[109]⟩, .slice (some ⟨w.heap.size, 0, none⟩) 1 1, .slice none 0 0] 47)).alloc (Obj.cells #[.string ⟨#[97]⟩, .slice (some ⟨w.heap.size + 1, 0, none⟩) 1 1, .slice none 0 0, .slice none 0 0] 26)).alloc (Obj.cells #[.int .i64 1, .int .i64 0, .string ⟨#[]⟩, .slice none 0 0, .slice none 0 0] 30)).alloc (Obj.cells #[.int .i64 1, .slice (some ⟨w.heap.size + 1 + 1 + 1, 0, none⟩) 1 1] 61)).alloc (Obj.cells #[.int .i64 3, .int .i64 0, .string ⟨#[]⟩, .slice (some ⟨w.heap.size + 1 + 1 + 1 + 1, 0, none⟩) 1 1, .slice none 0 0] 30)) (w.heap.size + 1 + 1 + 1) #[.int .i64 1, .int .i64 0, .string ⟨#[]⟩, .slice none 0 0, .slice none 0 0] 30 := (((Blk.newAt (by simp)).up _).up _)
  have B4 : Blk ((((((w.alloc (Obj.cells #[.string ⟨#[120]⟩, .int .i64 1, .int .i64 1, .int .i64 1, .string ⟨#[]⟩] 49)).alloc (Obj.cells #[.string ⟨#[109]⟩, .slice (some ⟨w.heap.size, 0, none⟩) 1 1, .slice none 0 0] 47)).alloc (Obj.cells #[.string ⟨#[97]⟩, .slice (some ⟨w.heap.size + 1, 0, none⟩) 1 1, .slice none 0 0, .slice none 0 0] 26)).alloc (Obj.cells #[.int .i64 1, .int .i64 0, .string ⟨#[]⟩, .slice none 0 0, .slice none 0 0] 30)).alloc (Obj.cells #[.int .i64 1, .slice (some ⟨w.heap.size + 1 + 1 + 1, 0, none⟩) 1 1] 61)).alloc (Obj.cells #[.int .i64 3, .int .i64 0, .string ⟨#[]⟩, .slice (some ⟨w.heap.size + 1 + 1 + 1 + 1, 0, none⟩) 1 1, .slice none 0 0] 30)) (w.heap.size + 1 + 1 + 1 + 1) #[.int .i64 1, .slice (some ⟨w.heap.size + 1 + 1 + 1, 0, none⟩) 1 1] 61 := ((Blk.newAt (by simp)).up _)
  have B5 : Blk ((((((w.alloc (Obj.cells #[.string ⟨#[120]⟩, .int .i64 1, .int .i64 1, .int .i64 1, .string ⟨#[]⟩] 49)).alloc (Obj.cells #[.string ⟨#[109]⟩, .slice (some ⟨w.heap.size, 0, none⟩) 1 1, .slice none 0 0] 47)).alloc (Obj.cells #[.string ⟨#[97]⟩, .slice (some ⟨w.heap.size + 1, 0, none⟩) 1 1, .slice none 0 0, .slice none 0 0] 26)).alloc (Obj.cells #[.int .i64 1, .int .i64 0, .string ⟨#[]⟩, .slice none 0 0, .slice none 0 0] 30)).alloc (Obj.cells #[.int .i64 1, .slice (some ⟨w.heap.size + 1 + 1 + 1, 0, none⟩) 1 1] 61)).alloc (Obj.cells #[.int .i64 3, .int .i64 0, .string ⟨#[]⟩, .slice (some ⟨w.heap.size + 1 + 1 + 1 + 1, 0, none⟩) 1 1, .slice none 0 0] 30)) (w.heap.size + 1 + 1 + 1 + 1 + 1) #[.int .i64 3, .int .i64 0, .string ⟨#[]⟩, .slice (some ⟨w.heap.size + 1 + 1 + 1 + 1, 0, none⟩) 1 1, .slice none 0 0] 30 := (Blk.newAt (by simp))
  have hb0 : Below w.heap.size w ((((((w.alloc (Obj.cells #[.string ⟨#[120]⟩, .int .i64 1, .int .i64 1, .int .i64 1, .string ⟨#[]⟩] 49)).alloc (Obj.cells #[.string ⟨#[109]⟩, .slice (some ⟨w.heap.size, 0, none⟩) 1 1, .slice none 0 0] 47)).alloc (Obj.cells #[.string ⟨#[97]⟩, .slice (some ⟨w.heap.size + 1, 0, none⟩) 1 1, .slice none 0 0, .slice none 0 0] 26)).alloc (Obj.cells #[.int .i64 1, .int .i64 0, .string ⟨#[]⟩, .slice none 0 0, .slice none 0 0] 30)).alloc (Obj.cells #[.int .i64 1, .slice (some ⟨w.heap.size + 1 + 1 + 1, 0, none⟩) 1 1] 61)).alloc (Obj.cells #[.int .i64 3, .int .i64 0, .string ⟨#[]⟩, .slice (some ⟨w.heap.size + 1 + 1 + 1 + 1, 0, none⟩) 1 1, .slice none 0 0] 30)) := by
    repeat' first | exact Below.refl _ _ | refine Below.alloc ?_ (by simp <;> omega) _
  generalize ((((((w.alloc (Obj.cells #[.string ⟨#[120]⟩, .int .i64 1, .int .i64 1, .int .i64 1, .string ⟨#[]⟩] 49)).alloc (Obj.cells #[.string ⟨#[109]⟩, .slice (some ⟨w.heap.size, 0, none⟩) 1 1, .slice none 0 0] 47)).alloc (Obj.cells #[.string ⟨#[97]⟩, .slice (some ⟨w.heap.size + 1, 0, none⟩) 1 1, .slice none 0 0, .slice none 0 0] 26)).alloc (Obj.cells #[.int .i64 1, .int .i64 0, .string ⟨#[]⟩, .slice none 0 0, .slice none 0 0] 30)).alloc (Obj.cells #[.int .i64 1, .slice (some ⟨w.heap.size + 1 + 1 + 1, 0, none⟩) 1 1] 61)).alloc (Obj.cells #[.int .i64 3, .int .i64 0, .string ⟨#[]⟩, .slice (some ⟨w.heap.size + 1 + 1 + 1 + 1, 0, none⟩) 1 1, .slice none 0 0] 30)) = W at *
  have FA : RowG W (.slice (some ⟨w.heap.size, 0, none⟩) 1 1) 5 (flRows [⟨⟨#[120]⟩, 1, 1, 1, ⟨#[]⟩⟩]) := RowG.blk B0 rfl (flr_len5 _) rfl (by decide)
  have SA : ScIn W (.agg #[.string ⟨#[97]⟩, .slice (some ⟨w.heap.size + 1, 0, none⟩) 1 1, .slice none 0 0, .slice none 0 0]) awA :=
    ⟨_, _, _, rfl, ⟨[[.string ⟨#[109]⟩, .slice (some ⟨w.heap.size, 0, none⟩) 1 1, .slice none 0 0]], RowG.blk B1 rfl (fun r hr => by simp at hr; subst hr; rfl) rfl (by decide), rfl, fun i m hm => by
      match i, hm with
      | 0, hm => simp [awA] at hm; subst hm; exact ⟨_, _, rfl, FA, RowG.nil _ _⟩
      | i + 1, hm => simp [awA] at hm⟩, ⟨[], RowG.nil _ _, rfl, fun i m hm => by simp [awA] at hm⟩, RowG.nil _ _⟩
  have TM : TrW 2 W (.agg #[.int .i64 3, .int .i64 0, .string ⟨#[]⟩, .slice none 0 0, .slice none 0 0]) awM := ⟨_, rfl, trR_leaf 1 W 3 three64⟩
  have TI : TrsR 1 W (.slice (some ⟨w.heap.size + 1 + 1 + 1, 0, none⟩) 1 1) [⟨1, 0, ⟨#[]⟩, [], []⟩] := ⟨[[.int .i64 1, .int .i64 0, .string ⟨#[]⟩, .slice none 0 0, .slice none 0 0]], RowG.blk B3 rfl (fun r hr => by simp at hr; subst hr; rfl) rfl (by decide), rfl, fun i x hx => by
      match i, hx with
      | 0, hx => simp at hx; subst hx; exact ⟨_, rfl, trR_leaf 0 W 1 one64⟩
      | i + 1, hx => simp at hx⟩
  have TE : EnsR 1 W (.slice (some ⟨w.heap.size + 1 + 1 + 1 + 1, 0, none⟩) 1 1) [(1, [⟨1, 0, ⟨#[]⟩, [], []⟩])] := ⟨[[.int .i64 1, .slice (some ⟨w.heap.size + 1 + 1 + 1, 0, none⟩) 1 1]], RowG.blk B4 rfl (fun r hr => by simp at hr; subst hr; rfl) rfl (by decide), rfl, fun i x hx => by
      match i, hx with
      | 0, hx => simp at hx; subst hx; exact ⟨_, rfl, _, rfl, one64, TI⟩
      | i + 1, hx => simp at hx⟩
  have TZ : TrW 2 W (.agg #[.int .i64 3, .int .i64 0, .string ⟨#[]⟩, .slice (some ⟨w.heap.size + 1 + 1 + 1 + 1, 0, none⟩) 1 1, .slice none 0 0]) awZ := ⟨_, rfl, _, _, rfl, three64, ⟨by decide, by decide⟩, by decide, (fun f hf => by simp [awZ] at hf), RowG.nil _ _, TE, B4.pln, fun g off n cap e => by cases e⟩
  have HGE : Hid (Calls Try.prog 16 #[.agg #[.string ⟨#[97]⟩, .slice (some ⟨w.heap.size + 1, 0, none⟩) 1 1, .slice none 0 0, .slice none 0 0], .string ⟨#[109]⟩, .agg #[.int .i64 3, .int .i64 0, .string ⟨#[]⟩, .slice none 0 0, .slice none 0 0], .int .i64 1] W (GetP 0 awA ⟨#[109]⟩ awM 1 W)) := get_step 0 SA awA_f.flds TM (fun e u W he => by simp [awM] at he)
  have HV1 : Hid (∀ W1, Below W.heap.size W W1 → Calls Try.prog 11 #[.agg #[.string ⟨#[97]⟩, .slice (some ⟨w.heap.size + 1, 0, none⟩) 1 1, .slice none 0 0, .slice none 0 0], .string ⟨#[109]⟩, .agg #[.int .i64 3, .int .i64 0, .string ⟨#[]⟩, .slice (some ⟨w.heap.size + 1 + 1 + 1 + 1, 0, none⟩) 1 1, .slice none 0 0]] W1 fun e w' => e = .returned (.int .i64 12) ∧ Below W1.heap.size W1 w') := fun W1 h => by
    have h1 := fits_any (nm := ⟨#[109]⟩) (SA.below h) awA_w awA_f (TZ.cel (Cel.ofBelow h)) (by decide) (by decide) awZ_s
    rw [awZ_v] at h1
    exact h1
  have HV2 : Hid (∀ W1, Below W.heap.size W W1 → Calls Try.prog 11 #[.agg #[.string ⟨#[97]⟩, .slice (some ⟨w.heap.size + 1, 0, none⟩) 1 1, .slice none 0 0, .slice none 0 0], .string ⟨#[109]⟩, .agg #[.int .i64 3, .int .i64 0, .string ⟨#[]⟩, .slice none 0 0, .slice none 0 0]] W1 fun e w' => e = .returned (.int .i64 0) ∧ Below W1.heap.size W1 w') := fun W1 h => by
    have h1 := fits_any (nm := ⟨#[109]⟩) (SA.below h) awA_w awA_f (TM.cel (Cel.ofBelow h)) (by decide) (by decide) awM_s
    rw [awM_v] at h1
    exact h1
  have HB2 : Hid (Blk W (w.heap.size + 1 + 1) #[.string ⟨#[97]⟩, .slice (some ⟨w.heap.size + 1, 0, none⟩) 1 1, .slice none 0 0, .slice none 0 0] 26) := B2
  have HB5 : Hid (Blk W (w.heap.size + 1 + 1 + 1 + 1 + 1) #[.int .i64 3, .int .i64 0, .string ⟨#[]⟩, .slice (some ⟨w.heap.size + 1 + 1 + 1 + 1, 0, none⟩) 1 1, .slice none 0 0] 30) := B5
  clear B0 B1 B2 B3 B4 B5 FA SA TM TI TE TZ
  refine Calls.mono HGE.out ?_
  rintro e w1 ⟨r, rfl, hr, hb1⟩
  rw [awM_g] at hr ⊢
  simp only [Option.isSome_some, Option.getD_some] at hr ⊢
  obtain ⟨ra, rc, hre, hrc1, hrc2, -⟩ := RowP.open hr
  subst hre
  obtain ⟨g, off, x1, x2, x3, x4, x5, x6, rfl, k0, -⟩ := trsR_get hr (i := 0) rfl
  simp only [Nat.zero_mul, Nat.add_zero, List.length_cons, List.length_nil, Nat.zero_add] at k0 hrc1 ⊢
  unfold maxLen at hrc2
  clear hr HGE
  have B2 := HB2.out.below hb1
  have B5 := HB5.out.below hb1
  have s0 := (B2.cell 0).trans rfl
  have s1 := (B2.cell 1).trans rfl
  have s2 := (B2.cell 2).trans rfl
  have s3 := (B2.cell 3).trans rfl
  have z0 := (B5.cell 0).trans rfl
  have z1 := (B5.cell 1).trans rfl
  have z2 := (B5.cell 2).trans rfl
  have z3 := (B5.cell 3).trans rfl
  have z4 := (B5.cell 4).trans rfl
  clear B2 B5
  go_wp2_with fail
  refine (HV1.out w1 hb1).mono ?_
  rintro e w2 ⟨rfl, hb2⟩
  have hb12 : Below W.heap.size W w2 := hb1.trans (hb2.mono hb1.size)
  have B2 := HB2.out.below hb12
  have k0 := (hb2.cell (World.block_lt_of_cell? _ _ k0)).trans k0
  clear s0 s1 s2 s3 z0 z1 z2 z3 z4 hb1 hb2
  have s0 := (B2.cell 0).trans rfl
  have s1 := (B2.cell 1).trans rfl
  have s2 := (B2.cell 2).trans rfl
  have s3 := (B2.cell 3).trans rfl
  clear B2
  go_wp2_with fail
  refine (HV2.out w2 hb12).mono ?_
  rintro e w3 ⟨rfl, hb3⟩
  have hb13 : Below W.heap.size W w3 := hb12.trans (hb3.mono hb12.size)
  have k0 := (hb3.cell (World.block_lt_of_cell? _ _ k0)).trans k0
  clear s0 s1 s2 s3 hb12 hb3
  go_wp2_with fail
  go_ret
  exact ⟨rfl, hb0.trans (hb13.mono hb0.size)⟩
end Go.Proofs.Ytiiegphbhfiffaa
