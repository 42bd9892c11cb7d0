/- Whether a tree is one of a message. -/
import Derived.Maps.AppendAt
import Derived.Test.YtfnjbbaphmmjlaaGreatPkF
import Derived.Test.YtfnjbbaphmmjlaaGreatPkA
import Derived.Test.YtfnjbbaphmmjlaaGreatPkB
import Derived.Test.YtfnjbbaphmmjlaaGreatPkD
namespace Go.Proofs.YtfnjbbaphmmjlaaGreat
open Go.ChangeShapes Go.WideShapes Go.ChangeAt Go.RowKit
set_option linter.unusedVariables false
set_option linter.unusedSimpArgs false
set_option maxRecDepth 20000

theorem TrW.trI {n : Nat} {w : World} {t : Tr} {K N : Int} {S : ByteArray} {a1 a2 : Option Addr} {n1 c1 n2 c2 : Nat} (h : TrW n w (.agg #[.int .i64 K, .int .i64 N, .string S, .slice a1 n1 c1, .slice a2 n2 c2]) t) : TrI n w ⟨K, N, S, plOf (.slice a1 n1 c1), plOf (.slice a2 n2 c2)⟩ t := by
  obtain ⟨p1, p2, p3, p4, p5⟩ := h.parts
  obtain ⟨r, e, h⟩ := h
  have e1 : r = [.int .i64 K, .int .i64 N, .string S, .slice a1 n1 c1, .slice a2 n2 c2] := by simpa using congrArg (fun v => match v with | .agg a => a.toList | _ => []) e.symm
  subst e1
  refine ⟨.slice a1 n1 c1, .slice a2 n2 c2, by rw [idOf, p1, p2, p3], ?_⟩
  rw [p1, p2, p3]
  exact h
theorem flr_len5 (fs : List FlS) : ∀ r ∈ flRows fs, r.length = 5 := fun r hr => by
  simp only [flRows, List.mem_map] at hr
  obtain ⟨_, _, rfl⟩ := hr
  rfl
set_option maxHeartbeats 8000000 in
theorem message_step (s : ScS) (sn : ByteArray) (ma ea ta : Option Addr) (mn mc en ec tn tc b : Nat) (hl : ∀ m ∈ s.msgs, m.fields.length ≤ 20 ∧ m.reserved.length ≤ 40) (n : Nat) (IH : ∀ t nm v w, TrW n w v t → KnS s w b → ScIn w (.agg #[.string sn, .slice ma mn mc, .slice ea en ec, .slice ta tn tc]) s → Calls Tryz.prog 36 #[.agg #[.string sn, .slice ma mn mc, .slice ea en ec, .slice ta tn tc, .map (some b)], .string nm, v] w (MesP s (msgV n s nm t) b w))
    (t : Tr) (nm : ByteArray) (v : Value) (w : World) (ht : TrW (n + 1) w v t) (hk : KnS s w b) (hs : ScIn w (.agg #[.string sn, .slice ma mn mc, .slice ea en ec, .slice ta tn tc]) s) : Calls Tryz.prog 36 #[.agg #[.string sn, .slice ma mn mc, .slice ea en ec, .slice ta tn tc, .map (some b)], .string nm, v] w (MesP s (msgV (n + 1) s nm t) b w) := by
  have hmf : ∀ (fn : Fn) (first cap : Array Value) (w : World), (Instr.makeFunc fn first cap).run Tryz.prog w = .ok (.func fn first cap) w := fun _ _ _ _ => rfl
  obtain ⟨m, a1, c1, a2, c2, hmn, rfl, -, -, -, u1, u2, x1, x2, x3, x4, hr, he, hp1, hp2⟩ := ht.open
  obtain rfl : m = n := by omega
  obtain ⟨X, hX⟩ : ∃ X, msgV (m + 1) s nm t = X := ⟨_, rfl⟩
  have HV : Hid (msgV (m + 1) s nm t = X) := hX
  rw [hX]
  obtain ⟨K, hK⟩ : ∃ z, t.kind = z := ⟨_, rfl⟩
  obtain ⟨N, hN⟩ : ∃ z, t.n = z := ⟨_, rfl⟩
  obtain ⟨S, hS⟩ : ∃ z, t.s = z := ⟨_, rfl⟩
  obtain ⟨n1, hn1⟩ : ∃ z, t.es.length = z := ⟨_, rfl⟩
  obtain ⟨n2, hn2⟩ : ∃ z, t.rest.length = z := ⟨_, rfl⟩
  rw [hK, hN, hS, hn1, hn2] at ht ⊢
  rw [hn1] at he u1 x3
  rw [hn2] at hr x1 x4
  have HL : Hid (t.es.length = n1 ∧ t.rest.length = n2) := ⟨hn1, hn2⟩
  obtain ⟨⟨p1, m1⟩, hp1'⟩ : ∃ x, plOf (.slice a1 n1 c1) = x := ⟨_, rfl⟩
  obtain ⟨⟨p2, m2⟩, hp2'⟩ : ∃ x, plOf (.slice a2 n2 c2) = x := ⟨_, rfl⟩
  have HTI : Hid (TrI (m + 1) w ⟨K, N, S, (p1, m1), (p2, m2)⟩ t) := (by have h1 := ht.trI; rw [hp1', hp2'] at h1; exact h1 : TrI (m + 1) w ⟨K, N, S, (p1, m1), (p2, m2)⟩ t)
  have HIC : Hid (∀ W, Calls Tryz.prog 63 #[.agg #[.int .i64 K, .int .i64 N, .string S, .slice a1 n1 c1, .slice a2 n2 c2]] W fun e w' => e = .returned (.agg #[.int .i64 K, .int .i64 N, .string S, .pointer p1, .int .i64 (m1 : Int), .pointer p2, .int .i64 (m2 : Int)]) ∧ Below W.heap.size W w') := fun W => by
    have h1 := identity_any K N S a1 a2 n1 c1 n2 c2 W u1 u2 x3 x1 x2 x4
    rw [hp1', hp2'] at h1
    exact h1
  have HK : Hid (KnS s w b) := hk
  have HS : Hid (ScIn w (.agg #[.string sn, .slice ma mn mc, .slice ea en ec, .slice ta tn tc]) s) := hs
  have HE : Hid (EnsR m w (.slice a1 n1 c1) t.es) := he
  have HR : Hid (RowG w (.slice a2 n2 c2) 4 (fdRows t.rest)) := hr
  unfold maxLen at u2 x2
  have BF : Blk ((w.alloc (Obj.cells #[.string sn, .slice ma mn mc, .slice ea en ec, .slice ta tn tc, .map (some b)] 81)).alloc (Obj.cells #[.int .i64 K, .int .i64 N, .string S, .slice a1 n1 c1, .slice a2 n2 c2] 30)) w.heap.size #[.string sn, .slice ma mn mc, .slice ea en ec, .slice ta tn tc, .map (some b)] 81 := (Blk.new w _ _).below ((Below.refl _ _).alloc (Nat.le_refl _) _)
  have BT : Blk ((w.alloc (Obj.cells #[.string sn, .slice ma mn mc, .slice ea en ec, .slice ta tn tc, .map (some b)] 81)).alloc (Obj.cells #[.int .i64 K, .int .i64 N, .string S, .slice a1 n1 c1, .slice a2 n2 c2] 30)) (w.heap.size + 1) #[.int .i64 K, .int .i64 N, .string S, .slice a1 n1 c1, .slice a2 n2 c2] 30 := by
    have := Blk.new (w.alloc (Obj.cells #[.string sn, .slice ma mn mc, .slice ea en ec, .slice ta tn tc, .map (some b)] 81)) #[.int .i64 K, .int .i64 N, .string S, .slice a1 n1 c1, .slice a2 n2 c2] 30
    rwa [show (w.alloc (Obj.cells #[.string sn, .slice ma mn mc, .slice ea en ec, .slice ta tn tc, .map (some b)] 81)).heap.size = w.heap.size + 1 from by simp] at this
  have hbw : Below w.heap.size w ((w.alloc (Obj.cells #[.string sn, .slice ma mn mc, .slice ea en ec, .slice ta tn tc, .map (some b)] 81)).alloc (Obj.cells #[.int .i64 K, .int .i64 N, .string S, .slice a1 n1 c1, .slice a2 n2 c2] 30)) := ((Below.refl _ _).alloc (Nat.le_refl _) _).alloc (by simp) _
  clear hX hK hN hS hn1 hn2 hp1' hp2' hp1 hp2 x3 x4 hr he hk hs ht hmn
  go_enter Tryz.func36, Tryz.ntmps36
  go_wp2_with fail
  refine (HIC.out _).mono ?_
  rintro ee w1 ⟨rfl, hb1⟩
  have hbw1 : Below w.heap.size w w1 := hbw.trans (hb1.mono hbw.size)
  have al2 : Below w1.heap.size w1 (w1.alloc (Obj.cells #[.string nm, .int .i64 K, .int .i64 N, .string S, .pointer p1, .int .i64 (m1 : Int), .pointer p2, .int .i64 (m2 : Int)] 119)) := (Below.refl _ _).alloc (Nat.le_refl _) _
  have al3 : Below w1.heap.size w1 ((w1.alloc (Obj.cells #[.string nm, .int .i64 K, .int .i64 N, .string S, .pointer p1, .int .i64 (m1 : Int), .pointer p2, .int .i64 (m2 : Int)] 119)).alloc (Obj.cells #[] 120)) := al2.alloc al2.size _
  have hbw2 : Below w.heap.size w (w1.alloc (Obj.cells #[.string nm, .int .i64 K, .int .i64 N, .string S, .pointer p1, .int .i64 (m1 : Int), .pointer p2, .int .i64 (m2 : Int)] 119)) := hbw1.trans (al2.mono hbw1.size)
  have hbw3 : Below w.heap.size w ((w1.alloc (Obj.cells #[.string nm, .int .i64 K, .int .i64 N, .string S, .pointer p1, .int .i64 (m1 : Int), .pointer p2, .int .i64 (m2 : Int)] 119)).alloc (Obj.cells #[] 120)) := hbw1.trans (al3.mono hbw1.size)
  have BF2 : Blk (w1.alloc (Obj.cells #[.string nm, .int .i64 K, .int .i64 N, .string S, .pointer p1, .int .i64 (m1 : Int), .pointer p2, .int .i64 (m2 : Int)] 119)) w.heap.size #[.string sn, .slice ma mn mc, .slice ea en ec, .slice ta tn tc, .map (some b)] 81 := (BF.below hb1).below al2
  have BC2 : Blk (w1.alloc (Obj.cells #[.string nm, .int .i64 K, .int .i64 N, .string S, .pointer p1, .int .i64 (m1 : Int), .pointer p2, .int .i64 (m2 : Int)] 119)) w1.heap.size #[.string nm, .int .i64 K, .int .i64 N, .string S, .pointer p1, .int .i64 (m1 : Int), .pointer p2, .int .i64 (m2 : Int)] 119 := Blk.new w1 _ _
  have BF3 : Blk ((w1.alloc (Obj.cells #[.string nm, .int .i64 K, .int .i64 N, .string S, .pointer p1, .int .i64 (m1 : Int), .pointer p2, .int .i64 (m2 : Int)] 119)).alloc (Obj.cells #[] 120)) w.heap.size #[.string sn, .slice ma mn mc, .slice ea en ec, .slice ta tn tc, .map (some b)] 81 := (BF.below hb1).below al3
  have BT3 : Blk ((w1.alloc (Obj.cells #[.string nm, .int .i64 K, .int .i64 N, .string S, .pointer p1, .int .i64 (m1 : Int), .pointer p2, .int .i64 (m2 : Int)] 119)).alloc (Obj.cells #[] 120)) (w.heap.size + 1) #[.int .i64 K, .int .i64 N, .string S, .slice a1 n1 c1, .slice a2 n2 c2] 30 := (BT.below hb1).below al3
  have BC3 : Blk ((w1.alloc (Obj.cells #[.string nm, .int .i64 K, .int .i64 N, .string S, .pointer p1, .int .i64 (m1 : Int), .pointer p2, .int .i64 (m2 : Int)] 119)).alloc (Obj.cells #[] 120)) w1.heap.size #[.string nm, .int .i64 K, .int .i64 N, .string S, .pointer p1, .int .i64 (m1 : Int), .pointer p2, .int .i64 (m2 : Int)] 119 := BC2.below ((Below.refl _ _).alloc (Nat.le_refl _) _)
  obtain ⟨R, hlk, hR⟩ := (HK.out.below hbw2).look (nm := nm) (HTI.out.cel (Cel.ofBelow hbw2))
  have HR0 : Hid (R = true → X = 0) := fun h => by rw [← HV.out]; exact hR h
  have HLK : Hid ((Instr.lookup 79 (.map (some b)) (.agg #[.string nm, .int .i64 K, .int .i64 N, .string S, .pointer p1, .int .i64 (m1 : Int), .pointer p2, .int .i64 (m2 : Int)]) true).run Tryz.prog (w1.alloc (Obj.cells #[.string nm, .int .i64 K, .int .i64 N, .string S, .pointer p1, .int .i64 (m1 : Int), .pointer p2, .int .i64 (m2 : Int)] 119)) = .ok (.tuple #[.agg #[], .bool R]) (w1.alloc (Obj.cells #[.string nm, .int .i64 K, .int .i64 N, .string S, .pointer p1, .int .i64 (m1 : Int), .pointer p2, .int .i64 (m2 : Int)] 119))) := hlk
  have HK3 : Hid (KnS s ((w1.alloc (Obj.cells #[.string nm, .int .i64 K, .int .i64 N, .string S, .pointer p1, .int .i64 (m1 : Int), .pointer p2, .int .i64 (m2 : Int)] 119)).alloc (Obj.cells #[] 120)) b) := HK.out.below hbw3
  have HS3 : Hid (ScIn ((w1.alloc (Obj.cells #[.string nm, .int .i64 K, .int .i64 N, .string S, .pointer p1, .int .i64 (m1 : Int), .pointer p2, .int .i64 (m2 : Int)] 119)).alloc (Obj.cells #[] 120)) (.agg #[.string sn, .slice ma mn mc, .slice ea en ec, .slice ta tn tc]) s) := HS.out.below hbw3
  have HE3 : Hid (EnsR m ((w1.alloc (Obj.cells #[.string nm, .int .i64 K, .int .i64 N, .string S, .pointer p1, .int .i64 (m1 : Int), .pointer p2, .int .i64 (m2 : Int)] 119)).alloc (Obj.cells #[] 120)) (.slice a1 n1 c1) t.es) := HE.out.celE (Cel.ofBelow hbw3)
  have HRR3 : Hid (RowG ((w1.alloc (Obj.cells #[.string nm, .int .i64 K, .int .i64 N, .string S, .pointer p1, .int .i64 (m1 : Int), .pointer p2, .int .i64 (m2 : Int)] 119)).alloc (Obj.cells #[] 120)) (.slice a2 n2 c2) 4 (fdRows t.rest)) := HR.out.below hbw3
  have HTI3 : Hid (TrI (m + 1) ((w1.alloc (Obj.cells #[.string nm, .int .i64 K, .int .i64 N, .string S, .pointer p1, .int .i64 (m1 : Int), .pointer p2, .int .i64 (m2 : Int)] 119)).alloc (Obj.cells #[] 120)) ⟨K, N, S, (p1, m1), (p2, m2)⟩ t) := HTI.out.cel (Cel.ofBelow hbw3)
  have HKW : Hid (Kp (fun q => q = b) w ((w1.alloc (Obj.cells #[.string nm, .int .i64 K, .int .i64 N, .string S, .pointer p1, .int .i64 (m1 : Int), .pointer p2, .int .i64 (m2 : Int)] 119)).alloc (Obj.cells #[] 120))) := Kp.ofBelow hbw3
  have g4 := (BF2.cell 4).trans rfl
  have j0 := (BC2.cell 0).trans rfl
  have j1 := (BC2.cell 1).trans rfl
  have j2 := (BC2.cell 2).trans rfl
  have j3 := (BC2.cell 3).trans rfl
  have j4 := (BC2.cell 4).trans rfl
  have j5 := (BC2.cell 5).trans rfl
  have j6 := (BC2.cell 6).trans rfl
  have j7 := (BC2.cell 7).trans rfl
  clear hlk hR hb1 hbw hbw1 hbw2 hbw3 al2 al3 HK HS HE HR HTI HIC BF BT BF2 BC2
  cases R with
  | true =>
    have HX0 : Hid (0 = X) := (HR0.out rfl).symm
    go_wp2_with (first | (at_lookup; refine wpList_lookup_pl rfl _ _ rfl rfl rfl HLK.out ?_) | fail)
    go_ret
    exact MesP.of HX0.out HKW.out HK3.out
  | false =>
    obtain ⟨vm, ve, vt, hse, hms, -, -⟩ := HS3.out
    simp only [Value.agg.injEq, Array.mk.injEq, List.cons.injEq, and_true] at hse
    obtain ⟨hse0, rfl, rfl, rfl⟩ := hse
    have HMC : Hid (Calls Tryz.prog 34 #[.agg #[.string sn, .slice ma mn mc, .slice ea en ec, .slice ta tn tc], .string nm] ((w1.alloc (Obj.cells #[.string nm, .int .i64 K, .int .i64 N, .string S, .pointer p1, .int .i64 (m1 : Int), .pointer p2, .int .i64 (m2 : Int)] 119)).alloc (Obj.cells #[] 120)) fun e w' => ∃ vf vr, e = .returned (.tuple #[.agg #[.string ((msgOf s nm).getD zMs).name, vf, vr], .bool (msgOf s nm).isSome]) ∧ w'.ownsRow ((w1.alloc (Obj.cells #[.string nm, .int .i64 K, .int .i64 N, .string S, .pointer p1, .int .i64 (m1 : Int), .pointer p2, .int .i64 (m2 : Int)] 119)).alloc (Obj.cells #[] 120)).heap.size 54 5 vf ((msgOf s nm).getD zMs).fields.length (flRows ((msgOf s nm).getD zMs).fields).flatten ∧ w'.ownsRow ((w1.alloc (Obj.cells #[.string nm, .int .i64 K, .int .i64 N, .string S, .pointer p1, .int .i64 (m1 : Int), .pointer p2, .int .i64 (m2 : Int)] 119)).alloc (Obj.cells #[] 120)).heap.size 3 1 vr ((msgOf s nm).getD zMs).reserved.length (inRows ((msgOf s nm).getD zMs).reserved).flatten ∧ Below ((w1.alloc (Obj.cells #[.string nm, .int .i64 K, .int .i64 N, .string S, .pointer p1, .int .i64 (m1 : Int), .pointer p2, .int .i64 (m2 : Int)] 119)).alloc (Obj.cells #[] 120)).heap.size ((w1.alloc (Obj.cells #[.string nm, .int .i64 K, .int .i64 N, .string S, .pointer p1, .int .i64 (m1 : Int), .pointer p2, .int .i64 (m2 : Int)] 119)).alloc (Obj.cells #[] 120)) w') := cmessage_any hms hl
    clear hse0 hms
    have q0 := (BF3.cell 0).trans rfl
    have q1 := (BF3.cell 1).trans rfl
    have q2 := (BF3.cell 2).trans rfl
    have q3 := (BF3.cell 3).trans rfl
    obtain ⟨fs, hfs⟩ : ∃ z, ((msgOf s nm).getD zMs).fields = z := ⟨_, rfl⟩
    obtain ⟨mnm, hmnm⟩ : ∃ z, ((msgOf s nm).getD zMs).name = z := ⟨_, rfl⟩
    rw [hfs, hmnm] at HMC
    have HFS : Hid (((msgOf s nm).getD zMs).fields = fs) := hfs
    clear hfs hmnm
    generalize (msgOf s nm).isSome = okM at *
    go_wp2_with (first | (at_lookup; refine wpList_lookup_pl rfl _ _ rfl rfl rfl HLK.out ?_) | fail)
    refine HMC.out.mono ?_
    rintro ee w4 ⟨vf, vr, rfl, hof, hor, hb4⟩
    have hrf : RowG w4 vf 5 (flRows fs) := (RowG.own (flr_len5 fs) (by decide) hof).1
    obtain ⟨fa, fl, fc, rfl⟩ := row_slice hrf
    obtain ⟨ra, rc, hvr⟩ := own_form hor
    subst hvr
    obtain ⟨rl, hrl⟩ : ∃ z, ((msgOf s nm).getD zMs).reserved.length = z := ⟨_, rfl⟩
    rw [hrl]
    have al5 : Below w4.heap.size w4 (w4.alloc (Obj.cells #[.string mnm, .slice fa fl fc, .slice ra rl rc] 50)) := (Below.refl _ _).alloc (Nat.le_refl _) _
    have hb35 : Below ((w1.alloc (Obj.cells #[.string nm, .int .i64 K, .int .i64 N, .string S, .pointer p1, .int .i64 (m1 : Int), .pointer p2, .int .i64 (m2 : Int)] 119)).alloc (Obj.cells #[] 120)).heap.size ((w1.alloc (Obj.cells #[.string nm, .int .i64 K, .int .i64 N, .string S, .pointer p1, .int .i64 (m1 : Int), .pointer p2, .int .i64 (m2 : Int)] 119)).alloc (Obj.cells #[] 120)) (w4.alloc (Obj.cells #[.string mnm, .slice fa fl fc, .slice ra rl rc] 50)) := hb4.trans (al5.mono hb4.size)
    have BF5 : Blk (w4.alloc (Obj.cells #[.string mnm, .slice fa fl fc, .slice ra rl rc] 50)) w.heap.size #[.string sn, .slice ma mn mc, .slice ea en ec, .slice ta tn tc, .map (some b)] 81 := BF3.below hb35
    have BT5 : Blk (w4.alloc (Obj.cells #[.string mnm, .slice fa fl fc, .slice ra rl rc] 50)) (w.heap.size + 1) #[.int .i64 K, .int .i64 N, .string S, .slice a1 n1 c1, .slice a2 n2 c2] 30 := BT3.below hb35
    have BC5 : Blk (w4.alloc (Obj.cells #[.string mnm, .slice fa fl fc, .slice ra rl rc] 50)) w1.heap.size #[.string nm, .int .i64 K, .int .i64 N, .string S, .pointer p1, .int .i64 (m1 : Int), .pointer p2, .int .i64 (m2 : Int)] 119 := BC3.below hb35
    have BM5 : Blk (w4.alloc (Obj.cells #[.string mnm, .slice fa fl fc, .slice ra rl rc] 50)) w4.heap.size #[.string mnm, .slice fa fl fc, .slice ra rl rc] 50 := Blk.new w4 _ _
    have HK5 : Hid (KnS s (w4.alloc (Obj.cells #[.string mnm, .slice fa fl fc, .slice ra rl rc] 50)) b) := HK3.out.below hb35
    have HS5 : Hid (ScIn (w4.alloc (Obj.cells #[.string mnm, .slice fa fl fc, .slice ra rl rc] 50)) (.agg #[.string sn, .slice ma mn mc, .slice ea en ec, .slice ta tn tc]) s) := HS3.out.below hb35
    have HE5 : Hid (EnsR m (w4.alloc (Obj.cells #[.string mnm, .slice fa fl fc, .slice ra rl rc] 50)) (.slice a1 n1 c1) t.es) := HE3.out.celE (Cel.ofBelow hb35)
    have HRR5 : Hid (RowG (w4.alloc (Obj.cells #[.string mnm, .slice fa fl fc, .slice ra rl rc] 50)) (.slice a2 n2 c2) 4 (fdRows t.rest)) := HRR3.out.below hb35
    have HTI5 : Hid (TrI (m + 1) (w4.alloc (Obj.cells #[.string mnm, .slice fa fl fc, .slice ra rl rc] 50)) ⟨K, N, S, (p1, m1), (p2, m2)⟩ t) := HTI3.out.cel (Cel.ofBelow hb35)
    have HRF5 : Hid (RowG (w4.alloc (Obj.cells #[.string mnm, .slice fa fl fc, .slice ra rl rc] 50)) (.slice fa fl fc) 5 (flRows fs)) := hrf.below al5
    have HKW5 : Hid (Kp (fun q => q = b) w (w4.alloc (Obj.cells #[.string mnm, .slice fa fl fc, .slice ra rl rc] 50))) := HKW.out.trans (Kp.ofBelow hb35)
    have q3 := (BT5.cell 3).trans rfl
    have HVX : Hid (X = if errF (t.es.map (entV (msgV m s) fs)) ≠ 0 then errF (t.es.map (entV (msgV m s) fs)) else if (t.rest.any fun f => (fldOf fs f.tag).isSome) = true then 7 else 0) := (by rw [← HV.out, msgV, HFS.out] : X = _)
    clear hrl hof hor hrf hb4 al5 hb35 BF3 BT3 BC3 HK3 HS3 HE3 HRR3 HTI3 HMC HLK q0 q1 q2 g4 j0 j1 j2 j3 j4 j5 j6 j7 HKW
    obtain ⟨b0, hb0⟩ : ∃ z, w.heap.size = z := ⟨_, rfl⟩
    simp only [hb0] at BF5 BT5 q3 ⊢
    go_wp2_with fail
    clear q3
    generalize (w4.alloc (Obj.cells #[.string mnm, .slice fa fl fc, .slice ra rl rc] 50)) = W5 at *
    obtain ⟨bM, hbM⟩ : ∃ z, w4.heap.size = z := ⟨_, rfl⟩
    obtain ⟨bC, hbC⟩ : ∃ z, w1.heap.size = z := ⟨_, rfl⟩
    rw [hbM] at BM5
    rw [hbC] at BC5
    simp only [hbM, hbC]
    clear hbM hbC hb0
    go_loopw [37] (fun iv wr => ∃ i : Nat, iv = .int .i64 (i : Int) ∧ i ≤ n1 ∧ Hid (errF ((t.es.take i).map (entV (msgV m s) fs)) = 0) ∧ Kp (fun q => q = b) W5 wr ∧ Hid (KnS s wr b)) (fun iv _ => n1 - (intOf iv).toNat)
    case atStart => exact ⟨0, rfl, by omega, (by simp [errF] : errF ((t.es.take 0).map (entV (msgV m s) fs)) = 0), Kp.refl _ _, HK5⟩
    case round =>
      obtain ⟨i, rfl, hi, HI, hkp, HKR⟩ := hrel
      have hcel : Cel W5 wr := HK5.out.cel hkp
      have BFr := BF5.cel hcel
      have BMr := BM5.cel hcel
      have BTr := BT5.cel hcel
      have BCr := BC5.cel hcel
      by_cases hlt : i < n1
      · obtain ⟨e, hx⟩ : ∃ r, t.es[i]? = some r := ⟨_, List.getElem?_eq_getElem (by rw [HL.out.1]; exact hlt)⟩
        obtain ⟨gx, ox, xa, xc, rfl, y0, y1, -, hxt, hxc, hxm⟩ := ensR_get (HE5.out.celE hcel) hx
        have al : Below wr.heap.size wr (wr.alloc (Obj.cells #[.int .i64 e.1, .slice xa e.2.length xc] 58)) := (Below.refl _ _).alloc (Nat.le_refl _) _
        have htc := entry_step s sn ma ea ta mn mc en ec tn tc b m IH e fs mnm fa ra xa fl fc rl rc xc _ (hxt.celT (Cel.ofBelow al)) hxc hxm ((HRF5.out.cel hcel).below al) (HKR.out.below al) ((HS5.out.cel hcel).below al)
        obtain ⟨Y, hY⟩ : ∃ z, entV (msgV m s) fs e = z := ⟨_, rfl⟩
        have HY : Hid (entV (msgV m s) fs e = Y) := hY
        rw [hY] at htc
        obtain ⟨e1, he1⟩ : ∃ z, e.1 = z := ⟨_, rfl⟩
        obtain ⟨Xl, hXl⟩ : ∃ z, e.2.length = z := ⟨_, rfl⟩
        rw [he1, hXl] at htc al
        rw [he1] at y0
        rw [hXl] at y1
        have HTC : Hid (Calls Tryz.prog 64 #[.agg #[.string sn, .slice ma mn mc, .slice ea en ec, .slice ta tn tc, .map (some b)], .agg #[.string mnm, .slice fa fl fc, .slice ra rl rc], .agg #[.int .i64 e1, .slice xa Xl xc]] (wr.alloc (Obj.cells #[.int .i64 e1, .slice xa Xl xc] 58)) (MesP s Y b (wr.alloc (Obj.cells #[.int .i64 e1, .slice xa Xl xc] 58)))) := htc
        have HIX : Hid (t.es[i]? = some e) := hx
        have BFx := BFr.below al
        have BMx := BMr.below al
        have g0 := (BFx.cell 0).trans rfl
        have g1 := (BFx.cell 1).trans rfl
        have g2 := (BFx.cell 2).trans rfl
        have g3 := (BFx.cell 3).trans rfl
        have g4 := (BFx.cell 4).trans rfl
        have l0 := (BMx.cell 0).trans rfl
        have l1 := (BMx.cell 1).trans rfl
        have l2 := (BMx.cell 2).trans rfl
        clear hY he1 hXl hx hxt htc hxc hxm
        go_wp2_with fail
        refine Calls.mono HTC.out ?_
        rintro ee W6 ⟨rfl, hk6, hn6⟩
        have hkp6 : Kp (fun q => q = b) W5 W6 := (hkp.trans (Kp.ofBelow al)).trans hk6
        have HN6 : Hid (KnS s W6 b) := hn6
        have HKW6 : Hid (Kp (fun q => q = b) w W6) := HKW5.out.trans hkp6
        clear HTC hk6 hn6 BFx BMx g0 g1 g2 g3 g4 l0 l1 l2 y0 y1 al BFr BMr BTr BCr hkp HKR
        by_cases hY0 : Y = 0
        · subst hY0
          have HI2 : Hid (errF ((t.es.take (i + 1)).map (entV (msgV m s) fs)) = 0) := errF_on HIX.out HI.out HY.out
          clear HI
          go_wp2_with fail
          go_roundw
          case rel => exact ⟨i + 1, by go_num, by omega, HI2, hkp6, HN6⟩
          case measure => simp [intOf]; omega
        · have d4 : (Y != 0) = true := by simpa using hY0
          have HXY : Hid (Y = X) := (by
            have h1 : errF (t.es.map (entV (msgV m s) fs)) = Y := by rw [errF_hit HIX.out HI.out (by rw [HY.out]; exact hY0), HY.out]
            rw [HVX.out, h1, if_pos hY0] : Y = X)
          clear hY0
          go_wp2_with fail
          go_ret
          exact MesP.of HXY.out HKW6.out HN6.out
      · have HE0 : Hid (errF (t.es.map (entV (msgV m s) fs)) = 0) := (by
          have h1 := HI.out
          rw [List.take_of_length_le (by rw [HL.out.1]; omega)] at h1
          exact h1 : errF (t.es.map (entV (msgV m s) fs)) = 0)
        have z4 := (BTr.cell 4).trans rfl
        obtain ⟨B, hB⟩ : ∃ z, (t.rest.any fun f => (fldOf fs f.tag).isSome) = z := ⟨_, rfl⟩
        have HB : Hid ((t.rest.any fun f => (fldOf fs f.tag).isSome) = B) := hB
        have HCO : Hid (Calls Tryz.prog 65 #[.slice a2 n2 c2, .func (.func 66) #[] #[.pointer (some ⟨bM, 0, none⟩)]] wr fun e w' => e = .returned (.bool B) ∧ Below wr.heap.size wr w') := (by
          have h1 := containsR_any bM (.slice a2 n2 c2) t.rest wr (fun f => (fldOf fs f.tag).isSome) (HRR5.out.cel hcel) (fun W x hW _ => restc_any x (BMr.below hW) ((HRF5.out.cel hcel).below hW) ⟨_, _, _, rfl⟩)
          rw [hB] at h1
          exact h1 : Calls Tryz.prog _ _ wr _)
        clear hB HI BMr
        go_wp2_with fail
        refine HCO.out.mono ?_
        rintro ee w6 ⟨rfl, hb6⟩
        have HN6 : Hid (KnS s w6 b) := HKR.out.below hb6
        have HKW6 : Hid (Kp (fun q => q = b) w w6) := (HKW5.out.trans hkp).trans (Kp.ofBelow hb6)
        have BF6 := BFr.below hb6
        have BC6 := BCr.below hb6
        have HTI6 : Hid (TrI (m + 1) w6 ⟨K, N, S, (p1, m1), (p2, m2)⟩ t) := (HTI5.out.cel hcel).cel (Cel.ofBelow hb6)
        clear HCO hb6 z4 BTr BFr BCr hkp HKR hcel
        cases B with
        | true =>
          have HX7 : Hid (7 = X) := (by rw [HVX.out, HE0.out, if_neg (by simp), HB.out, if_pos rfl] : 7 = X)
          go_wp2_with fail
          go_ret
          exact MesP.of HX7.out HKW6.out HN6.out
        | false =>
          have HX0 : Hid (0 = X) := (by rw [HVX.out, HE0.out, if_neg (by simp), HB.out, if_neg (by simp)] : 0 = X)
          obtain ⟨w7, r1, r2, r3⟩ := HN6.out.update (nm := nm) HTI6.out (by rw [HV.out, ← HX0.out])
          have HUP : Hid ((Instr.mapUpdate 79 (.map (some b)) (.agg #[.string nm, .int .i64 K, .int .i64 N, .string S, .pointer p1, .int .i64 (m1 : Int), .pointer p2, .int .i64 (m2 : Int)]) (.agg #[])).run Tryz.prog w6 = .ok () w7) := r1
          have HN7 : Hid (KnS s w7 b) := r2
          have HKW7 : Hid (Kp (fun q => q = b) w w7) := HKW6.out.trans r3
          have g4 := (BF6.cell 4).trans rfl
          have j0 := (BC6.cell 0).trans rfl
          have j1 := (BC6.cell 1).trans rfl
          have j2 := (BC6.cell 2).trans rfl
          have j3 := (BC6.cell 3).trans rfl
          have j4 := (BC6.cell 4).trans rfl
          have j5 := (BC6.cell 5).trans rfl
          have j6 := (BC6.cell 6).trans rfl
          have j7 := (BC6.cell 7).trans rfl
          clear r1 r2 r3 BF6 BC6 HN6 HTI6
          go_wp2_with (first | (at_mapUpdate; refine wpList_update_pl rfl _ _ _ rfl rfl rfl rfl HUP.out ?_) | fail)
          go_ret
          exact MesP.of HX0.out HKW7.out HN7.out
theorem message_any (s : ScS) (sn : ByteArray) (ma ea ta : Option Addr) (mn mc en ec tn tc b : Nat) (hl : ∀ m ∈ s.msgs, m.fields.length ≤ 20 ∧ m.reserved.length ≤ 40) : ∀ (n : Nat) (t : Tr) (nm : ByteArray) (v : Value) (w : World), TrW n w v t → KnS s w b → ScIn w (.agg #[.string sn, .slice ma mn mc, .slice ea en ec, .slice ta tn tc]) s → Calls Tryz.prog 36 #[.agg #[.string sn, .slice ma mn mc, .slice ea en ec, .slice ta tn tc, .map (some b)], .string nm, v] w (MesP s (msgV n s nm t) b w)
  | 0, _, _, _, _, h, _, _ => by obtain ⟨r, _, h⟩ := h; exact h.elim
  | n + 1, t, nm, v, w, h, hk, hs => message_step s sn ma ea ta mn mc en ec tn tc b hl n (fun t nm v w h hk hs => message_any s sn ma ea ta mn mc en ec tn tc b hl n t nm v w h hk hs) t nm v w h hk hs
end Go.Proofs.YtfnjbbaphmmjlaaGreat

/- An element appended to a row of one's own. -/
namespace Go.Proofs.YtfnjbbaphmmjlaaGreat
open Go.ChangeShapes Go.WideShapes Go.ChangeAt Go.RowKit
set_option linter.unusedVariables false
set_option linter.unusedSimpArgs false
set_option maxRecDepth 20000

theorem Apt.of_count {B : Nat} {w : World} {bs cs : List Nat} (h : Apt B w bs) (hc : ∀ k, cs.count k ≤ bs.count k) : Apt B w cs := by
  refine ⟨List.nodup_iff_count.2 fun a => Nat.le_trans (hc a) (List.nodup_iff_count.1 h.1 a), fun k hk => h.2 k ?_⟩
  have := List.count_pos_iff.2 hk
  exact List.count_pos_iff.1 (Nat.lt_of_lt_of_le this (hc k))
theorem Apt.new {B : Nat} {w w' : World} {bs : List Nat} (h : Apt B w bs) (hB : B ≤ w.heap.size) (hs : w.heap.size < w'.heap.size) : Apt B w' (bs ++ [w.heap.size]) := by
  refine Apt.append h (B' := w.heap.size) (cs := [w.heap.size]) ⟨by simp, by simp; exact hs⟩ hB (Nat.le_refl _) (Nat.le_of_lt hs)
theorem blkOf_count {v v' : Value} {G : Nat} (hat : v'.ownBlock = v.ownBlock ∨ v'.ownBlock = some G) (k : Nat) : (blkOf v').count k ≤ (blkOf v).count k + [G].count k := by
  rcases hat with e | e
  · simp [blkOf, e]
  · simp [blkOf, e]
theorem own_lt {w : World} {B : Nat} {e : TypeId} {s : Nat} {v : Value} {n : Nat} {xs : List Value} (h : w.ownsRow B e s v n xs) {k : Nat} (hk : v.ownBlock = some k) : B ≤ k ∧ k < w.heap.size := by
  rcases h.2 with ⟨rfl, _⟩ | ⟨g, cap, cur, rfl, h2, h3, _⟩
  · simp [Value.ownBlock] at hk
  · obtain rfl : g = k := by simpa [Value.ownBlock] using hk
    exact ⟨h2, (Array.getElem?_eq_some_iff.1 h3).1⟩
/-- All blocks but one are as they were. -/
theorem grown_sm {w w' : World} {v : Value} {bs : List Nat} (hg : w.grownBy w' v.ownBlock) (hb : ∀ k ∈ bs, k < w.heap.size) (hv : ∀ k ∈ bs, k ∉ blkOf v) : Sm w w' bs := fun k hk => hg.block k (hb k hk) (fun e => hv k hk (mem_blkOf.2 e.symm))
theorem RowO.push {α : Type} {P : World → List Value → α → List Nat → Prop} {B e size : Nat} {w w' : World} {v v' : Value} {xs : List α} {rows : List (List Value)} {bss : List (List Nat)} (h : RowO P B e size w v xs rows bss) {r : List Value} {x : α} {b : List Nat}
    (ap : Apt B w (allB v bss ++ b)) (hown : w'.ownsRow B e size v' (xs.length + 1) (rows.flatten ++ r)) (hg : w.grownBy w' v.ownBlock) (hP : P w r x b) (hr : r.length = size) (loc : ∀ r x b, P w r x b → Sm w w' b → P w' r x b) :
    RowO P B e size w' v' (xs ++ [x]) (rows ++ [r]) (bss ++ [b]) := by
  have hcl : ∀ c, c ∈ bss ∨ c = b → Sm w w' c := fun c hc => by
    have hsub : ∀ k ∈ c, k ∈ bss.flatten ++ b := fun k hk => by
      rcases hc with hc | rfl
      · exact List.mem_append.2 (.inl (List.mem_flatten.2 ⟨c, hc, hk⟩))
      · exact List.mem_append.2 (.inr hk)
    have hn := ap.1
    rw [allB, List.append_assoc] at hn
    refine grown_sm hg (fun k hk => (ap.2 k (by rw [allB, List.append_assoc]; exact List.mem_append.2 (.inr (hsub k hk)))).2) fun k hk hv => ?_
    exact (List.nodup_append.1 hn).2.2 k hv k (hsub k hk) rfl
  refine ⟨by simpa using hown, by simp [h.len], by simp [h.blen], ?_, fun i y hy => ?_⟩
  · intro r' hr'
    rcases List.mem_append.1 hr' with h' | h'
    · exact h.wide r' h'
    · obtain rfl : r' = r := by simpa using h'
      exact hr
  · by_cases hi : i < xs.length
    · rw [List.getElem?_append_left hi] at hy
      obtain ⟨r1, b1, e1, e2, e3⟩ := h.each i y hy
      exact ⟨r1, b1, by rw [List.getElem?_append_left (by rw [h.len]; exact hi)]; exact e1, by rw [List.getElem?_append_left (by rw [h.blen]; exact hi)]; exact e2, loc _ _ _ e3 (hcl _ (.inl (List.mem_of_getElem? e2)))⟩
    · rw [List.getElem?_append_right (by omega)] at hy
      obtain ⟨hi0, rfl⟩ : i - xs.length = 0 ∧ x = y := by
        cases hq : i - xs.length with
        | zero => rw [hq] at hy; simpa using hy
        | succ q => rw [hq] at hy; simp at hy
      refine ⟨r, b, ?_, ?_, loc _ _ _ hP (hcl _ (.inr rfl))⟩
      · rw [List.getElem?_append_right (by rw [h.len]; omega), h.len, hi0]; rfl
      · rw [List.getElem?_append_right (by rw [h.blen]; omega), h.blen, hi0]; rfl
/-- The blocks behind it. -/
theorem Apt.push {B : Nat} {w w' : World} {v v' : Value} {bss : List (List Nat)} {b more : List Nat} (ap : Apt B w (more ++ (allB v bss ++ b))) (hat : v'.ownBlock = v.ownBlock ∨ v'.ownBlock = some w.heap.size) {e : TypeId} {s n : Nat} {xs : List Value} (hown : w'.ownsRow B e s v' n xs) (hs : w.heap.size ≤ w'.heap.size) (hB : B ≤ w.heap.size) :
    Apt B w' (more ++ allB v' (bss ++ [b])) := by
  rcases hat with hat | hat
  · refine (ap.mono hs).of_count fun k => ?_
    simp [allB, blkOf, hat, List.count_append]
  · refine (ap.new hB (own_lt hown hat).2).of_count fun k => ?_
    simp only [allB, blkOf, hat, List.count_append, List.flatten_append, List.flatten_cons, List.flatten_nil, List.append_nil]
    omega
theorem RowO.nil {α : Type} (P : World → List Value → α → List Nat → Prop) (B e size : Nat) (w : World) : RowO P B e size w (.slice none 0 0) ([] : List α) [] [] :=
  ⟨World.ownsRow_nil w B e size, rfl, rfl, by simp, by simp⟩
theorem RowO.base {α : Type} {P Q : World → List Value → α → List Nat → Prop} {B B' e size : Nat} {w : World} {v : Value} {xs : List α} {rows : List (List Value)} {bss : List (List Nat)} (h : RowO P B e size w v xs rows bss) (hB : B' ≤ B) (hp : ∀ r x b, P w r x b → Q w r x b) : RowO Q B' e size w v xs rows bss :=
  ⟨own_base h.own hB, h.len, h.blen, h.wide, fun i x hx => by obtain ⟨r, b, h1, h2, h3⟩ := h.each i x hx; exact ⟨r, b, h1, h2, hp _ _ _ h3⟩⟩
theorem TrO.base : ∀ {n B B' : Nat} {w : World} {r : List Value} {t : Tr} {bs : List Nat}, TrO n B w r t bs → B' ≤ B → TrO n B' w r t bs
  | 0, _, _, _, _, _, _, h, _ => h
  | n + 1, B, B', w, r, t, bs, h, hb => by
    obtain ⟨ve, vr, rows, bss, h1, h2, h3, h4, h5, h6, h7, rfl⟩ := h
    refine ⟨ve, vr, rows, bss, h1, h2, h3, h4, h5, own_base h6 hb, h7.base hb fun r x b hp => ?_, rfl⟩
    obtain ⟨vt, rows', bss', g1, g2, g3, rfl⟩ := hp
    exact ⟨vt, rows', bss', g1, g2, g3.base hb fun r x b hp => hp.base hb, rfl⟩
/-- An operation whose run is known. -/
theorem wpList_ran {ops : Array Oper} {rest : List Oper} {o : Oper} {a : Act} {w w' : World} {v : Value} {Q : Exit → Act → World → Prop} (hgd : o.guard = none) (hr : (execOp a.eval o).run Tryz.prog w = .ok (.value v) w') (h : wpList Tryz.prog ops Q rest (a.put o.dst v) w') : wpList Tryz.prog ops Q (o :: rest) a w :=
  wpList_plain hgd fun _ hK => by
    unfold Oper.wp
    rw [hr, Oper.upon_value]
    exact hK _ _ h
theorem Apt.apart {B : Nat} {w : World} {a b : List Nat} (h : Apt B w (a ++ b)) : ∀ k ∈ a, k ∉ b := fun k ha hb => (List.nodup_append.1 h.1).2.2 k ha k hb rfl
theorem Sm.below {w w' : World} {bs : List Nat} (h : Below w.heap.size w w') (hb : ∀ k ∈ bs, k < w.heap.size) : Sm w w' bs := fun k hk => h.block k (hb k hk)
end Go.Proofs.YtfnjbbaphmmjlaaGreat

/- A level of trees: its messages' lists, each place once; all trees in them. -/
namespace Go.Proofs.YtfnjbbaphmmjlaaGreat
open Go.ChangeShapes Go.WideShapes Go.ChangeAt Go.RowKit
set_option linter.unusedVariables false
set_option linter.unusedSimpArgs false
set_option maxRecDepth 20000

theorem uPlace : Tryz.prog.underlying 151 = some (.map 153 120) := by kernel_rfl
theorem zeroEp (w : World) : (zeroValue 120).run Tryz.prog w = .ok (.agg #[]) w := by kernel_rfl
theorem told_pl {w : World} {x : Pl} {L : List Pl} (hx : PlOk w x) (hL : ∀ y ∈ L, PlOk w y) : Told 153 w (plV x) (L.map plV) := by
  intro q hq
  obtain ⟨y, hy, rfl⟩ := List.mem_map.1 hq
  have h := eql_pl w x y hx (hL y hy)
  have inj : plV x = plV y ↔ x = y := by
    obtain ⟨p, m⟩ := x
    obtain ⟨q, n⟩ := y
    simp [plV]
    intro _
    omega
  constructor
  · intro e
    rw [h, decide_eq_true (inj.1 e)]
  · intro e
    rw [h, decide_eq_false (fun e' => e (inj.2 e'))]
theorem mem_plV {x : Pl} {L : List Pl} : plV x ∈ L.map plV ↔ x ∈ L := by
  constructor
  · intro h
    obtain ⟨y, hy, e⟩ := List.mem_map.1 h
    obtain ⟨p, m⟩ := x
    obtain ⟨q, n⟩ := y
    simp [plV] at e
    obtain ⟨rfl, e2⟩ := e
    obtain rfl : n = m := by omega
    exact hy
  · exact List.mem_map_of_mem
set_option maxHeartbeats 1000000 in
theorem place_any (a : Option Addr) (N cap : Nat) (w : World) (h1 : N ≤ cap) (h2 : cap ≤ maxLen) (h3 : N = 0 ∨ ∃ g off, a = some ⟨g, off, none⟩) :
    Calls Tryz.prog 93 #[.slice a N cap] w fun e w' => e = .returned (plV (plOf (.slice a N cap))) ∧ Below w.heap.size w w' := by
  unfold maxLen at h2
  by_cases hN : N = 0
  · subst hN
    go_enter Tryz.func93, Tryz.ntmps93
    go_wp2_with fail
    refine bodyPost_ret (results_cell rfl _ _ _ ⟨w.heap.size, 0, none⟩ (.agg #[.pointer none, .int .i64 0]) (by go_simp) (by go_simp)) rfl ⟨by simp [plV, plOf], (Below.refl _ _).alloc (Nat.le_refl _) _⟩
  · obtain ⟨g, off, rfl⟩ : ∃ g off, a = some ⟨g, off, none⟩ := by
      rcases h3 with h | h
      · exact absurd h hN
      · exact h
    have hd : ((N : Int) == 0) = false := by simp; omega
    have hp : 0 < N := by omega
    go_enter Tryz.func93, Tryz.ntmps93
    go_wp2_with fail
    refine bodyPost_ret (results_cell rfl _ _ _ ⟨w.heap.size, 0, none⟩ (.agg #[.pointer (some ⟨g, off, none⟩), .int .i64 (N : Int)]) (by go_simp) (by go_simp)) rfl ⟨by simp [plV, plOf, hN], (Below.refl _ _).alloc (Nat.le_refl _) _⟩
/-- What is said of the messages' lists. -/
def msgsL (ts : List Tr) : List (List (Int × List Tr)) := (ts.filter fun t => t.kind == 3).map Tr.es
def MsgS (ts : List Tr) (M : List (List (Int × List Tr))) : Prop := M.Sublist (msgsL ts) ∧ ∀ t ∈ ts, t.kind = 3 → t.es ∈ M
/-- A row of lists of entries. -/
def LvC (n : Nat) (w : World) (r : List Value) (m : List (Int × List Tr)) : Prop := ∃ ve, r = [ve] ∧ EnsQ n w ve m ∧ PlnV w ve
abbrev LvQ (n : Nat) (w : World) (v : Value) (M : List (List (Int × List Tr))) : Prop := RowP (LvC n w) w 1 v M
theorem infoSl : (Tryz.prog.info? 27).map (fun i => (i.zero, i.size, i.bytes)) = some (some (.slice none 0 0), 1, 24) := by kernel_rfl
theorem MsgS.skip {ts : List Tr} {M : List (List (Int × List Tr))} {t : Tr} (h : MsgS ts M) (ht : t.kind ≠ 3) : MsgS (ts ++ [t]) M := by
  refine ⟨?_, fun x hx hk => ?_⟩
  · have : msgsL (ts ++ [t]) = msgsL ts := by simp [msgsL, List.filter_append, ht]
    rw [this]; exact h.1
  · rcases List.mem_append.1 hx with hx | hx
    · exact h.2 x hx hk
    · obtain rfl : x = t := by simpa using hx
      exact absurd hk ht
theorem msgs_snoc {ts : List Tr} {t : Tr} (ht : t.kind = 3) : msgsL (ts ++ [t]) = msgsL ts ++ [t.es] := by simp [msgsL, List.filter_append, ht]
theorem MsgS.old {ts : List Tr} {M : List (List (Int × List Tr))} {t : Tr} (h : MsgS ts M) (ht : t.kind = 3) (hm : t.es ∈ M) : MsgS (ts ++ [t]) M := by
  refine ⟨?_, fun x hx hk => ?_⟩
  · rw [msgs_snoc ht]; exact h.1.trans (List.sublist_append_left _ _)
  · rcases List.mem_append.1 hx with hx | hx
    · exact h.2 x hx hk
    · obtain rfl : x = t := by simpa using hx
      exact hm
theorem MsgS.new {ts : List Tr} {M : List (List (Int × List Tr))} {t : Tr} (h : MsgS ts M) (ht : t.kind = 3) : MsgS (ts ++ [t]) (M ++ [t.es]) := by
  refine ⟨?_, fun x hx hk => ?_⟩
  · rw [msgs_snoc ht]; exact h.1.append (List.Sublist.refl _)
  · rcases List.mem_append.1 hx with hx | hx
    · exact List.mem_append.2 (.inl (h.2 x hx hk))
    · obtain rfl : x = t := by simpa using hx
      simp
/-- Lists side by side with what they hold. -/
def Side (n : Nat) (w : World) (ves : List Value) (M : List (List (Int × List Tr))) : Prop := ves.length = M.length ∧ ∀ (i : Nat) (ve : Value) (m : List (Int × List Tr)), ves[i]? = some ve → M[i]? = some m → EnsQ n w ve m ∧ PlnV w ve
theorem Side.nil (n : Nat) (w : World) : Side n w [] [] := ⟨rfl, by simp⟩
theorem Side.snoc {n : Nat} {w : World} {ves : List Value} {M : List (List (Int × List Tr))} (h : Side n w ves M) {ve : Value} {m : List (Int × List Tr)} (h1 : EnsQ n w ve m) (h2 : PlnV w ve) : Side n w (ves ++ [ve]) (M ++ [m]) := by
  refine ⟨by simp [h.1], fun i v m' hv hm => ?_⟩
  by_cases hi : i < ves.length
  · rw [List.getElem?_append_left hi] at hv
    rw [List.getElem?_append_left (by rw [← h.1]; exact hi)] at hm
    exact h.2 i v m' hv hm
  · rw [List.getElem?_append_right (by omega)] at hv
    rw [List.getElem?_append_right (by rw [← h.1]; omega)] at hm
    rw [← h.1] at hm
    cases hq : i - ves.length with
    | zero =>
      rw [hq] at hv hm
      obtain rfl : ve = v := by simpa using hv
      obtain rfl : m = m' := by simpa using hm
      exact ⟨h1, h2⟩
    | succ q => rw [hq] at hv; simp at hv
theorem Side.mem {n : Nat} {w : World} {ves : List Value} {M : List (List (Int × List Tr))} (h : Side n w ves M) {ve : Value} (hv : ve ∈ ves) : ∃ m ∈ M, EnsQ n w ve m ∧ PlnV w ve := by
  obtain ⟨i, hi, e⟩ := List.getElem_of_mem hv
  have hm : M[i]? = some (M[i]'(by rw [← h.1]; exact hi)) := List.getElem?_eq_getElem _
  exact ⟨_, List.mem_of_getElem? hm, h.2 i ve _ (by rw [List.getElem?_eq_getElem hi, e]) hm⟩
theorem flat_one : ∀ l : List Value, l = (l.map fun x => [x]).flatten
  | [] => rfl
  | a :: l => by rw [List.map_cons, List.flatten_cons, ← flat_one l]; rfl
theorem Side.row {n : Nat} {w w' : World} {ves : List Value} {M : List (List (Int × List Tr))} (h : Side n w ves M) (hb : Below w.heap.size w w') {B k : Nat} {v : Value} (ho : w'.ownsRow B 27 1 v k ves) : LvQ n w' v M := by
  have hf : ves = (ves.map fun x => [x]).flatten := flat_one ves
  rw [hf] at ho
  have hr := (RowG.own (rs := ves.map fun x => [x]) (by intro r hr; obtain ⟨x, _, rfl⟩ := List.mem_map.1 hr; rfl) (by decide) ho).1
  refine ⟨_, hr, by simp [h.1], fun i m hm => ?_⟩
  obtain ⟨ve, hv⟩ : ∃ ve, ves[i]? = some ve := ⟨_, List.getElem?_eq_getElem (by rw [h.1]; exact (List.getElem?_eq_some_iff.1 hm).1)⟩
  obtain ⟨g1, g2⟩ := h.2 i ve m hv hm
  exact ⟨[ve], by simp [hv], ve, rfl, g1.belowEQ hb, g2.below hb⟩
/-- What messages answers. -/
def MsgP (n : Nat) (ts : List Tr) (w : World) (e : Ending) (w' : World) : Prop := ∃ v M, e = .returned v ∧ LvQ n w' v M ∧ MsgS ts M ∧ Below w.heap.size w w'
set_option maxHeartbeats 4000000 in
theorem messages_step (n : Nat) (v : Value) (ts : List Tr) (w : World) (h : TrsQ (n + 1) w v ts) (hl : ts.length ≤ 1000) :
    Calls Tryz.prog 60 #[v] w (MsgP n ts w) := by
  have hmm := @run_makeMap Tryz.prog
  obtain ⟨a, cap, rfl, h1, h2, h3, -, -⟩ := RowP.open h
  obtain ⟨N, hN⟩ : ∃ N, ts.length = N := ⟨_, rfl⟩
  rw [hN] at h1 hl ⊢
  have HH : Hid (TrsQ (n + 1) w (.slice a N cap) ts) := (by rw [← hN]; exact h : TrsQ (n + 1) w (.slice a N cap) ts)
  have HN : Hid (ts.length = N) := hN
  unfold maxLen at h2
  clear h hN h3
  go_enter Tryz.func60, Tryz.ntmps60
  go_wp2_with fail
  have HS0 : Hid (PlSet (w.alloc (.map #[] 0)) w.heap.size (List.map plV [])) := PlSet.made w
  have HO0 : Hid ((w.alloc (.map #[] 0)).ownsRow (w.heap.size + 1) 27 1 (.slice none 0 0) 0 []) := World.ownsRow_nil _ _ _ _
  have hb0 : Below w.heap.size w (w.alloc (.map #[] 0)) := (Below.refl _ _).alloc (Nat.le_refl _) _
  go_loopw [3, 13] (fun ov iv wr => ∃ (i k : Nat) (oa : Option Addr) (oc : Nat) (ves : List Value) (M : List (List (Int × List Tr))), iv = .int .i64 (i : Int) ∧ ov = .slice oa k oc ∧ i ≤ N ∧ k ≤ i ∧ Hid (Side n w ves M) ∧ Hid (MsgS (ts.take i) M) ∧ Hid (PlSet wr w.heap.size ((ves.map plOf).map plV)) ∧ Hid (wr.ownsRow (w.heap.size + 1) 27 1 (.slice oa k oc) k ves) ∧ Below w.heap.size w wr) (fun _ iv _ => N - (intOf iv).toNat)
  case atStart => exact ⟨0, 0, none, 0, [], [], rfl, rfl, by omega, by omega, Side.nil n w, (⟨by simp, by simp⟩ : MsgS (ts.take 0) []), HS0, HO0, hb0⟩
  case round =>
    clear HS0 HO0 hb0
    obtain ⟨i, k, oa, oc, ves, M, rfl, rfl, hi, hk, HSD, HMS, HST, HO, hbel⟩ := hrel
    by_cases hlt : i < N
    · obtain ⟨t, ht⟩ : ∃ r, ts[i]? = some r := ⟨_, List.getElem?_eq_getElem (by rw [HN.out]; exact hlt)⟩
      obtain ⟨g, off, rfl, r, hr, hc⟩ := HH.out.get ht
      obtain ⟨ve, vr, rfl, q1, q2, q3, q4, q5, q6, q7⟩ := hr
      obtain ⟨ea, ec, rfl, e1, e2, e3, -, -⟩ := RowP.open q6
      obtain ⟨ra, rc, rfl, -⟩ := rest_holds q5
      have c0 := (hbel.cell (World.block_lt_of_cell? _ _ (hc 0 _ rfl))).trans (hc 0 _ rfl)
      have c1 := (hbel.cell (World.block_lt_of_cell? _ _ (hc 1 _ rfl))).trans (hc 1 _ rfl)
      have c2 := (hbel.cell (World.block_lt_of_cell? _ _ (hc 2 _ rfl))).trans (hc 2 _ rfl)
      have c3 := (hbel.cell (World.block_lt_of_cell? _ _ (hc 3 _ rfl))).trans (hc 3 _ rfl)
      have c4 := (hbel.cell (World.block_lt_of_cell? _ _ (hc 4 _ rfl))).trans (hc 4 _ rfl)
      simp only [Nat.add_zero] at c0
      have HT : Hid (ts[i]? = some t) := ht
      have HTK : Hid (ts.take (i + 1) = ts.take i ++ [t]) := (by obtain ⟨hl', e⟩ := List.getElem?_eq_some_iff.1 ht; rw [List.take_succ_eq_append_getElem hl', e] : ts.take (i + 1) = ts.take i ++ [t])
      have HE : Hid (EnsQ n w (.slice ea t.es.length ec) t.es ∧ PlnV w (.slice ea t.es.length ec)) := ⟨q6, q7⟩
      clear hc ht q1 q2 q3 q4 q5 q6 q7
      generalize hEl : t.es.length = El at *
      generalize t.rest.length = Rl at *
      have HEl : Hid (t.es.length = El) := hEl
      obtain ⟨K, hK⟩ : ∃ K, t.kind = K := ⟨_, rfl⟩
      rw [hK] at c0
      have HK : Hid (t.kind = K) := hK
      clear hK hEl
      generalize t.n = Tn at *
      generalize t.s = Ts at *
      by_cases h3 : K = 3
      · subst h3
        obtain ⟨⟨p, m⟩, hpm⟩ : ∃ x, plOf (.slice ea El ec) = x := ⟨_, rfl⟩
        have HPM : Hid (plOf (.slice ea El ec) = (p, m)) := hpm
        have HPC : Hid (∀ W, Calls Tryz.prog 93 #[.slice ea El ec] W fun e w' => e = .returned (.agg #[.pointer p, .int .i64 (m : Int)]) ∧ Below W.heap.size W w') := fun W => by
          have := place_any ea El ec W e1 e2 (e3.imp (fun h => by rw [← HEl.out, h]; rfl) id)
          rw [hpm] at this
          exact this
        clear hpm e3
        go_wp2_with fail
        refine (HPC.out _).mono ?_
        rintro e w2 ⟨rfl, hb2⟩
        have BT : Blk w2 wr.heap.size #[.int .i64 3, .int .i64 Tn, .string Ts, .slice ea El ec, .slice ra Rl rc] 30 := (Blk.new wr _ _).below hb2
        have hbr : Below wr.heap.size wr w2 := ((Below.refl _ _).alloc (Nat.le_refl _) _).trans (hb2.mono (by simp))
        have hbw : Below w.heap.size w w2 := hbel.trans (hbr.mono hbel.size)
        have HST2 : Hid (PlSet w2 w.heap.size ((ves.map plOf).map plV)) := HST.out.below hbr
        have HO2 : Hid (w2.ownsRow (w.heap.size + 1) 27 1 (.slice oa k oc) k ves) := own_below HO.out hbr
        generalize wr.heap.size = bt at *
        clear hb2 hbr HPC c0 c1 c2 c3 c4 HST HO hbel
        have HTD : Hid (∀ W, Below w.heap.size w W → Told 153 W (.agg #[.pointer p, .int .i64 (m : Int)]) ((ves.map plOf).map plV)) := fun W hW => by
          have hx : PlOk W (p, m) := by rw [← HPM.out]; exact plOf_ok (HE.out.2.below hW) (HE.out.1.belowEQ hW)
          exact told_pl hx fun y hy => by
            obtain ⟨ve, hve, rfl⟩ := List.mem_map.1 hy
            obtain ⟨m', _, g1, g2⟩ := HSD.out.mem hve
            exact plOf_ok (g2.below hW) (RowP.belowEQ g1 hW)
        obtain ⟨R, hR⟩ : ∃ R : Bool, R = true ↔ (p, m) ∈ ves.map plOf := by
          by_cases hm : (p, m) ∈ ves.map plOf
          · exact ⟨true, by simp [hm]⟩
          · exact ⟨false, by simp [hm]⟩
        have HR : Hid (R = true ↔ (p, m) ∈ ves.map plOf) := hR
        clear hR
        have al3 : Below w2.heap.size w2 (w2.alloc (Obj.cells #[.pointer p, .int .i64 (m : Int)] 153)) := (Below.refl _ _).alloc (Nat.le_refl _) _
        have hb3 : Below w.heap.size w (w2.alloc (Obj.cells #[.pointer p, .int .i64 (m : Int)] 153)) := hbw.trans (al3.mono hbw.size)
        have al4 : Below w2.heap.size w2 ((w2.alloc (Obj.cells #[.pointer p, .int .i64 (m : Int)] 153)).alloc (Obj.cells #[] 120)) := al3.alloc (by simp) _
        have hb4 : Below w.heap.size w ((w2.alloc (Obj.cells #[.pointer p, .int .i64 (m : Int)] 153)).alloc (Obj.cells #[] 120)) := hbw.trans (al4.mono hbw.size)
        have HLK : Hid ((Instr.lookup 151 (.map (some w.heap.size)) (.agg #[.pointer p, .int .i64 (m : Int)]) true).run Tryz.prog (w2.alloc (Obj.cells #[.pointer p, .int .i64 (m : Int)] 153)) = .ok (.tuple #[.agg #[], .bool R]) (w2.alloc (Obj.cells #[.pointer p, .int .i64 (m : Int)] 153))) :=
          look_pl uPlace zeroEp Tryz.underlying153 (fun _ _ => rfl) rfl (fun e => check_pl _ e (p, m)) (HST2.out.below al3) (HTD.out _ hb3) R (HR.out.trans mem_plV.symm)
        cases R with
        | true =>
          have hes : t.es ∈ M := by
            obtain ⟨ve, hve, e⟩ := List.mem_map.1 (HR.out.1 rfl)
            obtain ⟨m', hm', g1, g2⟩ := HSD.out.mem hve
            rw [pl_uniq HE.out.1 g1 (by rw [HPM.out, e])]
            exact hm'
          have HES : Hid (t.es ∈ M) := hes
          have q0 := BT.cell 3
          clear hes
          go_wp2_with (first | (at_lookup; refine wpList_lookup_pl rfl _ _ rfl rfl rfl HLK.out ?_) | fail)
          go_roundw
          case rel => exact ⟨i + 1, k, oa, oc, ves, M, by go_num, rfl, by omega, by omega, HSD, (by rw [HTK.out]; exact HMS.out.old HK.out HES.out : MsgS (ts.take (i + 1)) M), HST2.out.below al4, own_below HO2.out al4, hb4⟩
          case measure => simp [intOf]; omega
        | false =>
          obtain ⟨w5, r1, r2, r3, r4⟩ := update_pl (MT := 151) (E := 120) (w := ((w2.alloc (Obj.cells #[.pointer p, .int .i64 (m : Int)] 153)).alloc (Obj.cells #[] 120))) uPlace Tryz.underlying153 (fun _ _ => rfl) rfl (fun e => check_pl _ e (p, m)) (HST2.out.below al4) (HTD.out _ hb4) (fun h => by have := HR.out.2 (mem_plV.1 h); cases this)
          have HUP : Hid _ := r1
          have BT5 : Blk w5 bt #[.int .i64 3, .int .i64 Tn, .string Ts, .slice ea El ec, .slice ra Rl rc] 30 := (BT.below al4).kp r3 (fun e => (HST2.out.below al4).neB (BT.below al4) e)
          have hO5 : w5.ownsRow (w.heap.size + 1) 27 1 (.slice oa k oc) k ves := own_kpV (own_below HO2.out al4) r3 (fun q hq e => by have := (own_lt (own_below HO2.out al4) hq).1; omega)
          have hb5 : Below w.heap.size w w5 := hb4.trans (r3.toBelow hb4.size (fun q e => by omega))
          have HST5 : Hid (PlSet w5 w.heap.size (((ves ++ [Value.slice ea El ec]).map plOf).map plV)) := by
            show PlSet _ _ _
            rw [List.map_append, List.map_append, List.map_cons, List.map_nil, HPM.out]
            exact r2
          have al6 : Below w5.heap.size w5 (w5.alloc (Obj.cells #[.slice ea El ec] 27)) := (Below.refl _ _).alloc (Nat.le_refl _) _
          have BE : Blk (w5.alloc (Obj.cells #[.slice ea El ec] 27)) w5.heap.size #[.slice ea El ec] 27 := Blk.new w5 _ _
          have hb6 : Below w.heap.size w (w5.alloc (Obj.cells #[.slice ea El ec] 27)) := hb5.trans (al6.mono hb5.size)
          have q3 := (BT5.cell 3).trans rfl
          obtain ⟨i0, hi0, hz0, hz1, hz2⟩ := info_parts infoSl
          obtain ⟨v', W7, s1, s2, s3, _, s5⟩ := run_append_own_at (w5.alloc (Obj.cells #[.slice ea El ec] 27)) (w.heap.size + 1) 107 107 27 i0 _ 1 24 Tryz.underlying107 hi0 hz0 hz1 hz2 rfl (by decide) (.slice oa k oc) k _ (own_below hO5 al6) ⟨w5.heap.size, 0, none⟩ 1 1 [.slice ea El ec] rfl (fun j u hu => by
            have := BE.cell j
            rw [Addr.add_lit, Nat.zero_add, this]
            simpa using hu) (fun u hu => by
            simp only [List.mem_cons, List.not_mem_nil, or_false] at hu
            subst hu; rfl) (by unfold maxLen; omega) (by omega) (by have := hb6.size; have := HST5.out.lt; have := al6.size; omega)
          have HRUN : Hid _ := s1
          have HST7 : Hid (PlSet W7 w.heap.size (((ves ++ [Value.slice ea El ec]).map plOf).map plV)) := by
            have h6 := HST5.out.below al6
            have hl6 := h6.lt
            obtain ⟨es, c, g1, g2⟩ := h6
            refine ⟨es, c, (s3.block _ hl6 (fun e => ?_)).trans g1, g2⟩
            have := (own_lt hO5 e.symm).1
            omega
          have hb7 : Below w.heap.size w W7 := hb6.grown s3 hb6.size (fun q hq => by have := (own_lt hO5 hq).1; omega)
          obtain ⟨na, nc, hv'⟩ := own_form s2
          subst hv'
          have HO7 : Hid (W7.ownsRow (w.heap.size + 1) 27 1 (.slice na (k + 1) nc) (k + 1) (ves ++ [Value.slice ea El ec])) := s2
          have HSD7 : Hid (Side n w (ves ++ [Value.slice ea El ec]) (M ++ [t.es])) := HSD.out.snoc HE.out.1 HE.out.2
          have q0 := (BT.cell 3).trans rfl
          clear r1 r2 r3 r4 s1 s2 s3 s5 hO5 BE HTD HR HSD HST2 HO2 HST5 hi0 hz0 hz1 hz2
          go_wp2_with (first | (at_lookup; refine wpList_lookup_pl rfl _ _ rfl rfl rfl HLK.out ?_) | (at_mapUpdate; refine wpList_update_pl rfl _ _ _ rfl rfl rfl rfl HUP.out ?_) | (at_builtin; refine wpList_ran rfl (append_run rfl rfl rfl HRUN.out) ?_) | fail)
          go_roundw
          case rel => exact ⟨i + 1, k + 1, na, nc, _, _, by go_num, rfl, by omega, by omega, HSD7, (by rw [HTK.out]; exact HMS.out.new HK.out : MsgS (ts.take (i + 1)) (M ++ [t.es])), HST7, HO7, hb7⟩
          case measure => simp [intOf]; omega
      · have hd : (K != 3) = true := by simpa using h3
        go_wp2_with fail
        have hb2 : Below w.heap.size w (wr.alloc (Obj.cells #[.int .i64 K, .int .i64 Tn, .string Ts, .slice ea El ec, .slice ra Rl rc] 30)) := hbel.alloc hbel.size _
        have hal : Below wr.heap.size wr (wr.alloc (Obj.cells #[.int .i64 K, .int .i64 Tn, .string Ts, .slice ea El ec, .slice ra Rl rc] 30)) := (Below.refl _ _).alloc (Nat.le_refl _) _
        go_roundw
        case rel => exact ⟨i + 1, k, oa, oc, ves, M, by go_num, rfl, by omega, by omega, HSD, (by rw [HTK.out]; exact HMS.out.skip (by rw [HK.out]; exact h3) : MsgS (ts.take (i + 1)) M), HST.out.below hal, own_below HO.out hal, hb2⟩
        case measure => simp [intOf]; omega
    · go_wp2_with fail
      go_ret
      have h5 := HMS.out
      rw [List.take_of_length_le (by rw [HN.out]; omega)] at h5
      exact ⟨_, M, rfl, HSD.out.row hbel HO.out, h5, hbel⟩
end Go.Proofs.YtfnjbbaphmmjlaaGreat

/- All trees of a level's lists. -/
namespace Go.Proofs.YtfnjbbaphmmjlaaGreat
open Go.ChangeShapes Go.WideShapes Go.ChangeAt Go.RowKit
set_option linter.unusedVariables false
set_option linter.unusedSimpArgs false
set_option maxRecDepth 20000

theorem infoTq : (Tryz.prog.info? 30).map (fun i => (i.zero, i.size, i.bytes)) = some (some (.agg #[.int .i64 0, .int .i64 0, .string ⟨#[]⟩, .slice none 0 0, .slice none 0 0]), 5, 80) := by kernel_rfl
/-- Cells side by side with the trees that they are. -/
def SideT (n : Nat) (w : World) (rows : List (List Value)) (ts : List Tr) : Prop := rows.length = ts.length ∧ ∀ (i : Nat) (r : List Value) (t : Tr), rows[i]? = some r → ts[i]? = some t → TrQ n w r t
theorem SideT.append {n : Nat} {w : World} {rows rs : List (List Value)} {ts us : List Tr} (h : SideT n w rows ts) (k : SideT n w rs us) : SideT n w (rows ++ rs) (ts ++ us) := by
  refine ⟨by simp [h.1, k.1], fun i r t hr ht => ?_⟩
  by_cases hi : i < rows.length
  · rw [List.getElem?_append_left hi] at hr
    rw [List.getElem?_append_left (by rw [← h.1]; exact hi)] at ht
    exact h.2 i r t hr ht
  · rw [List.getElem?_append_right (by omega)] at hr
    rw [List.getElem?_append_right (by rw [← h.1]; omega), ← h.1] at ht
    exact k.2 _ r t hr ht
theorem SideT.below {n : Nat} {w w1 : World} {rows : List (List Value)} {ts : List Tr} (h : SideT n w rows ts) (hb : Below w.heap.size w w1) : SideT n w1 rows ts := ⟨h.1, fun i r t hr ht => (h.2 i r t hr ht).below hb⟩
theorem TrQ.five {n : Nat} {w : World} {r : List Value} {t : Tr} (h : TrQ n w r t) : r.length = 5 ∧ ∀ u ∈ r, u.oneCell' = true := by
  cases n with
  | zero => exact h.elim
  | succ n =>
    obtain ⟨ve, vr, rfl, _, _, _, _, h6, h7, _⟩ := h
    obtain ⟨a1, c1, rfl, _⟩ := RowP.open h7
    obtain ⟨a2, c2, rfl, _⟩ := h6.form2
    refine ⟨rfl, fun u hu => ?_⟩
    simp only [List.mem_cons, List.not_mem_nil, or_false] at hu
    rcases hu with rfl | rfl | rfl | rfl | rfl <;> rfl
theorem SideT.rows {n : Nat} {w : World} {rows : List (List Value)} {ts : List Tr} (h : SideT n w rows ts) : (∀ r ∈ rows, r.length = 5) ∧ ∀ u ∈ rows.flatten, u.oneCell' = true := by
  have each : ∀ r ∈ rows, r.length = 5 ∧ ∀ u ∈ r, u.oneCell' = true := fun r hr => by
    obtain ⟨i, hi, e⟩ := List.getElem_of_mem hr
    have ht : ts[i]? = some (ts[i]'(by rw [← h.1]; exact hi)) := List.getElem?_eq_getElem _
    exact (h.2 i r _ (by rw [List.getElem?_eq_getElem hi, e]) ht).five
  refine ⟨fun r hr => (each r hr).1, fun u hu => ?_⟩
  obtain ⟨r, hr, hu⟩ := List.mem_flatten.1 hu
  exact (each r hr).2 u hu
theorem TrsQ_side {n : Nat} {w : World} {v : Value} {ts : List Tr} (h : TrsQ n w v ts) : ∃ rows, RowG w v 5 rows ∧ SideT n w rows ts := by
  obtain ⟨rows, h1, h2, h3⟩ := h
  refine ⟨rows, h1, h2, fun i r t hr ht => ?_⟩
  obtain ⟨r', e, hp⟩ := h3 i t ht
  rw [hr] at e
  cases e
  exact hp
theorem SideT.row {n : Nat} {w : World} {rows : List (List Value)} {ts : List Tr} (h : SideT n w rows ts) {B k : Nat} {v : Value} (ho : w.ownsRow B 30 5 v k rows.flatten) : TrsQ n w v ts := by
  refine ⟨rows, (RowG.own h.rows.1 (by decide) ho).1, h.1, fun i t ht => ?_⟩
  obtain ⟨r, hr⟩ : ∃ r, rows[i]? = some r := ⟨_, List.getElem?_eq_getElem (by rw [h.1]; exact (List.getElem?_eq_some_iff.1 ht).1)⟩
  exact ⟨r, hr, h.2 i r t hr ht⟩
def subsL (M : List (List (Int × List Tr))) : List Tr := M.flatMap subs
theorem subs_snoc (es : List (Int × List Tr)) (e : Int × List Tr) : subs (es ++ [e]) = subs es ++ e.2 := by simp [subs, List.flatMap_append]
theorem subsL_snoc (M : List (List (Int × List Tr))) (m : List (Int × List Tr)) : subsL (M ++ [m]) = subsL M ++ subs m := by simp [subsL, List.flatMap_append]
theorem take_atQ {α : Type} {l : List α} {i : Nat} {x : α} (h : l[i]? = some x) : l.take (i + 1) = l.take i ++ [x] := by
  obtain ⟨hl, rfl⟩ := List.getElem?_eq_some_iff.1 h
  rw [List.take_succ_eq_append_getElem hl]
theorem subs_take_le (m : List (Int × List Tr)) (j : Nat) : (subs (m.take j)).length ≤ (subs m).length := by
  have : subs m = subs (m.take j) ++ subs (m.drop j) := by rw [subs, subs, subs, ← List.flatMap_append, List.take_append_drop]
  rw [this, List.length_append]
  omega
theorem subsL_take_le (M : List (List (Int × List Tr))) (j : Nat) : (subsL (M.take j)).length ≤ (subsL M).length := by
  have : subsL M = subsL (M.take j) ++ subsL (M.drop j) := by rw [subsL, subsL, subsL, ← List.flatMap_append, List.take_append_drop]
  rw [this, List.length_append]
  omega
theorem acc_le {M : List (List (Int × List Tr))} {m : List (Int × List Tr)} {i j : Nat} (h : M[i]? = some m) : (subsL (M.take i) ++ subs (m.take j)).length ≤ (subsL M).length := by
  refine Nat.le_trans ?_ (subsL_take_le M (i + 1))
  rw [take_atQ h, subsL_snoc, List.length_append, List.length_append]
  have := subs_take_le m j
  omega
/-- What inside answers. -/
def InsP (n : Nat) (M : List (List (Int × List Tr))) (w : World) (e : Ending) (w' : World) : Prop := ∃ v, e = .returned v ∧ TrsQ n w' v (subsL M) ∧ Below w.heap.size w w'
set_option maxHeartbeats 4000000 in
theorem inside_any (n : Nat) (v : Value) (M : List (List (Int × List Tr))) (w : World) (h : LvQ n w v M) (hl : (subsL M).length ≤ 1000) :
    Calls Tryz.prog 59 #[v] w (InsP n M w) := by
  obtain ⟨a, cap, rfl, h1, h2, -⟩ := RowP.open h
  obtain ⟨N, hN⟩ : ∃ N, M.length = N := ⟨_, rfl⟩
  rw [hN] at h1 ⊢
  have HH : Hid (LvQ n w (.slice a N cap) M) := (by rw [← hN]; exact h : LvQ n w (.slice a N cap) M)
  have HN : Hid (M.length = N) := hN
  have HL : Hid ((subsL M).length ≤ 1000) := hl
  unfold maxLen at h2
  clear h hN hl
  go_enter Tryz.func59, Tryz.ntmps59
  go_wp2_with fail
  go_loopw [3, 10] (fun ov iv wr => ∃ (i k : Nat) (oa : Option Addr) (oc : Nat) (rows : List (List Value)), iv = .int .i64 (i : Int) ∧ ov = .slice oa k oc ∧ i ≤ N ∧ Hid (SideT n w rows (subsL (M.take i))) ∧ Hid (wr.ownsRow w.heap.size 30 5 (.slice oa k oc) k rows.flatten) ∧ Below w.heap.size w wr) (fun _ iv _ => N - (intOf iv).toNat)
  case atStart => exact ⟨0, 0, none, 0, [], rfl, rfl, by omega, (⟨rfl, by simp⟩ : SideT n w [] (subsL (M.take 0))), World.ownsRow_nil _ _ _ _, Below.refl _ _⟩
  case round =>
    obtain ⟨i, k, oa, oc, rows, rfl, rfl, hi, HS, HO, hbel⟩ := hrel
    by_cases hlt : i < N
    · obtain ⟨m, hm⟩ : ∃ r, M[i]? = some r := ⟨_, List.getElem?_eq_getElem (by rw [HN.out]; exact hlt)⟩
      obtain ⟨g, off, rfl, r, ⟨ve, rfl, he, hp⟩, hc⟩ := HH.out.get hm
      obtain ⟨ea, ec, rfl, e1, e2, -⟩ := RowP.open he
      have c0 := (hbel.cell (World.block_lt_of_cell? _ _ (hc 0 _ rfl))).trans (hc 0 _ rfl)
      simp only [Nat.mul_one, Nat.add_zero] at c0
      obtain ⟨El, hEl⟩ : ∃ N, m.length = N := ⟨_, rfl⟩
      rw [hEl] at e1 c0
      have HE : Hid (EnsQ n w (.slice ea El ec) m) := (by rw [← hEl]; exact he : EnsQ n w (.slice ea El ec) m)
      have HEl : Hid (m.length = El) := hEl
      have HM : Hid (M[i]? = some m) := hm
      unfold maxLen at e2
      clear hc he hp hm hEl
      go_wp2_with fail
      clear c0
      go_loopw [3, 16] (fun ov jv wz => ∃ (j k : Nat) (oa : Option Addr) (oc : Nat) (rows : List (List Value)), jv = .int .i64 (j : Int) ∧ ov = .slice oa k oc ∧ j ≤ El ∧ Hid (SideT n w rows (subsL (M.take i) ++ subs (m.take j))) ∧ Hid (wz.ownsRow w.heap.size 30 5 (.slice oa k oc) k rows.flatten) ∧ Below w.heap.size w wz) (fun _ jv _ => El - (intOf jv).toNat)
      case atStart => exact ⟨0, k, oa, oc, rows, rfl, rfl, by omega, (by simpa [subs] using HS.out : SideT n w rows (subsL (M.take i) ++ subs (m.take 0))), HO, hbel⟩
      case round =>
        clear HS HO hbel
        obtain ⟨j, k, oa, oc, rows, rfl, rfl, hj, HS, HO, hbel⟩ := hrel
        by_cases hlt2 : j < El
        · obtain ⟨x, hx⟩ : ∃ r, m[j]? = some r := ⟨_, List.getElem?_eq_getElem (by rw [HEl.out]; exact hlt2)⟩
          obtain ⟨ge, offe, rfl, r, ⟨vt, rfl, -, ht⟩, hc⟩ := HE.out.get hx
          obtain ⟨ta, tc, rfl, -⟩ := RowP.open ht
          have c0 := (hbel.cell (World.block_lt_of_cell? _ _ (hc 0 _ rfl))).trans (hc 0 _ rfl)
          have c1 := (hbel.cell (World.block_lt_of_cell? _ _ (hc 1 _ rfl))).trans (hc 1 _ rfl)
          simp only [Nat.add_zero] at c0
          obtain ⟨rs, hrg, hsd⟩ := TrsQ_side ht
          have hal : Below wr.heap.size wr (wr.alloc (Obj.cells #[.int .i64 x.1, .slice ta x.2.length tc] 58)) := (Below.refl _ _).alloc (Nat.le_refl _) _
          have hb2 : Below w.heap.size w (wr.alloc (Obj.cells #[.int .i64 x.1, .slice ta x.2.length tc] 58)) := hbel.trans (hal.mono hbel.size)
          have hlen : k + rs.length ≤ 1000 := by
            have h1 := acc_le (j := j + 1) HM.out
            rw [take_atQ hx, subs_snoc] at h1
            have h2 := HL.out
            have h3 := HS.out.1
            have h4 := hsd.1
            have h5 := (RowG.own HS.out.rows.1 (by decide) HO.out).2
            simp only [List.length_append] at h1 h3
            omega
          obtain ⟨v', W4, r1, r2, r3⟩ := run_joinG (w := wr.alloc (Obj.cells #[.int .i64 x.1, .slice ta x.2.length tc] 58)) 43 43 30 5 80 _ Tryz.underlying43 infoTq rfl (by decide) w.heap.size (.slice oa k oc) k rows.flatten (own_below HO.out hal) (.slice ta x.2.length tc) rs (hrg.below hb2) hsd.rows.1 hsd.rows.2 (by omega) (by decide) hb2.size
          have HRUN : Hid _ := r1
          have HS4 : Hid (SideT n w (rows ++ rs) (subsL (M.take i) ++ subs (m.take (j + 1)))) := (by rw [take_atQ hx, subs_snoc, ← List.append_assoc]; exact HS.out.append hsd : SideT n w (rows ++ rs) (subsL (M.take i) ++ subs (m.take (j + 1))))
          have hb4 : Below w.heap.size w W4 := hb2.grown r3 hb2.size (fun q hq => (own_lt HO.out hq).1)
          rw [← List.flatten_append] at r2
          obtain ⟨na, nc, hv'⟩ := own_form r2
          subst hv'
          have HO4 : Hid (W4.ownsRow w.heap.size 30 5 (.slice na (k + rs.length) nc) (k + rs.length) (rows ++ rs).flatten) := r2
          clear r1 r2 r3 hrg hsd hc ht hx HS HO
          generalize x.2.length = Xl at *
          generalize x.1 = xt at *
          generalize k + rs.length = k2 at *
          go_wp2_with (first | (at_builtin; refine wpList_ran rfl (append_run rfl rfl rfl HRUN.out) ?_) | fail)
          clear HRUN c0 c1 hal hb2 hbel
          go_roundw
          case rel => exact ⟨j + 1, k2, na, nc, _, by go_num, rfl, by omega, HS4, HO4, hb4⟩
          case measure => simp [intOf]; omega
        · have HS5 : Hid (SideT n w rows (subsL (M.take (i + 1)))) := (by
            have := HS.out
            rw [List.take_of_length_le (l := m) (by rw [HEl.out]; omega)] at this
            rw [take_atQ HM.out, subsL_snoc]
            exact this : SideT n w rows (subsL (M.take (i + 1))))
          clear HS
          go_wp2_with fail
          go_roundw
          case rel => exact ⟨i + 1, k, oa, oc, rows, by go_num, rfl, by omega, HS5, HO, hbel⟩
          case measure => simp [intOf]; omega
    · go_wp2_with fail
      go_ret
      have h5 := HS.out
      rw [List.take_of_length_le (by rw [HN.out]; omega)] at h5
      exact ⟨_, rfl, (h5.below hbel).row HO.out, hbel⟩
end Go.Proofs.YtfnjbbaphmmjlaaGreat
