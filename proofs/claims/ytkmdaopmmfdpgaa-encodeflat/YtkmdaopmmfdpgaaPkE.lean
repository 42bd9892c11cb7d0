/- A message in a message: its bytes. -/
import Derived.BigQuiet
import Derived.Laws.CopyRow
import Derived.Laws.IdiomCopy
import Derived.Laws.MakeOwn
import Derived.Maps.AppendAt
import Derived.Test.YtkmdaopmmfdpgaaPkD
import Derived.Test.YtkmdaopmmfdpgaaPkA
import Derived.Test.YtkmdaopmmfdpgaaPkC
import Derived.Test.YtkmdaopmmfdpgaaPkB
namespace Go.Proofs.Ytkmdaopmmfdpgaa
open Go.ChangeShapes Go.WideShapes Go.ChangeAt Go.RowKit
set_option linter.unusedVariables false
set_option linter.unusedSimpArgs false
set_option maxRecDepth 20000

/-- Fields in a slice, from block B on. -/
def RawsAt (B : Nat) (w : World) (v : Value) (rs : List Fd) : Prop := ∃ a cap, v = .slice a rs.length cap ∧ ((a = none ∧ rs = [] ∧ cap = 0) ∨ ∃ g, a = some ⟨g, 0, none⟩ ∧ B ≤ g ∧ g < w.heap.size) ∧ rs.length ≤ cap ∧ cap ≤ maxLen ∧ HoldsR w a rs
theorem RawsAt.below {B : Nat} {w w1 : World} {v : Value} {rs : List Fd} (h : RawsAt B w v rs) (hb : Below w.heap.size w w1) : RawsAt B w1 v rs := by
  obtain ⟨a, cap, h1, h2, h3, h4, h5⟩ := h
  refine ⟨a, cap, h1, ?_, h3, h4, h5.below hb⟩
  rcases h2 with h | ⟨g, g1, g2, g3⟩
  · exact .inl h
  · exact .inr ⟨g, g1, g2, Nat.lt_of_lt_of_le g3 hb.size⟩
theorem RawsAt.own {B : Nat} {w : World} {v : Value} {n : Nat} {rs : List Fd} (h : w.ownsRow B 46 4 v n (rawCells rs)) : RawsAt B w v rs := by
  obtain ⟨a, cap, h1, _, h2, h3, h4, h5⟩ := own_openR h
  exact ⟨a, cap, h1, h2, h3, h4, h5⟩
theorem RawsAt.nil (B : Nat) (w : World) : RawsAt B w (.slice none 0 0) [] := ⟨none, 0, rfl, .inl ⟨rfl, rfl, rfl⟩, Nat.le_refl _, by decide, HoldsR.nil⟩
/-- Fields that may be put. -/
def FdsOk (rs : List Fd) : Prop := rs.length ≤ 1000000 ∧ ∀ r ∈ rs, Is64 r.n
/-- What fields answers. -/
def FlsP (W0 : World) (R : List Fd × Nat) (b : Nat) (w : World) (e : Ending) (w' : World) : Prop := ∃ v, e = .returned (.tuple #[v, .int .i64 (R.2 : Int)]) ∧ RawsAt w.heap.size w' v R.1 ∧ FdsOk R.1 ∧ KnE W0 w' b ∧ Kp (fun q => q = b) w w'
theorem putall_at {B : Nat} {w : World} {v : Value} {rs : List Fd} (h : RawsAt B w v rs) (hr : FdsOk rs) :
    Calls Try.prog 26 #[v] w fun e w' => ∃ v, e = .returned (.tuple #[v, .int .i64 ((putL rs).2 : Int)]) ∧ w'.ownsRow w.heap.size 5 1 v (putL rs).1.length (byteCells (putL rs).1) ∧ Below w.heap.size w w' := by
  obtain ⟨a, cap, rfl, h2, h3, h4, h5⟩ := h
  exact wputall_any a rs rs.length cap w rfl (own_adrR h2) h3 h4 hr.1 h5 hr.2
theorem BytP.of {W0 : World} {R : List Nat × Nat} {b : Nat} {w w' : World} {s : ByteArray} {e : Int} {ns : List Nat} (h : R = (ns, e.toNat)) (he : 0 ≤ e) (hs : s = strN ns) (h1 : KnE W0 w' b) (h2 : Kp (fun q => q = b) w w') : BytP W0 R b w (.returned (.tuple #[.string s, .int .i64 e])) w' := by
  subst h hs
  refine ⟨?_, h1, h2⟩
  simp only
  rw [Int.toNat_of_nonneg he]
set_option maxHeartbeats 4000000 in
theorem ebytes_step (W0 : World) (b m : Nat) (x : Tr) (K N : Int) (S : ByteArray) (a1 a2 : Option Addr) (n1 c1 n2 c2 : Nat) (w : World) (hx : TrW (m + 1) W0 (.agg #[.int .i64 K, .int .i64 N, .string S, .slice a1 n1 c1, .slice a2 n2 c2]) x)
    (IF : ∀ W, Below W0.heap.size W0 W → KnE W0 W b → Calls Try.prog 30 #[.agg #[.map (some b)], .agg #[.int .i64 K, .int .i64 N, .string S, .slice a1 n1 c1, .slice a2 n2 c2]] W (FlsP W0 (rwE (bytE m) x) b W))
    (h0 : Below W0.heap.size W0 w) (hk : KnE W0 w b) :
    Calls Try.prog 59 #[.agg #[.map (some b)], .agg #[.int .i64 K, .int .i64 N, .string S, .slice a1 n1 c1, .slice a2 n2 c2]] w (BytP W0 (bytE (m + 1) x) b w) := by
  obtain ⟨m', a1', c1', a2', c2', hmn, hv, -, -, -, u1, u2, x1, x2, x3, x4, -, -, -, -⟩ := hx.open
  simp only [Value.agg.injEq, Array.mk.injEq, List.cons.injEq, Value.int.injEq, Value.string.injEq, Value.slice.injEq, and_true, true_and] at hv
  obtain ⟨-, -, -, ⟨rfl, hn1, rfl⟩, rfl, hn2, rfl⟩ := hv
  rw [← hn1] at u1 x3
  rw [← hn2] at x1 x4
  obtain ⟨R, hR⟩ : ∃ R, bytE (m + 1) x = R := ⟨_, rfl⟩
  rw [hR]
  have HR : Hid (bytE (m + 1) x = R) := hR
  have HR2 : Hid (ofR (rwE (bytE m) x) = R) := hR
  have hj := hx.trJ
  obtain ⟨⟨p1, m1⟩, hp1⟩ : ∃ z, plOf (.slice a1 n1 c1) = z := ⟨_, rfl⟩
  obtain ⟨⟨p2, m2⟩, hp2⟩ : ∃ z, plOf (.slice a2 n2 c2) = z := ⟨_, rfl⟩
  have hI := fun W => eidentity_any K N S a1 a2 n1 c1 n2 c2 W u1 u2 x3 x1 x2 x4
  rw [hp1, hp2] at hj hI
  have HJ : Hid (TrJ (m + 1) W0 ((p1, m1), (p2, m2)) x) := hj
  have HI : Hid (∀ W, Calls Try.prog 66 #[.agg #[.int .i64 K, .int .i64 N, .string S, .slice a1 n1 c1, .slice a2 n2 c2]] W fun e w' => e = .returned (.agg #[.pointer p1, .int .i64 (m1 : Int), .pointer p2, .int .i64 (m2 : Int)]) ∧ Below W.heap.size W w') := hI
  have HK : Hid (KnE W0 w b) := hk
  have H0 : Hid (Below W0.heap.size W0 w) := h0
  have HF : Hid (∀ W, Below W0.heap.size W0 W → KnE W0 W b → Calls Try.prog 30 #[.agg #[.map (some b)], .agg #[.int .i64 K, .int .i64 N, .string S, .slice a1 n1 c1, .slice a2 n2 c2]] W (FlsP W0 (rwE (bytE m) x) b W)) := IF
  have hlt := hk.lt
  obtain ⟨Z, hZ⟩ : ∃ Z, Z = (w.alloc (Obj.cells #[.map (some b)] 53)).alloc (Obj.cells #[.int .i64 K, .int .i64 N, .string S, .slice a1 n1 c1, .slice a2 n2 c2] 25) := ⟨_, rfl⟩
  have al1 : Below w.heap.size w (w.alloc (Obj.cells #[.map (some b)] 53)) := (Below.refl _ _).alloc (Nat.le_refl _) _
  have BE : Blk Z w.heap.size #[.map (some b)] 53 := by
    rw [hZ]
    exact (Blk.new w _ _).below ((Below.refl _ _).alloc (Nat.le_refl _) _)
  have BT : Blk Z (w.heap.size + 1) #[.int .i64 K, .int .i64 N, .string S, .slice a1 n1 c1, .slice a2 n2 c2] 25 := by
    rw [hZ]
    have := Blk.new (w.alloc (Obj.cells #[.map (some b)] 53)) #[.int .i64 K, .int .i64 N, .string S, .slice a1 n1 c1, .slice a2 n2 c2] 25
    rw [show (w.alloc (Obj.cells #[.map (some b)] 53)).heap.size = w.heap.size + 1 from by simp] at this
    exact this
  have hZb : Below w.heap.size w Z := by
    rw [hZ]
    exact al1.alloc (by simp) _
  clear hR al1 hx h0 hk IF hp1 hp2 hj hI u1 u2 x1 x2 x3 x4 hn1 hn2 hmn
  go_enter Try.func59, Try.ntmps59
  go_wp2_with fail
  rw [← hZ]
  clear hZ
  refine (HI.out _).mono ?_
  rintro e w1 ⟨rfl, hb1⟩
  have hbw1 : Below w.heap.size w w1 := hZb.trans (hb1.mono hZb.size)
  have BE1 := BE.below hb1
  have BT1 := BT.below hb1
  have HK1 : Hid (KnE W0 w1 b) := HK.out.below hbw1
  have H01 : Hid (Below W0.heap.size W0 w1) := H0.out.trans (hbw1.mono H0.out.size)
  clear BE BT hb1 hZb HI Z H0 HK
  obtain ⟨s, hs⟩ : ∃ s, w.heap.size = s := ⟨_, rfl⟩
  have HSZ : Hid (w.heap.size = s) := hs
  rw [hs] at BE1 BT1 hlt
  simp only [hs]
  clear hs
  have al2 : Below w1.heap.size w1 (w1.alloc (Obj.cells #[.pointer p1, .int .i64 (m1 : Int), .pointer p2, .int .i64 (m2 : Int)] 98)) := (Below.refl _ _).alloc (Nat.le_refl _) _
  have BE2 := BE1.below al2
  have BT2 := BT1.below al2
  have BI2 : Blk (w1.alloc (Obj.cells #[.pointer p1, .int .i64 (m1 : Int), .pointer p2, .int .i64 (m2 : Int)] 98)) w1.heap.size #[.pointer p1, .int .i64 (m1 : Int), .pointer p2, .int .i64 (m2 : Int)] 98 := Blk.new w1 _ _
  have HK2 : Hid (KnE W0 (w1.alloc (Obj.cells #[.pointer p1, .int .i64 (m1 : Int), .pointer p2, .int .i64 (m2 : Int)] 98)) b) := HK1.out.below al2
  have H02 : Hid (Below W0.heap.size W0 (w1.alloc (Obj.cells #[.pointer p1, .int .i64 (m1 : Int), .pointer p2, .int .i64 (m2 : Int)] 98))) := H01.out.trans (al2.mono H01.out.size)
  have hbw2 : Below w.heap.size w (w1.alloc (Obj.cells #[.pointer p1, .int .i64 (m1 : Int), .pointer p2, .int .i64 (m2 : Int)] 98)) := hbw1.trans (al2.mono hbw1.size)
  have e0 := (BE2.cell 0).trans rfl
  have i0 := (BI2.cell 0).trans rfl
  have i1 := (BI2.cell 1).trans rfl
  have i2 := (BI2.cell 2).trans rfl
  have i3 := (BI2.cell 3).trans rfl
  rcases HK2.out.look H02.out HJ.out with ⟨ns, hlk, hbv⟩ | hlk
  · have HLK : Hid ((Instr.lookup 51 (.map (some b)) (.agg #[.pointer p1, .int .i64 (m1 : Int), .pointer p2, .int .i64 (m2 : Int)]) true).run Try.prog (w1.alloc (Obj.cells #[.pointer p1, .int .i64 (m1 : Int), .pointer p2, .int .i64 (m2 : Int)] 98)) = .ok (.tuple #[.agg #[.string (strN ns)], .bool true]) (w1.alloc (Obj.cells #[.pointer p1, .int .i64 (m1 : Int), .pointer p2, .int .i64 (m2 : Int)] 98))) := hlk
    have HV : Hid (R = (ns, 0)) := (by rw [← HR.out, hbv] : R = _)
    have HT : Hid (∃ T, T = strN ns) := ⟨_, rfl⟩
    have HKE : Hid (∀ o, KnE W0 ((w1.alloc (Obj.cells #[.pointer p1, .int .i64 (m1 : Int), .pointer p2, .int .i64 (m2 : Int)] 98)).alloc o) b) := fun o => HK2.out.below ((Below.refl _ _).alloc (Nat.le_refl _) _)
    have HKW : Hid (∀ o, Kp (fun q => q = b) w ((w1.alloc (Obj.cells #[.pointer p1, .int .i64 (m1 : Int), .pointer p2, .int .i64 (m2 : Int)] 98)).alloc o)) := fun o => Kp.ofBelow (hbw2.alloc hbw2.size _)
    clear hlk hbv HF HR HR2 HJ HK1 H01 HK2 H02 hbw1 hbw2 al2 BE1 BT1 BE2 BT2 BI2
    obtain ⟨T, hT⟩ : ∃ T, strN ns = T := ⟨_, rfl⟩
    rw [hT] at HLK
    have HTT : Hid (T = strN ns) := hT.symm
    clear hT HT
    go_wp2_with (first | (at_lookup; refine wpList_lookup_pl rfl _ _ rfl rfl rfl HLK.out ?_) | fail)
    go_ret2
    exact BytP.of HV.out (by decide) HTT.out (HKE.out _) (HKW.out _)
  · have HLK : Hid ((Instr.lookup 51 (.map (some b)) (.agg #[.pointer p1, .int .i64 (m1 : Int), .pointer p2, .int .i64 (m2 : Int)]) true).run Try.prog (w1.alloc (Obj.cells #[.pointer p1, .int .i64 (m1 : Int), .pointer p2, .int .i64 (m2 : Int)] 98)) = .ok (.tuple #[.agg #[.string ⟨#[]⟩], .bool false]) (w1.alloc (Obj.cells #[.pointer p1, .int .i64 (m1 : Int), .pointer p2, .int .i64 (m2 : Int)] 98))) := hlk
    have al3 : Below (w1.alloc (Obj.cells #[.pointer p1, .int .i64 (m1 : Int), .pointer p2, .int .i64 (m2 : Int)] 98)).heap.size (w1.alloc (Obj.cells #[.pointer p1, .int .i64 (m1 : Int), .pointer p2, .int .i64 (m2 : Int)] 98)) ((w1.alloc (Obj.cells #[.pointer p1, .int .i64 (m1 : Int), .pointer p2, .int .i64 (m2 : Int)] 98)).alloc (Obj.cells #[.string ⟨#[]⟩] 101)) := (Below.refl _ _).alloc (Nat.le_refl _) _
    have BE3 := BE2.below al3
    have BT3 := BT2.below al3
    have BI3 := BI2.below al3
    have HK3 : Hid (KnE W0 ((w1.alloc (Obj.cells #[.pointer p1, .int .i64 (m1 : Int), .pointer p2, .int .i64 (m2 : Int)] 98)).alloc (Obj.cells #[.string ⟨#[]⟩] 101)) b) := HK2.out.below al3
    have H03 : Hid (Below W0.heap.size W0 ((w1.alloc (Obj.cells #[.pointer p1, .int .i64 (m1 : Int), .pointer p2, .int .i64 (m2 : Int)] 98)).alloc (Obj.cells #[.string ⟨#[]⟩] 101))) := H02.out.trans (al3.mono H02.out.size)
    have HKW3 : Hid (Kp (fun q => q = b) w ((w1.alloc (Obj.cells #[.pointer p1, .int .i64 (m1 : Int), .pointer p2, .int .i64 (m2 : Int)] 98)).alloc (Obj.cells #[.string ⟨#[]⟩] 101))) := Kp.ofBelow (hbw2.trans (al3.mono hbw2.size))
    have HFC : Hid (Calls Try.prog 30 #[.agg #[.map (some b)], .agg #[.int .i64 K, .int .i64 N, .string S, .slice a1 n1 c1, .slice a2 n2 c2]] ((w1.alloc (Obj.cells #[.pointer p1, .int .i64 (m1 : Int), .pointer p2, .int .i64 (m2 : Int)] 98)).alloc (Obj.cells #[.string ⟨#[]⟩] 101)) (FlsP W0 (rwE (bytE m) x) b ((w1.alloc (Obj.cells #[.pointer p1, .int .i64 (m1 : Int), .pointer p2, .int .i64 (m2 : Int)] 98)).alloc (Obj.cells #[.string ⟨#[]⟩] 101)))) := HF.out _ H03.out HK3.out
    have k0 := (BE3.cell 0).trans rfl
    have t0 := (BT3.cell 0).trans rfl
    have t1 := (BT3.cell 1).trans rfl
    have t2 := (BT3.cell 2).trans rfl
    have t3 := (BT3.cell 3).trans rfl
    have t4 := (BT3.cell 4).trans rfl
    have hl1 : s + 1 < w1.heap.size := BT1.lt
    clear hlk HF HK1 H01 HK2 H02 hbw1 hbw2 al2 al3 BE1 BT1 BE2 BT2 BI2
    go_wp2_with (first | (at_lookup; refine wpList_lookup_pl rfl _ _ rfl rfl rfl HLK.out ?_) | fail)
    refine Calls.mono HFC.out ?_
    rintro ee w4 ⟨v4, rfl, hra, hok, hk4, hkp4⟩
    have hnb : w1.heap.size ≠ b := by omega
    have BE4 := BE3.kp hkp4 (by omega)
    have BI4 := BI3.kp hkp4 hnb
    have HK4 : Hid (KnE W0 w4 b) := hk4
    have H04 : Hid (Below W0.heap.size W0 w4) := HK3.out.frame H03.out hkp4
    have HKW4 : Hid (Kp (fun q => q = b) w w4) := HKW3.out.trans hkp4
    have HRA : Hid (RawsAt ((w1.alloc (Obj.cells #[.pointer p1, .int .i64 (m1 : Int), .pointer p2, .int .i64 (m2 : Int)] 98)).alloc (Obj.cells #[.string ⟨#[]⟩] 101)).heap.size w4 v4 (rwE (bytE m) x).1) := hra
    have HOK : Hid (FdsOk (rwE (bytE m) x).1) := hok
    clear HLK BE3 BT3 BI3 HK3 H03 HKW3 HFC k0 t0 t1 t2 t3 t4 hra hok hk4 hkp4 e0 i0 i1 i2 i3
    generalize ((w1.alloc (Obj.cells #[.pointer p1, .int .i64 (m1 : Int), .pointer p2, .int .i64 (m2 : Int)] 98)).alloc (Obj.cells #[.string ⟨#[]⟩] 101)).heap.size = B4 at *
    generalize rwE (bytE m) x = q at *
    obtain ⟨rs, er⟩ := q
    simp only at HRA HOK ⊢
    by_cases he : er = 0
    · subst he
      have HPC : Hid (Calls Try.prog 26 #[v4] w4 fun e w' => ∃ v, e = .returned (.tuple #[v, .int .i64 ((putL rs).2 : Int)]) ∧ w'.ownsRow w4.heap.size 5 1 v (putL rs).1.length (byteCells (putL rs).1) ∧ Below w4.heap.size w4 w') := putall_at HRA.out HOK.out
      have HR3 : Hid (putL rs = R) := (by have := HR2.out; rw [ofR, if_neg (by simp)] at this; exact this : putL rs = R)
      rw [HR3.out] at HPC
      clear HR2 HRA HOK
      go_wp2_with fail
      refine Calls.mono HPC.out ?_
      rintro ee w5 ⟨v5, rfl, ho5, hb5⟩
      have BE5 := BE4.below hb5
      have BI5 := BI4.below hb5
      have HK5 : Hid (KnE W0 w5 b) := HK4.out.below hb5
      have H05 : Hid (Below W0.heap.size W0 w5) := H04.out.trans (hb5.mono H04.out.size)
      have HKW5 : Hid (Kp (fun q => q = b) w w5) := HKW4.out.trans (Kp.ofBelow hb5)
      have HCV : Hid ((convert 29 9 v5).run Try.prog w5 = .ok (.string (strN R.1)) w5) := conv_own ho5
      have HNR : Hid (R.2 ≠ 0 → R.1 = []) := (by rw [← HR3.out]; exact putL_none : R.2 ≠ 0 → R.1 = [])
      clear BE4 BI4 HK4 H04 HKW4 HPC HR3 ho5 hb5
      obtain ⟨ns, e2⟩ := R
      simp only at HCV HNR ⊢
      by_cases he2 : e2 = 0
      · subst he2
        obtain ⟨T, hT⟩ : ∃ T, strN ns = T := ⟨_, rfl⟩
        rw [hT] at HCV
        have HTT : Hid (T = strN ns) := hT.symm
        have hcv := HCV.out
        have al6 : Below w5.heap.size w5 (w5.alloc (Obj.cells #[.string T] 101)) := (Below.refl _ _).alloc (Nat.le_refl _) _
        have BE6 := BE5.below al6
        have BI6 := BI5.below al6
        have BD6 : Blk (w5.alloc (Obj.cells #[.string T] 101)) w5.heap.size #[.string T] 101 := Blk.new w5 _ _
        obtain ⟨w7, g1, g2, g3⟩ := (HK5.out.below al6).update (H05.out.trans (al6.mono H05.out.size)) HJ.out (ns := ns) HR.out
        rw [hT] at g1
        have HUP : Hid ((Instr.mapUpdate 51 (.map (some b)) (.agg #[.pointer p1, .int .i64 (m1 : Int), .pointer p2, .int .i64 (m2 : Int)]) (.agg #[.string T])).run Try.prog (w5.alloc (Obj.cells #[.string T] 101)) = .ok () w7) := g1
        have HK7 : Hid (KnE W0 w7 b) := g2
        have HKW7 : Hid (Kp (fun q => q = b) w w7) := (HKW5.out.trans (Kp.ofBelow al6)).trans g3
        have BD7 := BD6.kp g3 (by have := HK5.out.lt; omega)
        have k0 := (BE6.cell 0).trans rfl
        have j0 := (BI6.cell 0).trans rfl
        have j1 := (BI6.cell 1).trans rfl
        have j2 := (BI6.cell 2).trans rfl
        have j3 := (BI6.cell 3).trans rfl
        have d0 := (BD7.cell 0).trans rfl
        clear hT HCV al6 BE5 BI5 BE6 BI6 BD6 HK5 H05 HKW5 g1 g2 g3 BD7 HR
        go_wp2_with (first | (at_mapUpdate; refine wpList_update_pl rfl _ _ _ rfl rfl rfl rfl HUP.out ?_) | fail)
        go_ret2
        exact BytP.of rfl (by decide) HTT.out HK7.out HKW7.out
      · have hd : ((e2 : Int) != 0) = true := by simp; omega
        have HNS : Hid (ns = []) := HNR.out he2
        clear he2 HCV HNR HR
        go_wp2_with fail
        go_ret2
        exact BytP.of rfl (by omega) (by rw [HNS.out]; rfl) HK5.out HKW5.out
    · have hd : ((er : Int) != 0) = true := by simp; omega
      have HR3 : Hid (R = ([], ((er : Int)).toNat)) := (by have := HR2.out; rw [ofR, if_pos he] at this; exact this.symm : R = _)
      clear he HR2 HRA HOK HR
      go_wp2_with fail
      go_ret2
      exact BytP.of HR3.out (by omega) rfl HK4.out HKW4.out
end Go.Proofs.Ytkmdaopmmfdpgaa

/- What wire Rising answers. -/
namespace Go.Proofs.Ytkmdaopmmfdpgaa
open Go.ChangeShapes Go.WideShapes Go.ChangeAt Go.RowKit
set_option linter.unusedVariables false
set_option linter.unusedSimpArgs false
set_option maxRecDepth 20000

set_option maxHeartbeats 1000000 in
theorem rising_any (a : Option Addr) (rs : List Fd) (N cap : Nat) (w : World) (hN : rs.length = N) (hadr : rs = [] ∨ ∃ g off, a = some ⟨g, off, none⟩) (hc : N ≤ cap) (hm : cap ≤ maxLen) (hh : HoldsR w a rs) :
    Calls Try.prog 20 #[.slice a N cap] w fun e w' => e = .returned (.bool (risesB rs)) ∧ Below w.heap.size w w' := by
  have HN : Hid (rs.length = N) := hN
  have HA : Hid (rs = [] ∨ ∃ g off, a = some ⟨g, off, none⟩) := hadr
  have HH : Hid (HoldsR w a rs) := hh
  obtain ⟨R, hR⟩ : ∃ R, risesB rs = R := ⟨_, rfl⟩
  rw [hR]
  have HR : Hid (risesB rs = R) := hR
  unfold maxLen at hm
  clear hN hadr hh hR
  go_enter Try.func20, Try.ntmps20
  go_wp2_with fail
  go_loopw [3] (fun iv wr => ∃ i : Nat, iv = .int .i64 ((i : Int) + 1) ∧ i ≤ N ∧ Hid (∀ j x y, j < i → rs[j]? = some x → rs[j + 1]? = some y → x.tag ≤ y.tag) ∧ Below w.heap.size w wr) (fun iv _ => N + 1 - (intOf iv).toNat)
  case atStart => exact ⟨0, rfl, by omega, (fun j x y hj => absurd hj (by omega) : ∀ j x y, j < 0 → rs[j]? = some x → rs[j + 1]? = some y → x.tag ≤ y.tag), Below.refl _ _⟩
  case round =>
    obtain ⟨i, rfl, hi, HT, hbel⟩ := hrel
    by_cases hlt : i + 1 < N
    · have hr : rs[i]? = some (rs[i]'(by rw [HN.out]; omega)) := List.getElem?_eq_getElem _
      generalize rs[i]'(by rw [HN.out]; omega) = r at hr
      have hs : rs[i + 1]? = some (rs[i + 1]'(by rw [HN.out]; exact hlt)) := List.getElem?_eq_getElem _
      generalize rs[i + 1]'(by rw [HN.out]; exact hlt) = s at hs
      rcases HA.out with h0 | ⟨g, off, rfl⟩
      · exact absurd hlt (by have := HN.out; rw [h0] at this; simp at this; omega)
      obtain ⟨p0, -, -, -⟩ := (HH.out.below hbel).at hr
      obtain ⟨q0, -, -, -⟩ := (HH.out.below hbel).at hs
      have HK : Hid (rs[i]? = some r) := hr
      have HK2 : Hid (rs[i + 1]? = some s) := hs
      obtain ⟨x, hx⟩ : ∃ q, r.tag = q := ⟨_, rfl⟩
      obtain ⟨y, hy⟩ : ∃ q, s.tag = q := ⟨_, rfl⟩
      rw [hx] at p0
      rw [hy] at q0
      have HX : Hid (r.tag = x) := hx
      have HY : Hid (s.tag = y) := hy
      have hlti : (i : Int) + 1 < (N : Int) := by omega
      clear hr hs hx hy
      by_cases hle : y < x
      · have hd : decide (y < x) = true := by simp [hle]
        obtain rfl : R = false := by rw [← HR.out]; exact rises_break i r s HK.out HK2.out (by rw [HX.out, HY.out]; exact hle)
        clear HT HK HK2 HX HY HR
        go_wp2_with fail
        go_quiet (fail)
        have hbn := below_drewN nq hbel
        clear p0 q0 hbel
        go_wp2_with fail
        go_ret
        exact ⟨rfl, hbn⟩
      · have hd : decide (y < x) = false := by simp; omega
        have HT2 : Hid (∀ j u v, j < i + 1 → rs[j]? = some u → rs[j + 1]? = some v → u.tag ≤ v.tag) := fun j u v hj hu hv => by
          by_cases hji : j = i
          · subst hji
            rw [HK.out] at hu
            rw [HK2.out] at hv
            obtain rfl : r = u := by simpa using hu
            obtain rfl : s = v := by simpa using hv
            rw [HX.out, HY.out]; omega
          · exact HT.out j u v (by omega) hu hv
        clear HT HK HK2 HX HY
        go_wp2_with fail
        go_quiet (fail)
        have hbn := below_drewN nq hbel
        clear p0 q0 hbel
        go_wp2_with fail
        go_roundw
        case rel => exact ⟨i + 1, by go_num, by omega, HT2, hbn⟩
        case measure => simp [intOf]; omega
    · obtain rfl : R = true := by
        rw [← HR.out]
        refine rises_steps fun j x y hx hy => HT.out j x y ?_ hx hy
        have := (List.getElem?_eq_some_iff.1 hy).1
        rw [HN.out] at this
        omega
      have hnl : ¬ (i : Int) + 1 < (N : Int) := by omega
      clear HT HR
      go_wp2_with fail
      go_ret
      exact ⟨rfl, hbel⟩
end Go.Proofs.Ytkmdaopmmfdpgaa

/- What SameRaws answers of one list in two places. -/
namespace Go.Proofs.Ytkmdaopmmfdpgaa
open Go.ChangeShapes Go.WideShapes Go.ChangeAt Go.RowKit
set_option linter.unusedVariables false
set_option linter.unusedSimpArgs false
set_option maxRecDepth 20000

set_option maxHeartbeats 4000000 in
theorem same_any (a b : Option Addr) (rs : List Fd) (N c d : Nat) (w : World) (hN : rs.length = N) (ha : rs = [] ∨ ∃ g off, a = some ⟨g, off, none⟩) (hb : rs = [] ∨ ∃ g off, b = some ⟨g, off, none⟩) (hc : N ≤ c) (hd : N ≤ d) (hcm : c ≤ maxLen) (hdm : d ≤ maxLen) (hl : N ≤ 1000000)
    (h1 : HoldsR w a rs) (h2 : HoldsR w b rs) :
    Calls Try.prog 16 #[.slice a N c, .slice b N d] w fun e w' => e = .returned (.bool true) ∧ Below w.heap.size w w' := by
  have HN : Hid (rs.length = N) := hN
  have HA : Hid (rs = [] ∨ ∃ g off, a = some ⟨g, off, none⟩) := ha
  have HB : Hid (rs = [] ∨ ∃ g off, b = some ⟨g, off, none⟩) := hb
  have H1 : Hid (HoldsR w a rs) := h1
  have H2 : Hid (HoldsR w b rs) := h2
  unfold maxLen at hcm hdm
  clear hN ha hb h1 h2
  go_enter Try.func16, Try.ntmps16
  go_wp2_with fail
  go_loopw [5] (fun iv wr => ∃ i : Nat, iv = .int .i64 (i : Int) ∧ i ≤ N ∧ Below w.heap.size w wr) (fun iv _ => N - (intOf iv).toNat)
  case atStart => exact ⟨0, rfl, by omega, Below.refl _ _⟩
  case round =>
    obtain ⟨i, rfl, hi, hbel⟩ := hrel
    by_cases hlt : i < N
    · have hr : rs[i]? = some (rs[i]'(by rw [HN.out]; exact hlt)) := List.getElem?_eq_getElem _
      generalize rs[i]'(by rw [HN.out]; exact hlt) = r at hr
      rcases HA.out with h0 | ⟨g, off, rfl⟩
      · exact absurd hlt (by have := HN.out; rw [h0] at this; simp at this; omega)
      rcases HB.out with h0 | ⟨g2, off2, rfl⟩
      · exact absurd hlt (by have := HN.out; rw [h0] at this; simp at this; omega)
      obtain ⟨p0, p1, p2, p3⟩ := (H1.out.below hbel).at hr
      obtain ⟨q0, q1, q2, q3⟩ := (H2.out.below hbel).at hr
      obtain ⟨t, k, n, s⟩ := r
      simp only at p0 p1 p2 p3 q0 q1 q2 q3
      clear hr
      go_wp2_with fail
      go_quiet (fail)
      have hbn := below_drewN nq hbel
      clear p0 p1 p2 p3 q0 q1 q2 q3 hbel
      go_wp2_with fail
      go_roundw
      case rel => exact ⟨i + 1, by go_num, by omega, hbn⟩
      case measure => simp [intOf]; omega
    · go_wp2_with fail
      go_ret
      exact ⟨rfl, hbel⟩
end Go.Proofs.Ytkmdaopmmfdpgaa

/- What Rising and upTo answer; a copy of fields into a row of the call's own. -/
namespace Go.Proofs.Ytkmdaopmmfdpgaa
open Go.ChangeShapes Go.WideShapes Go.ChangeAt Go.RowKit
set_option linter.unusedVariables false
set_option linter.unusedSimpArgs false
set_option maxRecDepth 20000

/-- A row that is being filled: fields that are there, and room for more. -/
def OutAt (w : World) (g : Nat) (done : List Fd) (m : Nat) : Prop := ∃ junk : List Value, w.heap[g]? = some (.cells (rawCells done ++ junk).toArray 46 (0, 0)) ∧ junk.length = m * 4
theorem OutAt.below {w w1 : World} {g : Nat} {done : List Fd} {m : Nat} (h : OutAt w g done m) (hb : Below w.heap.size w w1) : OutAt w1 g done m := by
  obtain ⟨junk, h1, h2⟩ := h
  exact ⟨junk, (hb.block g (Array.getElem?_eq_some_iff.1 h1).1).trans h1, h2⟩
theorem OutAt.lt {w : World} {g : Nat} {done : List Fd} {m : Nat} (h : OutAt w g done m) : g < w.heap.size := by
  obtain ⟨junk, h1, h2⟩ := h
  exact (Array.getElem?_eq_some_iff.1 h1).1
/-- The room's cells are there. -/
theorem OutAt.room {w : World} {g : Nat} {done : List Fd} {m : Nat} (h : OutAt w g done m) (j : Nat) (hj : j < m * 4) : (∃ u, w.cell? ⟨g, done.length * 4 + j, none⟩ = some u) ∧ w.frozen? ⟨g, done.length * 4 + j, none⟩ = false := by
  obtain ⟨junk, h1, h2⟩ := h
  constructor
  · refine ⟨junk[j]'(by omega), ?_⟩
    have hl : (rawCells done).length = done.length * 4 := rawCells_len done
    simp only [World.cell?, h1]
    simp [List.getElem?_append_right, hl, List.getElem?_eq_getElem (show j < junk.length by omega)]
  · exact frozen_of_row w g _ _ _ h1

theorem run_copyR (w : World) (ty : TypeId) (g o dLen dCap : Nat) (a : Addr) (sLen sCap : Nat) (cur : Array Value) (t : TypeId) (cs : List Value)
    (hg : w.heap[g]? = some (.cells cur t (0, 0))) (hn : cs.length = Nat.min sLen dLen * 4)
    (hsrc : ∀ j v, cs[j]? = some v → w.cell? (a.add j) = some v) (hfit : o + cs.length ≤ cur.size) (h1 : ∀ v ∈ cs, v.oneCell' = true) :
    (Builtin.copy_ #[23, 23] ty #[.slice (some ⟨g, o, none⟩) dLen dCap, .slice (some a) sLen sCap]).run Try.prog w =
      .ok (goInt (Nat.min sLen dLen)) (w.setRow g (cur.toList.take o ++ cs ++ cur.toList.drop (o + cs.length)).toArray) := by
  obtain ⟨i0, hi, hz0, hz1, hz2⟩ := info_parts infoRaw
  have hl := run_loadCells_list (P := Try.prog) w a cs hsrc
  have hst := run_storeCells_at Try.prog g o t cs 0 cur w hg (by simpa using hfit) h1
  simp [Builtin.copy_, run_underlying Try.underlying23, Builtin.lenOf, Builtin.firstCells, sizeOf, typeInfo, hi, hz1, ← hn, hl, hst]
theorem run_copy0 (w : World) (ty : TypeId) (d a : Option Addr) (dLen dCap sLen sCap : Nat) (hn : Nat.min sLen dLen = 0) :
    (Builtin.copy_ #[23, 23] ty #[.slice d dLen dCap, .slice a sLen sCap]).run Try.prog w = .ok (goInt 0) w := by
  obtain ⟨i0, hi, hz0, hz1, hz2⟩ := info_parts infoRaw
  have hl : ∀ (x : Addr), (loadCells x 0).run Try.prog w = .ok #[] w := fun x => by simpa using run_loadCells_list (P := Try.prog) w x [] (by simp)
  cases d <;> cases a <;> simp [Builtin.copy_, run_underlying Try.underlying23, Builtin.lenOf, Builtin.firstCells, sizeOf, typeInfo, hi, hz1, hn, storeCells, hl]

/-- A copy behind what is there. -/
theorem wpList_copyR {w : World} {ops : Array Oper} {rest : List Oper} {o : Oper} {a : Act} {Q : Exit → Act → World → Prop} (hgd : o.guard = none) (d s : Operand)
    (ho : o.op = .call { callee := .builtin .copy, args := #[d, s], argTypes := #[23, 23] })
    (dp sp : Option Addr) (dLen dCap sLen sCap : Nat) (hd : a.eval d = .slice dp dLen dCap) (hs : a.eval s = .slice sp sLen sCap)
    (g : Nat) (done : List Fd) (m : Nat) (hg : OutAt w g done m) (cs : List Fd) (hn : cs.length = Nat.min sLen dLen) (hm : cs.length ≤ m)
    (hpos : cs ≠ [] → dp = some ⟨g, done.length * 4, none⟩ ∧ ∃ ad, sp = some ad ∧ HoldsR w (some ad) cs)
    (h : ∀ w', Hid (OutAt w' g (done ++ cs) (m - cs.length)) → w.grownBy w' (some g) → wpList Try.prog ops Q rest (a.put o.dst (goInt cs.length)) w') :
    wpList Try.prog ops Q (o :: rest) a w := by
  refine wpList_plain hgd fun K hK => ?_
  by_cases h0 : cs = []
  · subst h0
    have hrun := run_copy0 w o.type dp sp dLen dCap sLen sCap (by simpa using hn.symm)
    unfold Oper.wp
    simp [execOp, ho, resolve, invoke, builtin, hd, hs, hrun, Result.andThen]
    exact hK _ _ (h w (show OutAt _ _ _ _ by simpa using hg) ⟨rfl, rfl, rfl, Nat.le_refl _, fun _ _ _ => rfl⟩)
  · obtain ⟨rfl, ad, rfl, hsrc⟩ := hpos h0
    obtain ⟨junk, h1, h2⟩ := hg
    have hl : (rawCells done).length = done.length * 4 := rawCells_len done
    have hlc : (rawCells cs).length = cs.length * 4 := rawCells_len cs
    have hrun := run_copyR w o.type g (done.length * 4) dLen dCap ad sLen sCap _ _ (rawCells cs) h1 (by rw [hlc, hn]) (hsrc ad rfl) (by simp [hl, hlc, h2]; omega) (rawCells_one cs)
    have et : (rawCells done ++ junk).take (done.length * 4) = rawCells done := by rw [← hl]; exact List.take_left
    have ed : (rawCells done ++ junk).drop (done.length * 4 + (rawCells cs).length) = junk.drop (cs.length * 4) := by
      rw [← List.drop_drop, ← hl, List.drop_left, hlc]
    simp only [List.toList_toArray, et, ed] at hrun
    unfold Oper.wp
    simp [execOp, ho, resolve, invoke, builtin, hd, hs, hrun, Result.andThen]
    rw [← hn]
    refine hK _ _ (h _ ⟨junk.drop (cs.length * 4), ?_, by rw [List.length_drop, h2]; omega⟩ ⟨rfl, rfl, rfl, by simp [World.setRow], fun k _ hk => setRow_other w g k _ (fun e => hk (by rw [e]))⟩)
    rw [rawCells_app]
    have := setRow_heap w g _ (rawCells done ++ rawCells cs ++ junk.drop (cs.length * 4)).toArray _ _ h1
    simpa [List.append_assoc] using this

theorem gb_refl (w : World) (r : Option Nat) : w.grownBy w r := ⟨rfl, rfl, rfl, Nat.le_refl _, fun _ _ _ => rfl⟩
theorem gb_trans {w w1 w2 : World} {r : Option Nat} (h1 : w.grownBy w1 r) (h2 : w1.grownBy w2 r) : w.grownBy w2 r :=
  ⟨h2.os.trans h1.os, h2.tape.trans h1.tape, h2.output.trans h1.output, Nat.le_trans h1.size h2.size, fun k hk hr => (h2.block k (Nat.lt_of_lt_of_le hk h1.size) hr).trans (h1.block k hk hr)⟩
theorem gb_drewN {w w1 : World} {r : Option Nat} (n : Nat) (h : w.grownBy w1 r) : w.grownBy (w1.drewN n) r := gb_trans h ⟨rfl, rfl, rfl, Nat.le_refl _, fun _ _ _ => rfl⟩
theorem HoldsR.grown {w w' : World} {a : Option Addr} {rs : List Fd} {g : Nat} (h : HoldsR w a rs) (hg : w.grownBy w' (some g)) (hne : ∀ x, a = some x → x.block ≠ g) : HoldsR w' a rs := by
  intro b hb j u hu
  refine hg.cell (h b hb j u hu) ?_
  intro e
  have hblk : (b.add j).block = b.block := by unfold Addr.add; split <;> rfl
  rw [hblk] at e
  exact hne b hb (by simpa using e)
theorem four : ∀ l : List Value, 4 ≤ l.length → ∃ a b c d r, l = a :: b :: c :: d :: r
  | a :: b :: c :: d :: r, _ => ⟨a, b, c, d, r, rfl⟩
  | [], h => by simp at h
  | [_], h => by simp at h
  | [_, _], h => by simp at h
  | [_, _, _], h => by simp at h
/-- A field stored behind what is there. -/
theorem OutAt.put {w : World} {g : Nat} {done : List Fd} {m : Nat} (h : OutAt w g done (m + 1)) (t k n : Int) (b : ByteArray) (o : Nat) (ho : o = done.length * 4) :
    OutAt ((((w.setCell ⟨g, o, none⟩ (.int .i64 t)).setCell ⟨g, o + 1, none⟩ (.int .i64 k)).setCell ⟨g, o + 2, none⟩ (.int .i64 n)).setCell ⟨g, o + 3, none⟩ (.string b)) g (done ++ [⟨t, k, n, b⟩]) m ∧
    w.grownBy ((((w.setCell ⟨g, o, none⟩ (.int .i64 t)).setCell ⟨g, o + 1, none⟩ (.int .i64 k)).setCell ⟨g, o + 2, none⟩ (.int .i64 n)).setCell ⟨g, o + 3, none⟩ (.string b)) (some g) := by
  obtain ⟨junk, h1, h2⟩ := h
  have hl : (rawCells done).length = done.length * 4 := rawCells_len done
  have step : ∀ (W : World) (i : Nat) (v : Value), W.grownBy (W.setCell ⟨g, i, none⟩ v) (some g) := fun W i v =>
    ⟨rfl, rfl, rfl, by simp, fun k _ hk => heap_setCell_other W ⟨g, i, none⟩ k v (fun e => hk (by rw [e]))⟩
  refine ⟨?_, gb_trans (gb_trans (gb_trans (step _ _ _) (step _ _ _)) (step _ _ _)) (step _ _ _)⟩
  obtain ⟨j0, j1, j2, j3, rest, rfl⟩ := four junk (by omega)
  refine ⟨rest, ?_, by simp at h2; omega⟩
  have e1 := heap_setCell_same w g o _ _ (.int .i64 t) h1
  have e2 := heap_setCell_same _ g (o + 1) _ _ (.int .i64 k) e1
  have e3 := heap_setCell_same _ g (o + 2) _ _ (.int .i64 n) e2
  have e4 := heap_setCell_same _ g (o + 3) _ _ (.string b) e3
  rw [e4]
  refine congrArg (fun x => some (Obj.cells x 46 (0, 0))) ?_
  apply Array.ext'
  rw [ho, ← hl, rawCells_app, rawCells_cons, rawCells_nil]
  generalize rawCells done = D
  simp only [Array.toList_setIfInBounds, List.toList_toArray, Fd.cells, List.append_nil]
  have sb : ∀ (l : List Value) (j : Nat) (v : Value), (D ++ l).set (D.length + j) v = D ++ l.set j v := fun l j v => by rw [List.set_append, if_neg (by omega), Nat.add_sub_cancel_left]
  have s0 : ∀ (l : List Value) (v : Value), (D ++ l).set D.length v = D ++ l.set 0 v := fun l v => sb l 0 v
  rw [s0, sb, sb, sb]
  simp
set_option maxHeartbeats 1000000 in
theorem upto_any (a : Option Addr) (rs : List Fd) (t : Int) (N cap : Nat) (w : World) (hN : rs.length = N) (hadr : rs = [] ∨ ∃ g off, a = some ⟨g, off, none⟩) (hc : N ≤ cap) (hm : cap ≤ maxLen) (hh : HoldsR w a rs) :
    Calls Try.prog 67 #[.slice a N cap, .int .i64 t] w fun e w' => e = .returned (.int .i64 (upN rs t : Int)) ∧ w' = w := by
  have HN : Hid (rs.length = N) := hN
  have HA : Hid (rs = [] ∨ ∃ g off, a = some ⟨g, off, none⟩) := hadr
  have HH : Hid (HoldsR w a rs) := hh
  obtain ⟨R, hR⟩ : ∃ R, upN rs t = R := ⟨_, rfl⟩
  rw [hR]
  have HR : Hid (upN rs t = R) := hR
  unfold maxLen at hm
  clear hN hadr hh hR
  go_enter Try.func67, Try.ntmps67
  go_wp2_with fail
  go_loop [5] (fun iv => ∃ i : Nat, iv = .int .i64 (i : Int) ∧ i ≤ N ∧ Hid (∀ j x, j < i → rs[j]? = some x → x.tag ≤ t)) (fun iv => N - (intOf iv).toNat)
  case atStart => exact ⟨0, rfl, by omega, (fun j x hj => absurd hj (by omega) : ∀ j x, j < 0 → rs[j]? = some x → x.tag ≤ t)⟩
  case round =>
    obtain ⟨i, rfl, hi, HT⟩ := hrel
    by_cases hlt : i < N
    · have hr : rs[i]? = some (rs[i]'(by rw [HN.out]; exact hlt)) := List.getElem?_eq_getElem _
      generalize rs[i]'(by rw [HN.out]; exact hlt) = r at hr
      rcases HA.out with h0 | ⟨g, off, rfl⟩
      · exact absurd hlt (by have := HN.out; rw [h0] at this; simp at this; omega)
      obtain ⟨p0, -, -, -⟩ := HH.out.at hr
      have HK : Hid (rs[i]? = some r) := hr
      obtain ⟨q, hq⟩ : ∃ q, r.tag = q := ⟨_, rfl⟩
      rw [hq] at p0
      have HQ : Hid (r.tag = q) := hq
      clear hr hq
      by_cases hle : q ≤ t
      · have HT2 : Hid (∀ j x, j < i + 1 → rs[j]? = some x → x.tag ≤ t) := fun j x hj hx => by
          by_cases hji : j = i
          · subst hji
            rw [HK.out] at hx
            obtain rfl : r = x := by simpa using hx
            rw [HQ.out]; exact hle
          · exact HT.out j x (by omega) hx
        clear HT HK HQ
        go_wp2_with fail
        go_round
        case rel => exact ⟨i + 1, by go_num, by omega, HT2⟩
        case measure => simp [intOf]; omega
      · obtain rfl : R = i := by rw [← HR.out]; exact upN_step HT.out (.inr ⟨r, HK.out, by rw [HQ.out]; exact hle⟩)
        clear HT HK HQ HR
        go_wp2_with fail
        go_ret
        exact ⟨rfl, rfl⟩
    · obtain rfl : i = N := by omega
      obtain rfl : R = i := by rw [← HR.out]; exact upN_step HT.out (.inl HN.out.symm)
      clear HT HR
      go_wp2_with fail
      go_ret
      exact ⟨rfl, rfl⟩

end Go.Proofs.Ytkmdaopmmfdpgaa

/- What merge leaves: two rising lists as one. -/
namespace Go.Proofs.Ytkmdaopmmfdpgaa
open Go.ChangeShapes Go.WideShapes Go.ChangeAt Go.RowKit
set_option linter.unusedVariables false
set_option linter.unusedSimpArgs false
set_option maxRecDepth 20000

/-- Fields that are read, and lie apart from block g. -/
def InS (v : Value) (w : World) (g : Nat) (l : List Fd) : Prop := ∃ b off c, v = .slice (some ⟨b, off, none⟩) l.length c ∧ l.length ≤ c ∧ c ≤ 1000000 ∧ HoldsR w (some ⟨b, off, none⟩) l ∧ b ≠ g
theorem adr_ne {g b off : Nat} (hb : b ≠ g) : ∀ x, some (⟨b, off, none⟩ : Addr) = some x → x.block ≠ g := by
  intro x hx
  cases hx
  exact hb
theorem HoldsR.drop {w : World} {b off : Nat} {l : List Fd} (h : HoldsR w (some ⟨b, off, none⟩) l) (k : Nat) : HoldsR w (some ⟨b, off + k * 4, none⟩) (l.drop k) := by
  intro x hx j u hu
  obtain rfl : ⟨b, off + k * 4, none⟩ = x := by simpa using hx
  by_cases hk : k ≤ l.length
  · have e : rawCells l = rawCells (l.take k) ++ rawCells (l.drop k) := by rw [← rawCells_app, List.take_append_drop]
    have hl : (rawCells (l.take k)).length = k * 4 := by rw [rawCells_len, List.length_take]; omega
    have := h _ rfl (k * 4 + j) u (by rw [e, List.getElem?_append_right (by omega), hl]; simpa using hu)
    rw [Addr.add_lit] at this ⊢
    rw [← Nat.add_assoc] at this
    exact this
  · rw [List.drop_of_length_le (by omega)] at hu
    simp [rawCells] at hu
/-- The rest of a list behind k. -/
theorem InS.rest {w : World} {g b off c : Nat} {l : List Fd} (k : Nat) (hl : k ≤ l.length) (hc : l.length ≤ c) (hm : c ≤ 1000000) (hh : HoldsR w (some ⟨b, off, none⟩) l) (hb : b ≠ g) (n : Nat) (hn : n = (l.drop k).length) :
    InS (.slice (some ⟨b, off + k * 4, none⟩) n (c - k)) w g (l.drop k) := by
  subst hn
  exact ⟨_, _, _, rfl, by rw [List.length_drop]; omega, by omega, hh.drop k, hb⟩
theorem InS.void {w : World} {g b off : Nat} {l : List Fd} (n c : Nat) (hl : l = []) (hn : n = 0) (hc : c ≤ 1000000) (hb : b ≠ g) : InS (.slice (some ⟨b, off, none⟩) n c) w g l := by
  subst hl hn
  exact ⟨_, _, _, rfl, Nat.zero_le _, hc, HoldsR.nil, hb⟩
theorem HoldsR.drewN {w : World} {a : Option Addr} {l : List Fd} {n : Nat} (h : HoldsR w a l) : HoldsR (w.drewN n) a l := h
theorem OutAt.drewN {w : World} {g m n : Nat} {l : List Fd} (h : OutAt w g l m) : OutAt (w.drewN n) g l m := h
theorem sl_eq {a a' : Option Addr} {l l' c c' : Nat} (h1 : a = a') (h2 : l = l') (h3 : c = c') : Value.slice a l c = .slice a' l' c' := by rw [h1, h2, h3]
theorem upN_nil' {l : List Fd} (t : Int) (h : l = []) : upN l t = 0 := by rw [h]; rfl

set_option maxHeartbeats 8000000 in
theorem merge_any (g : Nat) (low high : Value) (lo hi : List Fd) (w : World) (n : Nat) (hn : n = lo.length + hi.length) (hn2 : n ≤ 1000000) (hout : OutAt w g [] n) (h1 : InS low w g lo) (h2 : InS high w g hi) :
    Calls Try.prog 60 #[.slice (some ⟨g, 0, none⟩) n n, low, high] w fun e w' => e = .returned (.tuple #[]) ∧ OutAt w' g (mergeF lo hi) 0 ∧ w.grownBy w' (some g) := by
  obtain ⟨R, hR⟩ : ∃ R, mergeF lo hi = R := ⟨_, rfl⟩
  rw [hR]
  have S : Hid (∃ (done lows highs : List Fd) (oo c : Nat), Value.slice (some ⟨g, 0, none⟩) n n = .slice (some ⟨g, oo, none⟩) (lows.length + highs.length) c ∧ lows.length + highs.length ≤ c ∧ c ≤ 1000000 ∧ (0 < lows.length + highs.length → oo = done.length * 4) ∧ InS low w g lows ∧ InS high w g highs ∧ OutAt w g done (lows.length + highs.length) ∧ done ++ mergeF lows highs = R ∧ w.grownBy w (some g)) :=
    ⟨[], lo, hi, 0, n, by rw [hn], by omega, hn2, fun _ => rfl, h1, h2, by rw [← hn]; exact hout, by simpa using hR, gb_refl _ _⟩
  clear hR h1 h2 hout hn
  go_enter Try.func60, Try.ntmps60
  go_wp2_with fail
  go_loopw [0, 1, 2] (fun out lv hv wr => Hid (∃ (done lows highs : List Fd) (oo c : Nat), out = .slice (some ⟨g, oo, none⟩) (lows.length + highs.length) c ∧ lows.length + highs.length ≤ c ∧ c ≤ 1000000 ∧ (0 < lows.length + highs.length → oo = done.length * 4) ∧ InS lv wr g lows ∧ InS hv wr g highs ∧ OutAt wr g done (lows.length + highs.length) ∧ done ++ mergeF lows highs = R ∧ w.grownBy wr (some g)))
    (fun _ _ hv _ => match hv with | .slice _ n _ => n | _ => 0)
  case atStart => exact S
  case round =>
    obtain ⟨done, lows, highs, oo, c, rfl, hlc, hc1, hoo, hlow, hhigh, hO, hM, hgb⟩ := hrel.out
    obtain ⟨bl, ol, cl, rfl, l1, l2, l3, l4⟩ := hlow
    obtain ⟨bh, oh, ch, rfl, k1, k2, k3, k4⟩ := hhigh
    have HO : Hid (OutAt wr g done (lows.length + highs.length)) := hO
    have HM : Hid (done ++ mergeF lows highs = R) := hM
    have HL3 : Hid (HoldsR wr (some ⟨bl, ol, none⟩) lows) := l3
    have HL4 : Hid (bl ≠ g) := l4
    have HK3 : Hid (HoldsR wr (some ⟨bh, oh, none⟩) highs) := k3
    have HK4 : Hid (bh ≠ g) := k4
    have HGB : Hid (w.grownBy wr (some g)) := hgb
    have HOO : Hid (0 < lows.length + highs.length → oo = done.length * 4) := hoo
    clear hrel hO hM l3 l4 k3 k4 hgb hoo S
    cases highs with
    | nil =>
      have HR : Hid (done ++ lows = R) := by show _ = _; have := HM.out; simpa [mergeF] using this
      clear HM HK3 HK4
      obtain ⟨NL, hNL⟩ : ∃ N, lows.length = N := ⟨_, rfl⟩
      have HNL : Hid (lows.length = NL) := hNL
      simp only [List.length_nil, Nat.add_zero, hNL] at HO HOO hlc l1 k1 ⊢
      clear hNL
      go_wp2_with (first
        | (refine wpList_copyR rfl _ _ rfl _ _ _ _ _ _ rfl rfl g done NL HO.out lows ?c1 ?c2 ?c3 ?_)
        | fail)
      case c1 => rw [HNL.out]; simp
      case c2 => rw [HNL.out]; exact Nat.le_refl _
      case c3 =>
        intro hne
        have hpos : 0 < NL := by rw [← HNL.out]; exact List.length_pos_iff.2 hne
        exact ⟨by rw [HOO.out hpos], _, rfl, HL3.out⟩
      intro w2 HO2 hg2
      have HF : Hid (OutAt w2 g R 0) := by
        have := HO2.out
        rw [HNL.out, Nat.sub_self, HR.out] at this
        exact this
      have hgf := gb_trans HGB.out hg2
      clear HO2 hg2 HO
      go_wp2_with fail
      go_end0
      exact ⟨rfl, HF.out, hgf⟩
    | cons h hs =>
      have hgb : bh ≠ g := HK4.out
      obtain ⟨p0, p1, p2, p3⟩ := HK3.out.at (i := 0) (r := h) rfl
      simp only [Nat.zero_mul, Nat.add_zero] at p0 p1 p2 p3
      obtain ⟨nn, hnn⟩ : ∃ m, upN lows h.tag = m := ⟨_, rfl⟩
      have hnl : nn ≤ lows.length := by rw [← hnn]; exact upN_le _ _
      have HU : Hid (Calls Try.prog 67 #[.slice (some ⟨bl, ol, none⟩) lows.length cl, .int .i64 h.tag] wr fun e w' => e = .returned (.int .i64 (nn : Int)) ∧ w' = wr) := by
        rw [← hnn]
        exact upto_any (some ⟨bl, ol, none⟩) lows h.tag lows.length cl wr rfl (.inr ⟨_, _, rfl⟩) l1 (by unfold maxLen; omega) HL3.out
      have HM2 : Hid ((done ++ lows.take nn ++ [h]) ++ mergeF (lows.drop nn) hs = R) := by
        show _ = _
        rw [← HM.out, mergeF, hnn]
        simp
      have HTL : Hid ((lows.take nn).length = nn) := by show _ = _; rw [List.length_take]; omega
      have HDL : Hid ((lows.drop nn).length = lows.length - nn) := by show _ = _; rw [List.length_drop]
      obtain ⟨TK, hTK⟩ : ∃ T, lows.take nn = T := ⟨_, rfl⟩
      obtain ⟨DR, hDR⟩ : ∃ T, lows.drop nn = T := ⟨_, rfl⟩
      have HTK : Hid (lows.take nn = TK) := hTK
      have HDR : Hid (lows.drop nn = DR) := hDR
      rw [hTK] at HM2 HTL
      rw [hDR] at HM2 HDL
      clear hTK hDR
      obtain ⟨t, k, n', b⟩ := h
      simp only at p0 p1 p2 p3 HU
      obtain ⟨NL, hNL⟩ : ∃ N, lows.length = N := ⟨_, rfl⟩
      obtain ⟨NH, hNH⟩ : ∃ N, hs.length = N := ⟨_, rfl⟩
      have HNL : Hid (lows.length = NL) := hNL
      have HNH : Hid (hs.length = NH) := hNH
      simp only [List.length_cons, hNL, hNH] at HO HOO hlc l1 k1 hnl HU HDL ⊢
      have HOE : Hid (oo = done.length * 4) := HOO.out (by omega)
      clear hnn HM HOO hNL hNH
      have fin : Hid (∀ (al' : Value) (wz : World), InS al' wz g (DR) → ∀ hv' : Value, InS hv' wz g hs → OutAt wz g (done ++ TK ++ [⟨t, k, n', b⟩]) (NL + NH - nn) → w.grownBy wz (some g) → ∀ ov' : Value, (∃ oo' c', ov' = .slice (some ⟨g, oo', none⟩) (NL + NH - nn) c' ∧ NL + NH - nn ≤ c' ∧ c' ≤ 1000000 ∧ (0 < NL + NH - nn → oo' = (done.length + nn + 1) * 4)) →
          Hid (∃ (done lows highs : List Fd) (oo c : Nat), ov' = .slice (some ⟨g, oo, none⟩) (lows.length + highs.length) c ∧ lows.length + highs.length ≤ c ∧ c ≤ 1000000 ∧ (0 < lows.length + highs.length → oo = done.length * 4) ∧ InS al' wz g lows ∧ InS hv' wz g highs ∧ OutAt wz g done (lows.length + highs.length) ∧ done ++ mergeF lows highs = R ∧ w.grownBy wz (some g))) := by
        intro al' wz i1 hv' i2 i3 i4 ov' ⟨oo', c', e1, e2, e3, e4⟩
        have el : (DR).length + hs.length = NL + NH - nn := by rw [HDL.out, HNH.out]; omega
        refine ⟨done ++ TK ++ [⟨t, k, n', b⟩], DR, hs, oo', c', by rw [el]; exact e1, by rw [el]; exact e2, e3, ?_, i1, i2, by rw [el]; exact i3, HM2.out, i4⟩
        rw [el]
        intro h0
        rw [e4 h0]
        simp [HTL.out]
        omega
      have sp1 : cl = 0 ∨ (¬ nn = 0 ∧ nn = cl) ∨ (¬ cl = 0 ∧ ¬ nn = cl) := by omega
      have sp2 : ch = 1 ∨ ¬ 1 = ch := by omega
      have sp3 : c = nn + 1 ∨ ¬ nn + 1 = c := by omega
      rcases sp1 with rfl | ⟨q1, rfl⟩ | ⟨q1, q1'⟩ <;> rcases sp2 with rfl | q2 <;> rcases sp3 with rfl | q3
      all_goals
        go_wp2_with fail
        refine HU.out.mono ?_
        rintro e wu ⟨rfl, rfl⟩
        go_wp2_with (first
          | (refine wpList_copyR rfl _ _ rfl _ _ _ _ _ _ rfl rfl g done _ HO.out (TK) ?c1 ?c2 ?c3 ?_)
          | fail)
        case c1 => rw [HTL.out]; exact (Nat.min_eq_left (by omega)).symm
        case c2 => rw [HTL.out]; omega
        case c3 =>
          intro hne
          refine ⟨by rw [HOE.out], _, rfl, ?_⟩
          have : HoldsR wu (some ⟨bl, ol, none⟩) (lows.take nn ++ lows.drop nn) := by rw [List.take_append_drop]; exact HL3.out
          rw [← HTK.out]
          exact this.take
        intro w2 HO2 hg2
        rw [HTL.out] at HO2 ⊢
        have hgb2 := gb_trans HGB.out hg2
        have P := fun o u (hc : wu.cell? ⟨bh, o, none⟩ = some u) => hg2.cell hc (by intro e; exact hgb (by simpa using e))
        replace p0 := P _ _ p0
        replace p1 := P _ _ p1
        replace p2 := P _ _ p2
        replace p3 := P _ _ p3
        have HO2' : Hid (OutAt w2 g (done ++ TK) (NL + NH - nn + 1)) := by
          have := HO2.out
          rw [show NL + (NH + 1) - nn = NL + NH - nn + 1 by omega] at this
          exact this
        have heo : oo + nn * 4 = (done ++ TK).length * 4 := by rw [List.length_append, HTL.out, HOE.out]; omega
        have rm := fun j (hj : j < 4) => HO2'.out.room j (by omega)
        rw [← heo] at rm
        obtain ⟨⟨u0, s0⟩, f0⟩ := rm 0 (by omega)
        obtain ⟨⟨u1, s1⟩, f1⟩ := rm 1 (by omega)
        obtain ⟨⟨u2, s2⟩, f2⟩ := rm 2 (by omega)
        obtain ⟨⟨u3, s3⟩, f3⟩ := rm 3 (by omega)
        obtain ⟨hput, hg3⟩ := HO2'.out.put t k n' b (oo + nn * 4) heo
        have HP : Hid (OutAt _ g _ _) := hput
        have HG3 := gb_trans hgb2 hg3
        have HLO := HL3.out.grown (gb_trans hg2 hg3) (adr_ne HL4.out)
        have HHI := HK3.out.grown (gb_trans hg2 hg3) (adr_ne HK4.out)
        have HH : Hid (OutAt _ g _ _ ∧ World.grownBy w _ (some g) ∧ HoldsR _ _ lows ∧ HoldsR _ _ _) := ⟨hput, HG3, HLO, HHI⟩
        clear hput hg3 HG3 HLO HHI HP P rm heo HO2 HO2' hg2 hgb2 HU
        simp only [Nat.add_zero] at s0 f0
        go_wp2_with fail
        generalize ((((w2.setCell ⟨g, oo + nn * 4, none⟩ (.int .i64 t)).setCell ⟨g, oo + nn * 4 + 1, none⟩ (.int .i64 k)).setCell ⟨g, oo + nn * 4 + 2, none⟩ (.int .i64 n')).setCell ⟨g, oo + nn * 4 + 3, none⟩ (.string b)) = w3 at *
        clear s0 s1 s2 s3 f0 f1 f2 f3 p0 p1 p2 p3
        go_quiet (fail)
        go_wp2_with fail
        go_roundw
        case rel =>
          refine fin.out _ _ ?_ _ ?_ HH.out.1.drewN (gb_drewN _ HH.out.2.1) _ ⟨_, _, sl_eq rfl (by omega) rfl, by omega, by omega, by intro _; have := HOE.out; omega⟩
          · first
              | exact by rw [← HDR.out]; exact InS.rest nn (by rw [HNL.out]; omega) (by rw [HNL.out]; omega) (by omega) HH.out.2.2.1.drewN HL4.out _ (by rw [HDR.out, HDL.out])
              | exact InS.void _ _ (List.eq_nil_of_length_eq_zero (by rw [HDL.out]; omega)) (by omega) (by omega) HL4.out
          · first
              | exact InS.rest 1 (by simp) (by simp [HNH.out]; omega) (by omega) HH.out.2.2.2.drewN HK4.out _ (by simp [HNH.out])
              | exact InS.void _ _ (List.eq_nil_of_length_eq_zero (by rw [HNH.out]; omega)) (by omega) (by omega) HK4.out
        case measure => simp
end Go.Proofs.Ytkmdaopmmfdpgaa

/- A region that draws its order, where two calls are ready at once. -/
namespace Go.Proofs.Ytkmdaopmmfdpgaa
set_option linter.unusedVariables false
set_option linter.unusedSimpArgs false

/-- Two calls are ready: either may come first. -/
theorem rg_call2 {P : Program} {md : Region.Mode} {ops : Array Oper} {Q : Exit → Act → World → Prop} {S : World → Prop} {o1 o2 : Oper} {fuel : Nat} {listed l1 l2 : Array Bool} {a : Act} {w : World} (i1 d1 f1 : Nat) (vals1 : Array Value) (i2 d2 f2 : Nat) (vals2 : Array Value) (hi1 : ops[i1]? = some o1) (hd1 : o1.dst = some d1) (hi2 : ops[i2]? = some o2) (hd2 : o2.dst = some d2)
    (hr : Region.ready md ops listed = [i1, i2]) (hwt1 : Region.wanted o1 (yielded ops a.tmps) = true) (hwt2 : Region.wanted o2 (yielded ops a.tmps) = true) (hl1 : listed.setIfInBounds i1 true = l1) (hl2 : listed.setIfInBounds i2 true = l2)
    (hx1 : ∀ w, (execOp a.eval o1).run P w = .ok (.enter f1 vals1) w) (hx2 : ∀ w, (execOp a.eval o2).run P w = .ok (.enter f2 vals2) w)
    (h1 : Calls P f1 vals1 w fun e w' => ∃ v, e = .returned v ∧ S w' ∧ wpAnyH P md ops Q S fuel l1 { a with tmps := a.tmps.setIfInBounds d1 v } w')
    (h2 : Calls P f2 vals2 w fun e w' => ∃ v, e = .returned v ∧ S w' ∧ wpAnyH P md ops Q S fuel l2 { a with tmps := a.tmps.setIfInBounds d2 v } w') : wpAnyH P md ops Q S (fuel + 1) listed a w := by
  subst hl1 hl2
  refine wpAnyH_ready (rs := [i1, i2]) hr (by simp) (AllReadyH.cons hi1 (fun K hK => ?_) (AllReadyH.cons hi2 (fun K hK => ?_) AllReadyH.nil))
  · rw [if_pos hwt1]
    unfold Oper.wp
    rw [hx1]
    refine Calls.mono h1 ?_
    rintro e w' ⟨v, rfl, hS, h'⟩
    refine hK.out _ _ hS (fun _ => ?_)
    rw [hd1]
    exact h'
  · rw [if_pos hwt2]
    unfold Oper.wp
    rw [hx2]
    refine Calls.mono h2 ?_
    rintro e w' ⟨v, rfl, hS, h'⟩
    refine hK.out _ _ hS (fun _ => ?_)
    rw [hd2]
    exact h'
end Go.Proofs.Ytkmdaopmmfdpgaa

/- What Sorted answers: the fields by their tags, in new memory. -/
namespace Go.Proofs.Ytkmdaopmmfdpgaa
open Go.ChangeShapes Go.WideShapes Go.ChangeAt Go.RowKit
set_option linter.unusedVariables false
set_option linter.unusedSimpArgs false
set_option maxRecDepth 20000

theorem OutAt.holds {w : World} {g m : Nat} {l : List Fd} (h : OutAt w g l m) : HoldsR w (some ⟨g, 0, none⟩) l := by
  obtain ⟨junk, h1, h2⟩ := h
  intro b hb j u hu
  obtain rfl : ⟨g, 0, none⟩ = b := by simpa using hb
  rw [Addr.add_lit, Nat.zero_add]
  simp only [World.cell?, h1]
  have hj := (List.getElem?_eq_some_iff.1 hu).1
  simp [List.getElem?_append_left hj, hu]
theorem below_drew (w : World) : Below w.heap.size w w.drew := (Below.refl _ _).drew
theorem HoldsR.cut' {w : World} {a : Option Addr} {rs : List Fd} (h : HoldsR w a rs) (k : Nat) : HoldsR w a (rs.take k) := by
  have : HoldsR w a (rs.take k ++ rs.drop k) := by rw [List.take_append_drop]; exact h
  exact this.take

set_option maxHeartbeats 8000000 in
theorem sorted_step (rs : List Fd) (a : Option Addr) (N cap : Nat) (w : World) (hN : rs.length = N) (hl : N ≤ 1000000) (hadr : rs = [] ∨ ∃ g off, a = some ⟨g, off, none⟩) (hc : N ≤ cap) (hm : cap ≤ maxLen) (hh : HoldsR w a rs)
    (IH0 : ∀ (rs' : List Fd) (a : Option Addr) (M cap : Nat) (w : World), rs'.length < N → rs'.length = M → (rs' = [] ∨ ∃ g off, a = some ⟨g, off, none⟩) → M ≤ cap → cap ≤ maxLen → HoldsR w a rs' →
      Calls Try.prog 44 #[.slice a M cap] w fun e w' => ∃ g, e = .returned (.slice (some ⟨g, 0, none⟩) M M) ∧ w.heap.size ≤ g ∧ g < w'.heap.size ∧ HoldsR w' (some ⟨g, 0, none⟩) (sortF rs') ∧ Below w.heap.size w w') :
    Calls Try.prog 44 #[.slice a N cap] w fun e w' => ∃ g, e = .returned (.slice (some ⟨g, 0, none⟩) N N) ∧ w.heap.size ≤ g ∧ g < w'.heap.size ∧ HoldsR w' (some ⟨g, 0, none⟩) (sortF rs) ∧ Below w.heap.size w w' := by
  obtain ⟨i0, hi, hz0, hz1, hz2⟩ := info_parts infoRaw
  have hmk := fun W => run_make (P := Try.prog) W 23 46 i0 _ Try.underlying23 hi hz0 .i64 .i64 (N : Int) (N : Int) (by omega) (Int.le_refl _) (by rw [hz2]; omega) (by omega)
  simp only [Int.toNat_natCast, hz1] at hmk
  obtain ⟨Z, hZ⟩ : ∃ Z, madeCells (Value.agg #[.int .i64 0, .int .i64 0, .int .i64 0, .string ⟨#[]⟩]).cells (N * 4) = Z := ⟨_, rfl⟩
  have hZs : Z.size = N * 4 := by rw [← hZ, size_madeCells]
  rw [hZ] at hmk
  have HOUT : Hid (OutAt (w.alloc (.cells Z 46)) w.heap.size [] N) := ⟨Z.toList, by rw [rawCells_nil, List.nil_append]; exact heap_alloc_new w _, by simpa using hZs⟩
  have HRS : Hid (Calls Try.prog 20 #[.slice a N cap] (w.alloc (.cells Z 46)) fun e w' => e = .returned (.bool (risesB rs)) ∧ Below (w.alloc (.cells Z 46)).heap.size (w.alloc (.cells Z 46)) w') := rising_any a rs N cap _ hN hadr hc hm (hh.below (below_one w _))
  have HN : Hid (rs.length = N) := hN
  have HH : Hid (HoldsR w a rs) := hh
  have HADR : Hid (rs = [] ∨ ∃ g off, a = some ⟨g, off, none⟩) := hadr
  have HM : Hid (cap ≤ maxLen) := hm
  have IH : Hid (∀ (rs' : List Fd) (a : Option Addr) (M cap : Nat) (w : World), rs'.length < N → rs'.length = M → (rs' = [] ∨ ∃ g off, a = some ⟨g, off, none⟩) → M ≤ cap → cap ≤ maxLen → HoldsR w a rs' →
      Calls Try.prog 44 #[.slice a M cap] w fun e w' => ∃ g, e = .returned (.slice (some ⟨g, 0, none⟩) M M) ∧ w.heap.size ≤ g ∧ g < w'.heap.size ∧ HoldsR w' (some ⟨g, 0, none⟩) (sortF rs') ∧ Below w.heap.size w w') := IH0
  obtain ⟨R, hR⟩ : ∃ R, risesB rs = R := ⟨_, rfl⟩
  rw [hR] at HRS
  have HR : Hid (risesB rs = R) := hR
  unfold maxLen at hm
  clear hN hadr hh IH0 hZ hZs hR hi hz0 hz1 hz2
  go_enter Try.func44, Try.ntmps44
  go_wp2_with fail
  refine HRS.out.mono ?_
  rintro e w2 ⟨rfl, hb2⟩
  have HO2 : Hid (OutAt w2 w.heap.size [] N) := HOUT.out.below hb2
  have hG2 : w.heap.size < w2.heap.size := HO2.out.lt
  have hbw2 : Below w.heap.size w w2 := (below_one w _).trans (hb2.mono (by simp))
  clear HRS HOUT hb2 hmk
  cases R with
  | true =>
    go_wp2_with (first
      | (refine wpList_copyR rfl _ _ rfl _ _ _ _ _ _ rfl rfl w.heap.size [] N HO2.out rs ?c1 ?c2 ?c3 ?_)
      | fail)
    case c1 => rw [HN.out]; simp
    case c2 => rw [HN.out]; exact Nat.le_refl _
    case c3 =>
      intro hne
      rcases HADR.out with h | ⟨g, off, h⟩
      · exact absurd h hne
      · exact ⟨rfl, _, h, by rw [← h]; exact HH.out.below hbw2⟩
    intro w3 HO3 hg3
    have hb3 : Below w.heap.size w w3 := hbw2.grown hg3 hbw2.size (fun k hk => by cases hk; exact Nat.le_refl _)
    have HF : Hid (HoldsR w3 (some ⟨w.heap.size, 0, none⟩) (sortF rs)) := by
      rw [sortF_id HR.out]
      have := HO3.out
      try rw [List.nil_append] at this
      exact this.holds
    have hlt3 := HO3.out.lt
    clear HO3 hg3 HO2
    go_wp2_with fail
    go_ret
    exact ⟨_, rfl, Nat.le_refl _, hlt3, HF.out, hb3⟩
  | false =>
    have hN2 : 2 ≤ N := by rw [← HN.out]; exact rises_short HR.out
    rcases HADR.out with h | ⟨b, off, rfl⟩
    · exact absurd hN2 (by rw [← HN.out, h]; simp)
    obtain ⟨half, hhalf⟩ : ∃ h, N / 2 = h := ⟨_, rfl⟩
    have hq : (N : Int) / 2 = (half : Int) := by omega
    have hq' : (N : Int).tdiv 2 = (half : Int) := by rw [Int.tdiv_eq_ediv_of_nonneg (by omega)]; exact hq
    have hh1 : half < N := by omega
    have hh2 : 0 < half := by omega
    obtain ⟨LO, hLO⟩ : ∃ l, rs.take half = l := ⟨_, rfl⟩
    obtain ⟨HI, hHI⟩ : ∃ l, rs.drop half = l := ⟨_, rfl⟩
    have HLL : Hid (LO.length = half) := by show _ = _; rw [← hLO, List.length_take, HN.out]; omega
    have HHL : Hid (HI.length = N - half) := by show _ = _; rw [← hHI, List.length_drop, HN.out]
    have HSR : Hid (sortF rs = mergeF (sortF LO) (sortF HI)) := by show _ = _; rw [sortF_on HR.out, HN.out, hhalf, hLO, hHI]
    have CL : Hid (∀ W, Below w.heap.size w W → Calls Try.prog 44 #[.slice (some ⟨b, off, none⟩) half cap] W fun e w' => ∃ g, e = .returned (.slice (some ⟨g, 0, none⟩) half half) ∧ W.heap.size ≤ g ∧ g < w'.heap.size ∧ HoldsR w' (some ⟨g, 0, none⟩) (sortF LO) ∧ Below W.heap.size W w') := fun W hW => IH.out LO _ half cap W (by rw [HLL.out]; exact hh1) HLL.out (.inr ⟨_, _, rfl⟩) (by omega) HM.out (by rw [← hLO]; exact (HH.out.below hW).cut' half)
    have CH : Hid (∀ W, Below w.heap.size w W → Calls Try.prog 44 #[.slice (some ⟨b, off + half * 4, none⟩) (N - half) (cap - half)] W fun e w' => ∃ g, e = .returned (.slice (some ⟨g, 0, none⟩) (N - half) (N - half)) ∧ W.heap.size ≤ g ∧ g < w'.heap.size ∧ HoldsR w' (some ⟨g, 0, none⟩) (sortF HI) ∧ Below W.heap.size W w') := fun W hW => IH.out HI _ (N - half) (cap - half) W (by rw [HHL.out]; omega) HHL.out (.inr ⟨_, _, rfl⟩) (by omega) (by unfold maxLen; omega) (by rw [← hHI]; exact (HH.out.below hW).drop half)
    have e1 : ¬ half = cap := by omega
    have e1' : ¬ cap = half := by omega
    have e2 : (half : Int) ≤ (cap : Int) := by omega
    have e3 : (half : Int) ≤ (N : Int) := by omega
    have e4 : half ≤ N := by omega
    have e5 : half ≤ cap := by omega
    clear hhalf hLO hHI HH IH HADR HR
    go_wp2_with fail
    have hS : Below w.heap.size w w2.drew := hbw2.drew
    refine wp_region_held_drew (S := fun w' => Below w.heap.size w w') (by kernel_rfl) hS (fun hS => ?_)
    refine rg_take 0 17 (.slice (some ⟨w.heap.size, 0, none⟩) N N) _ rfl rfl (by kernel_rfl) (by kernel_rfl) (by kernel_rfl) (fun _ _ _ h => h) (by rfl) (fun w' hw' => ?_) hS (listed' := #[true, false, false, false, false, false, false, false, false, false]) (by kernel_rfl) rfl ?_
    · go_simp
    simp only [List.setIfInBounds_toArray, List.set_cons_zero, List.set_cons_succ]
    refine rg_take 1 18 (.slice (some ⟨b, off, none⟩) N cap) _ rfl rfl (by kernel_rfl) (by kernel_rfl) (by kernel_rfl) (fun _ _ _ h => h) (by rfl) (fun w' hw' => ?_) hS (listed' := #[true, true, false, false, false, false, false, false, false, false]) (by kernel_rfl) rfl ?_
    · go_simp
    simp only [List.setIfInBounds_toArray, List.set_cons_zero, List.set_cons_succ]
    refine rg_take 2 19 (.int .i64 (half : Int)) _ rfl rfl (by kernel_rfl) (by kernel_rfl) (by kernel_rfl) (fun _ _ _ h => h) (by rfl) (fun w' hw' => ?_) hS (listed' := #[true, true, true, false, false, false, false, false, false, false]) (by kernel_rfl) rfl ?_
    · go_simp
    simp only [List.setIfInBounds_toArray, List.set_cons_zero, List.set_cons_succ]
    refine rg_take 3 20 (.slice (some ⟨b, off, none⟩) half cap) _ rfl rfl (by kernel_rfl) (by kernel_rfl) (by kernel_rfl) (fun _ _ _ h => h) (by rfl) (fun w' hw' => ?_) hS (listed' := #[true, true, true, true, false, false, false, false, false, false]) (by kernel_rfl) rfl ?_
    · go_simp
    simp only [List.setIfInBounds_toArray, List.set_cons_zero, List.set_cons_succ]
    refine rg_take 5 22 (.slice (some ⟨b, off, none⟩) N cap) _ rfl rfl (by kernel_rfl) (by kernel_rfl) (by kernel_rfl) (fun _ _ _ h => h) (by rfl) (fun w' hw' => ?_) hS (listed' := #[true, true, true, true, false, true, false, false, false, false]) (by kernel_rfl) rfl ?_
    · go_simp
    simp only [List.setIfInBounds_toArray, List.set_cons_zero, List.set_cons_succ]
    refine rg_take 6 23 (.int .i64 (half : Int)) _ rfl rfl (by kernel_rfl) (by kernel_rfl) (by kernel_rfl) (fun _ _ _ h => h) (by rfl) (fun w' hw' => ?_) hS (listed' := #[true, true, true, true, false, true, true, false, false, false]) (by kernel_rfl) rfl ?_
    · go_simp
    simp only [List.setIfInBounds_toArray, List.set_cons_zero, List.set_cons_succ]
    refine rg_take 7 24 (.slice (some ⟨b, off + half * 4, none⟩) (N - half) (cap - half)) _ rfl rfl (by kernel_rfl) (by kernel_rfl) (by kernel_rfl) (fun _ _ _ h => h) (by rfl) (fun w' hw' => ?_) hS (listed' := #[true, true, true, true, false, true, true, true, false, false]) (by kernel_rfl) rfl ?_
    · go_simp
    simp only [List.setIfInBounds_toArray, List.set_cons_zero, List.set_cons_succ]
    refine rg_call 4 21 44 #[.slice (some ⟨b, off, none⟩) half cap] rfl rfl (by kernel_rfl) (by rfl) (listed' := #[true, true, true, true, true, true, true, true, false, false]) (by kernel_rfl) (fun w' => by go_simp) ?_
    refine (CL.out _ hS).mono ?_
    rintro e w3 ⟨g1, rfl, n1, m1, hh1, hb1⟩
    have hO3 := HO2.out.below ((below_drew w2).trans (hb1.mono (by simp)))
    have hS3 : Below w.heap.size w w3 := hS.trans (hb1.mono hS.size)
    refine ⟨_, rfl, hS3, ?_⟩
    have hS := hS3
    simp only [List.setIfInBounds_toArray, List.set_cons_zero, List.set_cons_succ]
    refine rg_call 8 25 44 #[.slice (some ⟨b, off + half * 4, none⟩) (N - half) (cap - half)] rfl rfl (by kernel_rfl) (by rfl) (listed' := #[true, true, true, true, true, true, true, true, true, false]) (by kernel_rfl) (fun w' => by go_simp) ?_
    refine (CH.out _ hS).mono ?_
    rintro e w4 ⟨g2, rfl, n2, m2, hh2, hb2⟩
    have hO4 := hO3.below hb2
    have hh1' := hh1.below hb2
    have hS4 : Below w.heap.size w w4 := hS3.trans (hb2.mono hS3.size)
    refine ⟨_, rfl, hS4, ?_⟩
    have hG1 : g1 ≠ w.heap.size := by have := hG2; have : w2.heap.size ≤ g1 := n1; omega
    have hG2' : g2 ≠ w.heap.size := by have := hG2; have := hb1.size; have : w2.heap.size ≤ w3.heap.size := this; omega
    have hM := merge_any w.heap.size (.slice (some ⟨g1, 0, none⟩) half half) (.slice (some ⟨g2, 0, none⟩) (N - half) (N - half)) (sortF LO) (sortF HI) w4 N (by rw [(sortF_all _ LO (Nat.le_refl _)).2.1, (sortF_all _ HI (Nat.le_refl _)).2.1, HLL.out, HHL.out]; omega) hl hO4
      ⟨g1, 0, half, by rw [(sortF_all _ LO (Nat.le_refl _)).2.1, HLL.out], by rw [(sortF_all _ LO (Nat.le_refl _)).2.1, HLL.out]; exact Nat.le_refl _, by omega, hh1', hG1⟩
      ⟨g2, 0, N - half, by rw [(sortF_all _ HI (Nat.le_refl _)).2.1, HHL.out], by rw [(sortF_all _ HI (Nat.le_refl _)).2.1, HHL.out]; exact Nat.le_refl _, by omega, hh2, hG2'⟩
    simp only [List.setIfInBounds_toArray, List.set_cons_zero, List.set_cons_succ]
    refine rg_call 9 26 60 #[.slice (some ⟨w.heap.size, 0, none⟩) N N, .slice (some ⟨g1, 0, none⟩) half half, .slice (some ⟨g2, 0, none⟩) (N - half) (N - half)] rfl rfl (by kernel_rfl) (by rfl) (listed' := #[true, true, true, true, true, true, true, true, true, true]) (by kernel_rfl) (fun w' => by go_simp) ?_
    refine hM.mono ?_
    rintro e w5 ⟨rfl, hO5, hg5⟩
    have hS5 : Below w.heap.size w w5 := hS4.grown hg5 hS4.size (fun k hk => by cases hk; exact Nat.le_refl _)
    refine ⟨_, rfl, hS5, ?_⟩
    simp only [List.setIfInBounds_toArray, List.set_cons_zero, List.set_cons_succ]
    refine wpAnyH_done (by kernel_rfl) ?_ _
    have HF : Hid (HoldsR w5 (some ⟨w.heap.size, 0, none⟩) (sortF rs)) := by
      rw [HSR.out]
      exact hO5.holds
    have hlt5 := hO5.lt
    clear hM hO5 hg5 hO4 hO3 hh1 hh1' hh2
    go_wp2_with fail
    go_ret
    exact ⟨_, rfl, Nat.le_refl _, hlt5, HF.out, hS5⟩

theorem sorted_any : ∀ (K : Nat) (rs : List Fd) (a : Option Addr) (N cap : Nat) (w : World), rs.length ≤ K → rs.length = N → N ≤ 1000000 → (rs = [] ∨ ∃ g off, a = some ⟨g, off, none⟩) → N ≤ cap → cap ≤ maxLen → HoldsR w a rs →
    Calls Try.prog 44 #[.slice a N cap] w fun e w' => ∃ g, e = .returned (.slice (some ⟨g, 0, none⟩) N N) ∧ w.heap.size ≤ g ∧ g < w'.heap.size ∧ HoldsR w' (some ⟨g, 0, none⟩) (sortF rs) ∧ Below w.heap.size w w'
  | 0, rs, a, N, cap, w, hK, hN, hl, hadr, hc, hm, hh => sorted_step rs a N cap w hN hl hadr hc hm hh (fun rs' _ _ _ _ h => absurd h (by omega))
  | K + 1, rs, a, N, cap, w, hK, hN, hl, hadr, hc, hm, hh => sorted_step rs a N cap w hN hl hadr hc hm hh (fun rs' a' M cap' w' h1 h2 h3 h4 h5 h6 => sorted_any K rs' a' M cap' w' (by omega) h2 (by omega) h3 h4 h5 h6)
end Go.Proofs.Ytkmdaopmmfdpgaa

/- An element appended to a row of one's own. -/
namespace Go.Proofs.Ytkmdaopmmfdpgaa
open Go.ChangeShapes Go.WideShapes Go.ChangeAt Go.RowKit
set_option linter.unusedVariables false
set_option linter.unusedSimpArgs false
set_option maxRecDepth 20000

theorem Apt.of_count {B : Nat} {w : World} {bs cs : List Nat} (h : Apt B w bs) (hc : ∀ k, cs.count k ≤ bs.count k) : Apt B w cs := by
  refine ⟨List.nodup_iff_count.2 fun a => Nat.le_trans (hc a) (List.nodup_iff_count.1 h.1 a), fun k hk => h.2 k ?_⟩
  have := List.count_pos_iff.2 hk
  exact List.count_pos_iff.1 (Nat.lt_of_lt_of_le this (hc k))
theorem Apt.new {B : Nat} {w w' : World} {bs : List Nat} (h : Apt B w bs) (hB : B ≤ w.heap.size) (hs : w.heap.size < w'.heap.size) : Apt B w' (bs ++ [w.heap.size]) := by
  refine Apt.append h (B' := w.heap.size) (cs := [w.heap.size]) ⟨by simp, by simp; exact hs⟩ hB (Nat.le_refl _) (Nat.le_of_lt hs)
theorem blkOf_count {v v' : Value} {G : Nat} (hat : v'.ownBlock = v.ownBlock ∨ v'.ownBlock = some G) (k : Nat) : (blkOf v').count k ≤ (blkOf v).count k + [G].count k := by
  rcases hat with e | e
  · simp [blkOf, e]
  · simp [blkOf, e]
theorem own_lt {w : World} {B : Nat} {e : TypeId} {s : Nat} {v : Value} {n : Nat} {xs : List Value} (h : w.ownsRow B e s v n xs) {k : Nat} (hk : v.ownBlock = some k) : B ≤ k ∧ k < w.heap.size := by
  rcases h.2 with ⟨rfl, _⟩ | ⟨g, cap, cur, rfl, h2, h3, _⟩
  · simp [Value.ownBlock] at hk
  · obtain rfl : g = k := by simpa [Value.ownBlock] using hk
    exact ⟨h2, (Array.getElem?_eq_some_iff.1 h3).1⟩
/-- All blocks but one are as they were. -/
theorem grown_sm {w w' : World} {v : Value} {bs : List Nat} (hg : w.grownBy w' v.ownBlock) (hb : ∀ k ∈ bs, k < w.heap.size) (hv : ∀ k ∈ bs, k ∉ blkOf v) : Sm w w' bs := fun k hk => hg.block k (hb k hk) (fun e => hv k hk (mem_blkOf.2 e.symm))
theorem RowO.push {α : Type} {P : World → List Value → α → List Nat → Prop} {B e size : Nat} {w w' : World} {v v' : Value} {xs : List α} {rows : List (List Value)} {bss : List (List Nat)} (h : RowO P B e size w v xs rows bss) {r : List Value} {x : α} {b : List Nat}
    (ap : Apt B w (allB v bss ++ b)) (hown : w'.ownsRow B e size v' (xs.length + 1) (rows.flatten ++ r)) (hg : w.grownBy w' v.ownBlock) (hP : P w r x b) (hr : r.length = size) (loc : ∀ r x b, P w r x b → Sm w w' b → P w' r x b) :
    RowO P B e size w' v' (xs ++ [x]) (rows ++ [r]) (bss ++ [b]) := by
  have hcl : ∀ c, c ∈ bss ∨ c = b → Sm w w' c := fun c hc => by
    have hsub : ∀ k ∈ c, k ∈ bss.flatten ++ b := fun k hk => by
      rcases hc with hc | rfl
      · exact List.mem_append.2 (.inl (List.mem_flatten.2 ⟨c, hc, hk⟩))
      · exact List.mem_append.2 (.inr hk)
    have hn := ap.1
    rw [allB, List.append_assoc] at hn
    refine grown_sm hg (fun k hk => (ap.2 k (by rw [allB, List.append_assoc]; exact List.mem_append.2 (.inr (hsub k hk)))).2) fun k hk hv => ?_
    exact (List.nodup_append.1 hn).2.2 k hv k (hsub k hk) rfl
  refine ⟨by simpa using hown, by simp [h.len], by simp [h.blen], ?_, fun i y hy => ?_⟩
  · intro r' hr'
    rcases List.mem_append.1 hr' with h' | h'
    · exact h.wide r' h'
    · obtain rfl : r' = r := by simpa using h'
      exact hr
  · by_cases hi : i < xs.length
    · rw [List.getElem?_append_left hi] at hy
      obtain ⟨r1, b1, e1, e2, e3⟩ := h.each i y hy
      exact ⟨r1, b1, by rw [List.getElem?_append_left (by rw [h.len]; exact hi)]; exact e1, by rw [List.getElem?_append_left (by rw [h.blen]; exact hi)]; exact e2, loc _ _ _ e3 (hcl _ (.inl (List.mem_of_getElem? e2)))⟩
    · rw [List.getElem?_append_right (by omega)] at hy
      obtain ⟨hi0, rfl⟩ : i - xs.length = 0 ∧ x = y := by
        cases hq : i - xs.length with
        | zero => rw [hq] at hy; simpa using hy
        | succ q => rw [hq] at hy; simp at hy
      refine ⟨r, b, ?_, ?_, loc _ _ _ hP (hcl _ (.inr rfl))⟩
      · rw [List.getElem?_append_right (by rw [h.len]; omega), h.len, hi0]; rfl
      · rw [List.getElem?_append_right (by rw [h.blen]; omega), h.blen, hi0]; rfl
/-- The blocks behind it. -/
theorem Apt.push {B : Nat} {w w' : World} {v v' : Value} {bss : List (List Nat)} {b more : List Nat} (ap : Apt B w (more ++ (allB v bss ++ b))) (hat : v'.ownBlock = v.ownBlock ∨ v'.ownBlock = some w.heap.size) {e : TypeId} {s n : Nat} {xs : List Value} (hown : w'.ownsRow B e s v' n xs) (hs : w.heap.size ≤ w'.heap.size) (hB : B ≤ w.heap.size) :
    Apt B w' (more ++ allB v' (bss ++ [b])) := by
  rcases hat with hat | hat
  · refine (ap.mono hs).of_count fun k => ?_
    simp [allB, blkOf, hat, List.count_append]
  · refine (ap.new hB (own_lt hown hat).2).of_count fun k => ?_
    simp only [allB, blkOf, hat, List.count_append, List.flatten_append, List.flatten_cons, List.flatten_nil, List.append_nil]
    omega
theorem RowO.nil {α : Type} (P : World → List Value → α → List Nat → Prop) (B e size : Nat) (w : World) : RowO P B e size w (.slice none 0 0) ([] : List α) [] [] :=
  ⟨World.ownsRow_nil w B e size, rfl, rfl, by simp, by simp⟩
theorem RowO.base {α : Type} {P Q : World → List Value → α → List Nat → Prop} {B B' e size : Nat} {w : World} {v : Value} {xs : List α} {rows : List (List Value)} {bss : List (List Nat)} (h : RowO P B e size w v xs rows bss) (hB : B' ≤ B) (hp : ∀ r x b, P w r x b → Q w r x b) : RowO Q B' e size w v xs rows bss :=
  ⟨own_base h.own hB, h.len, h.blen, h.wide, fun i x hx => by obtain ⟨r, b, h1, h2, h3⟩ := h.each i x hx; exact ⟨r, b, h1, h2, hp _ _ _ h3⟩⟩
theorem TrO.base : ∀ {n B B' : Nat} {w : World} {r : List Value} {t : Tr} {bs : List Nat}, TrO n B w r t bs → B' ≤ B → TrO n B' w r t bs
  | 0, _, _, _, _, _, _, h, _ => h
  | n + 1, B, B', w, r, t, bs, h, hb => by
    obtain ⟨ve, vr, rows, bss, h1, h2, h3, h4, h5, h6, h7, rfl⟩ := h
    refine ⟨ve, vr, rows, bss, h1, h2, h3, h4, h5, own_base h6 hb, h7.base hb fun r x b hp => ?_, rfl⟩
    obtain ⟨vt, rows', bss', g1, g2, g3, rfl⟩ := hp
    exact ⟨vt, rows', bss', g1, g2, g3.base hb fun r x b hp => hp.base hb, rfl⟩
/-- An operation whose run is known. -/
theorem wpList_ran {ops : Array Oper} {rest : List Oper} {o : Oper} {a : Act} {w w' : World} {v : Value} {Q : Exit → Act → World → Prop} (hgd : o.guard = none) (hr : (execOp a.eval o).run Try.prog w = .ok (.value v) w') (h : wpList Try.prog ops Q rest (a.put o.dst v) w') : wpList Try.prog ops Q (o :: rest) a w :=
  wpList_plain hgd fun _ hK => by
    unfold Oper.wp
    rw [hr, Oper.upon_value]
    exact hK _ _ h
theorem Apt.apart {B : Nat} {w : World} {a b : List Nat} (h : Apt B w (a ++ b)) : ∀ k ∈ a, k ∉ b := fun k ha hb => (List.nodup_append.1 h.1).2.2 k ha k hb rfl
theorem Sm.below {w w' : World} {bs : List Nat} (h : Below w.heap.size w w') (hb : ∀ k ∈ bs, k < w.heap.size) : Sm w w' bs := fun k hk => h.block k (hb k hk)
end Go.Proofs.Ytkmdaopmmfdpgaa
