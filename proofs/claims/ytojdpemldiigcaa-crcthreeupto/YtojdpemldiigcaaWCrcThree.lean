/- CrcThree answers true at any three strings of bytes for which there is room. -/
import Derived.Test.YtojdpemldiigcaaCrOdd
import Derived.Test.YtojdpemldiigcaaCrIn
import Derived.Test.YtojdpemldiigcaaLwBytes
namespace Go.Proofs.Ytojdpemldiigcaa
open Go.ChangeShapes Go.WideShapes Go.ChangeAt Go.RowKit
set_option linter.unusedVariables false
set_option linter.unusedSimpArgs false
set_option maxRecDepth 20000

/-- Bytes that were joined: what is asked of them. -/
theorem own_sum {w : World} {B : Nat} {r : Value} {n : Nat} {ns : List Nat} (h : w.ownsRow B 5 1 r n (byteCells ns)) (hl : ns.length ≤ 140737488355328) (hb : ∀ n ∈ ns, n < 256) (s : Nat) (hs : s < 4294967296) :
    (Calls Try.prog 9 #[.int .u32 (s : Int), r] w fun e w' => e = .returned (.int .u32 ((more s ns : Nat) : Int)) ∧ w' = w) ∧ (Calls Try.prog 11 #[r] w fun e w' => e = .returned (.int .u32 ((more 0 ns : Nat) : Int)) ∧ w' = w) := by
  obtain ⟨a, cap, rfl, -, h1, -, -, h4⟩ := own_open h
  have hadr : ns = [] ∨ ∃ g off, a = some ⟨g, off, none⟩ := h1.imp (fun h => h.2.1) (fun ⟨g, h, _⟩ => ⟨g, 0, h⟩)
  exact ⟨more_any a ns cap s _ _ w rfl hs rfl hl hadr h4 hb, of_any a ns cap _ w rfl hl hadr h4 hb⟩

set_option maxHeartbeats 2000000 in
theorem three_walk (a b c : Option Addr) (N1 N2 N3 p q r : Nat) (ns ms ls : List Nat) (w : World) (ha : CameIn w a N1 p ns) (hb : CameIn w b N2 q ms) (hc : CameIn w c N3 r ls) (h1 : p ≤ 1048576) (h2 : q ≤ 1048576) (h3 : r ≤ 1048576) :
    Calls Try.prog 7 #[.slice a N1 p, .slice b N2 q, .slice c N3 r] w fun e w' => e = .returned (.bool true) ∧ Below w.heap.size w w' := by
  have HA : Hid (CameIn w a N1 p ns) := ha
  have HB : Hid (CameIn w b N2 q ms) := hb
  have HC : Hid (CameIn w c N3 r ls) := hc
  have l1 := ha.le
  have l2 := hb.le
  have l3 := hc.le
  clear ha hb hc
  have X : Hid (∀ W, Below w.heap.size w W → Calls Try.prog 11 #[.slice a N1 p] W fun e w' => e = .returned (.int .u32 ((more 0 ns : Nat) : Int)) ∧ w' = W) := fun W hW => of_any a ns p N1 W HA.out.len (by omega) HA.out.adr (HA.out.holds.below hW) HA.out.lt
  have t1 : more 0 ns < 4294967296 := more_lt _ (by decide) HA.out.lt
  have t2 : more 0 (ns ++ ms) < 4294967296 := more_lt _ (by decide) (fun n hn => (List.mem_append.1 hn).elim (HA.out.lt n) (HB.out.lt n))
  have Y : Hid (Calls Try.prog 9 #[.int .u32 ((more 0 ns : Nat) : Int), .slice b N2 q] w fun e w' => e = .returned (.int .u32 ((more 0 (ns ++ ms) : Nat) : Int)) ∧ w' = w) := by
    rw [← more_append]
    exact more_any b ms q _ N2 _ w rfl t1 HB.out.len (by omega) HB.out.adr HB.out.holds HB.out.lt
  have Z : Hid (Calls Try.prog 9 #[.int .u32 ((more 0 (ns ++ ms) : Nat) : Int), .slice c N3 r] w fun e w' => e = .returned (.int .u32 ((more 0 (ns ++ ms ++ ls) : Nat) : Int)) ∧ w' = w) := by
    rw [← more_append 0 (ns ++ ms)]
    exact more_any c ls r _ N3 _ w rfl t2 HC.out.len (by omega) HC.out.adr HC.out.holds HC.out.lt
  have Y2 : Hid (∀ (W : World) (R : Value) (n : Nat), W.ownsRow w.heap.size 5 1 R n (byteCells (ms ++ ls)) → Calls Try.prog 9 #[.int .u32 ((more 0 ns : Nat) : Int), R] W fun e w' => e = .returned (.int .u32 ((more 0 (ns ++ ms ++ ls) : Nat) : Int)) ∧ w' = W) := fun W R n ho => by
    rw [List.append_assoc, ← more_append]
    exact (own_sum ho (by rw [List.length_append, HB.out.len, HC.out.len]; omega) (fun n hn => (List.mem_append.1 hn).elim (HB.out.lt n) (HC.out.lt n)) _ t1).1
  have Z2 : Hid (∀ (W : World) (R : Value) (n : Nat), W.ownsRow w.heap.size 5 1 R n (byteCells (ns ++ ms ++ ls)) → Calls Try.prog 11 #[R] W fun e w' => e = .returned (.int .u32 ((more 0 (ns ++ ms ++ ls) : Nat) : Int)) ∧ w' = W) := fun W R n ho =>
    (own_sum ho (by rw [List.length_append, List.length_append, HA.out.len, HB.out.len, HC.out.len]; omega) (fun n hn => (List.mem_append.1 hn).elim (fun hn => (List.mem_append.1 hn).elim (HA.out.lt n) (HB.out.lt n)) (HC.out.lt n)) 0 (by decide)).2
  clear t1 t2
  generalize more 0 (ns ++ ms ++ ls) = M3 at *
  generalize more 0 (ns ++ ms) = M2 at *
  generalize more 0 ns = M1 at *
  go_enter Try.func7, Try.ntmps7
  go_wp2_with fail
  refine (X.out _ (Below.refl _ _)).mono ?_
  rintro e w1 ⟨rfl, rfl⟩
  go_wp2_with fail
  refine Y.out.mono ?_
  rintro e w2 ⟨rfl, rfl⟩
  go_wp2_with fail
  refine Z.out.mono ?_
  rintro e w3 ⟨rfl, rfl⟩
  clear Y Z
  go_wp2_with fail
  refine (X.out _ (Below.refl _ _)).mono ?_
  rintro e w4 ⟨rfl, rfl⟩
  go_wp2_with fail
  refine (bytes_any b ms q N2 _ HB.out.len (by omega) HB.out.nil HB.out.holds).mono ?_
  rintro e w5 ⟨r5, rfl, ho5, hb5⟩
  have HO5 : Hid (w5.ownsRow w4.heap.size 5 1 r5 N2 (byteCells ms)) := ho5
  clear ho5
  have hws5 := hb5.size
  go_wp2_with (first
    | (at_builtin; refine wpList_join rfl _ _ rfl w4.heap.size r5 N2 ms rfl HO5.out c ls _ _ rfl HC.out.len.symm HC.out.nil (HC.out.holds.below hb5) ?c1 ?c2 ?_)
    | fail)
  case c1 => rw [HB.out.len, HC.out.len]; omega
  case c2 => exact hws5
  intro r6 w6 ho6 hg6
  have hb6 : Below w4.heap.size w4 w6 := hb5.grown hg6 hws5 (fun k hk => (HO5.out.lt k hk).1)
  have HO6 : Hid (w6.ownsRow w4.heap.size 5 1 r6 (ms ++ ls).length (byteCells (ms ++ ls))) := by
    show World.ownsRow _ _ _ _ _ _ _
    simpa using ho6
  clear ho6 hg6 HO5
  go_wp2_with fail
  refine (Y2.out _ _ _ HO6.out).mono ?_
  rintro e w7 ⟨rfl, rfl⟩
  clear Y2 HO6
  have hws6 := hb6.size
  go_wp2_with fail
  refine (bytes_any a ns p N1 _ HA.out.len (by omega) HA.out.nil (HA.out.holds.below hb6)).mono ?_
  rintro e w8 ⟨r8, rfl, ho8, hb8'⟩
  have hb8 : Below w4.heap.size w4 w8 := hb6.trans (hb8'.mono hws6)
  have HO8 : Hid (w8.ownsRow w4.heap.size 5 1 r8 N1 (byteCells ns)) := own_mono ho8 hws6
  clear ho8 hb8'
  have hws8 := hb8.size
  go_wp2_with (first
    | (at_builtin; refine wpList_join rfl _ _ rfl w4.heap.size r8 N1 ns rfl HO8.out b ms _ _ rfl HB.out.len.symm HB.out.nil (HB.out.holds.below hb8) ?c1 ?c2 ?_)
    | fail)
  case c1 => rw [HA.out.len, HB.out.len]; omega
  case c2 => exact hws8
  intro r9 w9 ho9 hg9
  have hb9 : Below w4.heap.size w4 w9 := hb8.grown hg9 hws8 (fun k hk => (HO8.out.lt k hk).1)
  have HO9 : Hid (w9.ownsRow w4.heap.size 5 1 r9 (ns ++ ms).length (byteCells (ns ++ ms))) := by
    show World.ownsRow _ _ _ _ _ _ _
    simpa using ho9
  clear ho9 hg9 HO8
  have hws9 := hb9.size
  go_wp2_with (first
    | (at_builtin; refine wpList_join rfl _ _ rfl w4.heap.size r9 _ (ns ++ ms) rfl HO9.out c ls _ _ rfl HC.out.len.symm HC.out.nil (HC.out.holds.below hb9) ?c1 ?c2 ?_)
    | fail)
  case c1 => rw [List.length_append, HA.out.len, HB.out.len, HC.out.len]; omega
  case c2 => exact hws9
  intro r10 w10 ho10 hg10
  have hb10 : Below w4.heap.size w4 w10 := hb9.grown hg10 hws9 (fun k hk => (HO9.out.lt k hk).1)
  have HO10 : Hid (w10.ownsRow w4.heap.size 5 1 r10 (ns ++ ms ++ ls).length (byteCells (ns ++ ms ++ ls))) := by
    show World.ownsRow _ _ _ _ _ _ _
    simpa using ho10
  clear ho10 hg10 HO9
  go_wp2_with fail
  refine (Z2.out _ _ _ HO10.out).mono ?_
  rintro e w11 ⟨rfl, rfl⟩
  clear HO10 Z2
  go_wp2_with fail
  refine (awake_any _).mono ?_
  rintro e w12 ⟨rfl, hb12⟩
  go_wp2_with fail
  go_ret
  exact ⟨rfl, hb10.trans (hb12.mono hb10.size)⟩

theorem crcThree_walk (a : Option Addr) (len cap : Nat) (zs : List Int) (a1 : Option Addr) (len1 cap1 : Nat) (zs1 : List Int) (a2 : Option Addr) (len2 cap2 : Nat) (zs2 : List Int) (w : World) (h : IsRow .u8 w a len cap zs) (hb : cap ≤ 1048576) (h1 : IsRow .u8 w a1 len1 cap1 zs1) (hb1 : cap1 ≤ 1048576) (h2 : IsRow .u8 w a2 len2 cap2 zs2) (hb2 : cap2 ≤ 1048576) :
    Calls Try.prog 7 #[.slice a len cap, .slice a1 len1 cap1, .slice a2 len2 cap2] w fun e w' => e = .returned (.bool true) ∧ Below w.heap.size w w' := by
  have e : Try.prog.bytesOf 5 = 1 := by kernel_rfl
  obtain ⟨ns, hi⟩ := row_in h (by rw [e]; omega)
  obtain ⟨ms, hi1⟩ := row_in h1 (by rw [e]; omega)
  obtain ⟨ls, hi2⟩ := row_in h2 (by rw [e]; omega)
  exact three_walk a a1 a2 len len1 len2 cap cap1 cap2 ns ms ls w hi hi1 hi2 hb hb1 hb2
end Go.Proofs.Ytojdpemldiigcaa
