/- WireGets answers true at all bytes. -/
import Derived.Test.YtfbekeebllcdbaaWrRefGet
import Derived.Test.YtfbekeebllcdbaaRwSame
import Derived.Test.YtfbekeebllcdbaaWrOwn
import Derived.Test.YtfbekeebllcdbaaWrPut
import Derived.Test.YtfbekeebllcdbaaLwBytes
import Derived.Test.YtfbekeebllcdbaaCrIn
namespace Go.Proofs.Ytfbekeebllcdbaa
open Go.ChangeShapes Go.WideShapes Go.ChangeAt Go.RowKit
set_option linter.unusedVariables false
set_option linter.unusedSimpArgs false
set_option maxRecDepth 20000

set_option maxHeartbeats 1000000 in
theorem wireGets_walk (a : Option Addr) (len cap : Nat) (zs : List Int) (w : World) (hz : IsRow .u8 w a len cap zs) (hb : cap * Try.prog.bytesOf 5 ≤ 140737488351232) :
    Calls Try.prog 4 #[.slice a len cap] w fun e w' => e = .returned (.bool true) ∧ Below w.heap.size w w' := by
  obtain ⟨ns, hc⟩ := row_in hz hb
  have HC : Hid (CameIn w a len cap ns) := hc
  have h1 := hc.le
  have h2 := hc.max
  clear hz hb hc
  obtain ⟨R, hR⟩ : ∃ R, getL ns = R := ⟨_, rfl⟩
  have hRl : R.1.length ≤ 4096 := by rw [← hR]; exact getL_len HC.out.lt
  have HG1 : Hid (∀ (a' : Option Addr) (c' : Nat) (W : World), Holds W a' ns → len ≤ c' → c' ≤ maxLen → (ns = [] ∨ ∃ g off, a' = some ⟨g, off, none⟩) → Calls Try.prog 18 #[.slice a' len c'] W fun e w' => ∃ v, e = .returned (.tuple #[v, .int .i64 (R.2 : Int)]) ∧ w'.ownsRow W.heap.size 24 4 v R.1.length (rawCells R.1) ∧ Below W.heap.size W w') := fun a' c' W hh g1 g2 g3 => by rw [← hR]; exact wget_any a' ns len c' W HC.out.len hh HC.out.lt g1 g2 g3
  have HG2 : Hid (∀ W : World, Holds W a ns → Calls Try.prog 20 #[.slice a len cap] W fun e w' => ∃ v, e = .returned (.tuple #[v, .int .i64 (R.2 : Int)]) ∧ w'.ownsRow W.heap.size 24 4 v R.1.length (rawCells R.1) ∧ Below W.heap.size W w') := fun W hh => by rw [← hR]; exact rrget_any a ns len cap W HC.out.len hh HC.out.lt h1 (by unfold maxLen; omega) HC.out.adr
  clear hR
  obtain ⟨rs, e⟩ := R
  simp only at HG1 HG2 hRl
  go_enter Try.func4, Try.ntmps4
  go_wp2_with fail
  refine (bytes_any a ns cap len w HC.out.len (by omega) HC.out.nil HC.out.holds).mono ?_
  rintro e1 w1 ⟨r1, rfl, ho1, hb1⟩
  obtain ⟨a1, cap1, rfl, hn1, h11, h12, h13, h14⟩ := own_open ho1
  rw [← hn1] at h12 ⊢
  have K1 : Hid (Calls Try.prog 18 #[.slice a1 len cap1] w1 fun e' w' => ∃ v, e' = .returned (.tuple #[v, .int .i64 (e : Int)]) ∧ w'.ownsRow w1.heap.size 24 4 v rs.length (rawCells rs) ∧ Below w1.heap.size w1 w') := HG1.out a1 cap1 w1 h14 h12 h13 (own_adr h11)
  clear ho1 h11 h12 h13 h14 HG1 hn1
  go_wp2_with fail
  refine K1.out.mono ?_
  rintro e2 w2 ⟨v2, rfl, ho2, hb2⟩
  have hbb2 : Below w.heap.size w w2 := hb1.trans (hb2.mono hb1.size)
  have HO2 : Hid (w2.ownsRow w1.heap.size 24 4 v2 rs.length (rawCells rs)) := ho2
  clear K1 hb1 hb2 ho2
  go_wp2_with fail
  refine (HG2.out w2 (HC.out.holds.below hbb2)).mono ?_
  rintro e3 w3 ⟨v3, rfl, ho3, hb3⟩
  have hbb3 : Below w.heap.size w w3 := hbb2.trans (hb3.mono hbb2.size)
  have ho2' := own_below HO2.out hb3
  obtain ⟨a2, cap2, rfl, hn2, h21, h22, h23, h24⟩ := own_openR ho2'
  obtain ⟨a3, cap3, rfl, hn3, h31, h32, h33, h34⟩ := own_openR ho3
  have hs := same_any a2 a3 rs rs.length cap2 cap3 w3 rfl (own_adrR h21) (own_adrR h31) h22 h32 h23 h33 (by omega) h24 h34
  have HS : Hid (Calls Try.prog 21 #[.slice a2 rs.length cap2, .slice a3 rs.length cap3] w3 fun e w' => e = .returned (.bool true) ∧ Below w3.heap.size w3 w') := hs
  clear HO2 ho2' ho3 h21 h22 h23 h24 h31 h32 h33 h34 HG2 hb3 hbb2 hn2 hn3 hs
  generalize rs.length = N at *
  go_wp2_with fail
  refine HS.out.mono ?_
  rintro e4 w4 ⟨rfl, hb4⟩
  have hbb4 : Below w.heap.size w w4 := hbb3.trans (hb4.mono hbb3.size)
  clear HS hb4 hbb3
  go_wp2_with fail
  refine (wawake_any _).mono ?_
  rintro e5 w5 ⟨rfl, hb5⟩
  have hbb5 : Below w.heap.size w w5 := hbb4.trans (hb5.mono hbb4.size)
  clear hb5 hbb4
  go_wp2_with fail
  go_ret
  exact ⟨rfl, hbb5⟩
end Go.Proofs.Ytfbekeebllcdbaa
