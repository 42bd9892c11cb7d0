/- Part 13 of what the proof stands on. -/
import Derived.Test.YtdkolhfpfimeoaaPkCAL
namespace Go.Proofs.Ytdkolhfpfimeoaa
set_option maxHeartbeats 8000000
set_option linter.unusedVariables false
set_option linter.unusedSimpArgs false
set_option maxRecDepth 20000
open Go.ChangeShapes Go.WideShapes Go.ChangeAt Go.RowKit
section
variable {H : Type} {enc : TypeId × Value → H} {W : World} {base : Nat} {spare : Nat → Bool} {held : Bool}
end
section
variable {H : Type} {enc : TypeId × Value → H} {W : World} {base : Nat} {spare : Nat → Bool} {held : Bool}
theorem ty_in {r : Reach} {b0 : Nat} {v : Value} {d : DataW H} {p : List MemPlace} (hv : Value.okWide Try.prog W r b0 28 v) (h : DataW.Trod enc Try.prog W base spare held 28 v d p) : ∃ (k : Int) (s : ByteArray),v = .agg #[.int .i64 k,.string s] ∧ Is64 k := by
 obtain ⟨c0,c1,y0,y1,n,rfl, -, -,h0,h1⟩ := _root_.Go.Joins.open_agg2 Try.underlying28 (by kernel_rfl) (by kernel_rfl) hv h;obtain ⟨k,e0, -,w0⟩ := DataW.trod_int Try.underlying3 h0;obtain ⟨b,e1, -,w1⟩ := DataW.trod_string Try.underlying9 h1;simp only [List.cons.injEq,and_true] at e0 e1;subst e0 e1;exact ⟨k,b,rfl,bounds_i64 w0⟩
end
end Go.Proofs.Ytdkolhfpfimeoaa
