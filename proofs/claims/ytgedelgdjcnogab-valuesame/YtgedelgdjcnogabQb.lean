/- A region that draws its order and whose callees only make memory: one walk in the order of the text serves every order. (The library's theorem on quiet regions, at the class of worlds that keep what lay below a block.) -/
import Derived.WalkKit
import Derived.Below
import Derived.Deep.QuietTactic
import Derived.BigQuiet
import Derived.Deep.RegionWith
namespace Go.Proofs.Ytgedelgdjcnogab
open Go.RowKit

/-- A world that keeps what lay below block B of w0. -/
structure Kept (B : Nat) (w0 : World) where
  w : World
  below : Below B w0 w

theorem wp_region_qb {P : Program} {id : Nat} {Q : Exit → Act → World → Prop} {a : Act} {w : World} {l : List Oper} {B : Nat} {w0 : World} (h0 : Below B w0 w) (hm : P.follows .mixedOrders = true) (hB : Region.lexB .any l.toArray = true)
    (h : wpQuiet P l.toArray (fun w' => ∃ x : Kept B w0, w' = x.w) (fun a' => ∀ w', (∃ x : Kept B w0, w' = x.w) → Q .normal a' w') l a) : (Code.region id l.toArray true).wp P Q a w :=
  wp_region_quiet (C := fun w' => ∃ x : Kept B w0, w' = x.w) hm hB ⟨⟨_, h0.drew⟩, rfl⟩ (by simpa using h)

theorem nonempty_qb {B : Nat} {w0 w : World} (h0 : Below B w0 w) : Nonempty (Kept B w0) := ⟨⟨w, h0⟩⟩

theorem qb_call {P : Program} {f : FuncId} {args : Array Value} {B : Nat} {w0 : World} {x : Kept B w0} {v : Value}
    (h : ∀ W, Below B w0 W → Calls P f args W fun e W' => e = .returned v ∧ Below B w0 W') : Calls P f args x.w fun e w'' => e = .returned v ∧ ∃ y : Kept B w0, w'' = y.w :=
  (h _ x.below).mono fun _ W' h => ⟨h.1, ⟨⟨W', h.2⟩, rfl⟩⟩
theorem qb_same {P : Program} {f : FuncId} {args : Array Value} {B : Nat} {w0 : World} {x : Kept B w0} {v : Value}
    (h : ∀ W, Calls P f args W fun e W' => e = .returned v ∧ W' = W) : Calls P f args x.w fun e w'' => e = .returned v ∧ ∃ y : Kept B w0, w'' = y.w :=
  (h _).mono fun _ _ h => ⟨h.1, ⟨x, h.2⟩⟩
end Go.Proofs.Ytgedelgdjcnogab
