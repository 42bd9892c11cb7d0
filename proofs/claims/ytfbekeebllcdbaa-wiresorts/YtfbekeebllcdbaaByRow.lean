/- Rows of bytes: what stands in a slice; made, owned, joined, come in; its text. -/
import Derived.Test.YtfbekeebllcdbaaRows
import Derived.WalkKit
import Derived.ProofKit
import Derived.OpenShut
import Derived.Below
import Derived.OwnWalk
import Derived.Laws.MathBits
import Derived.ArgAppend
import Derived.Laws.AppendOwn
import Derived.Laws.AppendOwnNone
import Derived.Laws.BytesArg
namespace Go.Proofs.Ytfbekeebllcdbaa
open Go.ChangeShapes Go.WideShapes Go.ChangeAt Go.RowKit
set_option linter.unusedVariables false
set_option maxRecDepth 20000

theorem infoByte : (Try.prog.info? 5).map (fun i => (i.zero, i.size, i.bytes)) = some (some (.int .u8 0), 1, 1) := by kernel_rfl
def byteCells (ns : List Nat) : List Value := ns.map fun (c : Nat) => Value.int .u8 (c : Int)

/-- Bytes that stand in a slice. -/
def Holds (w : World) (a : Option Addr) (ns : List Nat) : Prop := ∀ b, a = some b → ∀ j u, (byteCells ns)[j]? = some u → w.cell? (b.add j) = some u

theorem info_parts {e : Nat} {z : Value} {s b : Nat} (h : (Try.prog.info? e).map (fun i => (i.zero, i.size, i.bytes)) = some (some z, s, b)) :
    ∃ i, Try.prog.info? e = some i ∧ i.zero = some z ∧ i.size = s ∧ i.bytes = b := by
  cases hi : Try.prog.info? e with
  | none => rw [hi] at h; simp at h
  | some i => rw [hi] at h; simp at h; exact ⟨i, rfl, h.1, h.2.1, h.2.2⟩

theorem Holds.below {w w1 : World} {a : Option Addr} {ns : List Nat} (h : Holds w a ns) (hb : Below w.heap.size w w1) : Holds w1 a ns := by
  intro b hab j u hu
  have := h b hab j u hu
  rw [hb.cell (World.block_lt_of_cell? _ _ this)]
  exact this

theorem own_mono {w : World} {base base' : Nat} {e : TypeId} {v : Value} {n : Nat} {xs : List Value} (h : w.ownsRow base e 1 v n xs) (hb : base' ≤ base) : w.ownsRow base' e 1 v n xs := by
  refine ⟨h.1, ?_⟩
  rcases h.2 with h | ⟨g, cap, cur, h1, h2, h3⟩
  · exact .inl h
  · exact .inr ⟨g, cap, cur, h1, Nat.le_trans hb h2, h3⟩
theorem byteCells_get (ns : List Nat) (j : Nat) (h : j < ns.length) : (byteCells ns)[j]? = some (.int .u8 ((ns.getD j 0 : Nat) : Int)) := by
  simp [byteCells, List.getD_eq_getElem?_getD, List.getElem?_eq_getElem h]
theorem byteCells_len (ns : List Nat) : (byteCells ns).length = ns.length := by simp [byteCells]
theorem Holds.at {w : World} {g off : Nat} {ns : List Nat} (h : Holds w (some ⟨g, off, none⟩) ns) (j : Nat) (hj : j < ns.length) : w.cell? ⟨g, off + j, none⟩ = some (.int .u8 ((ns.getD j 0 : Nat) : Int)) := by
  have := h _ rfl j _ (byteCells_get ns j hj)
  rwa [Addr.add_lit] at this
theorem Holds.of {w : World} {g off : Nat} {ns : List Nat} (h : ∀ j, j < ns.length → w.cell? ⟨g, off + j, none⟩ = some (.int .u8 ((ns.getD j 0 : Nat) : Int))) : Holds w (some ⟨g, off, none⟩) ns := by
  intro b hb j u hu
  obtain rfl : ⟨g, off, none⟩ = b := by simpa using hb
  have hj : j < ns.length := by
    rcases Nat.lt_or_ge j ns.length with h | h
    · exact h
    · rw [List.getElem?_eq_none (by rw [byteCells_len]; exact h)] at hu; cases hu
  rw [byteCells_get ns j hj] at hu
  rw [Addr.add_lit, h j hj]
  exact hu
theorem Holds.nil {w : World} {a : Option Addr} : Holds w a [] := by
  intro b _ j u hu
  simp [byteCells] at hu
theorem Holds.take {w : World} {a : Option Addr} {ns ms : List Nat} (h : Holds w a (ns ++ ms)) : Holds w a ns := by
  intro b hb j u hu
  refine h b hb j u ?_
  have e : byteCells (ns ++ ms) = byteCells ns ++ byteCells ms := by simp [byteCells]
  rw [e, List.getElem?_append_left]
  · exact hu
  · exact (List.getElem?_eq_some_iff.1 hu).1

/-- A row of the call's own, opened. -/
theorem own_open {w : World} {B : Nat} {r : Value} {n : Nat} {ns : List Nat} (h : w.ownsRow B 5 1 r n (byteCells ns)) :
    ∃ a cap, r = .slice a ns.length cap ∧ n = ns.length ∧ ((a = none ∧ ns = [] ∧ cap = 0) ∨ ∃ g, a = some ⟨g, 0, none⟩ ∧ B ≤ g ∧ g < w.heap.size) ∧ ns.length ≤ cap ∧ cap ≤ maxLen ∧ Holds w a ns := by
  have hn : n = ns.length := by have := h.1; rw [byteCells_len] at this; omega
  have h0 := h
  subst hn
  rcases h.2 with ⟨rfl, h2⟩ | ⟨g, cap, cur, rfl, hb, hg, hc, hm, _⟩
  · have : ns = [] := List.eq_nil_of_length_eq_zero h2
    subst this
    exact ⟨none, 0, rfl, rfl, .inl ⟨rfl, rfl, rfl⟩, Nat.le_refl _, by decide, Holds.nil⟩
  · refine ⟨_, cap, rfl, rfl, .inr ⟨g, rfl, hb, (Array.getElem?_eq_some_iff.1 hg).1⟩, hc, hm, ?_⟩
    intro b hb' j u hu
    obtain rfl : ⟨g, 0, none⟩ = b := by simpa using hb'
    exact h0.cells (g := g) rfl j u hu

def strN (ns : List Nat) : ByteArray := ⟨(ns.map UInt8.ofNat).toArray⟩
theorem strN_append (ns ms : List Nat) : strN (ns ++ ms) = strN ns ++ strN ms := by
  unfold strN
  apply ByteArray.ext
  simp
theorem strN_size (ns : List Nat) : (strN ns).size = ns.length := by simp [strN, ByteArray.size]

theorem conv_holds (w : World) (a : Option Addr) (ns : List Nat) (cap : Nat) (ha : a = none → ns = []) (hh : Holds w a ns) :
    (convert 22 9 (.slice a ns.length cap)).run Try.prog w = .ok (.string (strN ns)) w := by
  cases a with
  | none =>
    obtain rfl := ha rfl
    exact run_convert_bytes_nil (P := Try.prog) w 22 5 Try.underlying22 Try.underlying5 _ _ 9 Try.underlying9
  | some b =>
    have e : byteCells ns = (ns.map fun (c : Nat) => (c : Int)).map (Value.int .u8) := by simp [byteCells]
    have hl : (loadCells b ns.length).run Try.prog w = .ok ((ns.map fun (c : Nat) => (c : Int)).map (Value.int .u8)).toArray w := by
      have := run_loadCells_list (P := Try.prog) w b (byteCells ns) (fun j v hj => hh b rfl j v hj)
      rw [byteCells_len] at this
      rw [← e]; exact this
    rw [run_convert_bytes_string w 22 9 5 _ _ cap Try.underlying22 Try.underlying5 Try.underlying9, run_bytesToString w _ _ cap _ hl, foldl_push_bytes]
    simp [strN, ByteArray.empty, ByteArray.emptyWithCapacity]
    rfl
theorem holds_made (w : World) (ns : List Nat) : Holds (w.alloc (.cells (byteCells ns).toArray 5)) (some ⟨w.heap.size, 0, none⟩) ns := by
  refine Holds.of fun j hj => ?_
  rw [World.cell?_alloc_at _ _ _ _ rfl, Nat.zero_add]
  have := byteCells_get ns j hj
  simpa using this
theorem below_one (w : World) (o : Obj) : Below w.heap.size w (w.alloc o) := (Below.refl _ _).alloc (Nat.le_refl _) _

theorem byteCells_one (ns : List Nat) : ∀ u ∈ byteCells ns, u.oneCell' = true := by
  intro u hu
  simp only [byteCells, List.mem_map] at hu
  obtain ⟨n, _, rfl⟩ := hu
  rfl
theorem byteCells_app (ns ms : List Nat) : byteCells (ns ++ ms) = byteCells ns ++ byteCells ms := by simp [byteCells]

theorem wpList_join {w : World} {ops : Array Oper} {rest : List Oper} {o : Oper} {a : Act} {Q : Exit → Act → World → Prop} (hgd : o.guard = none) (s x : Operand)
    (ho : o.op = .call { callee := .builtin .append, args := #[s, x], argTypes := #[22, 22] }) (base : Nat) (v : Value) (n : Nat) (ns : List Nat) (hs : a.eval s = v) (hown : w.ownsRow base 5 1 v n (byteCells ns))
    (ao : Option Addr) (ms : List Nat) (m c : Nat) (hx : a.eval x = .slice ao m c) (hm : m = ms.length) (hao : ao = none → ms = [] ∧ c = 0) (hh : Holds w ao ms) (hb : ns.length + ms.length ≤ 140737488355328) (hbase : base ≤ w.heap.size)
    (h : ∀ v' w', w'.ownsRow base 5 1 v' (ns ++ ms).length (byteCells (ns ++ ms)) → w.grownBy w' v.ownBlock → wpList Try.prog ops Q rest (a.put o.dst v') w') : wpList Try.prog ops Q (o :: rest) a w := by
  obtain ⟨i0, hi, hz0, hz1, hz2⟩ := info_parts infoByte
  have hn : n = ns.length := by have := hown.1; rw [byteCells_len] at this; omega
  subst hm hn
  cases ao with
  | none =>
    obtain ⟨rfl, rfl⟩ := hao rfl
    refine wpList_append_own_none hgd s x 22 ho base 5 i0 1 Try.underlying22 hi v _ _ hs hown hx ?_
    refine h v w ?_ ⟨rfl, rfl, rfl, Nat.le_refl _, fun _ _ _ => rfl⟩
    rw [List.append_nil]
    exact hown
  | some ad =>
    refine wpList_append_own w hgd s x 22 ho base 5 i0 (.int .u8 0) 1 1 Try.underlying22 hi hz0 hz1 hz2 rfl (by decide) v _ _ hs hown ad ms.length c (byteCells ms) hx (by rw [byteCells_len]; omega) (hh ad rfl) (byteCells_one ms) (by unfold maxLen; omega) (by omega) hbase ?_
    intro v' w' h1 h2 _
    refine h v' w' ?_ h2
    rw [byteCells_app, List.length_append]
    exact h1
/-- What the walk is told of a slice of integers that came in. -/
def IsRow (k : IntKind) (w : World) (a : Option Addr) (len cap : Nat) (zs : List Int) : Prop :=
  (a = none ∧ len = 0 ∧ cap = 0 ∧ zs = []) ∨
  ∃ x, a = some x ∧ len ≤ cap ∧ cap ≤ maxLen ∧ zs.length = cap ∧ (∀ i, i < zs.length → w.cell? (x.add i) = some (.int k (zs.getD i 0))) ∧ ∀ n ∈ zs, (Lit.int k n).wf = true

/-- A slice of bytes that came in holds bytes. -/
theorem row_holds {w : World} {a : Option Addr} {len cap : Nat} {zs : List Int} (h : IsRow .u8 w a len cap zs) (hb : cap * Try.prog.bytesOf 5 ≤ 140737488351232) :
    ∃ ns : List Nat, ns.length = len ∧ Holds w a ns ∧ (∀ n ∈ ns, n < 256) ∧ len ≤ cap ∧ cap ≤ 140737488351232 ∧ (a = none → ns = [] ∧ cap = 0) := by
  rw [show Try.prog.bytesOf 5 = 1 from by kernel_rfl, Nat.mul_one] at hb
  rcases h with ⟨rfl, rfl, rfl, rfl⟩ | ⟨x, rfl, hl, hm, hz, hc, hw⟩
  · exact ⟨[], rfl, Holds.nil, by simp, Nat.le_refl _, by decide, fun _ => ⟨rfl, rfl⟩⟩
  · refine ⟨(zs.take len).map Int.toNat, by simp; omega, ?_, ?_, hl, hb, fun h => by cases h⟩
    · intro b hb j u hu
      obtain rfl : x = b := by simpa using hb
      have hj : j < len := by
        have := (List.getElem?_eq_some_iff.1 hu).1
        simp [byteCells] at this; omega
      have hjz : j < zs.length := by omega
      have hwf := hw (zs[j]) (List.getElem_mem hjz)
      obtain ⟨w1, w2⟩ := bounds_u8 hwf
      rw [hc j hjz]
      simp [byteCells, hj, hjz] at hu
      rw [← hu]
      simp [List.getD_eq_getElem?_getD, List.getElem?_eq_getElem hjz]
      omega
    · intro n hn
      simp only [List.mem_map] at hn
      obtain ⟨z, hz', rfl⟩ := hn
      obtain ⟨w1, w2⟩ := bounds_u8 (hw z (List.mem_of_mem_take hz'))
      omega

end Go.Proofs.Ytfbekeebllcdbaa
