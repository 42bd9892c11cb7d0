/- Rows of bytes: what Get answers of one, its text, and the document's examples. -/
import Derived.Test.YtppdaohmddbhdaaVnGet
namespace Go.Proofs.Ytppdaohmddbhdaa
open Go.ChangeShapes Go.WideShapes Go.ChangeAt Go.RowKit
set_option linter.unusedVariables false
set_option maxRecDepth 20000

theorem byteCells_get (ns : List Nat) (j : Nat) (h : j < ns.length) : (byteCells ns)[j]? = some (.int .u8 ((ns.getD j 0 : Nat) : Int)) := by
  simp [byteCells, List.getD_eq_getElem?_getD, List.getElem?_eq_getElem h]
theorem byteCells_len (ns : List Nat) : (byteCells ns).length = ns.length := by simp [byteCells]
theorem Holds.at {w : World} {g off : Nat} {ns : List Nat} (h : Holds w (some ⟨g, off, none⟩) ns) (j : Nat) (hj : j < ns.length) : w.cell? ⟨g, off + j, none⟩ = some (.int .u8 ((ns.getD j 0 : Nat) : Int)) := by
  have := h _ rfl j _ (byteCells_get ns j hj)
  rwa [Addr.add_lit] at this
theorem Holds.of {w : World} {g off : Nat} {ns : List Nat} (h : ∀ j, j < ns.length → w.cell? ⟨g, off + j, none⟩ = some (.int .u8 ((ns.getD j 0 : Nat) : Int))) : Holds w (some ⟨g, off, none⟩) ns := by
  intro b hb j u hu
  obtain rfl : ⟨g, off, none⟩ = b := by simpa using hb
  have hj : j < ns.length := by
    rcases Nat.lt_or_ge j ns.length with h | h
    · exact h
    · rw [List.getElem?_eq_none (by rw [byteCells_len]; exact h)] at hu; cases hu
  rw [byteCells_get ns j hj] at hu
  rw [Addr.add_lit, h j hj]
  exact hu
theorem Holds.nil {w : World} {a : Option Addr} : Holds w a [] := by
  intro b _ j u hu
  simp [byteCells] at hu
theorem Holds.take {w : World} {a : Option Addr} {ns ms : List Nat} (h : Holds w a (ns ++ ms)) : Holds w a ns := by
  intro b hb j u hu
  refine h b hb j u ?_
  have e : byteCells (ns ++ ms) = byteCells ns ++ byteCells ms := by simp [byteCells]
  rw [e, List.getElem?_append_left]
  · exact hu
  · exact (List.getElem?_eq_some_iff.1 hu).1

theorem get_any (a : Option Addr) (ns : List Nat) (cap : Nat) (at' : Int) (w : World) (ha : (a = none ∧ ns = [] ∧ cap = 0) ∨ ∃ g off, a = some ⟨g, off, none⟩) (hc : ns.length ≤ cap) (hm : cap ≤ maxLen) (hl : ns.length ≤ 140737488355328) (hh : Holds w a ns) (hb : ∀ n ∈ ns, n < 256) :
    Calls Try.prog 16 #[.slice a ns.length cap, .int .i64 at'] w fun e w' => e = .returned (getV (getR ns at')) ∧ w' = w := by
  by_cases ho : at' < 0 ∨ (ns.length : Int) < at'
  · rw [getR_out ho]; exact get_out a ns.length cap at' w ho
  · obtain ⟨p, rfl⟩ := Int.eq_ofNat_of_zero_le (a := at') (by omega)
    rw [getR_in (by omega)]
    by_cases hp : p < cap
    · rcases ha with ⟨rfl, rfl, rfl⟩ | ⟨g, off, rfl⟩
      · omega
      · exact get_in g off ns cap p w hc hm (by omega) hp hl (fun j hj => hh.at j hj) hb
    · obtain rfl : p = cap := by omega
      obtain rfl : p = ns.length := by omega
      rw [List.drop_of_length_le (Nat.le_refl _)]
      refine get_full a _ w ?_ hm
      intro h
      rcases ha with ⟨_, h, _⟩ | ⟨g, off, rfl⟩
      · simp [h]
      · cases h

/-- A row of the call's own, opened. -/
theorem own_open {w : World} {B : Nat} {r : Value} {n : Nat} {ns : List Nat} (h : w.ownsRow B 5 1 r n (byteCells ns)) :
    ∃ a cap, r = .slice a ns.length cap ∧ n = ns.length ∧ ((a = none ∧ ns = [] ∧ cap = 0) ∨ ∃ g, a = some ⟨g, 0, none⟩ ∧ B ≤ g ∧ g < w.heap.size) ∧ ns.length ≤ cap ∧ cap ≤ maxLen ∧ Holds w a ns := by
  have hn : n = ns.length := by have := h.1; rw [byteCells_len] at this; omega
  have h0 := h
  subst hn
  rcases h.2 with ⟨rfl, h2⟩ | ⟨g, cap, cur, rfl, hb, hg, hc, hm, _⟩
  · have : ns = [] := List.eq_nil_of_length_eq_zero h2
    subst this
    exact ⟨none, 0, rfl, rfl, .inl ⟨rfl, rfl, rfl⟩, Nat.le_refl _, by decide, Holds.nil⟩
  · refine ⟨_, cap, rfl, rfl, .inr ⟨g, rfl, hb, (Array.getElem?_eq_some_iff.1 hg).1⟩, hc, hm, ?_⟩
    intro b hb' j u hu
    obtain rfl : ⟨g, 0, none⟩ = b := by simpa using hb'
    exact h0.cells (g := g) rfl j u hu

def strN (ns : List Nat) : ByteArray := ⟨(ns.map UInt8.ofNat).toArray⟩
theorem strN_append (ns ms : List Nat) : strN (ns ++ ms) = strN ns ++ strN ms := by
  unfold strN
  apply ByteArray.ext
  simp
theorem strN_size (ns : List Nat) : (strN ns).size = ns.length := by simp [strN, ByteArray.size]

theorem conv_holds (w : World) (a : Option Addr) (ns : List Nat) (cap : Nat) (ha : a = none → ns = []) (hh : Holds w a ns) :
    (convert 22 9 (.slice a ns.length cap)).run Try.prog w = .ok (.string (strN ns)) w := by
  cases a with
  | none =>
    obtain rfl := ha rfl
    exact run_convert_bytes_nil (P := Try.prog) w 22 5 Try.underlying22 Try.underlying5 _ _ 9 Try.underlying9
  | some b =>
    have e : byteCells ns = (ns.map fun (c : Nat) => (c : Int)).map (Value.int .u8) := by simp [byteCells]
    have hl : (loadCells b ns.length).run Try.prog w = .ok ((ns.map fun (c : Nat) => (c : Int)).map (Value.int .u8)).toArray w := by
      have := run_loadCells_list (P := Try.prog) w b (byteCells ns) (fun j v hj => hh b rfl j v hj)
      rw [byteCells_len] at this
      rw [← e]; exact this
    rw [run_convert_bytes_string w 22 9 5 _ _ cap Try.underlying22 Try.underlying5 Try.underlying9, run_bytesToString w _ _ cap _ hl, foldl_push_bytes]
    simp [strN, ByteArray.empty, ByteArray.emptyWithCapacity]
    rfl
end Go.Proofs.Ytppdaohmddbhdaa
