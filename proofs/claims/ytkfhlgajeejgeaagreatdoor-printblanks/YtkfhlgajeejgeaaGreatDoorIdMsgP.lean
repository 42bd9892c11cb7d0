/- A message of fields by numbers: the text's pieces, and what they make. -/
import Derived.Test.YtkfhlgajeejgeaaGreatDoorPkL
namespace Go.Proofs.YtkfhlgajeejgeaaGreatDoor
open Go.RowKit
set_option linter.unusedVariables false
set_option linter.unusedSimpArgs false
set_option maxRecDepth 20000

/-- The texts of a list of pieces. -/
def textsOf (x : List Tk) : List ByteArray := x.map Tk.bytes
theorem texts_app (x y : List Tk) : textsOf (x ++ y) = textsOf x ++ textsOf y := by simp [textsOf]
theorem texts_shift (x : List Tk) (n : Nat) : textsOf (x.map (shiftT n)) = textsOf x := shift_texts x n
/-- A text that is pieces to its end. -/
def Whole (l : List UInt8) (xs : List ByteArray) : Prop := ∃ x, Read l l.length x ∧ textsOf x = xs
theorem Whole.nil : Whole [] [] := ⟨[], Read.start, rfl⟩
/-- Behind a text comes one that a blank opens. -/
theorem Whole.app {a b : List UInt8} {xs ys : List ByteArray} (ha : Whole a xs) (hb : Whole b ys) (hs : 0 < skipN b) : Whole (a ++ b) (xs ++ ys) := by
  obtain ⟨x, hx, rfl⟩ := ha
  obtain ⟨y, hy, rfl⟩ := hb
  refine ⟨x ++ y.map (shiftT a.length), ?_, by rw [texts_app, texts_shift]⟩
  rw [List.length_append]
  exact hx.app (rests_skip hs) hy
theorem run_digs (D : List UInt8) (h : D.all digU = true) : runN 2 D = D.length := by
  induction D with
  | nil => rfl
  | cons a r ih =>
    simp only [List.all_cons, Bool.and_eq_true] at h
    have ha : 48 ≤ a.toNat ∧ a.toNat ≤ 57 := by have := h.1; unfold digU at this; simpa using this
    rw [runN_yes (c := a.toNat) (m := 1) (by simp [nxL]; omega) (by simp [goesB, digB]; omega)]
    rw [List.drop_succ_cons, List.drop_zero, ih h.2, List.length_cons]; omega
theorem skip_app {b r : List UInt8} (h : 0 < skipN b) : 0 < skipN (b ++ r) := by
  match b with
  | [] => simp [skipN_nil] at h
  | a :: b' =>
    simp only [skipN, skipG, List.cons_append] at h ⊢
    split
    · omega
    · rename_i h1
      rw [if_neg h1] at h
      split at h
      · rename_i h2
        rw [if_pos]
        · omega
        · refine ⟨h2.1, ?_⟩
          rw [headN_app]
          · exact h2.2
          · intro e; rw [e] at h2; simp [headN] at h2
      · omega
/-- A number's digits behind a blank, and the sign ; behind them. -/
theorem whole_num (D : List UInt8) (h : D.all digU = true) (hne : D ≠ []) : Whole ([32] ++ D ++ [59]) [⟨D.toArray⟩, kSemi] := by
  match D, hne with
  | a :: r, _ =>
    have h' := h
    simp only [List.all_cons, Bool.and_eq_true] at h
    have ha : 48 ≤ a.toNat ∧ a.toNat ≤ 57 := by have := h.1; unfold digU at this; simpa using this
    have hk : kindN a.toNat = 2 := by
      unfold kindN
      rw [if_neg (by unfold letB; simp only [decide_eq_true_eq]; omega), if_pos (by unfold digB; simp only [decide_eq_true_eq]; omega)]
    have hb : blankB a = false := by unfold blankB; rw [decide_eq_false (by omega)]
    have hsk : skipN ([32] ++ (a :: r)) = 1 := by
      show skipG false (32 :: a :: r) = 1
      simp only [skipG]
      rw [if_pos (by decide), if_neg (by rw [hb]; simp), if_neg (by intro hc; omega)]
    have h1 := read_one (g := [32]) (w := a :: r) (c := a.toNat) (m := 1) hsk (by simp [nxL]; omega) (by rw [hk]; decide)
      (by rw [hk]; unfold pieceN; rw [List.drop_succ_cons, List.drop_zero, run_digs r h.2, List.length_cons]; omega)
    have h2 := read_one (g := []) (w := [59]) (c := 59) (m := 1) rfl rfl (by decide) rfl
    rw [hk] at h1
    have h3 := h1.app (b := [59]) (fun t ht => by simp at ht; subst ht; rfl) h2
    refine ⟨_, by rw [List.length_append]; exact h3, ?_⟩
    rfl
def kindT : Nat → ByteArray
  | 0 => ⟨#[105, 110, 116, 51, 50]⟩
  | 1 => ⟨#[105, 110, 116, 54, 52]⟩
  | 2 => ⟨#[98, 111, 111, 108]⟩
  | 3 => ⟨#[116, 101, 120, 116]⟩
  | _ => ⟨#[98, 121, 116, 101, 115]⟩
def labT : Nat → List ByteArray
  | 0 => []
  | 1 => [kOptional]
  | _ => [kRepeated]
def labL : Nat → List UInt8
  | 0 => []
  | 1 => [32] ++ [111, 112, 116, 105, 111, 110, 97, 108]
  | _ => [32] ++ [114, 101, 112, 101, 97, 116, 101, 100]
def kindL (k : Nat) : List UInt8 := [32] ++ (kindT k).data.toList
/-- A field's name, by its place. -/
def nmT (i : Nat) : ByteArray := ⟨#[102, UInt8.ofNat (97 + i)]⟩
def nmL (i : Nat) : List UInt8 := [32] ++ (nmT i).data.toList
/-- A field's text. -/
def chunkL (lb k i : Nat) (D : List UInt8) : List UInt8 := labL lb ++ (kindL k ++ (nmL i ++ ([32, 61] ++ ([32] ++ D ++ [59]))))
def chunkT (lb k i : Nat) (D : List UInt8) : List ByteArray := labT lb ++ ([kindT k] ++ ([nmT i] ++ ([kEq] ++ [⟨D.toArray⟩, kSemi])))
theorem whole_eq : Whole [32, 61] [kEq] := ⟨[⟨3, [61], 1⟩], read_one (g := [32]) (w := [61]) (c := 61) (m := 1) rfl rfl (by decide) rfl, rfl⟩
theorem whole_kind (k : Nat) (h : k < 5) : Whole (kindL k) [kindT k] := by
  match k, h with
  | 0, _ => exact ⟨[⟨1, [105, 110, 116, 51, 50], 1⟩], read_one (g := [32]) (w := [105, 110, 116, 51, 50]) (c := 105) (m := 1) rfl rfl (by decide) rfl, rfl⟩
  | 1, _ => exact ⟨[⟨1, [105, 110, 116, 54, 52], 1⟩], read_one (g := [32]) (w := [105, 110, 116, 54, 52]) (c := 105) (m := 1) rfl rfl (by decide) rfl, rfl⟩
  | 2, _ => exact ⟨[⟨1, [98, 111, 111, 108], 1⟩], read_one (g := [32]) (w := [98, 111, 111, 108]) (c := 98) (m := 1) rfl rfl (by decide) rfl, rfl⟩
  | 3, _ => exact ⟨[⟨1, [116, 101, 120, 116], 1⟩], read_one (g := [32]) (w := [116, 101, 120, 116]) (c := 116) (m := 1) rfl rfl (by decide) rfl, rfl⟩
  | 4, _ => exact ⟨[⟨1, [98, 121, 116, 101, 115], 1⟩], read_one (g := [32]) (w := [98, 121, 116, 101, 115]) (c := 98) (m := 1) rfl rfl (by decide) rfl, rfl⟩
theorem whole_lab (lb : Nat) (h : lb < 3) : Whole (labL lb) (labT lb) := by
  match lb, h with
  | 0, _ => exact Whole.nil
  | 1, _ => exact ⟨[⟨1, [111, 112, 116, 105, 111, 110, 97, 108], 1⟩], read_one (g := [32]) (w := [111, 112, 116, 105, 111, 110, 97, 108]) (c := 111) (m := 1) rfl rfl (by decide) rfl, rfl⟩
  | 2, _ => exact ⟨[⟨1, [114, 101, 112, 101, 97, 116, 101, 100], 1⟩], read_one (g := [32]) (w := [114, 101, 112, 101, 97, 116, 101, 100]) (c := 114) (m := 1) rfl rfl (by decide) rfl, rfl⟩
theorem whole_nm (i : Nat) (h : i < 20) : Whole (nmL i) [nmT i] := by
  match i, h with
  | 0, _ => exact ⟨[⟨1, [102, 97], 1⟩], read_one (g := [32]) (w := [102, 97]) (c := 102) (m := 1) rfl rfl (by decide) rfl, rfl⟩
  | 1, _ => exact ⟨[⟨1, [102, 98], 1⟩], read_one (g := [32]) (w := [102, 98]) (c := 102) (m := 1) rfl rfl (by decide) rfl, rfl⟩
  | 2, _ => exact ⟨[⟨1, [102, 99], 1⟩], read_one (g := [32]) (w := [102, 99]) (c := 102) (m := 1) rfl rfl (by decide) rfl, rfl⟩
  | 3, _ => exact ⟨[⟨1, [102, 100], 1⟩], read_one (g := [32]) (w := [102, 100]) (c := 102) (m := 1) rfl rfl (by decide) rfl, rfl⟩
  | 4, _ => exact ⟨[⟨1, [102, 101], 1⟩], read_one (g := [32]) (w := [102, 101]) (c := 102) (m := 1) rfl rfl (by decide) rfl, rfl⟩
  | 5, _ => exact ⟨[⟨1, [102, 102], 1⟩], read_one (g := [32]) (w := [102, 102]) (c := 102) (m := 1) rfl rfl (by decide) rfl, rfl⟩
  | 6, _ => exact ⟨[⟨1, [102, 103], 1⟩], read_one (g := [32]) (w := [102, 103]) (c := 102) (m := 1) rfl rfl (by decide) rfl, rfl⟩
  | 7, _ => exact ⟨[⟨1, [102, 104], 1⟩], read_one (g := [32]) (w := [102, 104]) (c := 102) (m := 1) rfl rfl (by decide) rfl, rfl⟩
  | 8, _ => exact ⟨[⟨1, [102, 105], 1⟩], read_one (g := [32]) (w := [102, 105]) (c := 102) (m := 1) rfl rfl (by decide) rfl, rfl⟩
  | 9, _ => exact ⟨[⟨1, [102, 106], 1⟩], read_one (g := [32]) (w := [102, 106]) (c := 102) (m := 1) rfl rfl (by decide) rfl, rfl⟩
  | 10, _ => exact ⟨[⟨1, [102, 107], 1⟩], read_one (g := [32]) (w := [102, 107]) (c := 102) (m := 1) rfl rfl (by decide) rfl, rfl⟩
  | 11, _ => exact ⟨[⟨1, [102, 108], 1⟩], read_one (g := [32]) (w := [102, 108]) (c := 102) (m := 1) rfl rfl (by decide) rfl, rfl⟩
  | 12, _ => exact ⟨[⟨1, [102, 109], 1⟩], read_one (g := [32]) (w := [102, 109]) (c := 102) (m := 1) rfl rfl (by decide) rfl, rfl⟩
  | 13, _ => exact ⟨[⟨1, [102, 110], 1⟩], read_one (g := [32]) (w := [102, 110]) (c := 102) (m := 1) rfl rfl (by decide) rfl, rfl⟩
  | 14, _ => exact ⟨[⟨1, [102, 111], 1⟩], read_one (g := [32]) (w := [102, 111]) (c := 102) (m := 1) rfl rfl (by decide) rfl, rfl⟩
  | 15, _ => exact ⟨[⟨1, [102, 112], 1⟩], read_one (g := [32]) (w := [102, 112]) (c := 102) (m := 1) rfl rfl (by decide) rfl, rfl⟩
  | 16, _ => exact ⟨[⟨1, [102, 113], 1⟩], read_one (g := [32]) (w := [102, 113]) (c := 102) (m := 1) rfl rfl (by decide) rfl, rfl⟩
  | 17, _ => exact ⟨[⟨1, [102, 114], 1⟩], read_one (g := [32]) (w := [102, 114]) (c := 102) (m := 1) rfl rfl (by decide) rfl, rfl⟩
  | 18, _ => exact ⟨[⟨1, [102, 115], 1⟩], read_one (g := [32]) (w := [102, 115]) (c := 102) (m := 1) rfl rfl (by decide) rfl, rfl⟩
  | 19, _ => exact ⟨[⟨1, [102, 116], 1⟩], read_one (g := [32]) (w := [102, 116]) (c := 102) (m := 1) rfl rfl (by decide) rfl, rfl⟩
  | n + 20, h => exact absurd h (by omega)
theorem name_nm (i : Nat) (h : i < 20) : nameK (nmT i).data.toList = true := by
  match i, h with
  | 0, _ | 1, _ | 2, _ | 3, _ | 4, _ | 5, _ | 6, _ | 7, _ | 8, _ | 9, _ | 10, _ | 11, _ | 12, _ | 13, _ | 14, _ | 15, _ | 16, _ | 17, _ | 18, _ | 19, _ => decide +kernel
  | n + 20, h => exact absurd h (by omega)
theorem whole_chunk (lb k i : Nat) (D : List UInt8) (h1 : lb < 3) (h2 : k < 5) (h3 : i < 20) (h4 : D.all digU = true) (h5 : D ≠ []) : Whole (chunkL lb k i D) (chunkT lb k i D) := by
  have e1 : 0 < skipN ([32] ++ D ++ [59]) := by simp [skipN, skipG, blankB]; omega
  have e2 : 0 < skipN ([32, 61] ++ ([32] ++ D ++ [59])) := skip_app (by decide)
  have e3 : 0 < skipN (nmL i ++ ([32, 61] ++ ([32] ++ D ++ [59]))) := skip_app (by simp [nmL, skipN, skipG, blankB]; omega)
  have e4 : 0 < skipN (kindL k ++ (nmL i ++ ([32, 61] ++ ([32] ++ D ++ [59])))) := skip_app (by simp [kindL, skipN, skipG, blankB]; omega)
  exact (whole_lab lb h1).app ((whole_kind k h2).app ((whole_nm i h3).app (whole_eq.app (whole_num D h4 h5) e1) e2) e3) e4
/-- A field's pieces make that field. -/
theorem member_chunk (m : MsS) (lb k i : Nat) (D : List UInt8) (v : Nat) (r : List ByteArray) (h1 : lb < 3) (h2 : k < 5) (h3 : nameK (nmT i).data.toList = true) (h4 : numA D = (v, true)) :
    pMember m (chunkT lb k i D ++ r) = .inr (⟨m.name, m.fields ++ [⟨nmT i, v, 1 + lb, 1 + k, ⟨#[]⟩⟩], m.reserved⟩, r) := by
  unfold chunkT
  generalize nmT i = nm at *
  have h5 : (numA (ByteArray.mk D.toArray).data.toList) = (v, true) := h4
  generalize ByteArray.mk D.toArray = d at *
  match lb, h1, k, h2 with
  | 0, _, 0, _ | 0, _, 1, _ | 0, _, 2, _ | 0, _, 3, _ | 0, _, 4, _ | 1, _, 0, _ | 1, _, 1, _ | 1, _, 2, _ | 1, _, 3, _ | 1, _, 4, _ | 2, _, 0, _ | 2, _, 1, _ | 2, _, 2, _ | 2, _, 3, _ | 2, _, 4, _ =>
    simp [labT, kindT, pMember, pField, pLabel, pType, pBind, pName, pNum, pMust, pIs, scalN, kReserved, kOptional, kRepeated, kEq, kSemi, h3, h5]

/-- A field by numbers: label, kind, place, number, its digits. -/
structure Ch where
  lb : Nat
  k : Nat
  i : Nat
  v : Nat
  D : List UInt8
structure Ch.Ok (c : Ch) : Prop where
  lb : c.lb < 3
  k : c.k < 5
  i : c.i < 20
  num : numA c.D = (c.v, true)
  all : c.D.all digU = true
  ne : c.D ≠ []
def Ch.l (c : Ch) : List UInt8 := chunkL c.lb c.k c.i c.D
def Ch.t (c : Ch) : List ByteArray := chunkT c.lb c.k c.i c.D
def Ch.f (c : Ch) : FlS := ⟨nmT c.i, c.v, 1 + c.lb, 1 + c.k, ⟨#[]⟩⟩
theorem shut_chunk (c : Ch) (h : c.Ok) (r : List ByteArray) : pIs kShut (c.t ++ r) = false := by
  obtain ⟨lb, k, i, v, D⟩ := c
  have h1 := h.lb
  have h2 := h.k
  simp only at h1 h2
  unfold Ch.t chunkT
  match lb, h1, k, h2 with
  | 0, _, 0, _ | 0, _, 1, _ | 0, _, 2, _ | 0, _, 3, _ | 0, _, 4, _ | 1, _, 0, _ | 1, _, 1, _ | 1, _, 2, _ | 1, _, 3, _ | 1, _, 4, _ | 2, _, 0, _ | 2, _, 1, _ | 2, _, 2, _ | 2, _, 3, _ | 2, _, 4, _ => rfl
theorem members_chunks (cs : List Ch) : ∀ (f : Nat) (m : MsS) (r : List ByteArray), (∀ c ∈ cs, c.Ok) → cs.length < f → pMembers f m (cs.flatMap Ch.t ++ kShut :: r) = .inr (⟨m.name, m.fields ++ cs.map Ch.f, m.reserved⟩, r) := by
  induction cs with
  | nil =>
    intro f m r _ hf
    cases f with
    | zero => simp at hf
    | succ f =>
      simp only [pMembers, List.flatMap_nil, List.nil_append]
      rw [if_pos (by simp [pIs])]
      simp
  | cons c cs ih =>
    intro f m r hok hf
    cases f with
    | zero => simp at hf
    | succ f =>
      have hc := hok c (List.mem_cons_self ..)
      simp only [pMembers, List.flatMap_cons, List.append_assoc]
      rw [shut_chunk c hc, if_neg (by simp)]
      have := member_chunk m c.lb c.k c.i c.D c.v (cs.flatMap Ch.t ++ kShut :: r) hc.lb hc.k (name_nm c.i hc.i) hc.num
      rw [show pMember m (c.t ++ (cs.flatMap Ch.t ++ kShut :: r)) = _ from this, pBind_ok, ih f _ r (fun x hx => hok x (List.mem_cons_of_mem _ hx)) (by simp at hf; omega)]
      simp [Ch.f]
def headL : List UInt8 := [115, 99, 104, 101, 109, 97, 32, 97, 59, 32, 109, 101, 115, 115, 97, 103, 101, 32, 109, 32, 123]
def headT : List ByteArray := [kSchema, ⟨#[97]⟩, kSemi, kMessage, ⟨#[109]⟩, kOpen]
theorem lex_head : lexO headL 0 = .inr [⟨1, [115, 99, 104, 101, 109, 97], 0⟩, ⟨1, [97], 7⟩, ⟨3, [59], 8⟩, ⟨1, [109, 101, 115, 115, 97, 103, 101], 10⟩, ⟨1, [109], 18⟩, ⟨3, [123], 20⟩] := by kernel_rfl
theorem whole_head : Whole headL headT := by
  obtain ⟨pos, h1, h2⟩ := lex_ok lex_head
  have hp : pos = headL.length := h1.endOf.symm.trans rfl
  rw [hp] at h1
  exact ⟨_, h1, rfl⟩
theorem text_head (R : List ByteArray) : pText (headT ++ R) = pBind (pBind (pMembers (R.length + 1) ⟨⟨#[109]⟩, [], []⟩ R) fun mm r => .inr (⟨⟨#[97]⟩, [] ++ [mm], [], []⟩, r)) fun s' r => pDecls (R.length + 2) s' r := by kernel_rfl
theorem text_chunks (cs : List Ch) (hok : ∀ c ∈ cs, c.Ok) : pText (headT ++ (cs.flatMap Ch.t ++ [kShut])) = .inr (⟨⟨#[97]⟩, [⟨⟨#[109]⟩, cs.map Ch.f, []⟩], [], []⟩, []) := by
  have hlen : cs.length ≤ (cs.flatMap Ch.t).length := by
    clear hok
    induction cs with
    | nil => simp
    | cons c cs ih =>
      rw [List.flatMap_cons, List.length_append, List.length_cons]
      have : 1 ≤ c.t.length := by unfold Ch.t chunkT; simp
      omega
  have hm := members_chunks cs ((cs.flatMap Ch.t ++ [kShut]).length + 1) ⟨⟨#[109]⟩, [], []⟩ [] hok (by rw [List.length_append]; omega)
  rw [text_head, hm, pBind_ok, pBind_ok]
  simp [pDecls]
/-- What the text of such a message is read as. -/
theorem parse_chunks (s : ByteArray) (cs : List Ch) (hok : ∀ c ∈ cs, c.Ok) (hs : s.size ≤ 16384) (hw : Whole s.data.toList (headT ++ (cs.flatMap Ch.t ++ [kShut]))) : parseA s = (⟨⟨#[97]⟩, [⟨⟨#[109]⟩, cs.map Ch.f, []⟩], [], []⟩, 0, 0) := by
  obtain ⟨x, hx, ht⟩ := hw
  unfold parseA
  rw [tokA_ok hs hx.whole]
  simp only [ne_eq, not_true_eq_false, if_false]
  rw [show x.map Tk.bytes = _ from ht, text_chunks cs hok]
  simp only [kindS, kindM, List.map_cons, List.map_nil, List.map_map]
  have : (kindF [] ∘ Ch.f) = Ch.f := by
    funext c
    show kindF [] c.f = c.f
    unfold kindF
    rw [if_neg]
    show ¬ (1 + (c.k : Int)) = 0
    omega
  rw [this]
/-- The text so far, and one field more. -/
theorem whole_more {t : List UInt8} {xs : List ByteArray} (h : Whole t xs) (c : Ch) (hc : c.Ok) : Whole (t ++ c.l) (xs ++ c.t) := by
  refine h.app (whole_chunk c.lb c.k c.i c.D hc.lb hc.k hc.i hc.all hc.ne) ?_
  unfold Ch.l chunkL
  obtain ⟨lb, k, i, v, D⟩ := c
  have h1 := hc.lb
  simp only at h1
  match lb, h1 with
  | 0, _ => exact skip_app (b := [] ++ kindL k) (by simp [kindL, skipN, skipG, blankB]; omega)
  | 1, _ => exact skip_app (show 0 < skipN (labL 1) by decide)
  | 2, _ => exact skip_app (show 0 < skipN (labL 2) by decide)
theorem whole_shut {t : List UInt8} {xs : List ByteArray} (h : Whole t xs) : Whole (t ++ [32, 125]) (xs ++ [kShut]) := by
  refine h.app ⟨[⟨3, [125], 1⟩], read_one (g := [32]) (w := [125]) (c := 125) (m := 1) rfl rfl (by decide) rfl, rfl⟩ (by decide)
end Go.Proofs.YtkfhlgajeejgeaaGreatDoor
