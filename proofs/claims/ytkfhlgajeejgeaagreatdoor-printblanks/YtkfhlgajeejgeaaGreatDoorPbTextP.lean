/- The text of a schema, and its pieces. -/
import Derived.Test.YtkfhlgajeejgeaaGreatDoorPbLexP
import Derived.Test.YtkfhlgajeejgeaaGreatDoorPkE
import Derived.Test.YtkfhlgajeejgeaaGreatDoorPkA
namespace Go.Proofs.YtkfhlgajeejgeaaGreatDoor
open Go.RowKit
set_option linter.unusedVariables false
set_option linter.unusedSimpArgs false
set_option maxRecDepth 20000

def numOk (n : Int) : Prop := 0 ≤ n ∧ n < 10000000000
def typeOk (en : List ByteArray) (f : FlS) : Prop := (1 ≤ f.kind ∧ f.kind ≤ 5 ∧ f.tname = ⟨#[]⟩) ∨ (f.kind = 6 ∧ nameK f.tname.data.toList = true ∧ f.tname ∈ en) ∨ (f.kind = 7 ∧ nameK f.tname.data.toList = true ∧ f.tname ∉ en)
def fldOk (en : List ByteArray) (f : FlS) : Prop := nameK f.name.data.toList = true ∧ numOk f.tag ∧ (f.label = 1 ∨ f.label = 2 ∨ f.label = 3) ∧ typeOk en f
/-- What can be printed and read again. -/
structure Prt (s : ScS) : Prop where
  name : nameK s.name.data.toList = true
  msgs : ∀ m ∈ s.msgs, nameK m.name.data.toList = true ∧ (∀ f ∈ m.fields, fldOk s.en f) ∧ ∀ n ∈ m.reserved, numOk n
  enums : ∀ e ∈ s.enums, nameK e.name.data.toList = true ∧ ∀ v ∈ e.values, nameK v.name.data.toList = true ∧ numOk v.n
  meths : ∀ t ∈ s.methods, nameK t.name.data.toList = true ∧ nameK t.inn.data.toList = true ∧ nameK t.out.data.toList = true

def labelT (n : Int) : List ByteArray := if n = 2 then [kOptional] else if n = 3 then [kRepeated] else []
def wordT (k : Int) (t : ByteArray) : ByteArray := ⟨(wordL k t).toArray⟩
def fieldT (f : FlS) : List ByteArray := labelT f.label ++ [wordT f.kind f.tname, f.name, kEq, numT f.tag, kSemi]
def moreT (ns : List Int) : List ByteArray := ns.flatMap fun n => [kComma, numT n]
def resT : List Int → List ByteArray
  | [] => []
  | n :: r => [kReserved, numT n] ++ moreT r ++ [kSemi]
def msgT (m : MsS) : List ByteArray := [kMessage, m.name, kOpen] ++ m.fields.flatMap fieldT ++ resT m.reserved ++ [kShut]
def valT (v : NmS) : List ByteArray := [v.name, kEq, numT v.n, kSemi]
def enumT (e : EnS) : List ByteArray := [kEnum, e.name, kOpen] ++ e.values.flatMap valT ++ [kShut]
def methT (m : MtS) : List ByteArray := [kCall, m.name, kPar, m.inn, kRap, kReturns, kPar, m.out, kRap, kSemi]
def textT (s : ScS) : List ByteArray := [kSchema, s.name, kSemi] ++ s.msgs.flatMap msgT ++ s.enums.flatMap enumT ++ s.methods.flatMap methT

theorem stop_byte {a : UInt8} (r : List UInt8) (h : a.toNat < 128 ∧ letB a.toNat = false ∧ digB a.toNat = false) : Stop (a :: r) := by
  intro x y e
  simp only [List.cons.injEq] at e
  obtain ⟨rfl, _⟩ := e
  exact h
theorem stop32 (r : List UInt8) : Stop (32 :: r) := stop_byte r (by decide)
theorem stop59 (r : List UInt8) : Stop (59 :: r) := stop_byte r (by decide)
theorem stop40 (r : List UInt8) : Stop (40 :: r) := stop_byte r (by decide)
theorem stop41 (r : List UInt8) : Stop (41 :: r) := stop_byte r (by decide)
theorem stop44 (r : List UInt8) : Stop (44 :: r) := stop_byte r (by decide)
theorem Made.key {l : List UInt8} {xs : List ByteArray} (n : ByteArray) (hp : Piece 1 n.data.toList) (h10 : ∀ a ∈ n.data.toList, a ≠ 10) (hs : Stop l) (h : Made l xs) : Made (n.data.toList ++ l) (n :: xs) := Made.piece n.data.toList hp h10 hs h
theorem piece_of {w : List UInt8} (c : Nat) (h1 : nxL w = some (c, 1)) (h2 : kindN c = 1) (h3 : pieceN 1 1 w = w.length) : Piece 1 w := ⟨by decide, c, 1, h1, h2, h3⟩
theorem keySchema : Piece 1 kSchema.data.toList := piece_of 115 rfl rfl rfl
theorem keyMessage : Piece 1 kMessage.data.toList := piece_of 109 rfl rfl rfl
theorem keyEnum : Piece 1 kEnum.data.toList := piece_of 101 rfl rfl rfl
theorem keyCall : Piece 1 kCall.data.toList := piece_of 99 rfl rfl rfl
theorem keyReturns : Piece 1 kReturns.data.toList := piece_of 114 rfl rfl rfl
theorem keyReserved : Piece 1 kReserved.data.toList := piece_of 114 rfl rfl rfl
theorem keyOptional : Piece 1 kOptional.data.toList := piece_of 111 rfl rfl rfl
theorem keyRepeated : Piece 1 kRepeated.data.toList := piece_of 114 rfl rfl rfl
theorem Made.semi {l : List UInt8} {xs : List ByteArray} (h : Made l xs) : Made (59 :: l) (kSemi :: xs) := Made.sign 59 (by decide) h
theorem Made.op {l : List UInt8} {xs : List ByteArray} (h : Made l xs) : Made (123 :: l) (kOpen :: xs) := Made.sign 123 (by decide) h
theorem Made.shut {l : List UInt8} {xs : List ByteArray} (h : Made l xs) : Made (125 :: l) (kShut :: xs) := Made.sign 125 (by decide) h
theorem Made.par {l : List UInt8} {xs : List ByteArray} (h : Made l xs) : Made (40 :: l) (kPar :: xs) := Made.sign 40 (by decide) h
theorem Made.rap {l : List UInt8} {xs : List ByteArray} (h : Made l xs) : Made (41 :: l) (kRap :: xs) := Made.sign 41 (by decide) h
theorem Made.eq {l : List UInt8} {xs : List ByteArray} (h : Made l xs) : Made (61 :: l) (kEq :: xs) := Made.sign 61 (by decide) h
theorem Made.comma {l : List UInt8} {xs : List ByteArray} (h : Made l xs) : Made (44 :: l) (kComma :: xs) := Made.sign 44 (by decide) h

theorem ten_of {w v : List UInt8} (h : w = v) (hv : ∀ a ∈ v, a ≠ 10) : ∀ a ∈ w, a ≠ 10 := h ▸ hv
theorem word_piece {en : List ByteArray} {f : FlS} (h : typeOk en f) : Piece 1 (wordL f.kind f.tname) ∧ ∀ a ∈ wordL f.kind f.tname, a ≠ 10 := by
  obtain ⟨nm, tg, lb, k, t⟩ := f
  simp only [typeOk] at h ⊢
  rcases h with ⟨h1, h2, _⟩ | ⟨rfl, h2, _⟩ | ⟨rfl, h2, _⟩
  · have : k = 1 ∨ k = 2 ∨ k = 3 ∨ k = 4 ∨ k = 5 := by omega
    rcases this with rfl | rfl | rfl | rfl | rfl
    · exact ⟨piece_of 105 rfl rfl rfl, ten_of (v := [105, 110, 116, 51, 50]) rfl (by decide)⟩
    · exact ⟨piece_of 105 rfl rfl rfl, ten_of (v := [105, 110, 116, 54, 52]) rfl (by decide)⟩
    · exact ⟨piece_of 98 rfl rfl rfl, ten_of (v := [98, 111, 111, 108]) rfl (by decide)⟩
    · exact ⟨piece_of 116 rfl rfl rfl, ten_of (v := [116, 101, 120, 116]) rfl (by decide)⟩
    · exact ⟨piece_of 98 rfl rfl rfl, ten_of (v := [98, 121, 116, 101, 115]) rfl (by decide)⟩
  · exact ⟨Piece.name h2, name_ten h2⟩
  · exact ⟨Piece.name h2, name_ten h2⟩
theorem made_lab {n : Int} (h : n = 1 ∨ n = 2 ∨ n = 3) {l : List UInt8} {xs : List ByteArray} (hm : Made l xs) : Made (plabL n ++ l) (labelT n ++ xs) := by
  rcases h with rfl | rfl | rfl
  · exact hm
  · exact Made.key kOptional keyOptional (by decide) (stop32 _) hm.sp
  · exact Made.key kRepeated keyRepeated (by decide) (stop32 _) hm.sp
theorem made_field {en : List ByteArray} {f : FlS} (h : fldOk en f) {l : List UInt8} {xs : List ByteArray} (hm : Made l xs) : Made (fieldL f ++ l) (fieldT f ++ xs) := by
  obtain ⟨h1, h2, h3, h4⟩ := h
  obtain ⟨w1, w2⟩ := word_piece h4
  have hh := (made_lab h3 (Made.piece _ w1 w2 (stop32 _) (Made.name h1 (stop32 _) (Made.num h2.1 h2.2 (stop59 _) hm.nl.semi).sp.eq.sp).sp)).sp.sp
  unfold fieldL fieldT wordT
  simpa [List.append_assoc] using hh
theorem made_more : ∀ (ns : List Int), (∀ n ∈ ns, numOk n) → ∀ {l : List UInt8} {xs : List ByteArray}, Stop l → Made l xs → Made (Lib.joinTail [44, 32] (ns.map Lib.itoa) ++ l) (moreT ns ++ xs) ∧ Stop (Lib.joinTail [44, 32] (ns.map Lib.itoa) ++ l)
  | [], _, l, xs, hs, hm => ⟨hm, hs⟩
  | n :: r, h, l, xs, hs, hm => by
    obtain ⟨h1, h2⟩ := made_more r (fun x hx => h x (List.mem_cons_of_mem _ hx)) hs hm
    have hn := h n (List.mem_cons_self ..)
    have hh := (Made.num hn.1 hn.2 h2 h1).sp.comma
    constructor
    · unfold Lib.joinTail moreT at *
      simpa [List.append_assoc] using hh
    · unfold Lib.joinTail
      simp only [List.map_cons, List.flatten_cons, List.cons_append]
      exact stop44 _
theorem made_res {ns : List Int} (h : ∀ n ∈ ns, numOk n) {l : List UInt8} {xs : List ByteArray} (hm : Made l xs) : Made (resL ns ++ l) (resT ns ++ xs) := by
  match ns, h with
  | [], _ => exact hm
  | n :: r, h =>
    have hn := h n (List.mem_cons_self ..)
    obtain ⟨h1, h2⟩ := made_more r (fun x hx => h x (List.mem_cons_of_mem _ hx)) (stop59 (10 :: l)) hm.nl.semi
    have hh := (Made.key kReserved keyReserved (by decide) (stop32 _) (Made.num hn.1 hn.2 h2 h1).sp).sp.sp
    unfold resL resT numsL
    rw [if_neg (by simp), List.map_cons, Lib.join_cons]
    simpa [List.append_assoc, kReserved] using hh
theorem made_flat {α : Type} (f : α → List UInt8) (g : α → List ByteArray) : ∀ (q : List α), (∀ a ∈ q, ∀ {l : List UInt8} {xs : List ByteArray}, Made l xs → Made (f a ++ l) (g a ++ xs)) → ∀ {l : List UInt8} {xs : List ByteArray}, Made l xs → Made ((q.map f).flatten ++ l) (q.flatMap g ++ xs)
  | [], _, l, xs, hm => hm
  | a :: r, h, l, xs, hm => by
    have h1 := made_flat f g r (fun x hx => h x (List.mem_cons_of_mem _ hx)) hm
    have h2 := h a (List.mem_cons_self ..) h1
    simpa [List.append_assoc] using h2
theorem made_msg {en : List ByteArray} {m : MsS} (h : nameK m.name.data.toList = true ∧ (∀ f ∈ m.fields, fldOk en f) ∧ ∀ n ∈ m.reserved, numOk n) {l : List UInt8} {xs : List ByteArray} (hm : Made l xs) : Made (msgL m ++ l) (msgT m ++ xs) := by
  obtain ⟨h1, h2, h3⟩ := h
  have hh := Made.key kMessage keyMessage (by decide) (stop32 _) (Made.name h1 (stop32 _) (made_flat fieldL fieldT m.fields (fun f hf => made_field (h2 f hf)) (made_res h3 hm.nl.shut)).nl.op.sp).sp
  unfold msgL msgT
  simpa [List.append_assoc, kMessage] using hh
theorem made_val {v : NmS} (h : nameK v.name.data.toList = true ∧ numOk v.n) {l : List UInt8} {xs : List ByteArray} (hm : Made l xs) : Made (valL v ++ l) (valT v ++ xs) := by
  have hh := (Made.name h.1 (stop32 _) (Made.num h.2.1 h.2.2 (stop59 _) hm.nl.semi).sp.eq.sp).sp.sp
  unfold valL valT
  simpa [List.append_assoc] using hh
theorem made_enum {e : EnS} (h : nameK e.name.data.toList = true ∧ ∀ v ∈ e.values, nameK v.name.data.toList = true ∧ numOk v.n) {l : List UInt8} {xs : List ByteArray} (hm : Made l xs) : Made (enumL e ++ l) (enumT e ++ xs) := by
  have hh := Made.key kEnum keyEnum (by decide) (stop32 _) (Made.name h.1 (stop32 _) (made_flat valL valT e.values (fun v hv => made_val (h.2 v hv)) hm.nl.shut).nl.op.sp).sp
  unfold enumL enumT
  simpa [List.append_assoc, kEnum] using hh
theorem made_meth {t : MtS} (h : nameK t.name.data.toList = true ∧ nameK t.inn.data.toList = true ∧ nameK t.out.data.toList = true) {l : List UInt8} {xs : List ByteArray} (hm : Made l xs) : Made (methL t ++ l) (methT t ++ xs) := by
  have hh := Made.key kCall keyCall (by decide) (stop32 _) (Made.name h.1 (stop40 _) (Made.name h.2.1 (stop41 _) (Made.key kReturns keyReturns (by decide) (stop32 _) (Made.name h.2.2 (stop41 _) hm.nl.semi.rap).par.sp).sp.rap).par).sp
  unfold methL methT
  simpa [List.append_assoc, kCall, kReturns] using hh
theorem made_text {s : ScS} (h : Prt s) : Made (textL s) (textT s) := by
  have h1 := made_flat methL methT s.methods (fun t ht => made_meth (h.meths t ht)) Made.nil
  have h2 := made_flat enumL enumT s.enums (fun t ht => made_enum (h.enums t ht)) h1
  have h3 := made_flat msgL msgT s.msgs (fun t ht => made_msg (h.msgs t ht)) h2
  have hh := Made.key kSchema keySchema (by decide) (stop32 _) (Made.name h.name (stop59 _) h3.nl.semi).sp
  unfold textL textT
  simpa [List.append_assoc, kSchema] using hh

theorem prt_ok {s : ScS} (h : OkS s) : Prt s := by
  have nm : ∀ {n : ByteArray}, nameB n = true → nameK n.data.toList = true := fun {n} hn => by rw [← nameB_eq]; exact hn
  have mn : ∀ {n : ByteArray}, n ∈ s.mn → nameK n.data.toList = true := fun {n} hn => by
    obtain ⟨m, hm, rfl⟩ := List.mem_map.1 hn
    exact nm (h.msgs m hm).1
  have en : ∀ {n : ByteArray}, n ∈ s.en → nameK n.data.toList = true := fun {n} hn => by
    obtain ⟨m, hm, rfl⟩ := List.mem_map.1 hn
    exact nm (h.enums m hm).1
  refine ⟨nm h.name, fun m hm => ?_, fun e he => ?_, fun t ht => ⟨nm (h.meths t ht).1, mn (h.meths t ht).2.1, mn (h.meths t ht).2.2⟩⟩
  · obtain ⟨h1, h2, h3, h4, h5, h6, h7⟩ := h.msgs m hm
    refine ⟨nm h1, fun f hf => ?_, fun n hn => ?_⟩
    · obtain ⟨⟨k1, k2, k3, k4⟩, k5⟩ := h5 f hf
      unfold tagR at k2
      unfold labB at k3
      unfold typeB at k4
      simp only [decide_eq_true_eq] at k2 k3
      refine ⟨nm k1, ⟨by omega, by omega⟩, by omega, ?_⟩
      simp only [Bool.or_eq_true, Bool.and_eq_true, decide_eq_true_eq, memB_iff] at k4
      rcases k4 with (⟨g1, g2⟩ | ⟨g1, g2⟩) | ⟨g1, g2⟩
      · exact .inl ⟨g1.1, g1.2, g2⟩
      · exact .inr (.inl ⟨g1, en g2, g2⟩)
      · exact .inr (.inr ⟨g1, mn g2, fun hc => h.apart _ hc g2⟩)
    · have := h3 n hn
      unfold tagR at this
      simp only [decide_eq_true_eq] at this
      exact ⟨by omega, by omega⟩
  · obtain ⟨h1, h2⟩ := h.enums e he
    refine ⟨nm h1, fun v hv => ?_⟩
    unfold chkEb at h2
    split at h2
    · cases h2
    · split at h2
      · cases h2
      · have := ((chkVs_ok _ _ _).1 h2).1 v hv
        refine ⟨nm this.1, ?_⟩
        have hn := this.2.2.1
        unfold numR at hn
        simp only [decide_eq_true_eq] at hn
        exact ⟨by omega, by omega⟩
end Go.Proofs.YtkfhlgajeejgeaaGreatDoor
