/- The pieces of a printed schema make that schema. -/
import Derived.Test.YtkfhlgajeejgeaaGreatDoorPbTextP
import Derived.Test.YtkfhlgajeejgeaaGreatDoorPbCanP
namespace Go.Proofs.YtkfhlgajeejgeaaGreatDoor
open Go.RowKit
set_option linter.unusedVariables false
set_option linter.unusedSimpArgs false
set_option maxRecDepth 20000

def rawF (f : FlS) : FlS := if f.kind = 6 ∨ f.kind = 7 then ⟨f.name, f.tag, f.label, 0, f.tname⟩ else f
def rawM (m : MsS) : MsS := ⟨m.name, m.fields.map rawF, m.reserved⟩
def rawS (s : ScS) : ScS := ⟨s.name, s.msgs.map rawM, s.enums, s.methods⟩

theorem pIs_ne {k t : ByteArray} (r : List ByteArray) (h : t.data.toList ≠ k.data.toList) : pIs k (t :: r) = false := beq_eq_false_iff_ne.2 h
theorem pIs_eq (k : ByteArray) (r : List ByteArray) : pIs k (k :: r) = true := by simp [pIs]
theorem pMust_eq (k : ByteArray) (r : List ByteArray) : pMust k (k :: r) = .inr ((), r) := by simp [pMust, pIs]
theorem pName_eq {n : ByteArray} (h : nameK n.data.toList = true) (r : List ByteArray) : pName (n :: r) = .inr (n, r) := by simp [pName, h]
theorem pNum_eq {n : Int} (h : numOk n) (r : List ByteArray) : pNum (numT n :: r) = .inr (n.toNat, r) := by
  have := (num_itoa h.1 h.2).1
  simp [pNum, this]
theorem key_ne {n k : ByteArray} (h : nameK n.data.toList = true) (hk : keyK k.data.toList = true) : n.data.toList ≠ k.data.toList := by
  intro e
  obtain ⟨_, _, _, _, h1⟩ := name_runes h
  rw [e, hk] at h1
  cases h1
theorem scal_name {n : ByteArray} (h : nameK n.data.toList = true) : scalN n = 0 := by
  have f : ∀ k : ByteArray, keyK k.data.toList = true → n.data.toList ≠ k.data.toList := fun k hk => key_ne h hk
  unfold scalN
  rw [if_neg (f ⟨#[105, 110, 116, 51, 50]⟩ (by decide)), if_neg (f ⟨#[105, 110, 116, 54, 52]⟩ (by decide)), if_neg (f ⟨#[98, 111, 111, 108]⟩ (by decide)), if_neg (f ⟨#[116, 101, 120, 116]⟩ (by decide)), if_neg (f ⟨#[98, 121, 116, 101, 115]⟩ (by decide))]
theorem type_word {en : List ByteArray} {f : FlS} (h : typeOk en f) (r : List ByteArray) :
    pType (wordT f.kind f.tname :: r) = .inr (((rawF f).kind, (rawF f).tname), r) ∧ pIs kOptional (wordT f.kind f.tname :: r) = false ∧ pIs kRepeated (wordT f.kind f.tname :: r) = false ∧ pIs kReserved (wordT f.kind f.tname :: r) = false ∧ pIs kShut (wordT f.kind f.tname :: r) = false := by
  obtain ⟨nm, tg, lb, k, t⟩ := f
  simp only [typeOk] at h ⊢
  have named : ∀ k, (k = 6 ∨ k = 7) → nameK t.data.toList = true → wordT k t = t := by
    intro k hk _
    rcases hk with rfl | rfl <;> rfl
  have shut : nameK t.data.toList = true → t.data.toList ≠ kShut.data.toList := by
    intro hn e
    rw [e] at hn
    revert hn; decide
  rcases h with ⟨h1, h2, rfl⟩ | ⟨rfl, h2, _⟩ | ⟨rfl, h2, _⟩
  · have : k = 1 ∨ k = 2 ∨ k = 3 ∨ k = 4 ∨ k = 5 := by omega
    rcases this with rfl | rfl | rfl | rfl | rfl <;> exact ⟨rfl, rfl, rfl, rfl, rfl⟩
  · rw [named 6 (.inl rfl) h2]
    refine ⟨?_, pIs_ne _ (key_ne h2 (by decide)), pIs_ne _ (key_ne h2 (by decide)), pIs_ne _ (key_ne h2 (by decide)), pIs_ne _ (shut h2)⟩
    simp only [pType, scal_name h2, Nat.lt_irrefl, if_false]
    rw [pName_eq h2]; rfl
  · rw [named 7 (.inr rfl) h2]
    refine ⟨?_, pIs_ne _ (key_ne h2 (by decide)), pIs_ne _ (key_ne h2 (by decide)), pIs_ne _ (key_ne h2 (by decide)), pIs_ne _ (shut h2)⟩
    simp only [pType, scal_name h2, Nat.lt_irrefl, if_false]
    rw [pName_eq h2]; rfl
theorem rawF_rest (f : FlS) : (rawF f).name = f.name ∧ (rawF f).tag = f.tag ∧ (rawF f).label = f.label := by unfold rawF; split <;> exact ⟨rfl, rfl, rfl⟩
theorem field_back {en : List ByteArray} {f : FlS} (h : fldOk en f) (r : List ByteArray) : pField (fieldT f ++ r) = .inr (rawF f, r) ∧ pIs kReserved (fieldT f ++ r) = false ∧ pIs kShut (fieldT f ++ r) = false := by
  obtain ⟨h1, h2, h3, h4⟩ := h
  obtain ⟨t1, t2, t3, t4, t5⟩ := type_word h4 (f.name :: kEq :: numT f.tag :: kSemi :: r)
  obtain ⟨r1, r2, r3⟩ := rawF_rest f
  have hl : pLabel (fieldT f ++ r) = (f.label, wordT f.kind f.tname :: f.name :: kEq :: numT f.tag :: kSemi :: r) ∧ pIs kReserved (fieldT f ++ r) = false ∧ pIs kShut (fieldT f ++ r) = false := by
    unfold fieldT labelT
    rcases h3 with e | e | e
    · rw [e, if_neg (by decide), if_neg (by decide)]
      simp only [List.nil_append, List.cons_append]
      exact ⟨by unfold pLabel; rw [t2, t3]; simp, t4, t5⟩
    · rw [e, if_pos rfl]
      exact ⟨rfl, rfl, rfl⟩
    · rw [e, if_neg (by decide), if_pos rfl]
      exact ⟨rfl, rfl, rfl⟩
  refine ⟨?_, hl.2⟩
  unfold pField
  rw [hl.1]
  simp only
  rw [t1, pBind_ok, pName_eq h1, pBind_ok, pMust_eq, pBind_ok, pNum_eq h2, pBind_ok, pMust_eq, pBind_ok]
  have e : ((f.tag.toNat : Nat) : Int) = f.tag := by have := h2.1; omega
  rw [e, ← r1, ← r2, ← r3]
theorem more_back : ∀ (ns : List Int) (fuel : Nat) (acc : List Int) (r : List ByteArray), (∀ n ∈ ns, numOk n) → ns.length ≤ fuel → pMore fuel acc (moreT ns ++ kSemi :: r) = .inr (acc ++ ns, r)
  | [], fuel, acc, r, _, _ => by
    have e : moreT [] ++ kSemi :: r = kSemi :: r := rfl
    rw [e, List.append_nil]
    cases fuel with
    | zero => unfold pMore; rw [pMust_eq]; rfl
    | succ f => unfold pMore; rw [pIs_ne _ (by decide), pMust_eq]; rfl
  | n :: ns, 0, acc, r, _, hf => by simp at hf
  | n :: ns, fuel + 1, acc, r, h, hf => by
    have hn := h n (List.mem_cons_self ..)
    have e : moreT (n :: ns) ++ kSemi :: r = kComma :: numT n :: (moreT ns ++ kSemi :: r) := by simp [moreT]
    rw [e]
    unfold pMore
    rw [pIs_eq, if_pos rfl, List.tail_cons, pNum_eq hn, pBind_ok, more_back ns fuel _ r (fun x hx => h x (List.mem_cons_of_mem _ hx)) (by simpa using hf)]
    have e2 : ((n.toNat : Nat) : Int) = n := by have := hn.1; omega
    rw [e2, List.append_assoc]; rfl
theorem fields_back {en : List ByteArray} : ∀ (fs : List FlS) (fuel : Nat) (m : MsS) (r : List ByteArray), (∀ f ∈ fs, fldOk en f) → fs.length ≤ fuel → pMembers fuel m (fs.flatMap fieldT ++ r) = pMembers (fuel - fs.length) ⟨m.name, m.fields ++ fs.map rawF, m.reserved⟩ r
  | [], fuel, m, r, _, _ => by simp
  | f :: fs, 0, m, r, _, hf => by simp at hf
  | f :: fs, fuel + 1, m, r, h, hf => by
    obtain ⟨b1, b2, b3⟩ := field_back (h f (List.mem_cons_self ..)) (fs.flatMap fieldT ++ r)
    rw [List.flatMap_cons, List.append_assoc]
    conv => lhs; unfold pMembers
    rw [b3, if_neg (by decide)]
    unfold pMember
    rw [b2, if_neg (by decide), b1, pBind_ok, pBind_ok, fields_back fs fuel _ r (fun x hx => h x (List.mem_cons_of_mem _ hx)) (by simpa using hf)]
    simp
theorem pieces_len {α : Type} (f : α → List ByteArray) (b : Nat) : ∀ l : List α, (∀ x ∈ l, b ≤ (f x).length) → l.length * b ≤ (l.flatMap f).length
  | [], _ => by simp
  | a :: l, h => by
    have h1 := h a (List.mem_cons_self ..)
    have h2 := pieces_len f b l (fun x hx => h x (List.mem_cons_of_mem _ hx))
    rw [List.flatMap_cons, List.length_append, List.length_cons, Nat.add_mul]; omega
theorem res_back (ns : List Int) (fuel : Nat) (m : MsS) (r : List ByteArray) (h : ∀ n ∈ ns, numOk n) (hf : 2 ≤ fuel) (h0 : m.reserved = []) : pMembers fuel m (resT ns ++ kShut :: r) = .inr (⟨m.name, m.fields, ns⟩, r) := by
  obtain ⟨g, rfl⟩ : ∃ g, fuel = g + 2 := ⟨fuel - 2, by omega⟩
  match ns, h with
  | [], h =>
    show pMembers (g + 2) m (kShut :: r) = _
    unfold pMembers
    rw [pIs_eq, if_pos rfl, List.tail_cons, ← h0]
  | n :: ns, h =>
    have hn := h n (List.mem_cons_self ..)
    have e : resT (n :: ns) ++ kShut :: r = kReserved :: numT n :: (moreT ns ++ kSemi :: kShut :: r) := by simp [resT]
    have e2 : ((n.toNat : Nat) : Int) = n := by have := hn.1; omega
    rw [e]
    unfold pMembers
    rw [pIs_ne _ (by decide), if_neg (by decide)]
    unfold pMember
    rw [pIs_eq, if_pos rfl, List.tail_cons, pNum_eq hn, pBind_ok, more_back ns _ _ _ (fun x hx => h x (List.mem_cons_of_mem _ hx)) (by have := pieces_len (fun n => [kComma, numT n]) 1 ns (fun _ _ => by simp); simp only [List.length_append]; unfold moreT; omega), pBind_ok, pBind_ok]
    unfold pMembers
    rw [pIs_eq, if_pos rfl, List.tail_cons, h0, e2]; rfl
theorem msg_back {en : List ByteArray} {m : MsS} (h : nameK m.name.data.toList = true ∧ (∀ f ∈ m.fields, fldOk en f) ∧ ∀ n ∈ m.reserved, numOk n) (r : List ByteArray) : pMsg (m.name :: kOpen :: (m.fields.flatMap fieldT ++ (resT m.reserved ++ kShut :: r))) = .inr (rawM m, r) := by
  obtain ⟨h1, h2, h3⟩ := h
  unfold pMsg
  rw [pName_eq h1, pBind_ok, pMust_eq, pBind_ok]
  have hl := pieces_len fieldT 5 m.fields (fun f _ => by unfold fieldT; simp)
  rw [fields_back m.fields _ _ _ h2 (by simp only [List.length_append]; omega), res_back m.reserved _ _ _ h3 (by simp only [List.length_append, List.length_cons]; omega) rfl]
  rfl
theorem val_back {v : NmS} (h : nameK v.name.data.toList = true ∧ numOk v.n) (r : List ByteArray) : pValue (valT v ++ r) = .inr (v, r) ∧ pIs kShut (valT v ++ r) = false := by
  have e : valT v ++ r = v.name :: kEq :: numT v.n :: kSemi :: r := rfl
  have e2 : ((v.n.toNat : Nat) : Int) = v.n := by have := h.2.1; omega
  have hs : v.name.data.toList ≠ kShut.data.toList := by
    intro e
    have := h.1
    rw [e] at this
    revert this; decide
  rw [e]
  refine ⟨?_, pIs_ne _ hs⟩
  unfold pValue
  rw [pName_eq h.1, pBind_ok, pMust_eq, pBind_ok, pNum_eq h.2, pBind_ok, pMust_eq, pBind_ok, e2]
theorem vals_back : ∀ (vs : List NmS) (fuel : Nat) (e : EnS) (r : List ByteArray), (∀ v ∈ vs, nameK v.name.data.toList = true ∧ numOk v.n) → vs.length < fuel → pValues fuel e (vs.flatMap valT ++ kShut :: r) = .inr (⟨e.name, e.values ++ vs⟩, r)
  | [], 0, e, r, _, hf => by simp at hf
  | [], fuel + 1, e, r, _, _ => by
    show pValues (fuel + 1) e (kShut :: r) = _
    unfold pValues
    rw [pIs_eq, if_pos rfl, List.tail_cons, List.append_nil]
  | f :: fs, 0, m, r, _, hf => by simp at hf
  | f :: fs, fuel + 1, m, r, h, hf => by
    obtain ⟨b1, b2⟩ := val_back (h f (List.mem_cons_self ..)) (fs.flatMap valT ++ kShut :: r)
    rw [List.flatMap_cons, List.append_assoc]
    conv => lhs; unfold pValues
    rw [b2, if_neg (by decide), b1, pBind_ok, vals_back fs fuel _ r (fun x hx => h x (List.mem_cons_of_mem _ hx)) (by simpa using hf)]
    simp
theorem enum_back {e : EnS} (h : nameK e.name.data.toList = true ∧ ∀ v ∈ e.values, nameK v.name.data.toList = true ∧ numOk v.n) (r : List ByteArray) : pEnum (e.name :: kOpen :: (e.values.flatMap valT ++ kShut :: r)) = .inr (e, r) := by
  unfold pEnum
  rw [pName_eq h.1, pBind_ok, pMust_eq, pBind_ok]
  have hl := pieces_len valT 4 e.values (fun f _ => by unfold valT; simp)
  rw [vals_back e.values _ _ _ h.2 (by simp only [List.length_append, List.length_cons]; omega)]
  rfl
theorem meth_back {t : MtS} (h : nameK t.name.data.toList = true ∧ nameK t.inn.data.toList = true ∧ nameK t.out.data.toList = true) (r : List ByteArray) : pCall (t.name :: kPar :: t.inn :: kRap :: kReturns :: kPar :: t.out :: kRap :: kSemi :: r) = .inr (t, r) := by
  unfold pCall
  rw [pName_eq h.1, pBind_ok, pMust_eq, pBind_ok, pName_eq h.2.1, pBind_ok, pMust_eq, pBind_ok, pMust_eq, pBind_ok, pMust_eq, pBind_ok, pName_eq h.2.2, pBind_ok, pMust_eq, pBind_ok, pMust_eq, pBind_ok]
theorem ms_back {en : List ByteArray} : ∀ (ms : List MsS) (fuel : Nat) (s : ScS) (r : List ByteArray), (∀ m ∈ ms, nameK m.name.data.toList = true ∧ (∀ f ∈ m.fields, fldOk en f) ∧ ∀ n ∈ m.reserved, numOk n) → ms.length ≤ fuel →
    pDecls fuel s (ms.flatMap msgT ++ r) = pDecls (fuel - ms.length) ⟨s.name, s.msgs ++ ms.map rawM, s.enums, s.methods⟩ r
  | [], fuel, s, r, _, _ => by simp
  | m :: ms, 0, s, r, _, hf => by simp at hf
  | m :: ms, fuel + 1, s, r, h, hf => by
    have b := msg_back (h m (List.mem_cons_self ..)) (ms.flatMap msgT ++ r)
    have e : (m :: ms).flatMap msgT ++ r = kMessage :: m.name :: kOpen :: (m.fields.flatMap fieldT ++ (resT m.reserved ++ kShut :: (ms.flatMap msgT ++ r))) := by simp [msgT]
    rw [e]
    conv => lhs; unfold pDecls
    rw [if_neg (by simp)]
    unfold pDecl
    rw [pIs_eq, if_pos rfl, List.tail_cons, b, pBind_ok, pBind_ok, ms_back ms fuel _ r (fun x hx => h x (List.mem_cons_of_mem _ hx)) (by simpa using hf)]
    simp
theorem es_back : ∀ (es : List EnS) (fuel : Nat) (s : ScS) (r : List ByteArray), (∀ e ∈ es, nameK e.name.data.toList = true ∧ ∀ v ∈ e.values, nameK v.name.data.toList = true ∧ numOk v.n) → es.length ≤ fuel →
    pDecls fuel s (es.flatMap enumT ++ r) = pDecls (fuel - es.length) ⟨s.name, s.msgs, s.enums ++ es, s.methods⟩ r
  | [], fuel, s, r, _, _ => by simp
  | m :: ms, 0, s, r, _, hf => by simp at hf
  | m :: ms, fuel + 1, s, r, h, hf => by
    have b := enum_back (h m (List.mem_cons_self ..)) (ms.flatMap enumT ++ r)
    have e : (m :: ms).flatMap enumT ++ r = kEnum :: m.name :: kOpen :: (m.values.flatMap valT ++ kShut :: (ms.flatMap enumT ++ r)) := by simp [enumT]
    rw [e]
    conv => lhs; unfold pDecls
    rw [if_neg (by simp)]
    unfold pDecl
    rw [pIs_ne _ (by decide), if_neg (by decide), pIs_eq, if_pos rfl, List.tail_cons, b, pBind_ok, pBind_ok, es_back ms fuel _ r (fun x hx => h x (List.mem_cons_of_mem _ hx)) (by simpa using hf)]
    simp
theorem ts_back : ∀ (ts : List MtS) (fuel : Nat) (s : ScS), (∀ t ∈ ts, nameK t.name.data.toList = true ∧ nameK t.inn.data.toList = true ∧ nameK t.out.data.toList = true) → ts.length ≤ fuel →
    pDecls fuel s (ts.flatMap methT) = .inr (⟨s.name, s.msgs, s.enums, s.methods ++ ts⟩, [])
  | [], fuel, s, _, _ => by
    show pDecls fuel s [] = _
    cases fuel <;> simp [pDecls]
  | m :: ms, 0, s, _, hf => by simp at hf
  | m :: ms, fuel + 1, s, h, hf => by
    have b := meth_back (h m (List.mem_cons_self ..)) (ms.flatMap methT)
    have e : (m :: ms).flatMap methT = kCall :: m.name :: kPar :: m.inn :: kRap :: kReturns :: kPar :: m.out :: kRap :: kSemi :: ms.flatMap methT := by simp [methT]
    rw [e]
    conv => lhs; unfold pDecls
    rw [if_neg (by simp)]
    unfold pDecl
    rw [pIs_ne _ (by decide), if_neg (by decide), pIs_ne _ (by decide), if_neg (by decide), pIs_eq, if_pos rfl, List.tail_cons, b, pBind_ok, pBind_ok, ts_back ms fuel _ (fun x hx => h x (List.mem_cons_of_mem _ hx)) (by simpa using hf)]
    simp
theorem text_back {s : ScS} (h : Prt s) : pText (textT s) = .inr (rawS s, []) := by
  have e : textT s = kSchema :: s.name :: kSemi :: (s.msgs.flatMap msgT ++ (s.enums.flatMap enumT ++ s.methods.flatMap methT)) := by simp [textT]
  have l1 := pieces_len msgT 1 s.msgs (fun f _ => by unfold msgT; simp)
  have l2 := pieces_len enumT 1 s.enums (fun f _ => by unfold enumT; simp)
  have l3 := pieces_len methT 1 s.methods (fun f _ => by unfold methT; simp)
  rw [e]
  unfold pText
  rw [pMust_eq, pBind_ok, pName_eq h.name, pBind_ok, pMust_eq, pBind_ok]
  rw [ms_back s.msgs _ _ _ h.msgs (by simp only [List.length_append]; omega), es_back s.enums _ _ _ h.enums (by simp only [List.length_append]; omega), ts_back s.methods _ _ h.meths (by simp only [List.length_append]; omega)]
  simp [rawS]
theorem kind_raw {s : ScS} (h : Prt s) : kindS (rawS s) = s := by
  obtain ⟨n, ms, es, ts⟩ := s
  simp only [kindS, rawS, List.map_map, ScS.mk.injEq, true_and, and_true]
  refine (List.map_congr_left (g := id) fun m hm => ?_).trans (List.map_id _)
  obtain ⟨_, hf, _⟩ := h.msgs m hm
  obtain ⟨mn, fs, rs⟩ := m
  simp only [Function.comp, kindM, rawM, List.map_map, MsS.mk.injEq, true_and, and_true, id]
  refine (List.map_congr_left (g := id) fun f hff => ?_).trans (List.map_id _)
  obtain ⟨_, _, _, ht⟩ := hf f hff
  obtain ⟨fn, tg, lb, k, t⟩ := f
  have an : (es.any fun e => e.name.data.toList == t.data.toList) = true ↔ t ∈ es.map EnS.name := by
    rw [List.any_eq_true, List.mem_map]
    constructor
    · rintro ⟨e, he, h⟩
      exact ⟨e, he, (bytes_eq_iff _ _).2 (by simpa using h)⟩
    · rintro ⟨e, he, rfl⟩
      exact ⟨e, he, by simp⟩
  simp only [Function.comp, id, typeOk] at ht ⊢
  rcases ht with ⟨h1, h2, rfl⟩ | ⟨rfl, _, h2⟩ | ⟨rfl, _, h2⟩
  · unfold rawF
    rw [if_neg (by simp only; omega)]
    unfold kindF
    rw [if_neg (by simp only; omega)]
  · unfold rawF
    rw [if_pos (.inl rfl)]
    unfold kindF
    rw [if_pos rfl]
    simp only
    rw [if_pos (an.2 h2)]
  · unfold rawF
    rw [if_pos (.inr rfl)]
    unfold kindF
    rw [if_pos rfl]
    simp only
    rw [if_neg (fun hc => h2 (an.1 hc))]
/-- The text of a schema that may be, each line's end made more, reads as that schema in order. -/
theorem parse_print {s : ScS} (h : OkS s) {sep : List UInt8} (hs : ∃ a r, sep = a :: r ∧ blankB a = true) (hb : Blanks sep) {t : ByteArray} (ht : t.data.toList = expL sep (printL s)) (hl : t.size ≤ 16384) : parseA t = (canonS s, 0, 0) := by
  have hp : Prt (canonS s) := prt_ok ((ok_canon s).2 h)
  obtain ⟨ts, h1, h2⟩ := (made_text hp).txt hs hb 0
  unfold parseA
  rw [tokA_ok hl (by rw [ht]; exact h1)]
  simp only [ne_eq, not_true_eq_false, if_false]
  rw [show ts.map Tk.bytes = _ from h2, text_back hp]
  simp only
  rw [kind_raw hp]
theorem parse_back {s : ScS} (h : OkS s) (hl : (printB s).size ≤ 16384) : parseA (printB s) = (canonS s, 0, 0) :=
  parse_print h ⟨10, [], rfl, rfl⟩ blanks_1 (by rw [expL_same]; rfl) hl
theorem read_back {s : ScS} (h : OkS s) (hl : (printB s).size ≤ 16384) : parseA (printB s) = (canonS s, 0, 0) ∧ checkA (canonS s) = 0 := ⟨parse_back h hl, (check_canon s).2 ((checkA_ok s).2 h)⟩
end Go.Proofs.YtkfhlgajeejgeaaGreatDoor
