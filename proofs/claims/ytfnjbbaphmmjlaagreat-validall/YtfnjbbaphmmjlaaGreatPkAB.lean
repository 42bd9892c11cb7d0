/- Part 2 of what the proof stands on. -/
import Derived.Test.YtfnjbbaphmmjlaaGreatPkAA
import Derived.DeepKeys4
namespace Go.Proofs.YtfnjbbaphmmjlaaGreat
set_option linter.unusedVariables false
set_option linter.unusedSimpArgs false
section
open Go.RowKit
set_option maxRecDepth 20000
def allL : Nat → List UInt8 → Option (List Nat)
 | 0,l => if l.isEmpty then some [] else none
 | f + 1,l => if l.isEmpty then some [] else
  match nxL l with
  | none => none
  | some x => (allL f (l.drop x.2)).map (x.1 :: ·)
def runesOf (l : List UInt8) : Option (List Nat) := allL l.length l
theorem allL_fuel (f : Nat) : ∀ (g : Nat) (l : List UInt8),l.length ≤ f → l.length ≤ g → allL f l = allL g l := by
 induction f with
 | zero =>
  intro g l h _
  have : l = [] := List.length_eq_zero_iff.1 (by omega)
  subst this
  cases g <;> simp [allL]
 | succ f ih =>
  intro g l hf hg
  match l,g with
  | [],0 => simp [allL]
  | [],g + 1 => simp [allL]
  | a :: r,0 => simp at hg
  | a :: r,g + 1 =>
   simp only [allL]
   cases e : nxL (a :: r) with
   | none => simp
   | some x =>
    obtain ⟨c,k⟩ := x
    obtain ⟨_,_,_,h4,h5,_⟩ := nxL_some _ _ _ e
    have hd : ((a :: r).drop k).length ≤ f := by simp at hf h5 ⊢; omega
    have hd2 : ((a :: r).drop k).length ≤ g := by simp at hg h5 ⊢; omega
    simp [ih g ((a :: r).drop k) hd hd2]
theorem runesOf_nil : runesOf [] = some [] := rfl
theorem runesOf_bad {l : List UInt8} (hl : l ≠ []) (h : nxL l = none) : runesOf l = none := by
 match l with
 | [] => exact absurd rfl hl
 | a :: r => simp [runesOf,allL,h]
theorem runesOf_step {l : List UInt8} {c k : Nat} (h : nxL l = some (c,k)) : runesOf l = (runesOf (l.drop k)).map (c :: ·) := by
 match l with
 | [] => simp [nxL] at h
 | a :: r =>
  obtain ⟨_,_,_,h4,h5,_⟩ := nxL_some _ _ _ h
  simp only [runesOf,List.length_cons,allL,h]
  have e := allL_fuel r.length ((a :: r).drop k).length ((a :: r).drop k) (by simp; omega) (Nat.le_refl _)
  rw [if_neg (by simp)]
  simp only [e]
theorem runesOf_le (f : Nat) : ∀ l : List UInt8,l.length ≤ f → ∀ rs,runesOf l = some rs → rs.length ≤ l.length := by
 induction f with
 | zero =>
  intro l hl rs h
  have : l = [] := List.length_eq_zero_iff.1 (by omega)
  subst this
  rw [runesOf_nil] at h
  simp at h; subst h; simp
 | succ f ih =>
  intro l hl rs h
  match l with
  | [] => rw [runesOf_nil] at h; simp at h; subst h; simp
  | a :: r =>
   cases e : nxL (a :: r) with
   | none => rw [runesOf_bad (by simp) e] at h; cases h
   | some x =>
    obtain ⟨c,k⟩ := x
    obtain ⟨_,_,_,h4,h5,_⟩ := nxL_some _ _ _ e
    rw [runesOf_step e] at h
    cases e2 : runesOf ((a :: r).drop k) with
    | none => rw [e2] at h; cases h
    | some rs' =>
     rw [e2] at h
     simp at h; subst h
     have := ih _ (by simp at hl h5 ⊢; omega) _ e2
     simp at this h5 ⊢; omega
def validB (l : List UInt8) : Bool := (runesOf l).isSome
def countN (l : List UInt8) : Nat := ((runesOf l).getD []).length
theorem countN_le (l : List UInt8) : countN l ≤ l.length := by
 unfold countN
 cases e : runesOf l with
 | none => simp
 | some rs => simpa using runesOf_le l.length l (Nat.le_refl _) rs e
def okFrom : Bool → List Nat → Bool
 | _,[] => true
 | b,c :: r => (letB c || (!b && digB c)) && okFrom false r
theorem okFrom_append (acc rest : List Nat) : ∀ b,okFrom b (acc ++ rest) = (okFrom b acc && okFrom (b && acc.isEmpty) rest) := by
 induction acc with
 | nil => intro b; simp [okFrom]
 | cons a r ih => intro b; simp [okFrom,ih,Bool.and_assoc]
def nameB (s : ByteArray) : Bool := decide (1 ≤ countN s.data.toList ∧ countN s.data.toList ≤ 20) && !keyB s && okFrom true ((runesOf s.data.toList).getD [])
def Gone (l : List UInt8) (pos : Nat) (acc : List Nat) : Prop := runesOf l = (runesOf (l.drop pos)).map (acc ++ ·)
theorem Gone.start (l : List UInt8) : Gone l 0 [] := by
 unfold Gone; simp
theorem Gone.step {l : List UInt8} {pos c k : Nat} {acc : List Nat} (h : Gone l pos acc) (hn : nxL (l.drop pos) = some (c,k)) : Gone l (pos + k) (acc ++ [c]) := by
 unfold Gone at h ⊢
 rw [h,runesOf_step hn,List.drop_drop]
 cases runesOf (l.drop (pos + k)) <;> simp
theorem Gone.bad {l : List UInt8} {pos : Nat} {acc : List Nat} (h : Gone l pos acc) (hp : pos < l.length) (hn : nxL (l.drop pos) = none) : runesOf l = none := by
 unfold Gone at h
 rw [h,runesOf_bad _ hn]; rfl
 intro e
 have : (l.drop pos).length = 0 := by rw [e]; rfl
 simp at this; omega
theorem Gone.done {l : List UInt8} {pos : Nat} {acc : List Nat} (h : Gone l pos acc) (hp : l.length ≤ pos) : runesOf l = some acc := by
 unfold Gone at h
 rw [h,List.drop_eq_nil_of_le hp,runesOf_nil]; simp
theorem Gone.len {l : List UInt8} {pos : Nat} {acc rs : List Nat} (h : Gone l pos acc) (hr : runesOf l = some rs) : ∃ rest,rs = acc ++ rest := by
 unfold Gone at h
 rw [hr] at h
 cases e : runesOf (l.drop pos) with
 | none => rw [e] at h; cases h
 | some r => rw [e] at h; simp at h; exact ⟨r,h⟩
theorem dec_at (s : ByteArray) (pos : Nat) (h : pos < s.size) : ∃ c k,Utf8.decode s pos = (c,k) ∧
  (standsB (s.data.toList.drop pos) c = true → nxL (s.data.toList.drop pos) = some (c,k)) ∧ (standsB (s.data.toList.drop pos) c = false → nxL (s.data.toList.drop pos) = none) := by
 have hl : s.data.toList.drop pos ≠ [] := by rw [drop_cons s pos h]; exact List.cons_ne_nil _ _
 have hd := decode_drop s pos (by omega)
 rw [hd]
 generalize e : Utf8.decode ⟨(s.data.toList.drop pos).toArray⟩ 0 = d
 obtain ⟨c,k⟩ := d
 exact ⟨c,k,rfl,nx_stands hl e⟩
theorem len_data (s : ByteArray) : s.data.toList.length = s.size := by rw [Array.length_toList]; rfl
theorem nx_of_gone {l : List UInt8} {pos : Nat} {acc rs : List Nat} (h : Gone l pos acc) (hp : pos < l.length) (hr : runesOf l = some rs) : ∃ x,nxL (l.drop pos) = some x := by
 cases e : nxL (l.drop pos) with
 | none => rw [h.bad hp e] at hr; cases hr
 | some x => exact ⟨x,rfl⟩
theorem dec_of_nx {l : List UInt8} {c k : Nat} {x : Nat × Nat} (h1 : standsB l c = true → nxL l = some (c,k)) (h2 : standsB l c = false → nxL l = none) (h : nxL l = some x) : nxL l = some (c,k) := by
 cases e : standsB l c with
 | true => exact h1 e
 | false => rw [h2 e] at h; cases h
def memB (x : ByteArray) (l : List ByteArray) : Bool := l.any fun y => decide (x = y)
theorem memB_iff {x : ByteArray} {l : List ByteArray} : memB x l = true ↔ x ∈ l := by simp [memB]
theorem memB_no {x : ByteArray} {l : List ByteArray} : memB x l = false ↔ x ∉ l := by rw [← memB_iff]; simp
def memI (x : Int) (l : List Int) : Bool := decide (x ∈ l)
def freshB (x : ByteArray) (l : List ByteArray) : Bool := nameB x && !memB x l
def tagR (n : Int) : Bool := decide (1 ≤ n ∧ n ≤ 500)
def tagB (n : Int) (l : List Int) : Bool := tagR n && !memI n l
def numR (n : Int) : Bool := decide (0 ≤ n ∧ n ≤ 2147483647)
def numB (n : Int) (l : List Int) : Bool := numR n && !memI n l
def labB (n : Int) : Bool := decide (1 ≤ n ∧ n ≤ 3)
def typeB (mn en : List ByteArray) (k : Int) (t : ByteArray) : Bool :=
 (decide (1 ≤ k ∧ k ≤ 5) && decide (t = ⟨#[]⟩)) || (decide (k = 6) && memB t en) || (decide (k = 7) && memB t mn)
def orE (a b : Int) : Int := if a = 0 then b else a
def chkRes : List Int → List Int → Int
 | _,[] => 0
 | a,n :: l => if tagB n a = true then chkRes (a ++ [n]) l else 7
def chkFs (mn en : List ByteArray) : List ByteArray → List Int → List FlS → Int
 | _,_,[] => 0
 | a,t,f :: l => if freshB f.name a = false then 6 else if tagB f.tag t = false then 7 else if (labB f.label && typeB mn en f.kind f.tname) = false then 8 else chkFs mn en (a ++ [f.name]) (t ++ [f.tag]) l
def bigM (m : MsS) : Bool := decide (16 < m.fields.length ∨ 32 < m.reserved.length)
def chkMb (mn en : List ByteArray) (m : MsS) : Int := if bigM m = true then 4 else orE (chkRes [] m.reserved) (chkFs mn en [] m.reserved m.fields)
def chkMs (mn en : List ByteArray) : List ByteArray → List MsS → Int
 | _,[] => 0
 | a,m :: l => if freshB m.name a = false then 6 else orE (chkMb mn en m) (chkMs mn en (a ++ [m.name]) l)
def chkVs : List ByteArray → List Int → List NmS → Int
 | _,_,[] => 0
 | a,t,v :: l => if freshB v.name a = false then 6 else if numB v.n t = false then 11 else chkVs (a ++ [v.name]) (t ++ [v.n]) l
def zeroE (e : EnS) : Bool := e.values.any fun v => decide (v.n = 0)
def chkEb (e : EnS) : Int := if 16 < e.values.length then 4 else if zeroE e = false then 12 else chkVs [] [] e.values
def chkEs : List ByteArray → List EnS → Int
 | _,[] => 0
 | a,e :: l => if freshB e.name a = false then 6 else orE (chkEb e) (chkEs (a ++ [e.name]) l)
def chkTs (mn : List ByteArray) : List ByteArray → List MtS → Int
 | _,[] => 0
 | a,m :: l => if freshB m.name a = false then 6 else if (memB m.inn mn && memB m.out mn) = false then 8 else chkTs mn (a ++ [m.name]) l
def ScS.mn (s : ScS) : List ByteArray := s.msgs.map MsS.name
def ScS.en (s : ScS) : List ByteArray := s.enums.map EnS.name
def ScS.tn (s : ScS) : List ByteArray := s.methods.map MtS.name
def bigS (s : ScS) : Bool := decide (10 < s.msgs.length ∨ 6 < s.enums.length ∨ 6 < s.methods.length)
def wholeA (s : ScS) : Int := if nameB s.name = false then 6 else if s.msgs.length = 0 then 12 else if bigS s = true then 4 else 0
def partsA (s : ScS) : Int := orE (chkMs s.mn s.en [] s.msgs) (chkEs s.mn s.enums)
def checkA (s : ScS) : Int := orE (wholeA s) (orE (partsA s) (chkTs s.mn [] s.methods))
/-! Steps,for the loops -/
theorem drop_at {α : Type} {l : List α} {k : Nat} {x : α} (h : l[k]? = some x) : l.drop k = x :: l.drop (k + 1) := by
 obtain ⟨hk,rfl⟩ := List.getElem?_eq_some_iff.1 h
 exact List.drop_eq_getElem_cons hk
theorem drop_end {α : Type} {l : List α} {k : Nat} (h : l.length ≤ k) : l.drop k = [] := List.drop_eq_nil_of_le h
theorem orE_zero (b : Int) : orE 0 b = b := by simp [orE]
theorem orE_ne {a : Int} (h : a ≠ 0) (b : Int) : orE a b = a := by simp [orE,h]
theorem memB_nil (x : ByteArray) : memB x [] = false := by simp [memB]
theorem memI_snoc (x y : Int) (l : List Int) : memI x (l ++ [y]) = (memI x l || decide (x = y)) := by simp [memI,Bool.decide_or]
theorem memI_append (x : Int) (l m : List Int) : memI x (l ++ m) = (memI x l || memI x m) := by simp [memI,Bool.decide_or]
theorem bytes_eq_iff (a b : ByteArray) : a = b ↔ a.data.toList = b.data.toList :=
 ⟨fun h => by rw [h],fun h => by obtain ⟨⟨l⟩⟩ := a; obtain ⟨⟨m⟩⟩ := b; simp at h; subst h; rfl⟩
theorem beq_bytes (a b : ByteArray) : (a.data.toList == b.data.toList) = decide (a = b) := by
 rw [Bool.eq_iff_iff,beq_iff_eq,decide_eq_true_iff,bytes_eq_iff]
/-! When Check answers OK -/
theorem orE_ok {a b : Int} : orE a b = 0 ↔ a = 0 ∧ b = 0 := by unfold orE; split <;> omega
theorem freshB_iff {x : ByteArray} {l : List ByteArray} : freshB x l = true ↔ nameB x = true ∧ x ∉ l := by unfold freshB; rw [Bool.and_eq_true,Bool.not_eq_true',memB_no]
theorem tagB_iff {x : Int} {l : List Int} : tagB x l = true ↔ tagR x = true ∧ x ∉ l := by simp [tagB,memI]
theorem chkRes_ok : ∀ (l a : List Int),chkRes a l = 0 ↔ (∀ n ∈ l,tagR n = true ∧ n ∉ a) ∧ l.Nodup
 | [],a => by simp [chkRes]
 | n :: l,a => by
  unfold chkRes
  by_cases h : tagB n a = true
  ·rw [if_pos h,chkRes_ok l]
   rw [tagB_iff] at h
   simp only [List.mem_append,List.mem_singleton,not_or,List.forall_mem_cons,List.nodup_cons]
   constructor
   ·rintro ⟨h1,h2⟩
    exact ⟨⟨h,fun m hm => ⟨(h1 m hm).1,(h1 m hm).2.1⟩⟩,fun hn => (h1 n hn).2.2 rfl,h2⟩
   ·rintro ⟨⟨_,h1⟩,h2,h3⟩
    exact ⟨fun m hm => ⟨(h1 m hm).1,(h1 m hm).2,fun e => h2 (e ▸ hm)⟩,h3⟩
  ·rw [if_neg h]
   rw [tagB_iff] at h
   simp only [List.mem_cons,forall_eq_or_imp]
   constructor
   ·intro e; omega
   ·rintro ⟨⟨h1,_⟩,_⟩; exact absurd h1 h
def fieldOk (mn en : List ByteArray) (f : FlS) : Prop := nameB f.name = true ∧ tagR f.tag = true ∧ labB f.label = true ∧ typeB mn en f.kind f.tname = true
theorem chkFs_ok (mn en : List ByteArray) : ∀ (l : List FlS) (a : List ByteArray) (t : List Int),chkFs mn en a t l = 0 ↔ (∀ f ∈ l,fieldOk mn en f ∧ f.name ∉ a ∧ f.tag ∉ t) ∧ (l.map FlS.name).Nodup ∧ (l.map FlS.tag).Nodup
 | [],a,t => by simp [chkFs]
 | f :: l,a,t => by
  unfold chkFs
  simp only [List.mem_cons,forall_eq_or_imp,List.map_cons,List.nodup_cons,List.mem_map,not_exists,not_and]
  by_cases h1 : freshB f.name a = true
  ·rw [if_neg (by rw [h1]; decide)]
   by_cases h2 : tagB f.tag t = true
   ·rw [if_neg (by rw [h2]; decide)]
    by_cases h3 : (labB f.label && typeB mn en f.kind f.tname) = true
    ·rw [if_neg (by rw [h3]; decide),chkFs_ok mn en l]
     rw [freshB_iff] at h1
     rw [tagB_iff] at h2
     rw [Bool.and_eq_true] at h3
     simp only [List.mem_append,List.mem_singleton,not_or]
     constructor
     ·rintro ⟨g1,g2,g3⟩
      exact ⟨⟨⟨⟨h1.1,h2.1,h3.1,h3.2⟩,h1.2,h2.2⟩,fun m hm => ⟨(g1 m hm).1,(g1 m hm).2.1.1,(g1 m hm).2.2.1⟩⟩,⟨fun m hm => (g1 m hm).2.1.2,g2⟩,⟨fun m hm => (g1 m hm).2.2.2,g3⟩⟩
     ·rintro ⟨⟨_,g1⟩,⟨g2,g3⟩,⟨g4,g5⟩⟩
      exact ⟨fun m hm => ⟨(g1 m hm).1,⟨(g1 m hm).2.1,g2 m hm⟩,⟨(g1 m hm).2.2,g4 m hm⟩⟩,g3,g5⟩
    ·rw [if_pos (by simpa using h3)]
     constructor
     ·intro e; omega
     ·rintro ⟨⟨⟨⟨_,_,g1,g2⟩,_⟩,_⟩,_⟩; rw [g1,g2] at h3; exact absurd rfl h3
   ·rw [if_pos (by simpa using h2)]
    constructor
    ·intro e; omega
    ·rintro ⟨⟨⟨⟨_,g1,_⟩,_,g2⟩,_⟩,_⟩; exact absurd (tagB_iff.2 ⟨g1,g2⟩) h2
  ·rw [if_pos (by simpa using h1)]
   constructor
   ·intro e; omega
   ·rintro ⟨⟨⟨⟨g1,_⟩,g2,_⟩,_⟩,_⟩; exact absurd (freshB_iff.2 ⟨g1,g2⟩) h1
def msgOk (mn en : List ByteArray) (m : MsS) : Prop := bigM m = false ∧ (∀ n ∈ m.reserved,tagR n = true) ∧ m.reserved.Nodup ∧ (∀ f ∈ m.fields,fieldOk mn en f ∧ f.tag ∉ m.reserved) ∧ (m.fields.map FlS.name).Nodup ∧ (m.fields.map FlS.tag).Nodup
theorem chkMb_ok (mn en : List ByteArray) (m : MsS) : chkMb mn en m = 0 ↔ msgOk mn en m := by
 unfold chkMb msgOk
 cases h : bigM m
 ·rw [if_neg (by decide),orE_ok,chkRes_ok,chkFs_ok]
  simp only [List.not_mem_nil,not_false_eq_true,and_true,true_and]
  constructor
  ·rintro ⟨⟨h1,h2⟩,h3,h4,h5⟩; exact ⟨h1,h2,h3,h4,h5⟩
  ·rintro ⟨h1,h2,h3,h4,h5⟩; exact ⟨⟨h1,h2⟩,h3,h4,h5⟩
 ·rw [if_pos rfl]; constructor
  ·intro e; omega
  ·rintro ⟨e,_⟩; cases e
theorem chkMs_ok (mn en : List ByteArray) : ∀ (l : List MsS) (a : List ByteArray),chkMs mn en a l = 0 ↔ (∀ m ∈ l,nameB m.name = true ∧ m.name ∉ a ∧ msgOk mn en m) ∧ (l.map MsS.name).Nodup
 | [],a => by simp [chkMs]
 | m :: l,a => by
  unfold chkMs
  simp only [List.mem_cons,forall_eq_or_imp,List.map_cons,List.nodup_cons,List.mem_map,not_exists,not_and]
  by_cases h1 : freshB m.name a = true
  ·rw [if_neg (by rw [h1]; decide),orE_ok,chkMs_ok mn en l,chkMb_ok]
   rw [freshB_iff] at h1
   simp only [List.mem_append,List.mem_singleton,not_or]
   constructor
   ·rintro ⟨g0,g1,g2⟩
    exact ⟨⟨⟨h1.1,h1.2,g0⟩,fun x hx => ⟨(g1 x hx).1,(g1 x hx).2.1.1,(g1 x hx).2.2⟩⟩,fun x hx => (g1 x hx).2.1.2,g2⟩
   ·rintro ⟨⟨⟨_,_,g0⟩,g1⟩,g2,g3⟩
    exact ⟨g0,fun x hx => ⟨(g1 x hx).1,⟨(g1 x hx).2.1,g2 x hx⟩,(g1 x hx).2.2⟩,g3⟩
  ·rw [if_pos (by simpa using h1)]
   constructor
   ·intro e; omega
   ·rintro ⟨⟨⟨g1,g2,_⟩,_⟩,_⟩; exact absurd (freshB_iff.2 ⟨g1,g2⟩) h1
theorem chkEs_ok : ∀ (l : List EnS) (a : List ByteArray),chkEs a l = 0 ↔ (∀ e ∈ l,nameB e.name = true ∧ e.name ∉ a ∧ chkEb e = 0) ∧ (l.map EnS.name).Nodup
 | [],a => by simp [chkEs]
 | m :: l,a => by
  unfold chkEs
  simp only [List.mem_cons,forall_eq_or_imp,List.map_cons,List.nodup_cons,List.mem_map,not_exists,not_and]
  by_cases h1 : freshB m.name a = true
  ·rw [if_neg (by rw [h1]; decide),orE_ok,chkEs_ok l]
   rw [freshB_iff] at h1
   simp only [List.mem_append,List.mem_singleton,not_or]
   constructor
   ·rintro ⟨g0,g1,g2⟩
    exact ⟨⟨⟨h1.1,h1.2,g0⟩,fun x hx => ⟨(g1 x hx).1,(g1 x hx).2.1.1,(g1 x hx).2.2⟩⟩,fun x hx => (g1 x hx).2.1.2,g2⟩
   ·rintro ⟨⟨⟨_,_,g0⟩,g1⟩,g2,g3⟩
    exact ⟨g0,fun x hx => ⟨(g1 x hx).1,⟨(g1 x hx).2.1,g2 x hx⟩,(g1 x hx).2.2⟩,g3⟩
  ·rw [if_pos (by simpa using h1)]
   constructor
   ·intro e; omega
   ·rintro ⟨⟨⟨g1,g2,_⟩,_⟩,_⟩; exact absurd (freshB_iff.2 ⟨g1,g2⟩) h1
theorem chkTs_ok (mn : List ByteArray) : ∀ (l : List MtS) (a : List ByteArray),chkTs mn a l = 0 ↔ (∀ e ∈ l,nameB e.name = true ∧ e.name ∉ a ∧ e.inn ∈ mn ∧ e.out ∈ mn) ∧ (l.map MtS.name).Nodup
 | [],a => by simp [chkTs]
 | m :: l,a => by
  unfold chkTs
  simp only [List.mem_cons,forall_eq_or_imp,List.map_cons,List.nodup_cons,List.mem_map,not_exists,not_and]
  by_cases h1 : freshB m.name a = true
  ·rw [if_neg (by rw [h1]; decide)]
   by_cases h2 : (memB m.inn mn && memB m.out mn) = true
   ·rw [if_neg (by rw [h2]; decide),chkTs_ok mn l]
    rw [freshB_iff] at h1
    have h2' : m.inn ∈ mn ∧ m.out ∈ mn := by rw [Bool.and_eq_true,memB_iff,memB_iff] at h2; exact h2
    simp only [List.mem_append,List.mem_singleton,not_or]
    constructor
    ·rintro ⟨g1,g2⟩
     exact ⟨⟨⟨h1.1,h1.2,h2'⟩,fun x hx => ⟨(g1 x hx).1,(g1 x hx).2.1.1,(g1 x hx).2.2⟩⟩,fun x hx => (g1 x hx).2.1.2,g2⟩
    ·rintro ⟨⟨_,g1⟩,g2,g3⟩
     exact ⟨fun x hx => ⟨(g1 x hx).1,⟨(g1 x hx).2.1,g2 x hx⟩,(g1 x hx).2.2⟩,g3⟩
   ·rw [if_pos (by simpa using h2)]
    constructor
    ·intro e; omega
    ·rintro ⟨⟨⟨_,_,g1,g2⟩,_⟩,_⟩
     exact absurd (by rw [Bool.and_eq_true,memB_iff,memB_iff]; exact ⟨g1,g2⟩) h2
  ·rw [if_pos (by simpa using h1)]
   constructor
   ·intro e; omega
   ·rintro ⟨⟨⟨g1,g2,_⟩,_⟩,_⟩; exact absurd (freshB_iff.2 ⟨g1,g2⟩) h1
structure OkS (s : ScS) : Prop where
 name : nameB s.name = true
 some : 0 < s.msgs.length
 big : bigS s = false
 msgs : ∀ m ∈ s.msgs,nameB m.name = true ∧ msgOk s.mn s.en m
 enums : ∀ e ∈ s.enums,nameB e.name = true ∧ chkEb e = 0
 meths : ∀ t ∈ s.methods,nameB t.name = true ∧ t.inn ∈ s.mn ∧ t.out ∈ s.mn
 names : s.mn.Nodup
 enms : s.en.Nodup
 apart : ∀ x ∈ s.en,x ∉ s.mn
 tns : s.tn.Nodup
theorem wholeA_ok (s : ScS) : wholeA s = 0 ↔ nameB s.name = true ∧ 0 < s.msgs.length ∧ bigS s = false := by
 unfold wholeA
 cases h1 : nameB s.name
 ·simp
 ·by_cases h2 : s.msgs.length = 0
  ·rw [if_neg (by decide),if_pos h2]; simp [h2]
  ·rw [if_neg (by decide),if_neg h2]
   cases h3 : bigS s
   ·simp; omega
   ·simp
theorem checkA_ok (s : ScS) : checkA s = 0 ↔ OkS s := by
 unfold checkA partsA
 rw [orE_ok,orE_ok,orE_ok,wholeA_ok,chkMs_ok,chkEs_ok,chkTs_ok]
 constructor
 ·rintro ⟨⟨h1,h2,h3⟩,⟨⟨h4,h5⟩,h6,h7⟩,h8,h9⟩
  exact ⟨h1,h2,h3,fun m hm => ⟨(h4 m hm).1,(h4 m hm).2.2⟩,fun e he => ⟨(h6 e he).1,(h6 e he).2.2⟩,fun t ht => ⟨(h8 t ht).1,(h8 t ht).2.2⟩,h5,h7,
   fun x hx => by obtain ⟨e,he,rfl⟩ := List.mem_map.1 hx; exact (h6 e he).2.1,h9⟩
 ·rintro ⟨h1,h2,h3,h4,h5,h6,h7,h8,h9,h10⟩
  exact ⟨⟨h1,h2,h3⟩,⟨⟨fun m hm => ⟨(h4 m hm).1,by simp,(h4 m hm).2⟩,h7⟩,fun e he => ⟨(h5 e he).1,h9 _ (List.mem_map_of_mem he),(h5 e he).2⟩,h8⟩,fun t ht => ⟨(h6 t ht).1,by simp,(h6 t ht).2⟩,h10⟩
end
section
def DpN : Nat → Tr → Prop
 | 0,_ => False
 | n + 1,t => ∀ e ∈ t.es,∀ x ∈ e.2,DpN n x
def nmrB (k n : Int) : Bool :=
 if k = 3 then decide (0 ≤ n) && decide (n ≤ 1) else if k = 6 then decide (0 ≤ n) && decide (n ≤ 2147483647)
 else if k = 1 then decide (-2147483648 ≤ n) && decide (n ≤ 2147483647) else decide (k = 2)
def kindT (k : Int) : Int := if k = 1 ∨ k = 2 ∨ k = 3 ∨ k = 6 then 1 else if k = 4 ∨ k = 5 then 2 else if k = 7 then 3 else 0
def zroB (t : Tr) : Bool := decide (t.kind = 1 ∨ t.kind = 2 ∨ t.kind = 3) && decide (t.n = 0) && decide (t.s.size = 0) && decide (t.es.length = 0) && decide (t.rest.length = 0)
def errF : List Int → Int
 | [] => 0
 | a :: l => if a = 0 then errF l else a
def fldOf (fs : List FlS) (tag : Int) : Option FlS := fs.find? fun f => decide (f.tag = tag)
def msgOf (s : ScS) (nm : ByteArray) : Option MsS := s.msgs.find? fun m => decide (m.name = nm)
def zMs : MsS := ⟨⟨#[]⟩,[],[]⟩
def treeV (M : ByteArray → Tr → Int) (k : Int) (tn : ByteArray) (t : Tr) : Int :=
 if t.kind ≠ kindT k then 8 else if t.kind = 1 ∧ nmrB k t.n = false then 11 else if k = 4 ∧ validB t.s.data.toList = false then 9 else if t.kind = 3 then M tn t else 0
def oneV (M : ByteArray → Tr → Int) (f : FlS) (t : Tr) : Int :=
 if treeV M f.kind f.tname t ≠ 0 then treeV M f.kind f.tname t else if f.label = 1 ∧ zroB t = true then 12 else 0
def entV (M : ByteArray → Tr → Int) (fs : List FlS) (e : Int × List Tr) : Int :=
 match fldOf fs e.1 with
 | none => 7
 | some f => if f.label ≠ 3 ∧ 1 < e.2.length then 4 else errF (e.2.map (oneV M f))
def msgV : Nat → ScS → ByteArray → Tr → Int
 | 0,_,_,_ => 0
 | n + 1,s,nm,t =>
  if errF (t.es.map (entV (msgV n s) ((msgOf s nm).getD zMs).fields)) ≠ 0 then errF (t.es.map (entV (msgV n s) ((msgOf s nm).getD zMs).fields))
  else if (t.rest.any fun f => (fldOf ((msgOf s nm).getD zMs).fields f.tag).isSome) = true then 7 else 0
def validA (n : Nat) (s : ScS) (nm : ByteArray) (t : Tr) : Int :=
 if checkA s ≠ 0 then 1 else if (msgOf s nm).isSome = false then 14 else if chkN n t = false ∨ t.kind ≠ 3 then 1 else msgV n s nm t
theorem errF_congr {α : Type} {f g : α → Int} {l : List α} (h : ∀ x ∈ l,f x = g x) : errF (l.map f) = errF (l.map g) := by
 rw [List.map_congr_left h]
theorem treeV_congr {M M' : ByteArray → Tr → Int} {k : Int} {tn : ByteArray} {t : Tr} (h : M tn t = M' tn t) : treeV M k tn t = treeV M' k tn t := by
 unfold treeV; rw [h]
theorem oneV_congr {M M' : ByteArray → Tr → Int} {f : FlS} {t : Tr} (h : M f.tname t = M' f.tname t) : oneV M f t = oneV M' f t := by
 unfold oneV; rw [treeV_congr h]
theorem entV_congr {M M' : ByteArray → Tr → Int} {fs : List FlS} {e : Int × List Tr} (h : ∀ x ∈ e.2,∀ nm,M nm x = M' nm x) : entV M fs e = entV M' fs e := by
 unfold entV
 split
 ·rfl
 ·rename_i f _
  rw [errF_congr (g := oneV M' f) fun x hx => oneV_congr (h x hx _)]
theorem msgV_more : ∀ (n m : Nat) (s : ScS) (nm : ByteArray) (t : Tr),DpN n t → DpN m t → msgV n s nm t = msgV m s nm t
 | 0,_,_,_,_,h,_ => h.elim
 | _ + 1,0,_,_,_,_,h => h.elim
 | n + 1,m + 1,s,nm,t,h,k => by
  have : errF (t.es.map (entV (msgV n s) ((msgOf s nm).getD zMs).fields)) = errF (t.es.map (entV (msgV m s) ((msgOf s nm).getD zMs).fields)) :=
   errF_congr fun e he => entV_congr fun x hx nm' => msgV_more n m s nm' x (h e he x hx) (k e he x hx)
  simp only [msgV,this]
theorem errF_step {l : List Int} {a : Int} : errF (l ++ [a]) = if errF l ≠ 0 then errF l else a := by
 induction l with
 | nil =>
  by_cases h : a = 0
  ·simp [errF,h]
  ·simp [errF,h]
 | cons b l ih =>
  by_cases h : b = 0
  ·simp [errF,h,ih]
  ·simp [errF,h]
theorem errF_hit {α : Type} {f : α → Int} {l : List α} {i : Nat} {x : α} (h : l[i]? = some x) (h0 : errF ((l.take i).map f) = 0) (hx : f x ≠ 0) : errF (l.map f) = f x := by
 obtain ⟨hl,rfl⟩ := List.getElem?_eq_some_iff.1 h
 have h1 : l = l.take i ++ (l[i] :: l.drop (i + 1)) := by rw [← List.drop_eq_getElem_cons hl,List.take_append_drop]
 have h2 : ∀ (a b : List Int),errF a = 0 → errF (a ++ b) = errF b := fun a b => by
  induction a with
  | nil => intro _; rfl
  | cons c a ih =>
   intro hc
   by_cases hz : c = 0
   ·simp only [errF,hz,if_true,List.cons_append] at hc ⊢; exact ih hc
   ·simp only [errF,if_neg hz] at hc; exact absurd hc hz
 have h3 : l.map f = (l.take i).map f ++ (f l[i] :: (l.drop (i + 1)).map f) := by
  conv => lhs; rw [h1]
  rw [List.map_append,List.map_cons]
 rw [h3,h2 _ _ h0,errF,if_neg hx]
theorem errF_on {α : Type} {f : α → Int} {l : List α} {i : Nat} {x : α} (h : l[i]? = some x) (h0 : errF ((l.take i).map f) = 0) (hx : f x = 0) : errF ((l.take (i + 1)).map f) = 0 := by
 obtain ⟨hl,rfl⟩ := List.getElem?_eq_some_iff.1 h
 rw [List.take_succ_eq_append_getElem hl,List.map_append,List.map_cons,List.map_nil,errF_step,h0]
 simp [hx]
end
section
open Go.ChangeShapes Go.WideShapes Go.ChangeAt Go.RowKit
set_option maxRecDepth 20000
def Cel (w w' : World) : Prop := ∀ (k : Nat) (cs : Array Value) (t : TypeId) (fz : Nat × Nat),w.heap[k]? = some (Obj.cells cs t fz) → w'.heap[k]? = some (Obj.cells cs t fz)
theorem Cel.refl (w : World) : Cel w w := fun _ _ _ _ h => h
theorem Cel.trans {a b c : World} (h : Cel a b) (k : Cel b c) : Cel a c := fun i cs t fz e => k i cs t fz (h i cs t fz e)
theorem Cel.ofBelow {w w' : World} (h : Below w.heap.size w w') : Cel w w' := fun k cs t fz e => (h.block k (Array.getElem?_eq_some_iff.1 e).1).trans e
theorem Cel.ofKp {S : Nat → Prop} {w w' : World} (h : Kp S w w') (hs : ∀ k cs t fz,w.heap[k]? = some (.cells cs t fz) → ¬ S k) : Cel w w' := fun k cs t fz e => (h.block k (Array.getElem?_eq_some_iff.1 e).1 (hs k cs t fz e)).trans e
theorem Cel.cell {w w' : World} (h : Cel w w') {p : Addr} {u : Value} (hc : w.cell? p = some u) : w'.cell? p = some u := by
 cases hb : w.heap[p.block]? with
 | none => simp [World.cell?,hb] at hc
 | some o =>
  cases o with
  | cells cs t fz =>
   have := h _ _ _ _ hb
   simp only [World.cell?,hb] at hc
   simp only [World.cell?,this]
   exact hc
  | _ => simp [World.cell?,hb] at hc
theorem RowG.cel {w w1 : World} {v : Value} {size : Nat} {rs : List (List Value)} (h : RowG w v size rs) (hb : Cel w w1) : RowG w1 v size rs := by
 obtain ⟨a,cap,h1,h2,h3,h0,h4⟩ := h.form
 refine ⟨a,cap,h1,h2,h3,h0,fun hne => ?_⟩
 obtain ⟨g,off,h5,h6⟩ := h4 hne
 exact ⟨g,off,h5,fun i c u j hc hu => hb.cell (h6 i c u j hc hu)⟩
theorem RowP.cel {α : Type} {P Q : List Value → α → Prop} {w w1 : World} {size : Nat} {v : Value} {xs : List α} (h : RowP P w size v xs) (hb : Cel w w1) (hp : ∀ r x,x ∈ xs → P r x → Q r x) : RowP Q w1 size v xs := by
 obtain ⟨rows,h1,h2,h3⟩ := h
 refine ⟨rows,h1.cel hb,h2,fun i x hx => ?_⟩
 obtain ⟨r,g1,g2⟩ := h3 i x hx
 exact ⟨r,g1,hp r x (List.mem_of_getElem? hx) g2⟩
theorem PlnV.cel {w w1 : World} {v : Value} (h : PlnV w v) (hb : Cel w w1) : PlnV w1 v := fun g off n cap e hn => by
 obtain ⟨cs,ty,h1⟩ := h g off n cap e hn
 exact ⟨cs,ty,hb _ _ _ _ h1⟩
theorem Blk.cel {w w' : World} {b : Nat} {cs : Array Value} {t : TypeId} (h : Blk w b cs t) (hb : Cel w w') : Blk w' b cs t := hb _ _ _ _ h
def TrR : Nat → World → List Value → Tr → Prop
 | 0,_,_,_ => False
 | n + 1,w,r,t => ∃ ve vr,r = [.int .i64 t.kind,.int .i64 t.n,.string t.s,ve,vr] ∧ Is64 t.kind ∧ Is64 t.n ∧ t.s.size ≤ 140737488351232 ∧ Fd64 t.rest ∧ RowG w vr 4 (fdRows t.rest) ∧ RowP (EnC (TrR n w) w) w 2 ve t.es ∧ PlnV w ve ∧ PlnV w vr
abbrev TrsR (n : Nat) (w : World) (v : Value) (ts : List Tr) : Prop := RowP (TrR n w) w 5 v ts
abbrev EnsR (n : Nat) (w : World) (v : Value) (es : List (Int × List Tr)) : Prop := RowP (EnC (TrR n w) w) w 2 v es
theorem TrR.cel : ∀ {n : Nat} {w w1 : World} {r : List Value} {t : Tr},TrR n w r t → Cel w w1 → TrR n w1 r t
 | 0,_,_,_,_,h,_ => h
 | n + 1,w,w1,r,t,h,hb => by
  obtain ⟨ve,vr,h1,h2,h3,h4,h5,h6,h7,h8,h9⟩ := h
  refine ⟨ve,vr,h1,h2,h3,h4,h5,h6.cel hb,h7.cel hb fun r x hx hp => ?_,h8.cel hb,h9.cel hb⟩
  obtain ⟨vt,g1,g2,g3⟩ := hp
  exact ⟨vt,g1,g2,RowP.cel g3 hb fun r x hx hp => hp.cel hb⟩
theorem RowP.celT {n : Nat} {w w1 : World} {v : Value} {ts : List Tr} (h : TrsR n w v ts) (hb : Cel w w1) : TrsR n w1 v ts := RowP.cel h hb fun _ _ _ hp => hp.cel hb
theorem RowP.celE {n : Nat} {w w1 : World} {v : Value} {es : List (Int × List Tr)} (h : EnsR n w v es) (hb : Cel w w1) : EnsR n w1 v es :=
 RowP.cel h hb fun _ _ _ hp => by
  obtain ⟨vt,g1,g2,g3⟩ := hp
  exact ⟨vt,g1,g2,g3.celT hb⟩
theorem TrR.trQ : ∀ {n : Nat} {w : World} {r : List Value} {t : Tr},TrR n w r t → TrQ n w r t
 | 0,_,_,_,h => h
 | n + 1,w,r,t,h => by
  obtain ⟨ve,vr,h1,h2,h3,h4,h5,h6,h7,h8,h9⟩ := h
  refine ⟨ve,vr,h1,h2,h3,h4,h5,h6,h7.imp fun r x hx hp => ?_,h8⟩
  obtain ⟨vt,g1,g2,g3⟩ := hp
  exact ⟨vt,g1,g2,g3.imp fun r x hx hp => hp.trQ⟩
theorem TrO.trR : ∀ {n B : Nat} {w : World} {r : List Value} {t : Tr} {bs : List Nat},TrO n B w r t bs → TrR n w r t
 | 0,_,_,_,_,_,h => h
 | n + 1,B,w,r,t,bs,h => by
  obtain ⟨ve,vr,rows,bss,h1,h2,h3,h4,h5,h6,h7,rfl⟩ := h
  refine ⟨ve,vr,h1,h2,h3,h4,h5,own_rest h6,h7.rowP (by decide) (fun r x b hx hp => ?_),own_pln h7.own,own_pln h6⟩
  obtain ⟨vt,rows',bss',g1,g2,g3,rfl⟩ := hp
  exact ⟨vt,g1,g2,g3.rowP (by decide) fun r x b hx hp => hp.trR⟩
theorem RowP.all {α : Type} {P : List Value → α → Prop} {w : World} {size : Nat} {v : Value} {xs : List α} (h : RowP P w size v xs) : ∀ x ∈ xs,∃ r,P r x := fun x hx => by
 obtain ⟨rows,h1,h2,h3⟩ := h
 obtain ⟨i,hi,e⟩ := List.getElem_of_mem hx
 obtain ⟨r,_,g2⟩ := h3 i x (by rw [List.getElem?_eq_getElem hi,e])
 exact ⟨r,g2⟩
theorem TrR.dp : ∀ {n : Nat} {w : World} {r : List Value} {t : Tr},TrR n w r t → DpN n t
 | 0,_,_,_,h => h
 | n + 1,w,r,t,h => by
  obtain ⟨ve,vr,h1,h2,h3,h4,h5,h6,h7,h8,h9⟩ := h
  intro e he x hx
  obtain ⟨r',vt,_,_,g3⟩ := h7.all e he
  obtain ⟨r'',hp⟩ := RowP.all g3 x hx
  exact hp.dp
def TrW (n : Nat) (w : World) (v : Value) (t : Tr) : Prop := ∃ r,v = .agg r.toArray ∧ TrR n w r t
theorem TrW.cel {n : Nat} {w w1 : World} {v : Value} {t : Tr} (h : TrW n w v t) (hb : Cel w w1) : TrW n w1 v t := by
 obtain ⟨r,h1,h2⟩ := h
 exact ⟨r,h1,h2.cel hb⟩
theorem TrV.trW {n B : Nat} {w : World} {v : Value} {t : Tr} {bs : List Nat} (h : TrV n B w v t bs) : TrW n w v t := by
 obtain ⟨r,h1,h2,_⟩ := h
 exact ⟨r,h1,h2.trR⟩
theorem TrW.open {n : Nat} {w : World} {v : Value} {t : Tr} (h : TrW n w v t) : ∃ m a1 c1 a2 c2,n = m + 1 ∧ v = .agg #[.int .i64 t.kind,.int .i64 t.n,.string t.s,.slice a1 t.es.length c1,.slice a2 t.rest.length c2] ∧ Is64 t.kind ∧ Is64 t.n ∧ t.s.size ≤ 140737488351232 ∧ t.es.length ≤ c1 ∧ c1 ≤ maxLen ∧ t.rest.length ≤ c2 ∧ c2 ≤ maxLen ∧
  (t.es.length = 0 ∨ ∃ g off,a1 = some ⟨g,off,none⟩) ∧ (t.rest.length = 0 ∨ ∃ g off,a2 = some ⟨g,off,none⟩) ∧ RowG w (.slice a2 t.rest.length c2) 4 (fdRows t.rest) ∧ EnsR m w (.slice a1 t.es.length c1) t.es ∧ PlnV w (.slice a1 t.es.length c1) ∧ PlnV w (.slice a2 t.rest.length c2) := by
 obtain ⟨r,rfl,h⟩ := h
 cases n with
 | zero => exact h.elim
 | succ m =>
  obtain ⟨ve,vr,rfl,h2,h3,h4,h5,h6,h7,h8,h9⟩ := h
  obtain ⟨a1,c1,rfl,u1,u2,u3, -⟩ := RowP.open h7
  obtain ⟨a2,c2,rfl,x1,x2,x3, -⟩ := rest_holds h6
  exact ⟨m,a1,c1,a2,c2,rfl,rfl,h2,h3,h4,u1,u2,x1,x2,u3.imp (fun h => by rw [h]; rfl) id,x3.imp (fun h => by rw [h]; rfl) id,h6,h7,h8,h9⟩
theorem trsR_get {n : Nat} {w : World} {a : Option Addr} {N cap : Nat} {ts : List Tr} (h : TrsR n w (.slice a N cap) ts) {i : Nat} {t : Tr} (hi : ts[i]? = some t) :
  ∃ g off a1 n1 c1 a2 n2 c2,a = some ⟨g,off,none⟩ ∧ w.cell? ⟨g,off + i * 5,none⟩ = some (.int .i64 t.kind) ∧ w.cell? ⟨g,off + i * 5 + 1,none⟩ = some (.int .i64 t.n) ∧ w.cell? ⟨g,off + i * 5 + 2,none⟩ = some (.string t.s) ∧ w.cell? ⟨g,off + i * 5 + 3,none⟩ = some (.slice a1 n1 c1) ∧ w.cell? ⟨g,off + i * 5 + 4,none⟩ = some (.slice a2 n2 c2) ∧
   TrW n w (.agg #[.int .i64 t.kind,.int .i64 t.n,.string t.s,.slice a1 n1 c1,.slice a2 n2 c2]) t := by
 obtain ⟨g,off,ha,r,hr,hc⟩ := RowP.get h hi
 obtain ⟨m,a1,c1,a2,c2,rfl,e,_⟩ := TrW.open ⟨r,rfl,hr⟩
 have e1 : r = [.int .i64 t.kind,.int .i64 t.n,.string t.s,.slice a1 t.es.length c1,.slice a2 t.rest.length c2] := by simpa using e
 subst e1
 exact ⟨g,off,a1,_,c1,a2,_,c2,ha,hc 0 _ rfl,hc 1 _ rfl,hc 2 _ rfl,hc 3 _ rfl,hc 4 _ rfl,_,rfl,hr⟩
theorem ensR_get {n : Nat} {w : World} {a : Option Addr} {N cap : Nat} {es : List (Int × List Tr)} (h : EnsR n w (.slice a N cap) es) {i : Nat} {e : Int × List Tr} (hi : es[i]? = some e) :
  ∃ g off a1 c1,a = some ⟨g,off,none⟩ ∧ w.cell? ⟨g,off + i * 2,none⟩ = some (.int .i64 e.1) ∧ w.cell? ⟨g,off + i * 2 + 1,none⟩ = some (.slice a1 e.2.length c1) ∧ Is64 e.1 ∧ TrsR n w (.slice a1 e.2.length c1) e.2 ∧ e.2.length ≤ c1 ∧ c1 ≤ maxLen := by
 obtain ⟨g,off,ha,r,⟨vt,rfl,h2,h3⟩,hc⟩ := RowP.get h hi
 obtain ⟨a1,c1,rfl,u1,u2, -⟩ := RowP.open h3
 exact ⟨g,off,a1,c1,ha,hc 0 _ rfl,hc 1 _ rfl,h2,h3,u1,u2⟩
theorem TrW.parts {n : Nat} {w : World} {t : Tr} {K N : Int} {S : ByteArray} {a1 a2 : Option Addr} {n1 c1 n2 c2 : Nat} (h : TrW n w (.agg #[.int .i64 K,.int .i64 N,.string S,.slice a1 n1 c1,.slice a2 n2 c2]) t) : t.kind = K ∧ t.n = N ∧ t.s = S ∧ t.es.length = n1 ∧ t.rest.length = n2 := by
 obtain ⟨m,a1',c1',a2',c2', -,e, -⟩ := h.open
 simp only [Value.agg.injEq,Array.mk.injEq,List.cons.injEq,Value.int.injEq,Value.string.injEq,Value.slice.injEq,and_true,true_and] at e
 obtain ⟨e1,e2,e3,⟨-,e4, -⟩, -,e5, -⟩ := e
 exact ⟨e1.symm,e2.symm,e3.symm,e4.symm,e5.symm⟩
theorem MsIn.cel {w w1 : World} {v : Value} {ms : List MsS} (h : MsIn w v ms) (hb : Cel w w1) : MsIn w1 v ms := by
 obtain ⟨rows,h1,h2,h3⟩ := h
 refine ⟨rows,h1.cel hb,h2,fun i m hm => ?_⟩
 obtain ⟨vf,vr,g1,g2,g3⟩ := h3 i m hm
 exact ⟨vf,vr,g1,g2.cel hb,g3.cel hb⟩
theorem EnIn.cel {w w1 : World} {v : Value} {es : List EnS} (h : EnIn w v es) (hb : Cel w w1) : EnIn w1 v es := by
 obtain ⟨rows,h1,h2,h3⟩ := h
 refine ⟨rows,h1.cel hb,h2,fun i m hm => ?_⟩
 obtain ⟨vv,g1,g2⟩ := h3 i m hm
 exact ⟨vv,g1,g2.cel hb⟩
theorem ScIn.cel {w w1 : World} {v : Value} {s : ScS} (h : ScIn w v s) (hb : Cel w w1) : ScIn w1 v s := by
 obtain ⟨vm,ve,vt,h1,h2,h3,h4⟩ := h
 exact ⟨vm,ve,vt,h1,h2.cel hb,h3.cel hb,h4.cel hb⟩
theorem eql_ptrR (w : World) (d : Nat) (p q : Option Addr) (hp : ∀ a,p = some a → ∃ cs ty,w.heap[a.block]? = some (.cells cs ty (0,0))) (hq : ∀ a,q = some a → ∃ cs ty,w.heap[a.block]? = some (.cells cs ty (0,0))) :
  (Op.equalIn (d + 1) 112 (.pointer p) (.pointer q)).run Tryz.prog w = .ok (decide (p = q)) w := by
 have hu : Tryz.prog.underlying 112 = some (.pointer 60) := by kernel_rfl
 have hi : (Tryz.prog.info? 60).map (fun i => i.size) = some 4 := by kernel_rfl
 obtain ⟨j,hj,hs⟩ : ∃ j,Tryz.prog.info? 60 = some j ∧ j.size = 4 := by
  cases h : Tryz.prog.info? 60 with
  | none => rw [h] at hi; cases hi
  | some j => rw [h] at hi; exact ⟨j,rfl,by simpa using hi⟩
 cases p with
 | none => cases q <;> simp [Op.equalIn,run_underlying hu]
 | some a =>
  cases q with
  | none => simp [Op.equalIn,run_underlying hu]
  | some b =>
   by_cases e : a = b
   ·subst e
    simp [Op.equalIn,run_underlying hu,sizeOf,typeInfo,hj,hs,run_sameAddr_same]
   ·obtain ⟨ca,ta,ha⟩ := hp a rfl
    obtain ⟨cb,tb,hb⟩ := hq b rfl
    simp [Op.equalIn,run_underlying hu,sizeOf,typeInfo,hj,hs,run_sameAddr_other w e ha hb,e]
theorem toList_ne {a b : ByteArray} (h : ¬ a = b) : ¬ a.toList = b.toList := fun e => h (by
 rw [ByteArray.toList_eq,ByteArray.toList_eq] at e
 obtain ⟨⟨l⟩⟩ := a
 obtain ⟨⟨m⟩⟩ := b
 simp only at e
 subst e
 rfl)
theorem find_askI {T : TypeId} {w : World} {k : Value} : ∀ (l : List MapEntry) (i : Nat),Told T w k (l.map MapEntry.key) → (∀ e ∈ l,e.val = .agg #[]) → k ∈ l.map MapEntry.key →
  ∃ j e,(Instr.findAsking T k l i).run Tryz.prog w = .ok (some (i + j,.agg #[])) w ∧ l[j]? = some e ∧ e.key = k
 | [],i,_,_,h => by cases h
 | e :: l,i,ht,hv,hm => by
  obtain ⟨h1,h2⟩ := ht e.key (List.mem_cons_self ..)
  have h3 := hv e (List.mem_cons_self ..)
  by_cases hke : k = e.key
  ·refine ⟨0,e,?_,rfl,hke.symm⟩
   unfold Instr.findAsking
   rw [Sem.run_bind,h1 hke]
   simp [Result.andThen,h3]
  ·have hrun : (Instr.findAsking T k (e :: l) i).run Tryz.prog w = (Instr.findAsking T k l (i + 1)).run Tryz.prog w := by
    conv => lhs; unfold Instr.findAsking
    rw [Sem.run_bind,h2 hke]
    simp [Result.andThen]
   rcases List.mem_cons.1 hm with h | h
   ·exact absurd h hke
   ·obtain ⟨j,e',g1,g2,g3⟩ := find_askI l (i + 1) (fun q hq => ht q (List.mem_cons_of_mem _ hq)) (fun x hx => hv x (List.mem_cons_of_mem _ hx)) h
    exact ⟨j + 1,e',by rw [hrun,g1]; congr 3; omega,by simpa using g2,g3⟩
theorem again_pl {T MT E : TypeId} {w : World} {k : Value} {L : List Value} {b : Nat} (hm : Tryz.prog.underlying MT = some (.map T E)) {fs : TypeDesc} (hu : Tryz.prog.underlying T = some fs) (hf : ∀ k q,Instr.sameNow fs (.agg k) q = none) {ks : Array Value} (hk : k = .agg ks) (hsb : Instr.sameBits 10000 k k = true)
  (hc : ∀ e,(Instr.checkKey e 10000 T k).run Tryz.prog w = .ok () w) (hs : PlSet w b L) (ht : Told T w k L) (hn : k ∈ L) :
  ∃ w',(Instr.mapUpdate MT (.map (some b)) k (.agg #[])).run Tryz.prog w = .ok () w' ∧ PlSet w' b L ∧ Kp (fun q => q = b) w w' := by
 have hs0 := hs
 obtain ⟨es,c,h1,rfl,h3⟩ := hs
 obtain ⟨j,e,g1,g2,g3⟩ := find_askI es.toList 0 ht h3 hn
 have hne : ∃ a l,es.toList = a :: l := by
  cases h : es.toList with
  | nil => rw [h] at hn; cases hn
  | cons a l => exact ⟨a,l,rfl⟩
 obtain ⟨a,l,hal⟩ := hne
 have hj : (Instr.findKey T k es.toList).run Tryz.prog w = .ok (some (j,.agg #[])) w := by
  rw [hal] at g1 ⊢
  have h1 : Instr.findNow fs k (a :: l) 0 = none := by rw [hk]; simp [Instr.findNow,hf]
  rw [Nat.zero_add] at g1
  rw [← g1]
  simp [Instr.findKey,run_underlying hu,h1]
 have hgo : (getObj b).run Tryz.prog w = .ok (.map es c) w := by simp [getObj,Sem.run,h1]
 have hse : ∀ o,(setObj b o).run Tryz.prog w = .ok () { w with heap := w.heap.setIfInBounds b o } := fun o => by simp [setObj,Sem.run,h1]
 have hej : es[j]? = some e := by simpa using g2
 have hkt : (Instr.keyThatStays (((es[j]?).map (·.key)).getD k) k).run Tryz.prog w = .ok k w := by
  rw [hej]
  simp [Instr.keyThatStays,g3,hsb]
 have hmod : (es.modify j fun e => { e with key := k,val := .agg #[] }) = es := by
  have hv := h3 e (List.mem_of_getElem? g2)
  refine Array.ext_getElem? fun i => ?_
  rw [Array.getElem?_modify]
  by_cases hij : j = i
  ·subst hij
   rw [if_pos rfl,hej]
   simp [← g3,← hv]
  ·rw [if_neg hij]
 refine ⟨{ w with heap := w.heap.setIfInBounds b (.map es c) },?_,?_,?_⟩
 ·simp [Instr.mapUpdate,run_underlying hm,hgo,hc,hj,hkt,hse,hmod]
 ·refine ⟨es,c,?_,rfl,h3⟩
  have := (Array.getElem?_eq_some_iff.1 h1).1
  simp [this]
 ·refine ⟨rfl,rfl,rfl,by simp,fun q hq hs => ?_⟩
  simp only
  rw [Array.getElem?_setIfInBounds_ne (Ne.symm hs)]
theorem plOf_ok4 {w : World} {v : Value} {l : List Fd} (h : PlnV w v) (hr : RowG w v 4 (fdRows l)) : PlOk w (plOf v) := by
 obtain ⟨a,cap,rfl,_,_,h4,_⟩ := rest_holds hr
 intro b hb
 unfold plOf at hb
 simp only at hb
 split at hb
 ·cases hb
 ·rename_i hne
  simp only at hb
  subst hb
  rcases h4 with rfl | ⟨g,off,e⟩
  ·exact absurd rfl hne
  ·simp at e
   subst e
   exact h g off _ cap rfl hne
theorem pl_uniq4 {w : World} {v v' : Value} {l l' : List Fd} (h : RowG w v 4 (fdRows l)) (k : RowG w v' 4 (fdRows l')) (e : plOf v = plOf v') : l = l' := by
 obtain ⟨a,cap,rfl,_,_,h4,_⟩ := rest_holds h
 obtain ⟨a',cap',rfl,_,_,h4',_⟩ := rest_holds k
 unfold plOf at e
 simp only at e
 by_cases hn : l.length = 0
 ·rw [if_pos hn] at e
  by_cases hn' : l'.length = 0
  ·rw [List.eq_nil_of_length_eq_zero hn,List.eq_nil_of_length_eq_zero hn']
  ·rw [if_neg hn'] at e
   simp at e
   exact absurd (e.2.symm ▸ rfl) hn'
 ·rw [if_neg hn] at e
  by_cases hn' : l'.length = 0
  ·rw [if_pos hn'] at e
   simp at e
   exact absurd e.2 (by intro h0; rw [h0] at hn; exact hn rfl)
  ·rw [if_neg hn'] at e
   simp only [Prod.mk.injEq] at e
   obtain ⟨rfl,e2⟩ := e
   rw [← e2] at k
   exact fd_uniq h k
theorem EnC.trQ {n : Nat} {w : World} {v : Value} {es : List (Int × List Tr)} (h : EnsR n w v es) : EnsQ n w v es := RowP.imp h fun r x hx hp => by
 obtain ⟨vt,g1,g2,g3⟩ := hp
 exact ⟨vt,g1,g2,g3.imp fun r x hx hp => hp.trQ⟩
structure Idn where
 kind : Int
 n : Int
 s : ByteArray
 e : Pl
 r : Pl
def idC (x : Idn) : List Value := [.int .i64 x.kind,.int .i64 x.n,.string x.s,.pointer x.e.1,.int .i64 (x.e.2 : Int),.pointer x.r.1,.int .i64 (x.r.2 : Int)]
def clV (nm : ByteArray) (x : Idn) : Value := .agg (.string nm :: idC x).toArray
def IdOk (w : World) (x : Idn) : Prop := PlOk w x.e ∧ PlOk w x.r
theorem clV_inj {nm nm' : ByteArray} {x y : Idn} : clV nm x = clV nm' y ↔ nm = nm' ∧ x = y := by
 obtain ⟨k,n,s,⟨p1,c1⟩,⟨p2,c2⟩⟩ := x
 obtain ⟨k',n',s',⟨p1',c1'⟩,⟨p2',c2'⟩⟩ := y
 simp [clV,idC]
 intro _ _ _ _
 constructor
 ·rintro ⟨h4,h5,h6,h7⟩; exact ⟨⟨h4,by omega⟩,h6,by omega⟩
 ·rintro ⟨⟨h4,h5⟩,h6,h7⟩; exact ⟨h4,by omega,h6,by omega⟩
set_option maxHeartbeats 2000000 in
theorem eql_cl (w : World) (nm nm' : ByteArray) (x y : Idn) (hx : IdOk w x) (hy : IdOk w y) : (Op.equal 119 (clV nm x) (clV nm' y)).run Tryz.prog w = .ok (decide (nm = nm' ∧ x.kind = y.kind ∧ x.n = y.n ∧ x.s = y.s ∧ x.e = y.e ∧ x.r = y.r)) w := by
 obtain ⟨k,n,s,⟨p1,c1⟩,⟨p2,c2⟩⟩ := x
 obtain ⟨k',n',s',⟨p1',c1'⟩,⟨p2',c2'⟩⟩ := y
 have h1 := fun d => eql_ptr w d p1 p1' hx.1 hy.1
 have h2 := fun d => eql_ptrR w d p2 p2' hx.2 hy.2
 by_cases e1 : nm = nm'
 ·by_cases e2 : k = k'
  ·by_cases e3 : n = n'
   ·by_cases e4 : s = s'
    ·by_cases e5 : p1 = p1'
     ·by_cases e6 : c1 = c1'
      ·by_cases e7 : p2 = p2'
       ·by_cases e8 : c2 = c2'
        ·subst e1 e2 e3 e4 e5 e6 e7 e8
         simp [clV,idC,Op.equal,Op.maxDepth,go_sem,h1,h2]
        ·have e9 : ¬ (c2 : Int) = (c2' : Int) := by omega
         subst e1 e2 e3 e4 e5 e6 e7
         simp [clV,idC,Op.equal,Op.maxDepth,go_sem,h1,h2,e8,e9]
       ·subst e1 e2 e3 e4 e5 e6
        simp [clV,idC,Op.equal,Op.maxDepth,go_sem,h1,h2,e7]
      ·have e9 : ¬ (c1 : Int) = (c1' : Int) := by omega
       subst e1 e2 e3 e4 e5
       simp [clV,idC,Op.equal,Op.maxDepth,go_sem,h1,h2,e6,e9]
     ·subst e1 e2 e3 e4
      simp [clV,idC,Op.equal,Op.maxDepth,go_sem,h1,h2,e5]
    ·have e9 := toList_ne e4
     subst e1 e2 e3
     simp [clV,idC,Op.equal,Op.maxDepth,go_sem,h1,h2,e4,e9]
   ·subst e1 e2
    simp [clV,idC,Op.equal,Op.maxDepth,go_sem,h1,h2,e3]
  ·subst e1
   simp [clV,idC,Op.equal,Op.maxDepth,go_sem,h1,h2,e2]
 ·have e9 := toList_ne e1
  simp [clV,idC,Op.equal,Op.maxDepth,go_sem,h1,h2,e1,e9]
theorem check_cl (w : World) (b : Bool) (nm : ByteArray) (x : Idn) : (Instr.checkKey b 10000 119 (clV nm x)).run Tryz.prog w = .ok () w := by kernel_rfl
theorem same_cl (n : Nat) (nm : ByteArray) (x : Idn) : Instr.sameBits (n + 1) (clV nm x) (clV nm x) = true := by
 simp [clV,idC,Instr.sameBits]
 have hb : ∀ s : ByteArray,(s == s) = true := fun ⟨d⟩ => by show (d == d) = true; simp
 exact ⟨hb _,hb _⟩
theorem uClaim : Tryz.prog.underlying 79 = some (.map 119 120) := by kernel_rfl
theorem zeroEl (w : World) : (zeroValue 120).run Tryz.prog w = .ok (.agg #[]) w := by kernel_rfl
theorem told_cl {w : World} {nm : ByteArray} {x : Idn} {L : List (ByteArray × Idn)} (hx : IdOk w x) (hL : ∀ y ∈ L,IdOk w y.2) : Told 119 w (clV nm x) (L.map fun y => clV y.1 y.2) := by
 intro q hq
 obtain ⟨y,hy,rfl⟩ := List.mem_map.1 hq
 have h := eql_cl w nm y.1 x y.2 hx (hL y hy)
 constructor
 ·intro e
  obtain ⟨e1,e2⟩ := clV_inj.1 e
  rw [h,decide_eq_true ⟨e1,by rw [e2],by rw [e2],by rw [e2],by rw [e2],by rw [e2]⟩]
 ·intro e
  rw [h,decide_eq_false]
  rintro ⟨e1,e2,e3,e4,e5,e6⟩
  refine e (clV_inj.2 ⟨e1,?_⟩)
  obtain ⟨nm',y⟩ := y
  cases x; cases y; simp_all
theorem mem_clV {nm : ByteArray} {x : Idn} {L : List (ByteArray × Idn)} : clV nm x ∈ (L.map fun y => clV y.1 y.2) ↔ (nm,x) ∈ L := by
 constructor
 ·intro h
  obtain ⟨⟨nm',y⟩,hy,e⟩ := List.mem_map.1 h
  obtain ⟨rfl,rfl⟩ := clV_inj.1 e
  exact hy
 ·intro h
  exact List.mem_map.2 ⟨(nm,x),h,rfl⟩
def idOf (t : Tr) (ve vr : Value) : Idn := ⟨t.kind,t.n,t.s,plOf ve,plOf vr⟩
def TrI (n : Nat) (w : World) (x : Idn) (t : Tr) : Prop := ∃ ve vr,x = idOf t ve vr ∧ TrR n w [.int .i64 t.kind,.int .i64 t.n,.string t.s,ve,vr] t
theorem TrI.cel {n : Nat} {w w1 : World} {x : Idn} {t : Tr} (h : TrI n w x t) (hb : Cel w w1) : TrI n w1 x t := by
 obtain ⟨ve,vr,h1,h2⟩ := h
 exact ⟨ve,vr,h1,h2.cel hb⟩
theorem TrI.ok {n : Nat} {w : World} {x : Idn} {t : Tr} (h : TrI n w x t) : IdOk w x := by
 obtain ⟨ve,vr,rfl,h⟩ := h
 cases n with
 | zero => exact h.elim
 | succ n =>
  obtain ⟨ve',vr',e,h2,h3,h4,h5,h6,h7,h8,h9⟩ := h
  simp only [List.cons.injEq,and_true] at e
  obtain ⟨-, -, -,rfl,rfl⟩ := e
  exact ⟨plOf_ok h8 h7,plOf_ok4 h9 h6⟩
theorem TrI.uniq {n m : Nat} {w : World} {x : Idn} {t u : Tr} (h : TrI n w x t) (k : TrI m w x u) : t = u := by
 obtain ⟨ve,vr,e,h⟩ := h
 obtain ⟨ve',vr',e',k⟩ := k
 cases n with
 | zero => exact h.elim
 | succ n =>
  cases m with
  | zero => exact k.elim
  | succ m =>
   obtain ⟨q1,q2,e1,_,_,_,_,h6,h7,_,_⟩ := h
   obtain ⟨q1',q2',e1',_,_,_,_,k6,k7,_,_⟩ := k
   simp only [List.cons.injEq,and_true] at e1 e1'
   obtain ⟨-, -, -,rfl,rfl⟩ := e1
   obtain ⟨-, -, -,rfl,rfl⟩ := e1'
   rw [e] at e'
   simp only [idOf,Idn.mk.injEq] at e'
   obtain ⟨i1,i2,i3,i4,i5⟩ := e'
   have hes : t.es = u.es := pl_uniq (EnC.trQ h7) (EnC.trQ k7) i4
   have hrs : t.rest = u.rest := pl_uniq4 h6 k6 i5
   cases t; cases u; simp_all
def KnS (s : ScS) (w : World) (b : Nat) : Prop := ∃ L : List (ByteArray × Idn),PlSet w b (L.map fun y => clV y.1 y.2) ∧ ∀ y ∈ L,∃ n t,TrI n w y.2 t ∧ msgV n s y.1 t = 0
theorem KnS.lt {s : ScS} {w : World} {b : Nat} (h : KnS s w b) : b < w.heap.size := by
 obtain ⟨L,h1,_⟩ := h
 exact h1.lt
theorem KnS.below {s : ScS} {w w1 : World} {b : Nat} (h : KnS s w b) (hb : Below w.heap.size w w1) : KnS s w1 b := by
 obtain ⟨L,h1,h2⟩ := h
 refine ⟨L,h1.below hb,fun y hy => ?_⟩
 obtain ⟨n,t,g1,g2⟩ := h2 y hy
 exact ⟨n,t,g1.cel (Cel.ofBelow hb),g2⟩
theorem KnS.neB {s : ScS} {w : World} {b : Nat} (h : KnS s w b) {g : Nat} {cs : Array Value} {t : TypeId} {fz : Nat × Nat} (hc : w.heap[g]? = some (.cells cs t fz)) : g ≠ b := by
 obtain ⟨L,h1,_⟩ := h
 exact h1.neB hc
theorem KnS.cel {s : ScS} {w w' : World} {b : Nat} (h : KnS s w b) (hk : Kp (fun q => q = b) w w') : Cel w w' := Cel.ofKp hk fun k cs t fz e => h.neB e
theorem KnS.made (s : ScS) (w : World) : KnS s (w.alloc (.map #[] 0)) w.heap.size := ⟨[],PlSet.made w,by simp⟩
theorem KnS.look {s : ScS} {w : World} {b n : Nat} (h : KnS s w b) {nm : ByteArray} {x : Idn} {t : Tr} (hx : TrI n w x t) :
  ∃ R : Bool,(Instr.lookup 79 (.map (some b)) (clV nm x) true).run Tryz.prog w = .ok (.tuple #[.agg #[],.bool R]) w ∧ (R = true → msgV n s nm t = 0) := by
 obtain ⟨L,h1,h2⟩ := h
 have hT : Told 119 w (clV nm x) (L.map fun y => clV y.1 y.2) := told_cl hx.ok fun y hy => by
  obtain ⟨n,t,g1,g2⟩ := h2 y hy
  exact g1.ok
 by_cases hm : (nm,x) ∈ L
 ·refine ⟨true,look_pl uClaim zeroEl Tryz.underlying119 (fun _ _ => rfl) rfl (fun e => check_cl _ e nm x) h1 hT true ⟨fun _ => mem_clV.2 hm,fun _ => rfl⟩,fun _ => ?_⟩
  obtain ⟨m,u,g1,g2⟩ := h2 _ hm
  obtain rfl := hx.uniq g1
  obtain ⟨ve,vr,_,q⟩ := hx
  obtain ⟨ve',vr',_,q'⟩ := g1
  rw [msgV_more n m s nm t q.dp q'.dp]
  exact g2
 ·exact ⟨false,look_pl uClaim zeroEl Tryz.underlying119 (fun _ _ => rfl) rfl (fun e => check_cl _ e nm x) h1 hT false ⟨(fun h => by cases h),fun h => absurd (mem_clV.1 h) hm⟩,fun h => by cases h⟩
theorem KnS.update {s : ScS} {w : World} {b n : Nat} (h : KnS s w b) {nm : ByteArray} {x : Idn} {t : Tr} (hx : TrI n w x t) (hv : msgV n s nm t = 0) :
  ∃ w',(Instr.mapUpdate 79 (.map (some b)) (clV nm x) (.agg #[])).run Tryz.prog w = .ok () w' ∧ KnS s w' b ∧ Kp (fun q => q = b) w w' := by
 have hK := h
 obtain ⟨L,h1,h2⟩ := h
 have hT : Told 119 w (clV nm x) (L.map fun y => clV y.1 y.2) := told_cl hx.ok fun y hy => by
  obtain ⟨n,t,g1,g2⟩ := h2 y hy
  exact g1.ok
 have hsb : Instr.sameBits 10000 (clV nm x) (clV nm x) = true := same_cl 9999 nm x
 by_cases hm : (nm,x) ∈ L
 ·obtain ⟨w',e1,e2,e3⟩ := again_pl (k := clV nm x) uClaim Tryz.underlying119 (fun _ _ => rfl) (ks := (.string nm :: idC x).toArray) rfl hsb (fun e => check_cl w e nm x) h1 hT (mem_clV.2 hm)
  refine ⟨w',e1,⟨L,e2,fun y hy => ?_⟩,e3⟩
  obtain ⟨n,t,g1,g2⟩ := h2 y hy
  exact ⟨n,t,g1.cel (hK.cel e3),g2⟩
 ·obtain ⟨w',e1,e2,e3,_⟩ := update_pl (k := clV nm x) uClaim Tryz.underlying119 (fun _ _ => rfl) (ks := (.string nm :: idC x).toArray) rfl (fun e => check_cl w e nm x) h1 hT (fun h => hm (mem_clV.1 h))
  refine ⟨w',e1,⟨L ++ [(nm,x)],by simpa using e2,fun y hy => ?_⟩,e3⟩
  rcases List.mem_append.1 hy with hy | hy
  ·obtain ⟨n,t,g1,g2⟩ := h2 y hy
   exact ⟨n,t,g1.cel (hK.cel e3),g2⟩
  ·obtain rfl : y = (nm,x) := by simpa using hy
   exact ⟨n,t,hx.cel (hK.cel e3),hv⟩
set_option maxHeartbeats 1000000 in
theorem key_any (s : ByteArray) (w : World) :
  Calls Tryz.prog 108 #[.string s] w fun e w' => e = .returned (.bool (keyB s)) ∧ w' = w := by
 go_enter Tryz.func108,Tryz.ntmps108
 go_wp2
 all_goals
  go_ret
  refine ⟨ret_bool ?_,rfl⟩
  first | (simp [keyB, *]; done) | simp_all
set_option maxHeartbeats 1000000 in
theorem count_any (s : ByteArray) (w : World) (hs : s.size ≤ 140737488351232) :
  Calls Tryz.prog 107 #[.string s] w fun e w' => e = .returned (.int .i64 (countN s.data.toList)) ∧ Below w.heap.size w w' := by
 go_enter Tryz.func107,Tryz.ntmps107
 go_wp2
 go_loopw [3] (fun n wr => ∃ (pos : Nat) (acc : List Nat),wr = w.iter s pos ∧ n = .int .i64 acc.length ∧ acc.length ≤ pos ∧ Hid (Gone s.data.toList pos acc)) (fun _ wr => s.size - wr.iterPos w.heap.size)
 case atStart => exact ⟨0,[],rfl,rfl,by simp,Gone.start _⟩
 case round =>
  obtain ⟨pos,acc,rfl,rfl,hle,H⟩ := hrel
  by_cases hp : pos < s.size
  ·obtain ⟨c,k,hd,h1,h2⟩ := dec_at s pos hp
   have hnx : ∀ ty,(Instr.next (.pointer (some ⟨w.heap.size,0,none⟩)) true ty).run Tryz.prog (w.iter s pos) = .ok (.tuple #[.bool true,.int .i64 (pos : Int),.int .i32 (c : Int)]) (w.iter s (pos + k)) := by
    intro ty
    have := run_next_any (P := Tryz.prog) w s pos ty hp
    rw [hd] at this
    exact this
   have H1 : Hid (standsB (s.data.toList.drop pos) c = true → nxL (s.data.toList.drop pos) = some (c,k)) := h1
   have H2 : Hid (standsB (s.data.toList.drop pos) c = false → nxL (s.data.toList.drop pos) = none) := h2
   clear hd h1 h2
   go_wp2_with fail
   refine (stands_any s _ _ _ hs (by omega) (by omega)).mono ?_
   rintro e w' ⟨rfl,rfl⟩
   rw [Int.toNat_natCast]
   cases hst : standsB (s.data.toList.drop pos) c with
   | false =>
    go_wp2
    go_ret
    exact ⟨ret_int (by unfold countN; rw [H.out.bad (by rw [len_data]; exact hp) (H2.out hst)]; rfl),below_iter _ _ _⟩
   | true =>
    have HN := H1.out hst
    have hk : 1 ≤ k := (nxL_some _ _ _ HN).2.2.2.1
    have HG : Hid (Gone s.data.toList (pos + k) (acc ++ [c])) := H.out.step HN
    clear HN
    go_wp2
    go_roundw
    case rel => exact ⟨pos + k,acc ++ [c],rfl,by simp,by simp; omega,HG⟩
    case measure => simp; omega
  ·have hnx : ∀ ty,(Instr.next (.pointer (some ⟨w.heap.size,0,none⟩)) true ty).run Tryz.prog (w.iter s pos) = _ := fun ty => run_next_end w s pos ty hp
   go_wp2
   go_ret
   exact ⟨ret_int (by unfold countN; rw [H.out.done (by rw [len_data]; omega)]; rfl),below_iter _ _ _⟩
theorem nameB_off (s : ByteArray) {pos c k : Nat} {acc : List Nat} (h : Gone s.data.toList pos acc) (hn : nxL (s.data.toList.drop pos) = some (c,k)) (hb : (letB c || (!acc.isEmpty && digB c)) = false) : nameB s = false := by
 unfold nameB
 cases e : runesOf s.data.toList with
 | none => simp [countN,e]
 | some rs =>
  obtain ⟨rest,rfl⟩ := (h.step hn).len e
  have : okFrom true (acc ++ [c] ++ rest) = false := by
   rw [List.append_assoc,okFrom_append]
   simp only [List.singleton_append,okFrom,Bool.true_and]
   rw [hb]; simp
  simp only [Option.getD_some,this,Bool.and_false]
set_option maxHeartbeats 1000000 in
theorem name_any (s : ByteArray) (w : World) (hs : s.size ≤ 140737488351232) :
  Calls Tryz.prog 84 #[.string s] w fun e w' => e = .returned (.bool (nameB s)) ∧ Below w.heap.size w w' := by
 have hcl := countN_le s.data.toList
 rw [len_data] at hcl
 by_cases hc1 : countN s.data.toList < 1
 ·have HX : Hid (false = nameB s) := by show false = _; unfold nameB; simp; omega
  go_enter Tryz.func84,Tryz.ntmps84
  go_wp2_with fail
  refine (count_any s _ hs).mono ?_
  rintro e w1 ⟨rfl,hw1⟩
  generalize countN s.data.toList = n at *
  have hn1 : decide ((n : Int) < 1) = true := by simp; omega
  go_wp2_with fail
  go_ret
  exact ⟨ret_bool HX.out,hw1⟩
 ·by_cases hc2 : 20 < countN s.data.toList
  ·have HX : Hid (false = nameB s) := by show false = _; unfold nameB; simp; omega
   go_enter Tryz.func84,Tryz.ntmps84
   go_wp2_with fail
   refine (count_any s _ hs).mono ?_
   rintro e w1 ⟨rfl,hw1⟩
   generalize countN s.data.toList = n at *
   have hn1 : decide ((n : Int) < 1) = false := by simp; omega
   have hn2 : decide (20 < (n : Int)) = true := by simp; omega
   go_wp2_with fail
   go_ret
   exact ⟨ret_bool HX.out,hw1⟩
  ·cases hk : keyB s with
   | true =>
    have HX : Hid (false = nameB s) := by show false = _; unfold nameB; simp [hk]
    have HK : Hid (keyB s = true) := hk
    clear hk
    go_enter Tryz.func84,Tryz.ntmps84
    go_wp2_with fail
    refine (count_any s _ hs).mono ?_
    rintro e w1 ⟨rfl,hw1⟩
    generalize countN s.data.toList = n at *
    have hn1 : decide ((n : Int) < 1) = false := by simp; omega
    have hn2 : decide (20 < (n : Int)) = false := by simp; omega
    go_wp2_with fail
    refine (key_any s _).mono ?_
    rintro e w2 ⟨rfl,rfl⟩
    rw [HK.out]
    go_wp2_with fail
    go_ret
    exact ⟨ret_bool HX.out,hw1⟩
   | false =>
    obtain ⟨rs,hrs⟩ : ∃ rs,runesOf s.data.toList = some rs := by
     cases e : runesOf s.data.toList with
     | none => simp [countN,e] at hc1
     | some rs => exact ⟨rs,rfl⟩
    have HX : Hid (nameB s = okFrom true rs) := by
     show nameB s = _
     unfold nameB
     rw [hk,hrs]
     simp only [Bool.not_false,Bool.and_true,Option.getD_some]
     rw [decide_eq_true (by omega),Bool.true_and]
    have HR : Hid (runesOf s.data.toList = some rs) := hrs
    have HK : Hid (keyB s = false) := hk
    clear hk hrs
    go_enter Tryz.func84,Tryz.ntmps84
    go_wp2_with fail
    refine (count_any s _ hs).mono ?_
    rintro e w1 ⟨rfl,hw1⟩
    generalize countN s.data.toList = n at *
    have hn1 : decide ((n : Int) < 1) = false := by simp; omega
    have hn2 : decide (20 < (n : Int)) = false := by simp; omega
    go_wp2_with fail
    refine (key_any s _).mono ?_
    rintro e w2 ⟨rfl,rfl⟩
    rw [HK.out]
    go_wp2_with fail
    go_loopw [] (fun wr => ∃ (pos : Nat) (acc : List Nat),wr = w2.iter s pos ∧ Hid (Gone s.data.toList pos acc) ∧ Hid (okFrom true acc = true) ∧ Hid (acc.isEmpty = decide (pos = 0))) (fun wr => s.size - wr.iterPos w2.heap.size)
    case atStart => exact ⟨0,[],rfl,Gone.start _,rfl,rfl⟩
    case round =>
     obtain ⟨pos,acc,rfl,H,HO,HE⟩ := hrel
     by_cases hp : pos < s.size
     ·obtain ⟨c,k,hd,h1,h2⟩ := dec_at s pos hp
      obtain ⟨x,hx⟩ := nx_of_gone H.out (by rw [len_data]; exact hp) HR.out
      have HN : Hid (nxL (s.data.toList.drop pos) = some (c,k)) := dec_of_nx h1 h2 hx
      have hnx : ∀ ty,(Instr.next (.pointer (some ⟨w2.heap.size,0,none⟩)) true ty).run Tryz.prog (w2.iter s pos) = .ok (.tuple #[.bool true,.int .i64 (pos : Int),.int .i32 (c : Int)]) (w2.iter s (pos + k)) := by
       intro ty
       have := run_next_any (P := Tryz.prog) w2 s pos ty hp
       rw [hd] at this
       exact this
      have hk : 1 ≤ k := (nxL_some _ _ _ HN.out).2.2.2.1
      have HG : Hid (Gone s.data.toList (pos + k) (acc ++ [c])) := H.out.step HN.out
      have HE2 : Hid ((acc ++ [c]).isEmpty = decide (pos + k = 0)) := by show _ = _; rw [decide_eq_false (by omega)]; cases acc <;> rfl
      clear hd h1 h2 hx
      go_wp2_with fail
      refine (letter_any _ _).mono ?_
      rintro e w3 ⟨rfl,rfl⟩
      cases hl : letB c with
      | true =>
       have HO2 : Hid (okFrom true (acc ++ [c]) = true) := by show _ = _; rw [okFrom_append,HO.out]; simp [okFrom,hl]
       go_wp2_with fail
       go_roundw
       case rel => exact ⟨pos + k,acc ++ [c],rfl,HG,HO2,HE2⟩
       case measure => simp; omega
      | false =>
       by_cases hp0 : pos = 0
       ·have HF : Hid (false = nameB s) := (nameB_off s H.out HN.out (by rw [hl,HE.out]; simp [hp0])).symm
        have hpd : ((pos : Int) == 0) = true := by simp [hp0]
        clear hp0
        go_wp2_with fail
        go_ret
        exact ⟨ret_bool HF.out,hw1.trans ((below_iter _ _ _).mono hw1.size)⟩
       ·have hpd : ((pos : Int) == 0) = false := by simp [hp0]
        go_wp2_with fail
        refine (digit_any _ _).mono ?_
        rintro e w4 ⟨rfl,rfl⟩
        cases hdg : digB c with
        | true =>
         have HO2 : Hid (okFrom true (acc ++ [c]) = true) := by show _ = _; rw [okFrom_append,HO.out,HE.out]; simp [okFrom,hdg,hp0]
         go_wp2_with fail
         go_roundw
         case rel => exact ⟨pos + k,acc ++ [c],rfl,HG,HO2,HE2⟩
         case measure => simp; omega
        | false =>
         have HF : Hid (false = nameB s) := (nameB_off s H.out HN.out (by rw [hl,hdg]; simp)).symm
         go_wp2_with fail
         go_ret
         exact ⟨ret_bool HF.out,hw1.trans ((below_iter _ _ _).mono hw1.size)⟩
     ·have hnx : ∀ ty,(Instr.next (.pointer (some ⟨w2.heap.size,0,none⟩)) true ty).run Tryz.prog (w2.iter s pos) = _ := fun ty => run_next_end w2 s pos ty hp
      have HF : Hid (true = nameB s) := by
       show true = _
       have := H.out.done (by rw [len_data]; omega)
       rw [HR.out] at this
       simp at this
       rw [HX.out,this,HO.out]
      go_wp2
      go_ret
      exact ⟨ret_bool HF.out,hw1.trans ((below_iter _ _ _).mono hw1.size)⟩
end
section
open Go.ChangeShapes Go.WideShapes Go.ChangeAt Go.RowKit Go.Maps
set_option maxRecDepth 20000
def SetK (k : TypeId) (w : World) (b n : Nat) (L : List Value) : Prop :=
 ∃ D : DataW Unit,w.ownsMap Tryz.prog k (unitElem (H := Unit)) b n D ∧ ∀ v kl,keyOf Tryz.prog k v = some kl → (Maps.has D kl = true ↔ v ∈ L)
theorem SetK.lt {k : TypeId} {w : World} {b n : Nat} {L : List Value} (h : SetK k w b n L) : b < w.heap.size := by obtain ⟨D,h1,_⟩ := h; exact h1.lt
theorem SetK.made (k : TypeId) (w : World) : SetK k (w.alloc (.map #[] 0)) w.heap.size 0 [] :=
 ⟨.map [],World.ownsMap_made w Tryz.prog k unitElem,fun v kl _ => by simp [Maps.has]⟩
theorem SetK.kp {k : TypeId} {S : Nat → Prop} {w w1 : World} {b n : Nat} {L : List Value} (h : SetK k w b n L) (hk : Kp S w w1) (hs : ¬ S b) : SetK k w1 b n L := by
 have hlt := h.lt
 obtain ⟨D,⟨es,clock,hb,r⟩,h2⟩ := h
 exact ⟨D,⟨es,clock,(hk.block b hlt hs).trans hb,r⟩,h2⟩
theorem SetK.below {k : TypeId} {w w1 : World} {b n : Nat} {L : List Value} (h : SetK k w b n L) (hk : Below w.heap.size w w1) : SetK k w1 b n L := h.kp (S := fun _ => False) (Kp.ofBelow hk) (fun e => e)
theorem SetK.mono {k : TypeId} {w : World} {b n n' : Nat} {L : List Value} (h : SetK k w b n L) (hn : n ≤ n') : SetK k w b n' L := by
 obtain ⟨D,h1,h2⟩ := h; exact ⟨D,h1.mono hn,h2⟩
theorem SetK.put {k : TypeId} (K : Keyed Tryz.prog k) {w : World} {b n : Nat} {L : List Value} {D : DataW Unit} (hD : Maps.IsMap D) (h2 : ∀ v kl,keyOf Tryz.prog k v = some kl → (Maps.has D kl = true ↔ v ∈ L)) {v : Value} {kl : Lit} (hv : keyOf Tryz.prog k v = some kl) {u : DataW Unit}
  (h1 : w.ownsMap Tryz.prog k (unitElem (H := Unit)) b n (D.put kl u)) : SetK k w b n (L ++ [v]) := by
 refine ⟨_,h1,fun v' kl' hv' => ?_⟩
 by_cases e : kl' = kl
 ·subst e
  have : v' = v := K.inj hv' hv
  subst this
  rw [Maps.has_put_same hD (K.key hv)]
  simp
 ·rw [Maps.has_put_other e,h2 v' kl' hv']
  simp only [List.mem_append,List.mem_singleton]
  constructor
  ·exact .inl
  ·rintro (h | rfl)
   ·exact h
   ·rw [hv] at hv'; cases hv'; exact absurd rfl e
theorem SetK.ne {k : TypeId} {w : World} {b n : Nat} {L : List Value} (h : SetK k w b n L) {g : Nat} {p : Addr} {u : Value} (hc : w.cell? p = some u) (hg : p.block = g) : g ≠ b := by
 rintro rfl
 obtain ⟨D,⟨es,clock,hb,_⟩,_⟩ := h
 obtain ⟨q,off,sp⟩ := p
 simp only at hg
 subst hg
 simp [World.cell?,hb] at hc
theorem zeroU (w : World) : (zeroValue 120).run Tryz.prog w = .ok (.agg #[]) w := by kernel_rfl
def SetS (w : World) (b n : Nat) (L : List ByteArray) : Prop := SetK 9 w b n (L.map Value.string)
def SetI (w : World) (b n : Nat) (L : List Int) : Prop := SetK 3 w b n (L.map (Value.int .i64))
def tyV (p : Int × ByteArray) : Value := .agg #[.int .i64 p.1,.string p.2]
def SetT (w : World) (b n : Nat) (L : List (Int × ByteArray)) : Prop := SetK 32 w b n (L.map tyV)
theorem lawS : Keyed Tryz.prog 9 := string_keyed Tryz.underlying9
theorem lawI : Keyed Tryz.prog 3 := int_keyed Tryz.underlying3
theorem laidOutP : laidOutB Tryz.prog = true := by kernel_rfl
theorem lawT : Keyed Tryz.prog 32 := Keyed.of_law (deep_law_laid laidOutP (m := 3) (by omega) (of_decide_eq_true (by kernel_rfl)) (by kernel_rfl) (by kernel_rfl))
def I64 (n : Int) : Prop := -9223372036854775808 ≤ n ∧ n ≤ 9223372036854775807
theorem wf64 {n : Int} (h : I64 n) : (Lit.int .i64 n).wf = true := WalkArith.wf_i64 (by obtain ⟨h1,h2⟩ := h; omega)
theorem key_str {s : ByteArray} (h : s.size ≤ 140737488351232) : keyOf Tryz.prog 9 (.string s) = some (.string s.data.toList) :=
 WideMaps.keyOf_string_mk (P := Tryz.prog) (k := 9) Tryz.underlying9 (s := s) (by unfold maxLen; omega)
theorem key_int {n : Int} (h : I64 n) : keyOf Tryz.prog 3 (.int .i64 n) = some (.int .i64 n) :=
 keyOf_int_mk (P := Tryz.prog) (k := 3) Tryz.underlying3 (wf64 h)
theorem keyTypeT : Tryz.prog.keyType 32 = true := by kernel_rfl
theorem cellsT : Tryz.prog.cellsOf 32 = 2 := by kernel_rfl
theorem cellsI : Tryz.prog.cellsOf 3 = 1 := by kernel_rfl
theorem cellsS : Tryz.prog.cellsOf 9 = 1 := by kernel_rfl
theorem lits_int {m : Nat} {k : Int} (hk : I64 k) : Tryz.prog.keyLits (m + 1) 3 [.int .i64 k] = some [.int .i64 k] := by
 simp [Program.keyLits,Tryz.underlying3,wf64 hk]
theorem lits_str {m : Nat} {s : ByteArray} (hs : s.size ≤ 140737488351232) : Tryz.prog.keyLits (m + 1) 9 [.string s] = some [.string s.data.toList] := by
 have : s.size ≤ maxLen := by unfold maxLen; omega
 simp [Program.keyLits,Tryz.underlying9,this]
theorem lits_ty {m : Nat} {k : Int} {s : ByteArray} (hk : I64 k) (hs : s.size ≤ 140737488351232) : Tryz.prog.keyLits (m + 2) 32 [.int .i64 k,.string s] = some [.int .i64 k,.string s.data.toList] := by
 unfold Program.keyLits
 simp only [Tryz.underlying32,cellsT]
 simp [cellsI,cellsS,lits_int hk,lits_str hs]
theorem key_ty {k : Int} {s : ByteArray} (hk : I64 k) (hs : s.size ≤ 140737488351232) : ∃ kl,keyOf Tryz.prog 32 (tyV (k,s)) = some kl := by
 obtain ⟨m,hm⟩ : ∃ m,Tryz.prog.types.size + 1 = m + 2 := ⟨Tryz.prog.types.size - 1,by have : 0 < Tryz.prog.types.size := of_decide_eq_true (by kernel_rfl); omega⟩
 have hf : (tyV (k,s)).formed Tryz.prog 32 = true := by simp [tyV,Value.formed,Tryz.underlying32,cellsT]
 unfold keyOf
 rw [hm,show (tyV (k,s)).cells.toList = [.int .i64 k,.string s] from rfl,lits_ty hk hs,keyTypeT,hf]
 simp only [Tryz.underlying32]
 exact ⟨_,rfl⟩
theorem mem_str {s : ByteArray} {L : List ByteArray} : Value.string s ∈ L.map Value.string ↔ s ∈ L := by
 simp only [List.mem_map,Value.string.injEq,exists_eq_right]
theorem mem_int {s : Int} {L : List Int} : Value.int .i64 s ∈ L.map (Value.int .i64) ↔ s ∈ L := by
 simp only [List.mem_map,Value.int.injEq,true_and,exists_eq_right]
theorem mem_ty {s : Int × ByteArray} {L : List (Int × ByteArray)} : tyV s ∈ L.map tyV ↔ s ∈ L := by
 simp only [List.mem_map,tyV,Value.agg.injEq,Array.mk.injEq,List.cons.injEq,Value.int.injEq,Value.string.injEq,true_and,and_true]
 constructor
 ·rintro ⟨⟨a,b⟩,h1,h2,h3⟩; obtain ⟨c,d⟩ := s; simp only at h2 h3; subst h2 h3; exact h1
 ·intro h; exact ⟨s,h,rfl,rfl⟩
theorem SetS.has {w : World} {b n : Nat} {L : List ByteArray} {D : DataW Unit} (h2 : ∀ v kl,keyOf Tryz.prog 9 v = some kl → (Maps.has D kl = true ↔ v ∈ L.map Value.string)) {s : ByteArray} (hs : s.size ≤ 140737488351232) : Maps.has D (.string s.data.toList) = memB s L := by
 rw [Bool.eq_iff_iff,h2 _ _ (key_str hs),mem_str,memB_iff]
theorem SetI.has {w : World} {b n : Nat} {L : List Int} {D : DataW Unit} (h2 : ∀ v kl,keyOf Tryz.prog 3 v = some kl → (Maps.has D kl = true ↔ v ∈ L.map (Value.int .i64))) {s : Int} (hs : I64 s) : Maps.has D (.int .i64 s) = memI s L := by
 rw [Bool.eq_iff_iff,h2 _ _ (key_int hs),mem_int]
 simp [memI]
set_option maxHeartbeats 1000000 in
theorem has_str {w : World} {b n : Nat} {L : List ByteArray} (h : SetS w b n L) {s : ByteArray} (hs : s.size ≤ 140737488351232) :
  Calls Tryz.prog 123 #[.map (some b),.string s] w fun e w' => e = .returned (.bool (memB s L)) ∧ Below w.heap.size w w' := by
 obtain ⟨D,hown,h2⟩ := h
 have HH : Hid (Maps.has D (.string s.data.toList) = memB s L) := SetS.has (w := w) (b := b) (n := n) h2 hs
 have hkey := key_str hs
 clear h2
 go_enter Tryz.func123,Tryz.ntmps123
 go_wp2_with (first
  | (at_lookup; refine wpList_lookup_own_unit _ rfl _ _ 101 rfl 9 120 lawS Tryz.underlying101 (zeroU _) b n D rfl hown _ _ rfl hkey ?_)
  | fail)
 go_ret
 exact ⟨ret_bool HH.out,((Below.refl _ _).alloc (Nat.le_refl _) _)⟩
set_option maxHeartbeats 1000000 in
theorem has_int {w : World} {b n : Nat} {L : List Int} (h : SetI w b n L) {s : Int} (hs : I64 s) :
  Calls Tryz.prog 124 #[.map (some b),.int .i64 s] w fun e w' => e = .returned (.bool (memI s L)) ∧ Below w.heap.size w w' := by
 obtain ⟨D,hown,h2⟩ := h
 have HH : Hid (Maps.has D (.int .i64 s) = memI s L) := SetI.has (w := w) (b := b) (n := n) h2 hs
 have hkey := key_int hs
 clear h2
 go_enter Tryz.func124,Tryz.ntmps124
 go_wp2_with (first
  | (at_lookup; refine wpList_lookup_own_unit _ rfl _ _ 144 rfl 3 120 lawI Tryz.underlying144 (zeroU _) b n D rfl hown _ _ rfl hkey ?_)
  | fail)
 go_ret
 exact ⟨ret_bool HH.out,((Below.refl _ _).alloc (Nat.le_refl _) _)⟩
def memT (p : Int × ByteArray) (L : List (Int × ByteArray)) : Bool := L.any fun q => decide (p = q)
theorem memT_iff {p : Int × ByteArray} {L : List (Int × ByteArray)} : memT p L = true ↔ p ∈ L := by simp [memT]
set_option maxHeartbeats 1000000 in
theorem has_ty {w : World} {b n : Nat} {L : List (Int × ByteArray)} (h : SetT w b n L) {k : Int} {s : ByteArray} (hk : I64 k) (hs : s.size ≤ 140737488351232) :
  Calls Tryz.prog 92 #[.map (some b),.agg #[.int .i64 k,.string s]] w fun e w' => e = .returned (.bool (memT (k,s) L)) ∧ Below w.heap.size w w' := by
 obtain ⟨D,hown,h2⟩ := h
 obtain ⟨kl,hkey⟩ := key_ty hk hs
 have HH : Hid (Maps.has D kl = memT (k,s) L) := by
  show _ = _
  rw [Bool.eq_iff_iff,h2 _ _ hkey,mem_ty,memT_iff]
 unfold tyV at hkey
 simp only at hkey
 clear h2
 go_enter Tryz.func92,Tryz.ntmps92
 go_wp2_with (first
  | (at_lookup; refine wpList_lookup_own_unit _ rfl _ _ 98 rfl 32 120 lawT Tryz.underlying98 (zeroU _) b n D rfl (hown.alloc _) _ _ rfl hkey ?_)
  | fail)
 go_ret
 exact ⟨ret_bool HH.out,((Below.refl _ _).alloc (Nat.le_refl _) _).alloc (by simp) _⟩
set_option maxHeartbeats 1000000 in
theorem add_str {w : World} {b n : Nat} {L : List ByteArray} (h : SetS w b n L) {s : ByteArray} (hs : s.size ≤ 140737488351232) (hn : n < 1000000) :
  Calls Tryz.prog 111 #[.map (some b),.string s] w fun e w' => e = .returned (.bool (!memB s L)) ∧ (memB s L = false → SetS w' b (n + 1) (L ++ [s])) ∧ Kp (fun k => k = b) w w' := by
 have HS : Hid (SetS w b n L) := h
 clear h
 have hkey := key_str hs
 cases hm : memB s L
 ·go_enter Tryz.func111,Tryz.ntmps111
  go_wp2_with fail
  refine (has_str HS.out hs).mono ?_
  rintro e w1 ⟨rfl,hb1⟩
  rw [hm]
  obtain ⟨D,hown,h2⟩ := HS.out.below hb1
  have H2 : Hid _ := h2
  clear h2
  go_wp2_with (first
   | (at_mapUpdate; refine wpList_mapUpdate_own _ rfl _ _ _ 101 rfl 9 120 lawS Tryz.underlying101 (unitElem (H := Unit)) b n _ rfl hown (by unfold maxLen; omega) _ _ _ rfl rfl hkey _ [] unitElem_mk ?_; intro w2 hown1 hgrow1)
   | fail)
  go_ret
  refine ⟨rfl,fun _ => ?_,(Kp.ofBelow hb1).grown hgrow1 (fun k hk _ => by cases hk; rfl)⟩
  have := SetK.put lawS hown.isMap H2.out hkey hown1
  unfold SetS
  rw [List.map_append]
  exact this
 ·go_enter Tryz.func111,Tryz.ntmps111
  go_wp2_with fail
  refine (has_str HS.out hs).mono ?_
  rintro e w1 ⟨rfl,hb1⟩
  rw [hm]
  go_wp2_with fail
  go_ret
  exact ⟨rfl,(fun e => by cases e),Kp.ofBelow hb1⟩
set_option maxHeartbeats 1000000 in
theorem add_int {w : World} {b n : Nat} {L : List Int} (h : SetI w b n L) {s : Int} (hs : I64 s) (hn : n < 1000000) :
  Calls Tryz.prog 112 #[.map (some b),.int .i64 s] w fun e w' => e = .returned (.bool (!memI s L)) ∧ (memI s L = false → SetI w' b (n + 1) (L ++ [s])) ∧ Kp (fun k => k = b) w w' := by
 have HS : Hid (SetI w b n L) := h
 clear h
 have hkey := key_int hs
 cases hm : memI s L
 ·go_enter Tryz.func112,Tryz.ntmps112
  go_wp2_with fail
  refine (has_int HS.out hs).mono ?_
  rintro e w1 ⟨rfl,hb1⟩
  rw [hm]
  obtain ⟨D,hown,h2⟩ := HS.out.below hb1
  have H2 : Hid _ := h2
  clear h2
  go_wp2_with (first
   | (at_mapUpdate; refine wpList_mapUpdate_own _ rfl _ _ _ 144 rfl 3 120 lawI Tryz.underlying144 (unitElem (H := Unit)) b n _ rfl hown (by unfold maxLen; omega) _ _ _ rfl rfl hkey _ [] unitElem_mk ?_; intro w2 hown1 hgrow1)
   | fail)
  go_ret
  refine ⟨rfl,fun _ => ?_,(Kp.ofBelow hb1).grown hgrow1 (fun k hk _ => by cases hk; rfl)⟩
  have := SetK.put lawI hown.isMap H2.out hkey hown1
  unfold SetI
  rw [List.map_append]
  exact this
 ·go_enter Tryz.func112,Tryz.ntmps112
  go_wp2_with fail
  refine (has_int HS.out hs).mono ?_
  rintro e w1 ⟨rfl,hb1⟩
  rw [hm]
  go_wp2_with fail
  go_ret
  exact ⟨rfl,(fun e => by cases e),Kp.ofBelow hb1⟩
set_option maxHeartbeats 1000000 in
theorem newname_any {w : World} {b n : Nat} {L : List ByteArray} (h : SetS w b n L) {s : ByteArray} (hs : s.size ≤ 140737488351232) (hn : n < 1000000) :
  Calls Tryz.prog 86 #[.map (some b),.string s] w fun e w' => e = .returned (.bool (freshB s L)) ∧ (freshB s L = true → SetS w' b (n + 1) (L ++ [s])) ∧ Kp (fun k => k = b) w w' := by
 have HS : Hid (SetS w b n L) := h
 clear h
 cases hm : nameB s
 ·have HF : Hid (false = freshB s L) := by show _ = _; unfold freshB; rw [hm]; rfl
  go_enter Tryz.func86,Tryz.ntmps86
  go_wp2_with fail
  refine (name_any s _ hs).mono ?_
  rintro e w1 ⟨rfl,hb1⟩
  rw [hm]
  go_wp2_with fail
  go_ret
  exact ⟨ret_bool HF.out,(fun e => by rw [← HF.out] at e; cases e),Kp.ofBelow hb1⟩
 ·have HF : Hid ((!memB s L) = freshB s L) := by show _ = _; unfold freshB; rw [hm]; rfl
  go_enter Tryz.func86,Tryz.ntmps86
  go_wp2_with fail
  refine (name_any s _ hs).mono ?_
  rintro e w1 ⟨rfl,hb1⟩
  rw [hm]
  go_wp2_with fail
  refine (add_str (SetK.below HS.out hb1) hs hn).mono ?_
  rintro e w2 ⟨rfl,h2,hk2⟩
  have H2 : Hid _ := h2
  clear h2
  go_wp2_with fail
  go_ret
  exact ⟨ret_bool HF.out,(fun e => H2.out (by rw [← HF.out] at e; simpa using e)),(Kp.ofBelow hb1).trans hk2⟩
set_option maxHeartbeats 1000000 in
theorem newtag_any {w : World} {b n : Nat} {L : List Int} (h : SetI w b n L) {s : Int} (hs : I64 s) (hn : n < 1000000) :
  Calls Tryz.prog 87 #[.map (some b),.int .i64 s] w fun e w' => e = .returned (.bool (tagB s L)) ∧ (tagB s L = true → SetI w' b (n + 1) (L ++ [s])) ∧ Kp (fun k => k = b) w w' := by
 have HS : Hid (SetI w b n L) := h
 clear h
 by_cases h1 : 1 ≤ s
 ·by_cases h5 : s ≤ 500
  ·have HF : Hid ((!memI s L) = tagB s L) := by show _ = _; unfold tagB tagR; rw [decide_eq_true (And.intro h1 h5)]; rfl
   go_enter Tryz.func87,Tryz.ntmps87
   go_wp2_with fail
   refine (add_int HS.out hs hn).mono ?_
   rintro e w2 ⟨rfl,h2,hk2⟩
   have H2 : Hid _ := h2
   clear h2
   go_wp2_with fail
   go_ret
   exact ⟨ret_bool HF.out,(fun e => H2.out (by rw [← HF.out] at e; simpa using e)),hk2⟩
  ·have hd : decide (s ≤ 500) = false := by simpa using h5
   have HF : Hid (false = tagB s L) := by show _ = _; unfold tagB tagR; rw [decide_eq_false (fun e => h5 e.2)]; rfl
   go_enter Tryz.func87,Tryz.ntmps87
   go_wp2_with fail
   go_ret
   exact ⟨ret_bool HF.out,(fun e => by rw [← HF.out] at e; cases e),Kp.refl _ _⟩
 ·have hd : decide (1 ≤ s) = false := by simpa using h1
  have HF : Hid (false = tagB s L) := by show _ = _; unfold tagB tagR; rw [decide_eq_false (fun e => h1 e.1)]; rfl
  go_enter Tryz.func87,Tryz.ntmps87
  go_wp2_with fail
  go_ret
  exact ⟨ret_bool HF.out,(fun e => by rw [← HF.out] at e; cases e),Kp.refl _ _⟩
theorem RowG.kpM {S : Nat → Prop} {w w1 : World} {v : Value} {size : Nat} {rs : List (List Value)} (h : RowG w v size rs) (hk : Kp S w w1) (hs : ∀ p u,w.cell? p = some u → ¬ S p.block) : RowG w1 v size rs := by
 obtain ⟨a,cap,h1,h2,h3,h0,h4⟩ := h.form
 refine ⟨a,cap,h1,h2,h3,h0,fun hne => ?_⟩
 obtain ⟨g,off,h5,h6⟩ := h4 hne
 exact ⟨g,off,h5,fun i c u j hc hu => hk.cell (h6 i c u j hc hu) (hs _ _ (h6 i c u j hc hu))⟩
theorem SetK.no {k : TypeId} {w : World} {b n : Nat} {L : List Value} (h : SetK k w b n L) : ∀ p u,w.cell? p = some u → ¬ p.block = b := fun p u hc => h.ne hc rfl
theorem Kp.new {S : Nat → Prop} {w wr w1 : World} {b : Nat} (h : Kp S w wr) (h1 : Kp (fun k => k = b) wr w1) (hb : w.heap.size ≤ b) : Kp S w w1 := h.trans2 h1 (fun i hi e => by omega)
def FlW (f : FlS) : Prop := f.name.size ≤ 140737488351232 ∧ f.tname.size ≤ 140737488351232 ∧ I64 f.tag ∧ I64 f.label ∧ I64 f.kind
def NmW (f : NmS) : Prop := f.name.size ≤ 140737488351232 ∧ I64 f.n
def MtW (f : MtS) : Prop := f.name.size ≤ 140737488351232 ∧ f.inn.size ≤ 140737488351232 ∧ f.out.size ≤ 140737488351232
def MsW (m : MsS) : Prop := m.name.size ≤ 140737488351232 ∧ (∀ f ∈ m.fields,FlW f) ∧ ∀ n ∈ m.reserved,I64 n
def EnW (m : EnS) : Prop := m.name.size ≤ 140737488351232 ∧ ∀ f ∈ m.values,NmW f
structure ScW (s : ScS) : Prop where
 name : s.name.size ≤ 140737488351232
 msgs : ∀ m ∈ s.msgs,MsW m
 enums : ∀ m ∈ s.enums,EnW m
 meths : ∀ m ∈ s.methods,MtW m
set_option maxHeartbeats 1000000 in
theorem islabel_any (n : Int) (w : World) : Calls Tryz.prog 113 #[.int .i64 n] w fun e w' => e = .returned (.bool (labB n)) ∧ w' = w := by
 by_cases h1 : n = 1
 ·subst h1
  go_enter Tryz.func113,Tryz.ntmps113
  go_wp2_with fail
  go_ret
  exact ⟨rfl,rfl⟩
 ·by_cases h2 : n = 2
  ·subst h2
   go_enter Tryz.func113,Tryz.ntmps113
   go_wp2_with fail
   go_ret
   exact ⟨rfl,rfl⟩
  ·by_cases h3 : n = 3
   ·subst h3
    go_enter Tryz.func113,Tryz.ntmps113
    go_wp2_with fail
    go_ret
    exact ⟨rfl,rfl⟩
   ·have HF : Hid (false = labB n) := by show _ = _; unfold labB; rw [decide_eq_false (by omega)]
    have e1 : (n == 1) = false := by simpa using h1
    have e2 : (n == 2) = false := by simpa using h2
    have e3 : (n == 3) = false := by simpa using h3
    go_enter Tryz.func113,Tryz.ntmps113
    go_wp2_with fail
    go_ret
    exact ⟨ret_bool HF.out,rfl⟩
set_option maxHeartbeats 1000000 in
theorem msgtype_any (s : ByteArray) (w : World) : Calls Tryz.prog 85 #[.string s] w fun e w' => e = .returned (.agg #[.int .i64 7,.string s]) ∧ Below w.heap.size w w' := by
 go_enter Tryz.func85,Tryz.ntmps85
 go_wp2_with fail
 refine bodyPost_ret (v := .agg #[.int .i64 7,.string s]) (by simp [results,Tryz.results85,go_sem]) rfl ⟨rfl,?_⟩
 exact (Below.refl _ _).alloc (Nat.le_refl _) _
set_option maxHeartbeats 1000000 in
theorem iszero_any (s : ByteArray) (n : Int) (w : World) : Calls Tryz.prog 90 #[.agg #[.string s,.int .i64 n]] w fun e w' => e = .returned (.bool (decide (n = 0))) ∧ Below w.heap.size w w' := by
 have HE : Hid ((n == 0) = decide (n = 0)) := rfl
 go_enter Tryz.func90,Tryz.ntmps90
 go_wp2_with fail
 go_ret
 exact ⟨ret_bool HE.out,(Below.refl _ _).alloc (Nat.le_refl _) _⟩
def zeroM : MsS := ⟨⟨#[]⟩,[],[]⟩
def zeroN : EnS := ⟨⟨#[]⟩,[]⟩
def zeroF : FlS := ⟨⟨#[]⟩,0,0,0,⟨#[]⟩⟩
def flV (m : FlS) : Value := .agg #[.string m.name,.int .i64 m.tag,.int .i64 m.label,.int .i64 m.kind,.string m.tname]
theorem ret_two {a b c d : Value} (h1 : a = c) (h2 : b = d) : Ending.returned (.tuple #[a,b]) = .returned (.tuple #[c,d]) := by rw [h1,h2]
theorem bytes_ne {a b : ByteArray} (h : ¬ a = b) : (a.toList == b.toList) = false := by
 rw [ByteArray.toList_eq,ByteArray.toList_eq,beq_bytes]; exact decide_eq_false h
set_option maxHeartbeats 2000000 in
theorem cfield_any {w : World} {snm : ByteArray} {nm : Int} {am : Option Addr} {M cm : Nat} {vt : Value} {ts : List FlS} (hr : RowG w vt 5 (flRows ts)) :
  Calls Tryz.prog 80 #[.agg #[.string snm,vt,.slice am M cm],.int .i64 nm] w fun e w' => e = .returned (.tuple #[flV ((ts.find? fun m => decide (m.tag = nm)).getD zeroF),.bool (ts.find? fun m => decide (m.tag = nm)).isSome]) ∧ Below w.heap.size w w' := by
 obtain ⟨a,c,rfl,q1,q2⟩ := hr.form2
 have hN : (flRows ts).length = ts.length := by simp [flRows]
 rw [hN] at hr q1 ⊢
 clear hN
 obtain ⟨N,hN⟩ : ∃ N,ts.length = N := ⟨_,rfl⟩
 rw [hN] at hr q1 ⊢
 have HN : Hid (ts.length = N) := hN
 have HR : Hid (RowG w (.slice a N c) 5 (flRows ts)) := hr
 clear hN hr
 obtain ⟨A,hA⟩ : ∃ A,(ts.find? fun m => decide (m.tag = nm)) = A := ⟨_,rfl⟩
 rw [hA]
 have HA : Hid (A = ((ts.drop 0).find? fun m => decide (m.tag = nm))) := hA.symm
 clear hA
 have BX0 : Blk ((w.alloc (.cells #[.string snm,.slice a N c,.slice am M cm] 50)).alloc (.cells #[.string ⟨#[]⟩,.int .i64 0,.int .i64 0,.int .i64 0,.string ⟨#[]⟩] 54)) w.heap.size #[.string snm,.slice a N c,.slice am M cm] 50 := (Blk.new w _ _).below ((Below.refl _ _).alloc (Nat.le_refl _) _)
 have BR0 : Blk ((w.alloc (.cells #[.string snm,.slice a N c,.slice am M cm] 50)).alloc (.cells #[.string ⟨#[]⟩,.int .i64 0,.int .i64 0,.int .i64 0,.string ⟨#[]⟩] 54)) (w.heap.size + 1) #[.string ⟨#[]⟩,.int .i64 0,.int .i64 0,.int .i64 0,.string ⟨#[]⟩] 54 := by
  have := Blk.new (w.alloc (.cells #[.string snm,.slice a N c,.slice am M cm] 50)) #[.string ⟨#[]⟩,.int .i64 0,.int .i64 0,.int .i64 0,.string ⟨#[]⟩] 54
  rwa [show (w.alloc (.cells #[.string snm,.slice a N c,.slice am M cm] 50)).heap.size = w.heap.size + 1 by simp] at this
 have hb0 : Below w.heap.size w ((w.alloc (.cells #[.string snm,.slice a N c,.slice am M cm] 50)).alloc (.cells #[.string ⟨#[]⟩,.int .i64 0,.int .i64 0,.int .i64 0,.string ⟨#[]⟩] 54)) := ((Below.refl _ _).alloc (Nat.le_refl _) _).alloc (by simp) _
 go_enter Tryz.func80,Tryz.ntmps80
 go_wp2_with fail
 go_loopw [11] (fun iv wr => ∃ k : Nat,iv = .int .i64 (k : Int) ∧ k ≤ N ∧ Hid (A = ((ts.drop k).find? fun m => decide (m.tag = nm))) ∧ Below w.heap.size w wr ∧ Blk wr (w.heap.size + 1) #[.string ⟨#[]⟩,.int .i64 0,.int .i64 0,.int .i64 0,.string ⟨#[]⟩] 54) (fun iv _ => N - (intOf iv).toNat)
 case atStart => exact ⟨0,rfl,by omega,HA,hb0,BR0⟩
 case round =>
  obtain ⟨k,rfl,hk,HAk,hbel,BR⟩ := hrel
  clear BX0 BR0 hb0
  have hlt2 : w.heap.size + 1 < wr.heap.size := BR.lt
  have r0 := (BR.cell 0).trans rfl
  have z0 := BR.froz 0
  have r1 := (BR.cell 1).trans rfl
  have z1 := BR.froz 1
  have r2 := (BR.cell 2).trans rfl
  have z2 := BR.froz 2
  have r3 := (BR.cell 3).trans rfl
  have z3 := BR.froz 3
  have r4 := (BR.cell 4).trans rfl
  have z4 := BR.froz 4
  by_cases hlt : k < N
  ·obtain ⟨f,hf⟩ : ∃ n,ts[k]? = some n := ⟨_,List.getElem?_eq_getElem (by rw [HN.out]; exact hlt)⟩
   have hrr : (flRows ts)[k]? = some f.cells := by simp [flRows,hf]
   obtain ⟨g,off,rfl,c1⟩ := (HR.out.below hbel).get hrr
   obtain ⟨f0,f1,f2,f3,f4⟩ := f
   have HA2 : Hid (A = if decide (f1 = nm) = true then some ⟨f0,f1,f2,f3,f4⟩ else ((ts.drop (k + 1)).find? fun m => decide (m.tag = nm))) := by
    show _ = _
    rw [HAk.out,drop_at hf,List.find?_cons]
    cases decide (f1 = nm) <;> rfl
   have p0 := c1 0 _ rfl
   have p1 := c1 1 _ rfl
   have p2 := c1 2 _ rfl
   have p3 := c1 3 _ rfl
   have p4 := c1 4 _ rfl
   simp only [Nat.add_zero] at p0 p1 p2 p3 p4
   clear c1 hrr hf HAk
   by_cases he : f1 = nm
   ·subst he
    go_wp2_with fail
    refine bodyPost_ret (results_two rfl _ _ _ ⟨w.heap.size + 1,0,none⟩ (.agg #[.string f0,.int .i64 f1,.int .i64 f2,.int .i64 f3,.string f4]) (by go_simp) (by go_simp)) rfl ?_
    exact ⟨ret_two (by rw [HA2.out,if_pos (by simp)]; rfl) (by rw [HA2.out,if_pos (by simp)]; rfl),(Below.alloc (Below.setCell (Below.setCell (Below.setCell (Below.setCell (Below.setCell hbel (by simp) _) (by simp) _) (by simp) _) (by simp) _) (by simp) _) (by simp; omega) _)⟩
   ·have hq : (f1 == nm) = false := by simpa using he
    have HA3 : Hid (A = ((ts.drop (k + 1)).find? fun m => decide (m.tag = nm))) := by show _ = _; rw [HA2.out,if_neg (by simpa using he)]
    have hb2 : Below w.heap.size w (wr.alloc (.cells #[.string f0,.int .i64 f1,.int .i64 f2,.int .i64 f3,.string f4] 54)) := hbel.alloc (by omega) _
    have BR2 : Blk (wr.alloc (.cells #[.string f0,.int .i64 f1,.int .i64 f2,.int .i64 f3,.string f4] 54)) (w.heap.size + 1) #[.string ⟨#[]⟩,.int .i64 0,.int .i64 0,.int .i64 0,.string ⟨#[]⟩] 54 := BR.below ((Below.refl _ _).alloc (Nat.le_refl _) _)
    go_wp2_with fail
    go_roundw
    case rel => exact ⟨k + 1,by go_num,by omega,HA3,hb2,BR2⟩
    case measure => simp [intOf]; omega
  ·have HA2 : Hid (A = none) := by show _ = _; rw [HAk.out,drop_end (by rw [HN.out]; omega)]; rfl
   go_wp2_with fail
   refine bodyPost_ret (results_two rfl _ _ _ ⟨w.heap.size + 1,0,none⟩ (.agg #[.string ⟨#[]⟩,.int .i64 0,.int .i64 0,.int .i64 0,.string ⟨#[]⟩]) (by go_simp) (by go_simp)) rfl ?_
   exact ⟨ret_two (by rw [HA2.out]; rfl) (by rw [HA2.out]; rfl),(Below.setCell (Below.setCell (Below.setCell (Below.setCell (Below.setCell hbel (by simp) _) (by simp) _) (by simp) _) (by simp) _) (by simp) _)⟩
end
end Go.Proofs.YtfnjbbaphmmjlaaGreat
