/- What a schema sees of a value, in plain words. -/
import Derived.Test.YtmgbhicogmclgaaLfMath
namespace Go.Proofs.Ytmgbhicogmclgaa
set_option linter.unusedVariables false
set_option linter.unusedSimpArgs false

/-- A number cut to 32 bits. -/
def clampI (n : Int) : Int := if n < -2147483648 then -2147483648 else if 2147483647 < n then 2147483647 else n
/-- Does a tree fit a field? -/
def pfitB (f : FlS) (x : Tr) : Bool := decide (x.kind = kindT f.kind) && (if f.kind = 3 ∨ f.kind = 6 then nmrB f.kind x.n else if f.kind = 4 then validB x.s.data.toList else true)
/-- What is seen of one tree. -/
def oneP (M : ByteArray → Tr → Tr) (f : FlS) (x : Tr) : Tr := if f.kind = 1 then ⟨1, clampI x.n, ⟨#[]⟩, [], []⟩ else if f.kind = 7 then M f.tname x else x
/-- The trees that count. -/
def lastP (f : FlS) (l : List Tr) : List Tr := if f.label = 3 then l else l.drop (l.length - 1)
/-- What is seen of an entry. -/
def entP (M : ByteArray → Tr → Tr) (fs : List FlS) (e : Int × List Tr) : Option (Int × List Tr) :=
  match fldOf fs e.1 with
  | none => none
  | some f => if e.2.all (pfitB f) = true then (if f.label = 1 ∧ zroB (((lastP f e.2).map (oneP M f)).headD tr0) = true then none else some (f.tag, (lastP f e.2).map (oneP M f))) else none
/-- What is seen of a message (down to n). -/
def prM : Nat → ScS → ByteArray → Tr → Tr
  | 0, _, _, _ => tr0
  | n + 1, s, nm, t => ⟨3, 0, ⟨#[]⟩, t.es.filterMap (entP (prM n s) ((msgOf s nm).getD zMs).fields), []⟩
/-- Project's answer. -/
def projA (n : Nat) (s : ScS) (nm : ByteArray) (t : Tr) : Tr × Bool := if checkA s = 0 ∧ (msgOf s nm).isSome = true ∧ t.kind = 3 ∧ chkN n t = true then (prM n s nm t, true) else (tr0, false)
theorem clampI_in (n : Int) : -2147483648 ≤ clampI n ∧ clampI n ≤ 2147483647 := by
  unfold clampI; split
  · omega
  · split <;> omega
theorem clampI_of {n : Int} (h : -2147483648 ≤ n ∧ n ≤ 2147483647) : clampI n = n := by
  unfold clampI; rw [if_neg (by omega), if_neg (by omega)]
theorem nmr1 (n : Int) : nmrB 1 n = true ↔ -2147483648 ≤ n ∧ n ≤ 2147483647 := by simp [nmrB]
theorem errF_all {l : List Int} : errF l = 0 ↔ ∀ x ∈ l, x = 0 := by
  induction l with
  | nil => simp [errF]
  | cons a l ih =>
    by_cases h : a = 0
    · simp [errF, h, ih]
    · simp [errF, h]
theorem msgV_zero {n : Nat} {s : ScS} {nm : ByteArray} {t : Tr} (h : errF (t.es.map (entV (msgV n s) ((msgOf s nm).getD zMs).fields)) = 0) (hr : t.rest = []) : msgV (n + 1) s nm t = 0 := by
  rw [msgV, h, if_neg (by simp), hr]; simp
theorem lvB_msg {es : List (Int × List Tr)} (h : entsB 0 es = true) : lvB ⟨3, 0, ⟨#[]⟩, es, []⟩ = true := by
  simp [lvB, h, restB, risesB]
  rfl
theorem entsB_le : ∀ {es : List (Int × List Tr)} {a b : Int}, entsB a es = true → b ≤ a → entsB b es = true
  | [], _, _, _, _ => rfl
  | e :: l, a, b, h, hb => by
    simp only [entsB, Bool.and_eq_true, decide_eq_true_eq] at h ⊢
    obtain ⟨⟨⟨⟨⟨h1, h2⟩, h3⟩, h4⟩, h5⟩, h6⟩ := h
    exact ⟨⟨⟨⟨⟨by omega, h2⟩, h3⟩, h4⟩, h5⟩, h6⟩
/-- Some of the entries, with other trees. -/
theorem entsB_some {g : Int × List Tr → Option (Int × List Tr)} (hg : ∀ e e', g e = some e' → e'.1 = e.1 ∧ (1 ≤ e.2.length → e.2.length ≤ 64 → 1 ≤ e'.2.length ∧ e'.2.length ≤ 64 ∧ ∃ k, ∀ x ∈ e'.2, x.kind = k)) : ∀ (es : List (Int × List Tr)) (a : Int), entsB a es = true → entsB a (es.filterMap g) = true
  | [], _, _ => rfl
  | e :: l, a, h => by
    simp only [entsB, Bool.and_eq_true, decide_eq_true_eq] at h
    obtain ⟨⟨⟨⟨⟨h1, h2⟩, h3⟩, h4⟩, h5⟩, h6⟩ := h
    have ih := entsB_some hg l e.1 h6
    cases hge : g e with
    | none => rw [List.filterMap_cons_none hge]; exact entsB_le ih (by omega)
    | some e' =>
      rw [List.filterMap_cons_some hge]
      obtain ⟨q1, q2⟩ := hg e e' hge
      obtain ⟨q3, q4, k, q5⟩ := q2 h3 h4
      simp only [entsB, Bool.and_eq_true, decide_eq_true_eq, q1]
      refine ⟨⟨⟨⟨⟨h1, h2⟩, q3⟩, q4⟩, ?_⟩, ih⟩
      rw [List.all_eq_true]
      intro x hx
      obtain ⟨y, l', hl⟩ := List.exists_cons_of_length_pos (show 0 < e'.2.length by omega)
      rw [hl]
      simp only [List.head?_cons, Option.map_some, Option.getD_some, beq_iff_eq]
      rw [q5 x hx, q5 y (by rw [hl]; simp)]
theorem fldP {fs : List FlS} {t : Int} {f : FlS} (h : fldOf fs t = some f) : f.tag = t ∧ f ∈ fs := ⟨by simpa using List.find?_some h, List.mem_of_find?_eq_some h⟩
theorem lastP_mem {f : FlS} {l : List Tr} {x : Tr} (h : x ∈ lastP f l) : x ∈ l := by
  unfold lastP at h
  split at h
  · exact h
  · exact List.mem_of_mem_drop h
theorem lastP_len {f : FlS} {l : List Tr} (h : 1 ≤ l.length) : 1 ≤ (lastP f l).length ∧ (lastP f l).length ≤ l.length ∧ (f.label ≠ 3 → (lastP f l).length = 1) := by
  unfold lastP
  split
  · rename_i h3; exact ⟨h, Nat.le_refl _, fun e => absurd h3 e⟩
  · rw [List.length_drop]; exact ⟨by omega, by omega, fun _ => by omega⟩
theorem entP_some {M : ByteArray → Tr → Tr} {fs : List FlS} {e e' : Int × List Tr} (h : entP M fs e = some e') : ∃ f, fldOf fs e.1 = some f ∧ e.2.all (pfitB f) = true ∧ ¬ (f.label = 1 ∧ zroB (((lastP f e.2).map (oneP M f)).headD tr0) = true) ∧ e' = (f.tag, (lastP f e.2).map (oneP M f)) := by
  unfold entP at h
  cases hf : fldOf fs e.1 with
  | none => rw [hf] at h; cases h
  | some f =>
    rw [hf] at h
    simp only at h
    split at h
    · rename_i h1
      split at h
      · cases h
      · rename_i h2
        exact ⟨f, rfl, h1, h2, (Option.some.inj h).symm⟩
    · cases h
/-- One tree that is seen is of its field's type. -/
theorem oneP_one {n : Nat} {s : ScS} {f : FlS} {x : Tr} (hk : 1 ≤ f.kind ∧ f.kind ≤ 7) (hp : pfitB f x = true) (hok : okN n x = true) (hsm : SmN n x)
    (IH : x.kind = 3 → FitT n s f.tname (prM n s f.tname x) ∧ bareN n (prM n s f.tname x)) : OneT n s f (oneP (prM n s) f x) ∧ bareN n (oneP (prM n s) f x) := by
  obtain ⟨n, rfl⟩ : ∃ m, n = m + 1 := by cases n with
    | zero => exact hsm.elim
    | succ m => exact ⟨m, rfl⟩
  simp only [pfitB, Bool.and_eq_true, decide_eq_true_eq] at hp
  obtain ⟨hk1, hp⟩ := hp
  unfold oneP
  by_cases h1 : f.kind = 1
  · rw [if_pos h1]
    exact ⟨num_one n s f _ (by rw [h1]; rfl) (by rw [h1, nmr1]; exact clampI_in _) (by rw [h1]; decide), rfl, by simp⟩
  · rw [if_neg h1]
    by_cases h7 : f.kind = 7
    · rw [if_pos h7]
      obtain ⟨q1, q2⟩ := IH (by rw [hk1, h7]; rfl)
      exact ⟨q1.one h7, q2⟩
    · rw [if_neg h7]
      have hlv : lvB x = true := by simp only [okN, Bool.and_eq_true] at hok; exact hok.1
      have hkx : x.kind = 1 ∨ x.kind = 2 := by
        rw [hk1]
        have : f.kind = 2 ∨ f.kind = 3 ∨ f.kind = 4 ∨ f.kind = 5 ∨ f.kind = 6 := by omega
        rcases this with e | e | e | e | e <;> rw [e] <;> simp [kindT]
      have hre : x.es = [] ∧ x.rest = [] := by
        unfold lvB at hlv
        rcases hkx with e | e
        · rw [if_pos e] at hlv; simp at hlv; exact ⟨hlv.1.2, hlv.2⟩
        · rw [if_neg (by rw [e]; decide), if_pos e] at hlv; simp at hlv; exact ⟨hlv.1.2, hlv.2⟩
      have hba : bareN (n + 1) x := ⟨hre.2, by rw [hre.1]; simp⟩
      refine ⟨⟨?_, hok, hsm, hk1, hba⟩, hba⟩
      unfold treeV
      rw [if_neg (by rw [hk1]; simp)]
      have hn1 : ¬ (x.kind = 1 ∧ nmrB f.kind x.n = false) := by
        rintro ⟨a, b⟩
        have : f.kind = 2 ∨ f.kind = 3 ∨ f.kind = 6 := by
          rw [a] at hk1
          have : f.kind = 2 ∨ f.kind = 3 ∨ f.kind = 4 ∨ f.kind = 5 ∨ f.kind = 6 := by omega
          rcases this with e | e | e | e | e
          · exact .inl e
          · exact .inr (.inl e)
          · rw [e] at hk1; simp [kindT] at hk1
          · rw [e] at hk1; simp [kindT] at hk1
          · exact .inr (.inr e)
        rcases this with e | e | e
        · rw [e] at b; simp [nmrB] at b
        · rw [if_pos (.inl e)] at hp; rw [hp] at b; cases b
        · rw [if_pos (.inr e)] at hp; rw [hp] at b; cases b
      rw [if_neg hn1]
      have hn2 : ¬ (f.kind = 4 ∧ validB x.s.data.toList = false) := by
        rintro ⟨a, b⟩
        rw [if_neg (by omega), if_pos a] at hp
        rw [hp] at b; cases b
      rw [if_neg hn2, if_neg (by omega)]
/-- What is seen of a message fits. -/
theorem prM_fit {s : ScS} (hks : ∀ nm m, msgOf s nm = some m → ∀ f ∈ m.fields, 1 ≤ f.kind ∧ f.kind ≤ 7) : ∀ (n : Nat) (nm : ByteArray) (t : Tr), t.kind = 3 → okN n t = true → SmN n t → FitT n s nm (prM n s nm t) ∧ bareN n (prM n s nm t)
  | 0, _, _, _, _, h => h.elim
  | n + 1, nm, t, hk, hok, hsm => by
    have hfk : ∀ f ∈ ((msgOf s nm).getD zMs).fields, 1 ≤ f.kind ∧ f.kind ≤ 7 := by
      cases hm : msgOf s nm with
      | none => simp [zMs]
      | some m => exact hks nm m hm
    have hok' := hok
    simp only [okN, Bool.and_eq_true, if_pos hk] at hok'
    obtain ⟨hlv, hsub⟩ := hok'
    have hen : entsB 0 t.es = true := by
      unfold lvB at hlv
      rw [if_neg (by rw [hk]; decide), if_neg (by rw [hk]; decide), if_pos hk] at hlv
      simp only [Bool.and_eq_true] at hlv
      exact hlv.1.2
    rw [List.all_eq_true] at hsub
    have hsok : ∀ e ∈ t.es, ∀ x ∈ e.2, okN n x = true := fun e he x hx => hsub x (mem_subs.2 ⟨e, he, hx⟩)
    obtain ⟨-, -, hsl, -, hse⟩ := hsm
    -- each entry that is seen
    have HE : ∀ e ∈ t.es, ∀ e', entP (prM n s) ((msgOf s nm).getD zMs).fields e = some e' → ∃ f, fldOf ((msgOf s nm).getD zMs).fields e.1 = some f ∧ e' = (f.tag, (lastP f e.2).map (oneP (prM n s) f)) ∧ ¬ (f.label = 1 ∧ zroB (((lastP f e.2).map (oneP (prM n s) f)).headD tr0) = true) ∧ ∀ y ∈ e'.2, OneT n s f y ∧ bareN n y := fun e he e' h => by
      obtain ⟨f, h1, h2, h3, rfl⟩ := entP_some h
      refine ⟨f, h1, rfl, h3, fun y hy => ?_⟩
      obtain ⟨x, hx, rfl⟩ := List.mem_map.1 hy
      have hxe := lastP_mem hx
      exact oneP_one (hfk f (fldP h1).2) (List.all_eq_true.1 h2 x hxe) (hsok e he x hxe) ((hse e he).2 x hxe) fun h3 => prM_fit hks n f.tname x h3 (hsok e he x hxe) ((hse e he).2 x hxe)
    have HM : ∀ e' ∈ t.es.filterMap (entP (prM n s) ((msgOf s nm).getD zMs).fields), ∃ e ∈ t.es, entP (prM n s) ((msgOf s nm).getD zMs).fields e = some e' := fun e' h => by
      obtain ⟨e, he, h⟩ := List.mem_filterMap.1 h
      exact ⟨e, he, h⟩
    have hents : entsB 0 (t.es.filterMap (entP (prM n s) ((msgOf s nm).getD zMs).fields)) = true := by
      have : ∀ (es : List (Int × List Tr)) (a : Int), (∀ e ∈ es, e ∈ t.es) → entsB a es = true → entsB a (es.filterMap (entP (prM n s) ((msgOf s nm).getD zMs).fields)) = true := by
        intro es
        induction es with
        | nil => intro a _ _; rfl
        | cons e l ih =>
          intro a hin h
          simp only [entsB, Bool.and_eq_true, decide_eq_true_eq] at h
          obtain ⟨⟨⟨⟨⟨h1, h2⟩, h3⟩, h4⟩, h5⟩, h6⟩ := h
          have ih' := ih e.1 (fun x hx => hin x (List.mem_cons_of_mem _ hx)) h6
          cases hge : entP (prM n s) ((msgOf s nm).getD zMs).fields e with
          | none => rw [List.filterMap_cons_none hge]; exact entsB_le ih' (by omega)
          | some e' =>
            rw [List.filterMap_cons_some hge]
            obtain ⟨f, q1, rfl, q3, q4⟩ := HE e (hin e (List.mem_cons_self ..)) e' hge
            have hl := lastP_len (f := f) h3
            simp only [entsB, Bool.and_eq_true, decide_eq_true_eq, (fldP q1).1, List.length_map]
            refine ⟨⟨⟨⟨⟨h1, h2⟩, hl.1⟩, by omega⟩, ?_⟩, ih'⟩
            rw [List.all_eq_true]
            intro y hy
            obtain ⟨z, l', hl'⟩ := List.exists_cons_of_length_pos (l := (lastP f e.2).map (oneP (prM n s) f)) (by rw [List.length_map]; omega)
            rw [hl']
            simp only [List.head?_cons, Option.map_some, Option.getD_some, beq_iff_eq]
            rw [(q4 y hy).1.kind, (q4 z (by simp only; rw [hl']; simp)).1.kind]
      exact this t.es 0 (fun _ h => h) hen
    have HBA : bareN (n + 1) (prM (n + 1) s nm t) := by
      refine ⟨rfl, fun e' he' y hy => ?_⟩
      obtain ⟨e, he, h⟩ := HM e' he'
      obtain ⟨f, q1, rfl, q3, q4⟩ := HE e he e' h
      exact (q4 y hy).2
    refine ⟨⟨rfl, ?_, ?_, ?_, HBA⟩, HBA⟩
    · refine msgV_zero (t := prM (n + 1) s nm t) ?_ rfl
      show errF ((t.es.filterMap (entP (prM n s) ((msgOf s nm).getD zMs).fields)).map (entV (msgV n s) ((msgOf s nm).getD zMs).fields)) = 0
      rw [errF_all]
      intro z hz
      obtain ⟨e', he', rfl⟩ := List.mem_map.1 hz
      obtain ⟨e, he, h⟩ := HM e' he'
      obtain ⟨f, q1, rfl, q3, q4⟩ := HE e he e' h
      have hft : fldOf ((msgOf s nm).getD zMs).fields f.tag = some f := by rw [(fldP q1).1]; exact q1
      have hlen : 1 ≤ e.2.length := by
        have : ∀ (es : List (Int × List Tr)) (a : Int), entsB a es = true → ∀ e ∈ es, 1 ≤ e.2.length := by
          intro es
          induction es with
          | nil => intro a _ e he; cases he
          | cons b l ih =>
            intro a h e he
            simp only [entsB, Bool.and_eq_true, decide_eq_true_eq] at h
            rcases List.mem_cons.1 he with rfl | he
            · exact h.1.1.1.2
            · exact ih _ h.2 e he
        exact this t.es 0 hen e he
      have hl := lastP_len (f := f) hlen
      simp only [entV, hft]
      rw [if_neg (by rintro ⟨a, b⟩; rw [List.length_map, hl.2.2 a] at b; omega), errF_all]
      intro z hz
      obtain ⟨y, hy, rfl⟩ := List.mem_map.1 hz
      unfold oneV
      rw [(q4 y hy).1.val, if_neg (by simp), if_neg]
      rintro ⟨a, b⟩
      refine q3 ⟨a, ?_⟩
      have h1 : ((lastP f e.2).map (oneP (prM n s) f)).length = 1 := by rw [List.length_map]; exact hl.2.2 (by rw [a]; decide)
      obtain ⟨y', hy'⟩ := List.length_eq_one_iff.1 h1
      rw [hy'] at hy ⊢
      obtain rfl : y = y' := by simpa using hy
      exact b
    · simp only [prM, okN, Bool.and_eq_true]
      refine ⟨?_, ?_⟩
      · exact lvB_msg hents
      · rw [if_pos trivial, List.all_eq_true]
        intro y hy
        obtain ⟨e', he', hy'⟩ := mem_subs.1 hy
        obtain ⟨e, he, h⟩ := HM e' he'
        obtain ⟨f, q1, rfl, q3, q4⟩ := HE e he e' h
        exact (q4 y hy').1.ok
    · refine ⟨(by show (0 : Nat) ≤ 5000; omega), by simp [prM], ?_, by simp [prM], fun e' he' => ?_⟩
      · exact Nat.le_trans (List.length_filterMap_le _ _) hsl
      · obtain ⟨e, he, h⟩ := HM e' he'
        obtain ⟨f, q1, rfl, q3, q4⟩ := HE e he e' h
        refine ⟨?_, fun y hy => (q4 y hy).1.sm⟩
        have h7 := (hse e he).1
        simp only [List.length_map]
        unfold lastP
        split
        · exact h7
        · rw [List.length_drop]; omega
/-- Schemas that agree on some messages. -/
structure AgrS (s c : ScS) (p : ByteArray → Prop) : Prop where
  same : ∀ nm, p nm → msgOf c nm = msgOf s nm
  cls : ∀ nm m, p nm → msgOf s nm = some m → ∀ f ∈ m.fields, f.kind = 7 → p f.tname
theorem ents_one : ∀ (es : List (Int × List Tr)) (a : Int), entsB a es = true → ∀ e ∈ es, 1 ≤ e.2.length
  | [], _, _, e, he => by cases he
  | b :: l, a, h, e, he => by
    simp only [entsB, Bool.and_eq_true, decide_eq_true_eq] at h
    rcases List.mem_cons.1 he with rfl | he
    · exact h.1.1.1.2
    · exact ents_one l _ h.2 e he
theorem fit_ents {n : Nat} {s : ScS} {nm : ByteArray} {t : Tr} (h : FitT (n + 1) s nm t) : entsB 0 t.es = true ∧ (∀ e ∈ t.es, ∀ x ∈ e.2, okN n x = true ∧ SmN n x) ∧ ∀ e ∈ t.es, entV (msgV n s) ((msgOf s nm).getD zMs).fields e = 0 := by
  have hk : t.kind = 3 := by rw [h.form]
  have h1 := h.ok
  simp only [okN, Bool.and_eq_true, if_pos hk] at h1
  obtain ⟨h2, h3⟩ := h1
  refine ⟨?_, fun e he x hx => ⟨?_, (h.sm.2.2.2.2 e he).2 x hx⟩, ?_⟩
  · unfold lvB at h2
    rw [if_neg (by rw [hk]; decide), if_neg (by rw [hk]; decide), if_pos hk] at h2
    simp only [Bool.and_eq_true] at h2
    exact h2.1.2
  · exact List.all_eq_true.1 h3 x (mem_subs.2 ⟨e, he, hx⟩)
  · have h4 := h.val
    simp only [msgV] at h4
    by_cases hq : errF (t.es.map (entV (msgV n s) ((msgOf s nm).getD zMs).fields)) = 0
    · rw [errF_all] at hq
      exact fun e he => hq _ (List.mem_map.2 ⟨e, he, rfl⟩)
    · rw [if_pos hq] at h4; exact absurd h4 hq
/-- An entry that fits. -/
theorem entV_zero {M : ByteArray → Tr → Int} {fs : List FlS} {e : Int × List Tr} (h : entV M fs e = 0) : ∃ f, fldOf fs e.1 = some f ∧ (f.label = 3 ∨ e.2.length ≤ 1) ∧ ∀ x ∈ e.2, treeV M f.kind f.tname x = 0 ∧ ¬ (f.label = 1 ∧ zroB x = true) := by
  unfold entV at h
  cases hf : fldOf fs e.1 with
  | none => rw [hf] at h; simp at h
  | some f =>
    rw [hf] at h
    simp only at h
    split at h
    · exact absurd h (by decide)
    · rename_i h1
      rw [errF_all] at h
      refine ⟨f, rfl, by omega, fun x hx => ?_⟩
      have h2 := h _ (List.mem_map.2 ⟨x, hx, rfl⟩)
      unfold oneV at h2
      split at h2
      · rename_i h3; exact absurd h2 h3
      · rename_i h3
        split at h2
        · exact absurd h2 (by decide)
        · rename_i h4
          exact ⟨by omega, h4⟩
theorem treeV_zero {M : ByteArray → Tr → Int} {k : Int} {tn : ByteArray} {x : Tr} (h : treeV M k tn x = 0) : x.kind = kindT k ∧ (x.kind = 1 → nmrB k x.n = true) ∧ (k = 4 → validB x.s.data.toList = true) ∧ (x.kind = 3 → M tn x = 0) := by
  unfold treeV at h
  split at h
  · exact absurd h (by decide)
  · rename_i h1
    split at h
    · exact absurd h (by decide)
    · rename_i h2
      split at h
      · exact absurd h (by decide)
      · rename_i h3
        refine ⟨by omega, fun e => ?_, fun e => ?_, fun e => ?_⟩
        · cases hb : nmrB k x.n with
          | true => rfl
          | false => exact absurd ⟨e, hb⟩ h2
        · cases hb : validB x.s.data.toList with
          | true => rfl
          | false => exact absurd ⟨e, hb⟩ h3
        · rw [if_pos e] at h; exact h
theorem lastP_all {f : FlS} {l : List Tr} (h : f.label = 3 ∨ l.length ≤ 1) : lastP f l = l := by
  unfold lastP
  split
  · rfl
  · rename_i h3
    have : l.length - 1 = 0 := by omega
    rw [this]; rfl
/-- A tree that fits is seen as it is. -/
theorem oneP_keep {n : Nat} {s c : ScS} {f : FlS} {x : Tr} (hk : 1 ≤ f.kind ∧ f.kind ≤ 7) (hv : treeV (msgV n s) f.kind f.tname x = 0) (hok : okN n x = true) (hsm : SmN n x) (IH : f.kind = 7 → x.kind = 3 → msgV n s f.tname x = 0 → prM n c f.tname x = x) : pfitB f x = true ∧ oneP (prM n c) f x = x := by
  obtain ⟨n, rfl⟩ : ∃ m, n = m + 1 := by cases n with
    | zero => exact hsm.elim
    | succ m => exact ⟨m, rfl⟩
  obtain ⟨h1, h2, h3, h4⟩ := treeV_zero hv
  refine ⟨?_, ?_⟩
  · simp only [pfitB, Bool.and_eq_true, decide_eq_true_eq]
    refine ⟨h1, ?_⟩
    split
    · rename_i h5
      refine h2 ?_
      rw [h1]
      rcases h5 with e | e <;> rw [e] <;> rfl
    · split
      · rename_i h6; exact h3 h6
      · rfl
  · unfold oneP
    split
    · rename_i h5
      have hx1 : x.kind = 1 := by rw [h1, h5]; rfl
      have hlv : lvB x = true := by simp only [okN, Bool.and_eq_true] at hok; exact hok.1
      unfold lvB at hlv
      rw [if_pos hx1] at hlv
      simp at hlv
      have hn := h2 hx1
      rw [h5, nmr1] at hn
      obtain ⟨k, m, b, es, rest⟩ := x
      simp only at hlv hx1 hn ⊢
      obtain ⟨⟨q1, rfl⟩, rfl⟩ := hlv
      subst hx1
      rw [clampI_of hn, show b = ⟨#[]⟩ from q1]
    · split
      · rename_i h6
        have hx3 : x.kind = 3 := by rw [h1, h6]; rfl
        exact IH h6 hx3 (h4 hx3)
      · rfl
theorem fitT_of {n : Nat} {s : ScS} {nm : ByteArray} {x : Tr} (hk : x.kind = 3) (hv : msgV n s nm x = 0) (hok : okN n x = true) (hsm : SmN n x) (hb : bareN n x) : FitT n s nm x := by
  obtain ⟨n, rfl⟩ : ∃ m, n = m + 1 := by cases n with
    | zero => exact hsm.elim
    | succ m => exact ⟨m, rfl⟩
  refine ⟨?_, hv, hok, hsm, hb⟩
  have hlv : lvB x = true := by simp only [okN, Bool.and_eq_true] at hok; exact hok.1
  unfold lvB at hlv
  rw [if_neg (by rw [hk]; decide), if_neg (by rw [hk]; decide), if_pos hk] at hlv
  simp only [Bool.and_eq_true, beq_iff_eq] at hlv
  have hr := hb.1
  obtain ⟨k, m, b, es, rest⟩ := x
  simp only at hlv hk hr ⊢
  obtain ⟨⟨⟨q1, q2⟩, _⟩, _⟩ := hlv
  subst hk
  rw [q1, hr]
  have : b = ⟨#[]⟩ := by
    have h0 : b.data.size = 0 := q2
    exact ByteArray.ext (Array.eq_empty_of_size_eq_zero h0)
  rw [this]
/-- An entry that fits is seen as it is. -/
theorem entP_keep {n : Nat} {c : ScS} {fs : List FlS} {e : Int × List Tr} {f : FlS} (hf : fldOf fs e.1 = some f) (hl : f.label = 3 ∨ e.2.length ≤ 1) (h1 : 1 ≤ e.2.length) (hx : ∀ x ∈ e.2, pfitB f x = true ∧ oneP (prM n c) f x = x ∧ ¬ (f.label = 1 ∧ zroB x = true)) : entP (prM n c) fs e = some e := by
  have hm : (lastP f e.2).map (oneP (prM n c) f) = e.2 := by
    rw [lastP_all hl]
    conv => rhs; rw [← List.map_id e.2]
    exact List.map_congr_left fun x hx' => (hx x hx').2.1
  unfold entP
  rw [hf]
  simp only
  rw [if_pos (List.all_eq_true.2 fun x hx' => (hx x hx').1), hm, if_neg]
  · rw [(fldP hf).1]
  · rintro ⟨a, b⟩
    obtain ⟨x, l, hl'⟩ := List.exists_cons_of_length_pos (show 0 < e.2.length by omega)
    rw [hl'] at b
    exact (hx x (by rw [hl']; simp)).2.2 ⟨a, b⟩
theorem filterMap_id {α : Type} {g : α → Option α} {l : List α} (h : ∀ x ∈ l, g x = some x) : l.filterMap g = l := by
  induction l with
  | nil => rfl
  | cons a l ih => rw [List.filterMap_cons_some (h a (List.mem_cons_self ..)), ih fun x hx => h x (List.mem_cons_of_mem _ hx)]
/-- What fits is seen as it is. -/
theorem prM_keep {s c : ScS} {p : ByteArray → Prop} (ha : AgrS s c p) (hks : ∀ nm m, msgOf s nm = some m → ∀ f ∈ m.fields, 1 ≤ f.kind ∧ f.kind ≤ 7) : ∀ (n : Nat) (nm : ByteArray) (t : Tr), p nm → FitT n s nm t → bareN n t → prM n c nm t = t
  | 0, _, _, _, h, _ => h.sm.elim
  | n + 1, nm, t, hp, h, hb => by
    obtain ⟨h1, h2, h3⟩ := fit_ents h
    rw [h.form]
    simp only [prM]
    rw [ha.same nm hp]
    rw [filterMap_id]
    intro e he
    obtain ⟨f, q1, q2, q3⟩ := entV_zero (h3 e he)
    obtain ⟨m, hm⟩ : ∃ m, msgOf s nm = some m := by
      cases hm : msgOf s nm with
      | none => rw [hm] at q1; simp [zMs, fldOf] at q1
      | some m => exact ⟨m, rfl⟩
    have hfm : f ∈ m.fields := by rw [hm] at q1; exact (fldP q1).2
    refine entP_keep q1 q2 (ents_one _ _ h1 e he) fun x hx => ?_
    obtain ⟨r1, r2⟩ := q3 x hx
    obtain ⟨o1, o2⟩ := h2 e he x hx
    have hbx := hb.2 e he x hx
    obtain ⟨k1, k2⟩ := oneP_keep (c := c) (hks nm m hm f hfm) r1 o1 o2 fun h7 hx3 hv => prM_keep ha hks n f.tname x (ha.cls nm m hp hm f hfm h7) (fitT_of hx3 hv o1 o2 hbx) hbx
    exact ⟨k1, k2, r2⟩
/-- Seen again it is the same. -/
theorem prM_twice {s : ScS} (hks : ∀ nm m, msgOf s nm = some m → ∀ f ∈ m.fields, 1 ≤ f.kind ∧ f.kind ≤ 7) {n : Nat} {nm : ByteArray} {t : Tr} (hk : t.kind = 3) (hok : okN n t = true) (hsm : SmN n t) : prM n s nm (prM n s nm t) = prM n s nm t := by
  obtain ⟨h1, h2⟩ := prM_fit hks n nm t hk hok hsm
  exact prM_keep (p := fun _ => True) ⟨fun _ _ => rfl, fun _ _ _ _ _ _ _ => trivial⟩ hks n nm _ trivial h1 h2
/-- No deeper than it was. -/
theorem prM_dp {s : ScS} : ∀ (n : Nat) (nm : ByteArray) (t : Tr), t.kind = 3 → dpN n (prM n s nm t) ≤ dpN n t
  | 0, _, _, _ => Nat.le_refl _
  | n + 1, nm, t, hk => by
    simp only [prM, dpN, if_pos hk]
    rw [if_pos trivial]
    refine Nat.add_le_add_left (foldr_max_le fun z hz => ?_) 1
    obtain ⟨y, hy, rfl⟩ := List.mem_map.1 hz
    obtain ⟨e', he', hy'⟩ := mem_subs.1 hy
    obtain ⟨e, he, h⟩ := List.mem_filterMap.1 he'
    obtain ⟨f, q1, q2, q3, rfl⟩ := entP_some h
    obtain ⟨x, hx, rfl⟩ := List.mem_map.1 hy'
    have hxe := lastP_mem hx
    have hle : dpN n x ≤ ((subs t.es).map (dpN n)).foldr max 0 := le_foldr_max (List.mem_map.2 ⟨x, mem_subs.2 ⟨e, he, hxe⟩, rfl⟩)
    unfold oneP
    split
    · cases n with
      | zero => exact Nat.zero_le _
      | succ n => simp [dpN]
    · split
      · rename_i h7
        have hp := List.all_eq_true.1 q2 x hxe
        simp only [pfitB, Bool.and_eq_true, decide_eq_true_eq] at hp
        exact Nat.le_trans (prM_dp n f.tname x (by rw [hp.1, h7]; rfl)) hle
      · exact hle
end Go.Proofs.Ytmgbhicogmclgaa
