/- Part 12 of what the proof stands on. -/
import Derived.Test.YtfnjbbaphmmjlaaGreatPkAK
namespace Go.Proofs.YtfnjbbaphmmjlaaGreat
open Go.ChangeShapes Go.WideShapes Go.ChangeAt Go.RowKit
set_option linter.unusedVariables false
set_option linter.unusedSimpArgs false
set_option maxRecDepth 20000
theorem Kp.sm {S : Nat → Prop} {w w' : World} {bs : List Nat} (h : Kp S w w') (hb : ∀ k ∈ bs, k < w.heap.size ∧ ¬ S k) : Sm w w' bs := fun k hk => h.block k (hb k hk).1 (hb k hk).2
theorem Apt.right {B : Nat} {w : World} {a b : List Nat} (h : Apt B w (a ++ b)) : Apt B w b := h.of_count fun k => by simp only [List.count_append]; omega
theorem Apt.left {B : Nat} {w : World} {a b : List Nat} (h : Apt B w (a ++ b)) : Apt B w a := h.of_count fun k => by simp only [List.count_append]; omega
theorem push_row {α : Type} {P : World → List Value → α → List Nat → Prop} {B e size bytes : Nat} {W : World} {v : Value} {xs : List α} {rows : List (List Value)} {bss : List (List Nat)} {r : List Value} {x : α} {b more : List Nat} {bz : Nat} {t : TypeId} {z : Value}
  (ht : Tryz.prog.underlying t = some (.slice e)) (hinfo : (Tryz.prog.info? e).map (fun i => (i.zero, i.size, i.bytes)) = some (some z, size, bytes)) (hzs : z.cells.size = size) (hsz : 0 < size) (hrow : RowO P B e size W v xs rows bss) (hap : Apt B W (more ++ (allB v bss ++ b))) (hP : P W r x b) (hr : r.length = size) (h1 : ∀ u ∈ r, u.oneCell' = true)
  (loc : ∀ w' r x b, P W r x b → Sm W w' b → P w' r x b) (BE : Blk W bz r.toArray e) (hn : xs.length ≤ 1000) (hby : bytes ≤ 1000) (hB : B ≤ W.heap.size) :
  ∃ v' W', (Builtin.append_ #[t, t] t #[v, .slice (some ⟨bz, 0, none⟩) 1 1]).run Tryz.prog W = .ok v' W' ∧ RowO P B e size W' v' (xs ++ [x]) (rows ++ [r]) (bss ++ [b]) ∧ Apt B W' (more ++ allB v' (bss ++ [b])) ∧ (∃ a c, v' = .slice a (xs.length + 1) c) ∧ Kp (fun q => q ∈ blkOf v) W W' := by
 obtain ⟨i0, hi0, hz0, hz1, hz2⟩ := info_parts hinfo
 obtain ⟨v', W', r1, r2, r3, _, r5⟩ := run_append_own_at W B t t e i0 z size bytes ht hi0 hz0 hz1 hz2 hzs hsz v xs.length _ hrow.own ⟨bz, 0, none⟩ 1 1 r (by rw [hr, Nat.one_mul]) (fun j u hu => by
  have := BE.cell j
  rw [Addr.add_lit, Nat.zero_add, this]
  simpa using hu) h1 (by unfold maxLen; omega) (by
   have : (xs.length + 1) * bytes ≤ 1001 * 1000 := Nat.mul_le_mul (by omega) hby
   omega) hB
 obtain ⟨a, c, hv⟩ := own_form r2
 refine ⟨v', W', r1, hrow.push hap.right r2 r3 hP hr (fun r x b hp hs => loc W' r x b hp hs), hap.push r5 r2 r3.size hB, ⟨a, c, hv⟩, ?_⟩
 exact (Kp.refl _ _).grown r3 (fun k hk _ => mem_blkOf.2 hk)
abbrev ZT : Array Value := #[.int .i64 0, .int .i64 0, .string ⟨#[]⟩, .slice none 0 0, .slice none 0 0]
structure FtS (n b0 bt bm ba : Nat) (SC MC : Array Value) (a : Nat) (ve : Value) (es : List (Int × List Tr)) (rows : List (List Value)) (bss : List (List Nat)) (w : World) : Prop where
 row : RowO (EtO (TrO n b0) b0) b0 58 2 w ve es rows bss
 tb : Blk w bt #[.int .i64 3, .int .i64 0, .string ⟨#[]⟩, ve, .slice none 0 0] 30
 sb : Blk w b0 SC 26
 rb : Blk w (b0 + 1) ZT 30
 mb : Blk w bm MC 50
 ab : Blk w ba #[.int .i64 (a : Int)] 3
 lt : ba < b0
def fpO (b0 bt bm : Nat) (ve : Value) (bss : List (List Nat)) : List Nat := [b0, b0 + 1, bm, bt] ++ allB ve bss
theorem FtS.sm {n b0 bt bm ba : Nat} {SC MC : Array Value} {a a' : Nat} {ve : Value} {es : List (Int × List Tr)} {rows : List (List Value)} {bss : List (List Nat)} {w w' : World} (h : FtS n b0 bt bm ba SC MC a ve es rows bss w)
  (hs : Sm w w' (fpO b0 bt bm ve bss)) (hb : Blk w' ba #[.int .i64 (a' : Int)] 3) : FtS n b0 bt bm ba SC MC a' ve es rows bss w' :=
 ⟨h.row.sm (hs.mono fun k hk => by simp [fpO, hk]) fun _ _ _ hp hb => hp.sm hb, (hs bt (by simp [fpO])).trans h.tb, (hs b0 (by simp [fpO])).trans h.sb, (hs (b0 + 1) (by simp [fpO])).trans h.rb, (hs bm (by simp [fpO])).trans h.mb, hb, h.lt⟩
theorem FtS.below {n b0 bt bm ba : Nat} {SC MC : Array Value} {a : Nat} {ve : Value} {es : List (Int × List Tr)} {rows : List (List Value)} {bss : List (List Nat)} {w w' : World} (h : FtS n b0 bt bm ba SC MC a ve es rows bss w) (hap : Apt b0 w (fpO b0 bt bm ve bss)) (hb : Below w.heap.size w w') : FtS n b0 bt bm ba SC MC a ve es rows bss w' :=
 h.sm (Sm.below hb fun k hk => (hap.2 k hk).2) (h.ab.below hb)
theorem FtS.at' {n b0 bt bm ba : Nat} {SC MC : Array Value} {a a' : Nat} {ve : Value} {es : List (Int × List Tr)} {rows : List (List Value)} {bss : List (List Nat)} {w w' : World} (h : FtS n b0 bt bm ba SC MC a ve es rows bss w) (hap : Apt b0 w (fpO b0 bt bm ve bss)) (hk : Kp (fun q => q = ba) w w') (hb : Blk w' ba #[.int .i64 (a' : Int)] 3) : FtS n b0 bt bm ba SC MC a' ve es rows bss w' :=
 h.sm (hk.sm fun k hk => ⟨(hap.2 k hk).2, fun e => by have := (hap.2 k hk).1; have := h.lt; omega⟩) hb
structure InS (n b0 bt bm ba be bf : Nat) (SC MC LC : Array Value) (tg : Int) (a : Nat) (ve : Value) (es : List (Int × List Tr)) (rows : List (List Value)) (bss : List (List Nat)) (vt : Value) (ts : List Tr) (rows' : List (List Value)) (bss' : List (List Nat)) (w : World) : Prop where
 ft : FtS n b0 bt bm ba SC MC a ve es rows bss w
 tr : RowO (TrO n b0) b0 30 5 w vt ts rows' bss'
 eb : Blk w be #[.int .i64 tg, vt] 58
 fb : Blk w bf LC 54
 ap : Apt b0 w (fpO b0 bt bm ve bss ++ ([bf, be] ++ allB vt bss'))
section
variable {n b0 bt bm ba be bf : Nat} {SC MC LC : Array Value} {tg : Int} {a : Nat} {ve : Value} {es : List (Int × List Tr)} {rows : List (List Value)} {bss : List (List Nat)} {vt : Value} {ts : List Tr} {rows' : List (List Value)} {bss' : List (List Nat)} {w w' : World}
theorem InS.sm {a' : Nat} (h : InS n b0 bt bm ba be bf SC MC LC tg a ve es rows bss vt ts rows' bss' w) (hs : Sm w w' (fpO b0 bt bm ve bss ++ ([bf, be] ++ allB vt bss'))) (hz : w.heap.size ≤ w'.heap.size) (hb : Blk w' ba #[.int .i64 (a' : Int)] 3) :
  InS n b0 bt bm ba be bf SC MC LC tg a' ve es rows bss vt ts rows' bss' w' :=
 ⟨h.ft.sm (hs.mono fun k hk => List.mem_append.2 (.inl hk)) hb, h.tr.sm (hs.mono fun k hk => by simp [hk]) fun _ _ _ hp hb => hp.sm hb, (hs be (by simp)).trans h.eb, (hs bf (by simp)).trans h.fb, h.ap.mono hz⟩
theorem InS.below (h : InS n b0 bt bm ba be bf SC MC LC tg a ve es rows bss vt ts rows' bss' w) (hb : Below w.heap.size w w') : InS n b0 bt bm ba be bf SC MC LC tg a ve es rows bss vt ts rows' bss' w' :=
 h.sm (Sm.below hb fun k hk => (h.ap.2 k hk).2) hb.size (h.ft.ab.below hb)
theorem InS.at' {a' : Nat} (h : InS n b0 bt bm ba be bf SC MC LC tg a ve es rows bss vt ts rows' bss' w) (hk : Kp (fun q => q = ba) w w') (hb : Blk w' ba #[.int .i64 (a' : Int)] 3) : InS n b0 bt bm ba be bf SC MC LC tg a' ve es rows bss vt ts rows' bss' w' :=
 h.sm (hk.sm fun k hk => ⟨(h.ap.2 k hk).2, fun e => by have := (h.ap.2 k hk).1; have := h.ft.lt; omega⟩) hk.size hb
theorem InS.new (h : FtS n b0 bt bm ba SC MC a ve es rows bss w) (hap : Apt b0 w (fpO b0 bt bm ve bss ++ [bf, be])) (he : Blk w be #[.int .i64 tg, .slice none 0 0] 58) (hf : Blk w bf LC 54) : InS n b0 bt bm ba be bf SC MC LC tg a ve es rows bss (.slice none 0 0) [] [] [] w :=
 ⟨h, RowO.nil _ _ _ _ _, he, hf, by simpa [allB, blkOf, Value.ownBlock] using hap⟩
theorem InS.pushT (h : InS n b0 bt bm ba be bf SC MC LC tg a ve es rows bss vt ts rows' bss' w) {r : List Value} {x : Tr} {bs : List Nat} {bz : Nat} (hO : TrO n b0 w r x bs) (hr5 : r.length = 5) (hr1 : ∀ u ∈ r, u.oneCell' = true) (hap : Apt b0 w ((fpO b0 bt bm ve bss ++ ([bf, be] ++ allB vt bss')) ++ bs)) (BZ : Blk w bz r.toArray 30) (hl : ts.length ≤ 100) :
  ∃ v' W', (Builtin.append_ #[43, 43] 43 #[vt, .slice (some ⟨bz, 0, none⟩) 1 1]).run Tryz.prog w = .ok v' W' ∧ (∃ a c, v' = .slice a (ts.length + 1) c) ∧ Blk W' be #[.int .i64 tg, vt] 58 ∧ Kp (fun q => b0 ≤ q) w (W'.setCell ⟨be, 1, none⟩ v') ∧
   InS n b0 bt bm ba be bf SC MC LC tg a ve es rows bss v' (ts ++ [x]) (rows' ++ [r]) (bss' ++ [bs]) (W'.setCell ⟨be, 1, none⟩ v') := by
 have hB0 : b0 ≤ w.heap.size := by have := (h.ap.2 b0 (by simp [fpO])); omega
 obtain ⟨v', W', r1, r2, r3, r4, r5⟩ := push_row (P := TrO n b0) (t := 43) (more := fpO b0 bt bm ve bss ++ [bf, be]) Tryz.underlying43 infoTr rfl (by decide) h.tr (by simpa only [List.append_assoc] using hap) hO hr5 hr1 (fun _ _ _ _ hp hs => hp.sm hs) BZ (by omega) (by decide) hB0
 have hno : ∀ k ∈ fpO b0 bt bm ve bss ++ [bf, be], k ∉ blkOf vt := fun k hk hq => (h.ap.of_count (cs := (fpO b0 bt bm ve bss ++ [bf, be]) ++ allB vt bss') fun q => by simp only [List.count_append]; omega).apart k hk (by simp [allB, hq])
 have hs1 : Sm w W' (fpO b0 bt bm ve bss ++ [bf, be]) := r5.sm fun k hk => ⟨(h.ap.2 k (by simp only [List.mem_append] at hk ⊢; rcases hk with hk | hk; exact .inl hk; exact .inr (.inl hk))).2, hno k hk⟩
 have hgeb : ∀ k ∈ blkOf vt, b0 ≤ k := fun k hk => (own_lt h.tr.own (mem_blkOf.1 hk)).1
 have BA1 : Blk W' ba #[.int .i64 (a : Int)] 3 := h.ft.ab.kp r5 (fun e => by have := hgeb ba e; have := h.ft.lt; omega)
 have BE1 : Blk W' be #[.int .i64 tg, vt] 58 := (hs1 be (by simp)).trans h.eb
 have hbe0 : b0 ≤ be := (h.ap.2 be (by simp)).1
 have KS : Kp (fun q => q = be) W' (W'.setCell ⟨be, 1, none⟩ v') := by
  refine Kp.setCell ?_ (fun _ => by simp) _
  exact Kp.refl _ _
 have hnb : ∀ k ∈ (fpO b0 bt bm ve bss ++ [bf]) ++ allB v' (bss' ++ [bs]), k ≠ be := fun k hk e => by
  subst e
  exact (r3.of_count (cs := ((fpO b0 bt bm ve bss ++ [bf]) ++ allB v' (bss' ++ [bs])) ++ [k]) fun q => by simp only [List.count_append, List.count_cons, List.count_nil]; omega).apart k hk (by simp)
 have hs2 : Sm W' (W'.setCell ⟨be, 1, none⟩ v') ((fpO b0 bt bm ve bss ++ [bf]) ++ allB v' (bss' ++ [bs])) := KS.sm fun k hk => ⟨(r3.2 k (by simp only [List.mem_append] at hk ⊢; rcases hk with (hk | hk) | hk; exact .inl (.inl hk); exact .inl (.inr (by simp at hk; simp [hk])); exact .inr hk)).2, hnb k hk⟩
 have hk2 : Kp (fun q => b0 ≤ q) w (W'.setCell ⟨be, 1, none⟩ v') := (r5.weak fun i _ hi => hgeb i hi).trans (KS.weak fun i _ hi => by omega)
 refine ⟨v', W', r1, r4, BE1, hk2, ?_⟩
 have ft1 : FtS n b0 bt bm ba SC MC a ve es rows bss W' := h.ft.sm (hs1.mono fun k hk => List.mem_append.2 (.inl hk)) BA1
 refine ⟨ft1.sm (hs2.mono fun k hk => by simp [hk]) (BA1.kp KS (fun e => by have := h.ft.lt; omega)), r2.sm (hs2.mono fun k hk => by simp [hk]) fun _ _ _ hp hb => hp.sm hb, BE1.set 1 _ rfl, (hs2 bf (by simp)).trans ((hs1 bf (by simp)).trans h.fb), ?_⟩
 exact (r3.mono KS.size).of_count fun k => by simp only [List.count_append]; omega
theorem InS.pushE (h : InS n b0 bt bm ba be bf SC MC LC tg a ve es rows bss vt ts rows' bss' w) {bz : Nat} (h64 : Is64 tg) (BZ : Blk w bz #[.int .i64 tg, vt] 58) (hl : es.length ≤ 100) (h1 : vt.oneCell' = true) :
  ∃ v' W', (Builtin.append_ #[27, 27] 27 #[ve, .slice (some ⟨bz, 0, none⟩) 1 1]).run Tryz.prog w = .ok v' W' ∧ (∃ a c, v' = .slice a (es.length + 1) c) ∧ Blk W' bt #[.int .i64 3, .int .i64 0, .string ⟨#[]⟩, ve, .slice none 0 0] 30 ∧ Kp (fun q => b0 ≤ q) w (W'.setCell ⟨bt, 3, none⟩ v') ∧
   FtS n b0 bt bm ba SC MC a v' (es ++ [(tg, ts)]) (rows ++ [[.int .i64 tg, vt]]) (bss ++ [allB vt bss']) (W'.setCell ⟨bt, 3, none⟩ v') ∧ Apt b0 (W'.setCell ⟨bt, 3, none⟩ v') (fpO b0 bt bm v' (bss ++ [allB vt bss'])) := by
 have hB0 : b0 ≤ w.heap.size := by have := (h.ap.2 b0 (by simp [fpO])); omega
 have hap : Apt b0 w ([b0, b0 + 1, bm, bt] ++ (allB ve bss ++ allB vt bss')) := h.ap.of_count fun k => by simp only [fpO, List.count_append]; omega
 obtain ⟨v', W', r1, r2, r3, r4, r5⟩ := push_row (P := EtO (TrO n b0) b0) (t := 27) (x := (tg, ts)) (r := [.int .i64 tg, vt]) (more := [b0, b0 + 1, bm, bt]) Tryz.underlying27 infoEt rfl (by decide) h.ft.row hap ⟨vt, rows', bss', rfl, h64, h.tr, rfl⟩ rfl (fun u hu => by
  simp only [List.mem_cons, List.not_mem_nil, or_false] at hu
  rcases hu with rfl | rfl
  ·rfl
  ·exact h1) (fun _ _ _ _ hp hs => hp.sm hs) BZ (by omega) (by decide) hB0
 have hno : ∀ k ∈ [b0, b0 + 1, bm, bt], k ∉ blkOf ve := fun k hk hq => hap.apart k hk (by simp [allB, hq])
 have hs1 : Sm w W' [b0, b0 + 1, bm, bt] := r5.sm fun k hk => ⟨(hap.2 k (List.mem_append.2 (.inl hk))).2, hno k hk⟩
 have hgeb : ∀ k ∈ blkOf ve, b0 ≤ k := fun k hk => (own_lt h.ft.row.own (mem_blkOf.1 hk)).1
 have BA1 : Blk W' ba #[.int .i64 (a : Int)] 3 := h.ft.ab.kp r5 (fun e => by have := hgeb ba e; have := h.ft.lt; omega)
 have BT1 : Blk W' bt #[.int .i64 3, .int .i64 0, .string ⟨#[]⟩, ve, .slice none 0 0] 30 := (hs1 bt (by simp)).trans h.ft.tb
 have hbt0 : b0 ≤ bt := (hap.2 bt (by simp)).1
 have KS : Kp (fun q => q = bt) W' (W'.setCell ⟨bt, 3, none⟩ v') := by
  refine Kp.setCell ?_ (fun _ => by simp) _
  exact Kp.refl _ _
 have hnb : ∀ k ∈ [b0, b0 + 1, bm] ++ allB v' (bss ++ [allB vt bss']), k ≠ bt := fun k hk e => by
  subst e
  exact (r3.of_count (cs := ([b0, b0 + 1, bm] ++ allB v' (bss ++ [allB vt bss'])) ++ [k]) fun q => by simp only [List.count_append, List.count_cons, List.count_nil]; omega).apart k hk (by simp)
 have hs2 : Sm W' (W'.setCell ⟨bt, 3, none⟩ v') ([b0, b0 + 1, bm] ++ allB v' (bss ++ [allB vt bss'])) := KS.sm fun k hk => ⟨(r3.2 k (by simp only [List.mem_append] at hk ⊢; rcases hk with hk | hk; exact .inl (by simp at hk ⊢; rcases hk with rfl | rfl | rfl <;> simp); exact .inr hk)).2, hnb k hk⟩
 have hk2 : Kp (fun q => b0 ≤ q) w (W'.setCell ⟨bt, 3, none⟩ v') := (r5.weak fun i _ hi => hgeb i hi).trans (KS.weak fun i _ hi => by omega)
 refine ⟨v', W', r1, r4, BT1, hk2, ⟨r2.sm (hs2.mono fun k hk => by simp [hk]) fun _ _ _ hp hb => hp.sm hb, BT1.set 3 _ rfl, (hs2 b0 (by simp)).trans ((hs1 b0 (by simp)).trans h.ft.sb), (hs2 (b0 + 1) (by simp)).trans ((hs1 (b0 + 1) (by simp)).trans h.ft.rb), (hs2 bm (by simp)).trans ((hs1 bm (by simp)).trans h.ft.mb), BA1.kp KS (fun e => by have := h.ft.lt; omega), h.ft.lt⟩, ?_⟩
 exact r3.mono KS.size
end
end Go.Proofs.YtfnjbbaphmmjlaaGreat
namespace Go.Proofs.YtfnjbbaphmmjlaaGreat
set_option linter.unusedVariables false
set_option linter.unusedSimpArgs false
theorem entsB_snoc : ∀ (es : List (Int × List Tr)) (last tg : Int) (ts : List Tr), entsB last es = true → (∀ e ∈ es, e.1 < tg) → last < tg → tg ≤ 500 → 1 ≤ ts.length → ts.length ≤ 64 → (∀ x ∈ ts, ∀ y ∈ ts, x.kind = y.kind) → entsB last (es ++ [(tg, ts)]) = true
 | [], last, tg, ts, _, _, h1, h2, h3, h4, h5 => by
  obtain ⟨x, l, rfl⟩ : ∃ x l, ts = x :: l := by
   cases ts with
   | nil => simp at h3
   | cons x l => exact ⟨x, l, rfl⟩
  simp only [List.nil_append, entsB, Bool.and_eq_true, decide_eq_true_eq, List.all_eq_true]
  refine ⟨⟨⟨⟨⟨h1, h2⟩, h3⟩, h4⟩, fun y hy => ?_⟩, trivial⟩
  simp only [List.head?_cons, Option.map_some, Option.getD_some]
  rw [h5 y hy x (by simp)]
  simp
 | e :: es, last, tg, ts, h0, hl, h1, h2, h3, h4, h5 => by
  simp only [entsB, Bool.and_eq_true] at h0
  simp only [List.cons_append, entsB, Bool.and_eq_true]
  exact ⟨h0.1, entsB_snoc es e.1 tg ts h0.2 (fun x hx => hl x (List.mem_cons_of_mem _ hx)) (hl e (by simp)) h2 h3 h4 h5⟩
theorem filt_le {fs : List FlS} {c d : Int} (h : c ≤ d) : (fs.filter fun f => decide (f.tag < c)).length ≤ (fs.filter fun f => decide (f.tag < d)).length := by
 induction fs with
 | nil => simp
 | cons f l ih =>
  by_cases h1 : f.tag < c
  ·have h2 : f.tag < d := by omega
   simp only [List.filter_cons, h1, h2, decide_true, if_true, List.length_cons]
   omega
  ·by_cases h2 : f.tag < d
   ·simp only [List.filter_cons, h1, h2, decide_true, decide_false, if_true, List.length_cons]
    simp only [Bool.false_eq_true, if_false]
    omega
   ·simp only [List.filter_cons, h1, h2, decide_false]
    simpa using ih
theorem filt_lt {fs : List FlS} {c : Int} {f : FlS} (hf : f ∈ fs) (ht : f.tag = c) : (fs.filter fun f => decide (f.tag < c)).length + 1 ≤ (fs.filter fun f => decide (f.tag < c + 1)).length := by
 induction fs with
 | nil => cases hf
 | cons g l ih =>
  rcases List.mem_cons.1 hf with rfl | hf
  ·have h1 : ¬ f.tag < c := by omega
   have h2 : f.tag < c + 1 := by omega
   have := filt_le (fs := l) (c := c) (d := c + 1) (by omega)
   simp only [List.filter_cons, h1, h2, decide_true, decide_false, if_true, List.length_cons]
   simp only [Bool.false_eq_true, if_false]
   omega
  ·have h0 := ih hf
   by_cases h1 : g.tag < c
   ·have h2 : g.tag < c + 1 := by omega
    simp only [List.filter_cons, h1, h2, decide_true, if_true, List.length_cons]
    omega
   ·by_cases h2 : g.tag < c + 1
    ·simp only [List.filter_cons, h1, h2, decide_true, decide_false, if_true, List.length_cons]
     simp only [Bool.false_eq_true, if_false]
     omega
    ·simp only [List.filter_cons, h1, h2, decide_false]
     simpa using h0
structure EsT (n : Nat) (s : ScS) (fs : List FlS) (es : List (Int × List Tr)) (tg : Int) : Prop where
 ents : entsB 0 es = true
 tags : ∀ e ∈ es, e.1 < tg
 val : ∀ e ∈ es, entV (msgV n s) fs e = 0
 ok : ∀ x ∈ subs es, okN n x = true
 sm : ∀ e ∈ es, e.2.length ≤ 70 ∧ ∀ x ∈ e.2, SmN n x
 len : es.length ≤ (fs.filter fun f => decide (f.tag < tg)).length
theorem EsT.nil (n : Nat) (s : ScS) (fs : List FlS) (tg : Int) : EsT n s fs [] tg := ⟨rfl, by simp, by simp, by simp [subs], by simp, by simp⟩
theorem EsT.skip {n : Nat} {s : ScS} {fs : List FlS} {es : List (Int × List Tr)} {tg : Int} (h : EsT n s fs es tg) : EsT n s fs es (tg + 1) :=
 ⟨h.ents, fun e he => by have := h.tags e he; omega, h.val, h.ok, h.sm, Nat.le_trans h.len (filt_le (by omega))⟩
theorem errF_zero {α : Type} {f : α → Int} : ∀ {l : List α}, (∀ x ∈ l, f x = 0) → errF (l.map f) = 0
 | [], _ => rfl
 | a :: l, h => by
  rw [List.map_cons, errF, if_pos (h a (by simp))]
  exact errF_zero fun x hx => h x (List.mem_cons_of_mem _ hx)
theorem EsT.push {n : Nat} {s : ScS} {fs : List FlS} {es : List (Int × List Tr)} {tg tag : Int} (h : EsT n s fs es tg) {f : FlS} {ts : List Tr} (h1 : 1 ≤ tg) (h2 : tg ≤ 500) (hf : fldOf fs tag = some f) (htag : tag = tg) (hl1 : 1 ≤ ts.length) (hl3 : ts.length ≤ 3) (hlb : f.label ≠ 3 → ts.length ≤ 1)
  (hx : ∀ x ∈ ts, OneT n s f x ∧ (f.label = 1 → zroB x = false)) : EsT n s fs (es ++ [(tg, ts)]) (tg + 1) := by
 subst htag
 have hmem : f ∈ fs ∧ f.tag = tag := ⟨List.mem_of_find?_eq_some hf, by simpa using List.find?_some hf⟩
 refine ⟨entsB_snoc es 0 tag ts h.ents h.tags (by omega) h2 hl1 (by omega) (fun x hx' y hy => by rw [(hx x hx').1.kind, (hx y hy).1.kind]), ?_, ?_, ?_, ?_, ?_⟩
 ·intro e he
  rcases List.mem_append.1 he with he | he
  ·have := h.tags e he; omega
  ·obtain rfl : e = (tag, ts) := by simpa using he
   show tag < tag + 1
   omega
 ·intro e he
  rcases List.mem_append.1 he with he | he
  ·exact h.val e he
  ·obtain rfl : e = (tag, ts) := by simpa using he
   rw [entV]
   simp only [hf]
   rw [if_neg (by rintro ⟨q1, q2⟩; have := hlb q1; omega)]
   refine errF_zero fun x hx' => ?_
   rw [oneV, if_neg (by simp [(hx x hx').1.val]), if_neg]
   rintro ⟨q1, q2⟩
   rw [(hx x hx').2 q1] at q2
   cases q2
 ·intro x hx'
  obtain ⟨e, he, hxe⟩ := mem_subs.1 hx'
  rcases List.mem_append.1 he with he | he
  ·exact h.ok x (mem_subs.2 ⟨e, he, hxe⟩)
  ·obtain rfl : e = (tag, ts) := by simpa using he
   exact (hx x hxe).1.ok
 ·intro e he
  rcases List.mem_append.1 he with he | he
  ·exact h.sm e he
  ·obtain rfl : e = (tag, ts) := by simpa using he
   exact ⟨by show ts.length ≤ 70; omega, fun x hx' => (hx x hx').1.sm⟩
 ·have := filt_lt hmem.1 hmem.2
  have := h.len
  simp only [List.length_append, List.length_cons, List.length_nil]
  omega
theorem EsT.fit {n : Nat} {s : ScS} {nm : ByteArray} {es : List (Int × List Tr)} {tg : Int} (h : EsT n s ((msgOf s nm).getD zMs).fields es tg) (hf : ((msgOf s nm).getD zMs).fields.length ≤ 40) : FitT (n + 1) s nm ⟨3, 0, ⟨#[]⟩, es, []⟩ := by
 refine ⟨rfl, ?_, ?_, ?_⟩
 ·simp only [msgV]
  rw [errF_zero h.val]
  simp
 ·simp only [okN, lvB, Bool.and_eq_true]
  refine ⟨?_, ?_⟩
  ·simp [h.ents, restB, risesB]
   rfl
  ·simp only [if_true, List.all_eq_true]
   exact h.ok
 ·exact ⟨Nat.zero_le _, by simp, Nat.le_trans h.len (Nat.le_trans (List.length_filter_le _ _) (Nat.le_trans hf (by decide))), by simp, h.sm⟩
def cntEs (n : Nat) (es : List (Int × List Tr)) : Nat := ((subs es).map (cntN n)).sum
def cntT (n : Nat) (ts : List Tr) : Nat := (ts.map (cntN n)).sum
theorem cntEs_snoc (n : Nat) (es : List (Int × List Tr)) (tg : Int) (ts : List Tr) : cntEs n (es ++ [(tg, ts)]) = cntEs n es + cntT n ts := by simp [cntEs, cntT, subs, List.flatMap_append]
theorem cntT_snoc (n : Nat) (ts : List Tr) (x : Tr) : cntT n (ts ++ [x]) = cntT n ts + cntN n x := by simp [cntT]
theorem cnt_fit (n : Nat) (es : List (Int × List Tr)) : cntN (n + 1) ⟨3, 0, ⟨#[]⟩, es, []⟩ = 1 + cntEs n es := rfl
end Go.Proofs.YtfnjbbaphmmjlaaGreat
namespace Go.Proofs.YtfnjbbaphmmjlaaGreat
open Go.ChangeShapes Go.WideShapes Go.ChangeAt Go.RowKit
set_option linter.unusedVariables false
set_option linter.unusedSimpArgs false
set_option maxRecDepth 20000
set_option maxHeartbeats 2000000 in
theorem rzero_any (t : Tr) (a1 a2 : Option Addr) (n1 c1 n2 c2 : Nat) (w : World) (h1 : n1 = t.es.length) (h2 : n2 = t.rest.length) : Calls Tryz.prog 17 #[.agg #[.int .i64 t.kind, .int .i64 t.n, .string t.s, .slice a1 n1 c1, .slice a2 n2 c2]] w fun e w' => e = .returned (.bool (zroB t)) ∧ Below w.heap.size w w' := by
 have hb : Below w.heap.size w (w.alloc (Obj.cells #[.int .i64 t.kind, .int .i64 t.n, .string t.s, .slice a1 n1 c1, .slice a2 n2 c2] 30)) := (Below.refl _ _).alloc (Nat.le_refl _) _
 have hz : zroB t = (decide (t.kind = 1 ∨ t.kind = 2 ∨ t.kind = 3) && decide (t.n = 0) && decide (t.s.size = 0) && decide (n1 = 0) && decide (n2 = 0)) := by rw [zroB, h1, h2]
 rw [hz]
 clear hz h1 h2
 generalize t.kind = K at *
 generalize t.n = N at *
 generalize t.s = S at *
 have kk : K = 1 ∨ K = 2 ∨ K = 3 ∨ (¬ K = 1 ∧ ¬ K = 2 ∧ ¬ K = 3) := by omega
 rcases kk with rfl | rfl | rfl | ⟨h1, h2, h3⟩
 ·by_cases hN : N = 0
  ·subst hN
   by_cases hS : S.size = 0
   ·obtain rfl := size_empty hS
    by_cases h1 : n1 = 0
    ·subst h1
     by_cases h2 : n2 = 0
     ·subst h2
      go_enter Tryz.func17, Tryz.ntmps17
      go_wp2_with fail
      go_ret
      exact ⟨rfl, hb⟩
     ·have d2 : ((n2 : Int) == 0) = false := by simp; omega
      simp only [decide_eq_false h2, Bool.and_false]
      clear h2
      go_enter Tryz.func17, Tryz.ntmps17
      go_wp2_with fail
      go_ret
      exact ⟨rfl, hb⟩
    ·have d1 : ((n1 : Int) == 0) = false := by simp; omega
     simp only [decide_eq_false h1, Bool.and_false, Bool.false_and]
     clear h1
     go_enter Tryz.func17, Tryz.ntmps17
     go_wp2_with fail
     go_ret
     exact ⟨rfl, hb⟩
   ·have dS : (S.toList == ([] : List UInt8)) = false := by rw [ByteArray.toList_eq]; simp; intro e; exact hS (by rw [← ByteArray.size_data, e]; rfl)
    simp only [decide_eq_false hS, Bool.and_false, Bool.false_and]
    clear hS
    go_enter Tryz.func17, Tryz.ntmps17
    go_wp2_with fail
    go_ret
    exact ⟨rfl, hb⟩
  ·have dN : (N == 0) = false := by simpa using hN
   simp only [decide_eq_false hN, Bool.and_false, Bool.false_and]
   clear hN
   go_enter Tryz.func17, Tryz.ntmps17
   go_wp2_with fail
   go_ret
   exact ⟨rfl, hb⟩
 ·by_cases hN : N = 0
  ·subst hN
   by_cases hS : S.size = 0
   ·obtain rfl := size_empty hS
    by_cases h1 : n1 = 0
    ·subst h1
     by_cases h2 : n2 = 0
     ·subst h2
      go_enter Tryz.func17, Tryz.ntmps17
      go_wp2_with fail
      go_ret
      exact ⟨rfl, hb⟩
     ·have d2 : ((n2 : Int) == 0) = false := by simp; omega
      simp only [decide_eq_false h2, Bool.and_false]
      clear h2
      go_enter Tryz.func17, Tryz.ntmps17
      go_wp2_with fail
      go_ret
      exact ⟨rfl, hb⟩
    ·have d1 : ((n1 : Int) == 0) = false := by simp; omega
     simp only [decide_eq_false h1, Bool.and_false, Bool.false_and]
     clear h1
     go_enter Tryz.func17, Tryz.ntmps17
     go_wp2_with fail
     go_ret
     exact ⟨rfl, hb⟩
   ·have dS : (S.toList == ([] : List UInt8)) = false := by rw [ByteArray.toList_eq]; simp; intro e; exact hS (by rw [← ByteArray.size_data, e]; rfl)
    simp only [decide_eq_false hS, Bool.and_false, Bool.false_and]
    clear hS
    go_enter Tryz.func17, Tryz.ntmps17
    go_wp2_with fail
    go_ret
    exact ⟨rfl, hb⟩
  ·have dN : (N == 0) = false := by simpa using hN
   simp only [decide_eq_false hN, Bool.and_false, Bool.false_and]
   clear hN
   go_enter Tryz.func17, Tryz.ntmps17
   go_wp2_with fail
   go_ret
   exact ⟨rfl, hb⟩
 ·by_cases hN : N = 0
  ·subst hN
   by_cases hS : S.size = 0
   ·obtain rfl := size_empty hS
    by_cases h1 : n1 = 0
    ·subst h1
     by_cases h2 : n2 = 0
     ·subst h2
      go_enter Tryz.func17, Tryz.ntmps17
      go_wp2_with fail
      go_ret
      exact ⟨rfl, hb⟩
     ·have d2 : ((n2 : Int) == 0) = false := by simp; omega
      simp only [decide_eq_false h2, Bool.and_false]
      clear h2
      go_enter Tryz.func17, Tryz.ntmps17
      go_wp2_with fail
      go_ret
      exact ⟨rfl, hb⟩
    ·have d1 : ((n1 : Int) == 0) = false := by simp; omega
     simp only [decide_eq_false h1, Bool.and_false, Bool.false_and]
     clear h1
     go_enter Tryz.func17, Tryz.ntmps17
     go_wp2_with fail
     go_ret
     exact ⟨rfl, hb⟩
   ·have dS : (S.toList == ([] : List UInt8)) = false := by rw [ByteArray.toList_eq]; simp; intro e; exact hS (by rw [← ByteArray.size_data, e]; rfl)
    simp only [decide_eq_false hS, Bool.and_false, Bool.false_and]
    clear hS
    go_enter Tryz.func17, Tryz.ntmps17
    go_wp2_with fail
    go_ret
    exact ⟨rfl, hb⟩
  ·have dN : (N == 0) = false := by simpa using hN
   simp only [decide_eq_false hN, Bool.and_false, Bool.false_and]
   clear hN
   go_enter Tryz.func17, Tryz.ntmps17
   go_wp2_with fail
   go_ret
   exact ⟨rfl, hb⟩
 ·have hk : decide (K = 1 ∨ K = 2 ∨ K = 3) = false := by simp [h1, h2, h3]
  simp only [hk, Bool.false_and]
  rcases (by omega : K < 1 ∨ (1 ≤ K ∧ 3 < K)) with h5 | ⟨h5, h6⟩
  ·have e1 : decide (1 ≤ K) = false := by simp; omega
   clear h1 h2 h3 hk
   go_enter Tryz.func17, Tryz.ntmps17
   go_wp2_with fail
   go_ret
   exact ⟨rfl, hb⟩
  ·have e1 : decide (1 ≤ K) = true := by simp; omega
   have e2 : decide (K ≤ 3) = false := by simp; omega
   clear h1 h2 h3 hk
   go_enter Tryz.func17, Tryz.ntmps17
   go_wp2_with fail
   go_ret
   exact ⟨rfl, hb⟩
end Go.Proofs.YtfnjbbaphmmjlaaGreat
namespace Go.Proofs.YtfnjbbaphmmjlaaGreat
open Go.ChangeShapes Go.WideShapes Go.ChangeAt Go.RowKit Go.Maps
set_option linter.unusedVariables false
set_option linter.unusedSimpArgs false
set_option maxRecDepth 20000
set_option maxHeartbeats 4000000 in
theorem r7messageW_any {w0 w : World} {snm nm : ByteArray} {ae at' : Option Addr} {E ce T ct : Nat} {vm : Value} {ms : List MsS} (hw0 : Below w0.heap.size w0 w) (hr : MsIn w0 vm ms) :
  Calls Tryz.prog 37 #[.agg #[.string snm, vm, .slice ae E ce, .slice at' T ct], .string nm] w fun e w' => ∃ vf vr, e = .returned (.tuple #[.agg #[.string ((ms.find? (fun m => decide (m.name = nm))).getD zeroM).name, vf, vr], .bool (ms.find? (fun m => decide (m.name = nm))).isSome]) ∧ RowG w0 vf 5 (flRows ((ms.find? (fun m => decide (m.name = nm))).getD zeroM).fields) ∧ RowG w0 vr 1 (inRows ((ms.find? (fun m => decide (m.name = nm))).getD zeroM).reserved) ∧ Below w.heap.size w w' := by
 obtain ⟨a, c, rfl, q1, q2⟩ := hr.form2
 have HR : Hid (MsIn w0 (.slice a ms.length c) ms) := hr
 obtain ⟨N, hN⟩ : ∃ N, ms.length = N := ⟨_, rfl⟩
 rw [hN] at HR q1 ⊢
 have HN : Hid (ms.length = N) := hN
 clear hN hr
 obtain ⟨A, hA⟩ : ∃ A, (ms.find? (fun m => decide (m.name = nm))) = A := ⟨_, rfl⟩
 rw [hA]
 have HA : Hid (A = ((ms.drop 0).find? (fun m => decide (m.name = nm)))) := hA.symm
 clear hA
 have BX0 : Blk ((w.alloc (.cells #[.string snm, .slice a N c, .slice ae E ce, .slice at' T ct] 26)).alloc (.cells #[.string ⟨#[]⟩, .slice none 0 0, .slice none 0 0] 50)) w.heap.size #[.string snm, .slice a N c, .slice ae E ce, .slice at' T ct] 26 := (Blk.new w _ _).below ((Below.refl _ _).alloc (Nat.le_refl _) _)
 have BR0 : Blk ((w.alloc (.cells #[.string snm, .slice a N c, .slice ae E ce, .slice at' T ct] 26)).alloc (.cells #[.string ⟨#[]⟩, .slice none 0 0, .slice none 0 0] 50)) (w.heap.size + 1) #[.string ⟨#[]⟩, .slice none 0 0, .slice none 0 0] 50 := by
  have := Blk.new (w.alloc (.cells #[.string snm, .slice a N c, .slice ae E ce, .slice at' T ct] 26)) #[.string ⟨#[]⟩, .slice none 0 0, .slice none 0 0] 50
  rwa [show (w.alloc (.cells #[.string snm, .slice a N c, .slice ae E ce, .slice at' T ct] 26)).heap.size = w.heap.size + 1 by simp] at this
 have hb0 : Below w.heap.size w ((w.alloc (.cells #[.string snm, .slice a N c, .slice ae E ce, .slice at' T ct] 26)).alloc (.cells #[.string ⟨#[]⟩, .slice none 0 0, .slice none 0 0] 50)) := ((Below.refl _ _).alloc (Nat.le_refl _) _).alloc (by simp) _
 go_enter Tryz.func37, Tryz.ntmps37
 go_wp2_with fail
 go_loopw [6] (fun iv wr => ∃ k : Nat, iv = .int .i64 (k : Int) ∧ k ≤ N ∧ Hid (A = ((ms.drop k).find? (fun m => decide (m.name = nm)))) ∧ Below w.heap.size w wr ∧ Blk wr (w.heap.size + 1) #[.string ⟨#[]⟩, .slice none 0 0, .slice none 0 0] 50 ∧ Blk wr w.heap.size #[.string snm, .slice a N c, .slice ae E ce, .slice at' T ct] 26) (fun iv _ => N - (intOf iv).toNat)
 case atStart => exact ⟨0, rfl, by omega, HA, hb0, BR0, BX0⟩
 case round =>
  obtain ⟨k, rfl, hk, HAk, hbel, BR, BX⟩ := hrel
  clear BX0 BR0 hb0
  have hlt2 : w.heap.size + 1 < wr.heap.size := BR.lt
  have r0 := (BR.cell 0).trans rfl
  have z0 := BR.froz 0
  have r1 := (BR.cell 1).trans rfl
  have z1 := BR.froz 1
  have r2 := (BR.cell 2).trans rfl
  have z2 := BR.froz 2
  have x1 : wr.cell? ⟨w.heap.size, 1, none⟩ = some (.slice a N c) := BX.cell 1
  by_cases hlt : k < N
  ·obtain ⟨f, hf⟩ : ∃ n, ms[k]? = some n := ⟨_, List.getElem?_eq_getElem (by rw [HN.out]; exact hlt)⟩
   obtain ⟨g, off, vf, vr, rfl, c0', c1', c2', hrf, hrr⟩ := HR.out.get hf
   have c0 := ((hw0.trans (hbel.mono hw0.size)).cell (World.block_lt_of_cell? _ _ c0')).trans c0'
   have c1 := ((hw0.trans (hbel.mono hw0.size)).cell (World.block_lt_of_cell? _ _ c1')).trans c1'
   have c2 := ((hw0.trans (hbel.mono hw0.size)).cell (World.block_lt_of_cell? _ _ c2')).trans c2'
   clear c0' c1' c2'
   have HF : Hid (RowG w0 vf 5 (flRows f.fields)) := hrf
   have HV : Hid (RowG w0 vr 1 (inRows f.reserved)) := hrr
   obtain ⟨a3, c3, rfl, _, _⟩ := hrf.form2
   obtain ⟨a4, c4, rfl, _, _⟩ := hrr.form2
   have HF : Hid (RowG w0 (.slice a3 (flRows f.fields).length c3) 5 (flRows f.fields)) := HF
   have HV : Hid (RowG w0 (.slice a4 (inRows f.reserved).length c4) 1 (inRows f.reserved)) := HV
   have HA2 : Hid (A = if decide (f.name = nm) = true then some f else ((ms.drop (k + 1)).find? (fun m => decide (m.name = nm)))) := by
    show _ = _
    rw [HAk.out, drop_at hf, List.find?_cons]
    cases decide (f.name = nm) <;> rfl
   obtain ⟨f0, ff, fr⟩ := f
   simp only at c0 c1 c2 HA2 HF HV
   generalize hnF : (flRows ff).length = nF at *
   generalize hnR : (inRows fr).length = nR at *
   clear hrf hrr hf HAk hnF hnR
   by_cases he : f0 = nm
   ·subst he
    have HA3 : Hid (A = some ⟨f0, ff, fr⟩) := by show _ = _; rw [HA2.out, if_pos (by simp)]
    clear HA2
    go_wp2_with fail
    refine bodyPost_ret (results_two rfl _ _ _ ⟨w.heap.size + 1, 0, none⟩ (.agg #[.string f0, .slice a3 nF c3, .slice a4 nR c4]) (by go_simp) (by go_simp)) rfl ?_
    refine ⟨.slice a3 nF c3, .slice a4 nR c4, ret_two (by rw [HA3.out]; rfl) (by rw [HA3.out]; rfl), ?_, ?_, (Below.setCell (Below.setCell (Below.setCell hbel (by simp) _) (by simp) _) (by simp) _)⟩
    ·rw [HA3.out]; exact HF.out
    ·rw [HA3.out]; exact HV.out
   ·have hq := bytes_ne he
    have HA3 : Hid (A = ((ms.drop (k + 1)).find? (fun m => decide (m.name = nm)))) := by show _ = _; rw [HA2.out, if_neg (by simpa using he)]
    go_wp2_with fail
    go_roundw
    case rel => exact ⟨k + 1, by go_num, by omega, HA3, hbel, BR, BX⟩
    case measure => simp [intOf]; omega
  ·have HA2 : Hid (A = none) := by show _ = _; rw [HAk.out, drop_end (by rw [HN.out]; omega)]; rfl
   go_wp2_with fail
   refine bodyPost_ret (results_two rfl _ _ _ ⟨w.heap.size + 1, 0, none⟩ (.agg #[.string ⟨#[]⟩, .slice none 0 0, .slice none 0 0]) (by go_simp) (by go_simp)) rfl ?_
   exact ⟨.slice none 0 0, .slice none 0 0, ret_two (by rw [HA2.out]; rfl) (by rw [HA2.out]; rfl), by rw [HA2.out]; exact RowG.nil _ _, by rw [HA2.out]; exact RowG.nil _ _, (Below.setCell (Below.setCell (Below.setCell hbel (by simp) _) (by simp) _) (by simp) _)⟩
set_option maxHeartbeats 2000000 in
theorem r7field_any {w : World} {snm : ByteArray} {nm : Int} {am : Option Addr} {M cm : Nat} {vt : Value} {ts : List FlS} (hr : RowG w vt 5 (flRows ts)) :
  Calls Tryz.prog 27 #[.agg #[.string snm, vt, .slice am M cm], .int .i64 nm] w fun e w' => e = .returned (.tuple #[flV ((ts.find? fun m => decide (m.tag = nm)).getD zeroF), .bool (ts.find? fun m => decide (m.tag = nm)).isSome]) ∧ Below w.heap.size w w' := by
 obtain ⟨a, c, rfl, q1, q2⟩ := hr.form2
 have hN : (flRows ts).length = ts.length := by simp [flRows]
 rw [hN] at hr q1 ⊢
 clear hN
 obtain ⟨N, hN⟩ : ∃ N, ts.length = N := ⟨_, rfl⟩
 rw [hN] at hr q1 ⊢
 have HN : Hid (ts.length = N) := hN
 have HR : Hid (RowG w (.slice a N c) 5 (flRows ts)) := hr
 clear hN hr
 obtain ⟨A, hA⟩ : ∃ A, (ts.find? fun m => decide (m.tag = nm)) = A := ⟨_, rfl⟩
 rw [hA]
 have HA : Hid (A = ((ts.drop 0).find? fun m => decide (m.tag = nm))) := hA.symm
 clear hA
 have BX0 : Blk ((w.alloc (.cells #[.string snm, .slice a N c, .slice am M cm] 50)).alloc (.cells #[.string ⟨#[]⟩, .int .i64 0, .int .i64 0, .int .i64 0, .string ⟨#[]⟩] 54)) w.heap.size #[.string snm, .slice a N c, .slice am M cm] 50 := (Blk.new w _ _).below ((Below.refl _ _).alloc (Nat.le_refl _) _)
 have BR0 : Blk ((w.alloc (.cells #[.string snm, .slice a N c, .slice am M cm] 50)).alloc (.cells #[.string ⟨#[]⟩, .int .i64 0, .int .i64 0, .int .i64 0, .string ⟨#[]⟩] 54)) (w.heap.size + 1) #[.string ⟨#[]⟩, .int .i64 0, .int .i64 0, .int .i64 0, .string ⟨#[]⟩] 54 := by
  have := Blk.new (w.alloc (.cells #[.string snm, .slice a N c, .slice am M cm] 50)) #[.string ⟨#[]⟩, .int .i64 0, .int .i64 0, .int .i64 0, .string ⟨#[]⟩] 54
  rwa [show (w.alloc (.cells #[.string snm, .slice a N c, .slice am M cm] 50)).heap.size = w.heap.size + 1 by simp] at this
 have hb0 : Below w.heap.size w ((w.alloc (.cells #[.string snm, .slice a N c, .slice am M cm] 50)).alloc (.cells #[.string ⟨#[]⟩, .int .i64 0, .int .i64 0, .int .i64 0, .string ⟨#[]⟩] 54)) := ((Below.refl _ _).alloc (Nat.le_refl _) _).alloc (by simp) _
 go_enter Tryz.func27, Tryz.ntmps27
 go_wp2_with fail
 go_loopw [6] (fun iv wr => ∃ k : Nat, iv = .int .i64 (k : Int) ∧ k ≤ N ∧ Hid (A = ((ts.drop k).find? fun m => decide (m.tag = nm))) ∧ Below w.heap.size w wr ∧ Blk wr (w.heap.size + 1) #[.string ⟨#[]⟩, .int .i64 0, .int .i64 0, .int .i64 0, .string ⟨#[]⟩] 54 ∧ Blk wr w.heap.size #[.string snm, .slice a N c, .slice am M cm] 50) (fun iv _ => N - (intOf iv).toNat)
 case atStart => exact ⟨0, rfl, by omega, HA, hb0, BR0, BX0⟩
 case round =>
  obtain ⟨k, rfl, hk, HAk, hbel, BR, BX⟩ := hrel
  clear BX0 BR0 hb0
  have hlt2 : w.heap.size + 1 < wr.heap.size := BR.lt
  have r0 := (BR.cell 0).trans rfl
  have z0 := BR.froz 0
  have r1 := (BR.cell 1).trans rfl
  have z1 := BR.froz 1
  have r2 := (BR.cell 2).trans rfl
  have z2 := BR.froz 2
  have r3 := (BR.cell 3).trans rfl
  have z3 := BR.froz 3
  have r4 := (BR.cell 4).trans rfl
  have z4 := BR.froz 4
  have x1 : wr.cell? ⟨w.heap.size, 1, none⟩ = some (.slice a N c) := BX.cell 1
  by_cases hlt : k < N
  ·obtain ⟨f, hf⟩ : ∃ n, ts[k]? = some n := ⟨_, List.getElem?_eq_getElem (by rw [HN.out]; exact hlt)⟩
   have hrr : (flRows ts)[k]? = some f.cells := by simp [flRows, hf]
   obtain ⟨g, off, rfl, c1⟩ := (HR.out.below hbel).get hrr
   obtain ⟨f0, f1, f2, f3, f4⟩ := f
   have HA2 : Hid (A = if decide (f1 = nm) = true then some ⟨f0, f1, f2, f3, f4⟩ else ((ts.drop (k + 1)).find? fun m => decide (m.tag = nm))) := by
    show _ = _
    rw [HAk.out, drop_at hf, List.find?_cons]
    cases decide (f1 = nm) <;> rfl
   have p0 := c1 0 _ rfl
   have p1 := c1 1 _ rfl
   have p2 := c1 2 _ rfl
   have p3 := c1 3 _ rfl
   have p4 := c1 4 _ rfl
   simp only [Nat.add_zero] at p0 p1 p2 p3 p4
   clear c1 hrr hf HAk
   by_cases he : f1 = nm
   ·subst he
    go_wp2_with fail
    refine bodyPost_ret (results_two rfl _ _ _ ⟨w.heap.size + 1, 0, none⟩ (.agg #[.string f0, .int .i64 f1, .int .i64 f2, .int .i64 f3, .string f4]) (by go_simp) (by go_simp)) rfl ?_
    exact ⟨ret_two (by rw [HA2.out, if_pos (by simp)]; rfl) (by rw [HA2.out, if_pos (by simp)]; rfl), (Below.setCell (Below.setCell (Below.setCell (Below.setCell (Below.setCell hbel (by simp) _) (by simp) _) (by simp) _) (by simp) _) (by simp) _)⟩
   ·have hq : (f1 == nm) = false := by simpa using he
    have HA3 : Hid (A = ((ts.drop (k + 1)).find? fun m => decide (m.tag = nm))) := by show _ = _; rw [HA2.out, if_neg (by simpa using he)]
    go_wp2_with fail
    go_roundw
    case rel => exact ⟨k + 1, by go_num, by omega, HA3, hbel, BR, BX⟩
    case measure => simp [intOf]; omega
  ·have HA2 : Hid (A = none) := by show _ = _; rw [HAk.out, drop_end (by rw [HN.out]; omega)]; rfl
   go_wp2_with fail
   refine bodyPost_ret (results_two rfl _ _ _ ⟨w.heap.size + 1, 0, none⟩ (.agg #[.string ⟨#[]⟩, .int .i64 0, .int .i64 0, .int .i64 0, .string ⟨#[]⟩]) (by go_simp) (by go_simp)) rfl ?_
   exact ⟨ret_two (by rw [HA2.out]; rfl) (by rw [HA2.out]; rfl), (Below.setCell (Below.setCell (Below.setCell (Below.setCell (Below.setCell hbel (by simp) _) (by simp) _) (by simp) _) (by simp) _) (by simp) _)⟩
end Go.Proofs.YtfnjbbaphmmjlaaGreat
