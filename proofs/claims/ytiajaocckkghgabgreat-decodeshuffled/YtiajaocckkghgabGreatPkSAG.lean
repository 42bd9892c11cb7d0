/- Part 7 of what the proof stands on. -/
import Derived.Test.YtiajaocckkghgabGreatPkSAF
import Derived.LaidEql
import Derived.LaidEqlPtr
import Derived.MapKept
namespace Go.Proofs.YtiajaocckkghgabGreat
set_option maxHeartbeats 8000000
set_option linter.unusedVariables false
set_option linter.unusedSimpArgs false
set_option maxRecDepth 20000
section
open Go.ChangeShapes Go.WideShapes Go.ChangeAt Go.RowKit
theorem Kp.sm {S : Nat → Prop} {w w' : World} {bs : List Nat} (h : Kp S w w') (hb : ∀ k ∈ bs,k < w.heap.size ∧ ¬ S k) : Sm w w' bs := fun k hk => h.block k (hb k hk).1 (hb k hk).2
theorem Apt.right {B : Nat} {w : World} {a b : List Nat} (h : Apt B w (a ++ b)) : Apt B w b := h.of_count fun k => by simp only [List.count_append]; omega
theorem push_row {α : Type} {P : World → List Value → α → List Nat → Prop} {B e size bytes : Nat} {W : World} {v : Value} {xs : List α} {rows : List (List Value)} {bss : List (List Nat)} {r : List Value} {x : α} {b more : List Nat} {bz : Nat} {t : TypeId} {z : Value}
  (ht : Tryz.prog.underlying t = some (.slice e)) (hinfo : (Tryz.prog.info? e).map (fun i => (i.zero,i.size,i.bytes)) = some (some z,size,bytes)) (hzs : z.cells.size = size) (hsz : 0 < size) (hrow : RowO P B e size W v xs rows bss) (hap : Apt B W (more ++ (allB v bss ++ b))) (hP : P W r x b) (hr : r.length = size) (h1 : ∀ u ∈ r,u.oneCell' = true)
  (loc : ∀ w' r x b,P W r x b → Sm W w' b → P w' r x b) (BE : Blk W bz r.toArray e) (hn : xs.length ≤ 1000) (hby : bytes ≤ 1000) (hB : B ≤ W.heap.size) :
  ∃ v' W',(Builtin.append_ #[t,t] t #[v,.slice (some ⟨bz,0,none⟩) 1 1]).run Tryz.prog W = .ok v' W' ∧ RowO P B e size W' v' (xs ++ [x]) (rows ++ [r]) (bss ++ [b]) ∧ Apt B W' (more ++ allB v' (bss ++ [b])) ∧ (∃ a c,v' = .slice a (xs.length + 1) c) ∧ Kp (fun q => q ∈ blkOf v) W W' := by
 obtain ⟨i0,hi0,hz0,hz1,hz2⟩ := info_parts hinfo
 obtain ⟨v',W',r1,r2,r3,_,r5⟩ := run_append_own_at W B t t e i0 z size bytes ht hi0 hz0 hz1 hz2 hzs hsz v xs.length _ hrow.own ⟨bz,0,none⟩ 1 1 r (by rw [hr,Nat.one_mul]) (fun j u hu => by
  have := BE.cell j;rw [Addr.add_lit,Nat.zero_add,this]
  simpa using hu) h1 (by unfold maxLen; omega) (by
   have : (xs.length + 1) * bytes ≤ 1001 * 1000 := Nat.mul_le_mul (by omega) hby
   omega) hB
 obtain ⟨a,c,hv⟩ := own_form r2;refine ⟨v',W',r1,hrow.push hap.right r2 r3 hP hr (fun r x b hp hs => loc W' r x b hp hs),hap.push r5 r2 r3.size hB,⟨a,c,hv⟩,?_⟩;exact (Kp.refl _ _).grown r3 (fun k hk _ => mem_blkOf.2 hk)
abbrev ZT : Array Value := #[.int .i64 0,.int .i64 0,.string ⟨#[]⟩,.slice none 0 0,.slice none 0 0]
structure FtS (n b0 bt bm ba : Nat) (SC MC : Array Value) (a : Nat) (ve : Value) (es : List (Int × List Tr)) (rows : List (List Value)) (bss : List (List Nat)) (w : World) : Prop where
 row : RowO (EtO (TrO n b0) b0) b0 63 2 w ve es rows bss
 tb : Blk w bt #[.int .i64 3,.int .i64 0,.string ⟨#[]⟩,ve,.slice none 0 0] 39
 sb : Blk w b0 SC 26
 rb : Blk w (b0 + 1) ZT 39
 mb : Blk w bm MC 34
 ab : Blk w ba #[.int .i64 (a : Int)] 3
 lt : ba < b0
def fpO (b0 bt bm : Nat) (ve : Value) (bss : List (List Nat)) : List Nat := [b0,b0 + 1,bm,bt] ++ allB ve bss
theorem FtS.sm {n b0 bt bm ba : Nat} {SC MC : Array Value} {a a' : Nat} {ve : Value} {es : List (Int × List Tr)} {rows : List (List Value)} {bss : List (List Nat)} {w w' : World} (h : FtS n b0 bt bm ba SC MC a ve es rows bss w)
  (hs : Sm w w' (fpO b0 bt bm ve bss)) (hb : Blk w' ba #[.int .i64 (a' : Int)] 3) : FtS n b0 bt bm ba SC MC a' ve es rows bss w' :=
 ⟨h.row.sm (hs.mono fun k hk => by simp [fpO,hk]) fun _ _ _ hp hb => hp.sm hb,(hs bt (by simp [fpO])).trans h.tb,(hs b0 (by simp [fpO])).trans h.sb,(hs (b0 + 1) (by simp [fpO])).trans h.rb,(hs bm (by simp [fpO])).trans h.mb,hb,h.lt⟩
theorem FtS.below {n b0 bt bm ba : Nat} {SC MC : Array Value} {a : Nat} {ve : Value} {es : List (Int × List Tr)} {rows : List (List Value)} {bss : List (List Nat)} {w w' : World} (h : FtS n b0 bt bm ba SC MC a ve es rows bss w) (hap : Apt b0 w (fpO b0 bt bm ve bss)) (hb : Below w.heap.size w w') : FtS n b0 bt bm ba SC MC a ve es rows bss w' :=
 h.sm (Sm.below hb fun k hk => (hap.2 k hk).2) (h.ab.below hb)
theorem FtS.at' {n b0 bt bm ba : Nat} {SC MC : Array Value} {a a' : Nat} {ve : Value} {es : List (Int × List Tr)} {rows : List (List Value)} {bss : List (List Nat)} {w w' : World} (h : FtS n b0 bt bm ba SC MC a ve es rows bss w) (hap : Apt b0 w (fpO b0 bt bm ve bss)) (hk : Kp (fun q => q = ba) w w') (hb : Blk w' ba #[.int .i64 (a' : Int)] 3) : FtS n b0 bt bm ba SC MC a' ve es rows bss w' :=
 h.sm (hk.sm fun k hk => ⟨(hap.2 k hk).2,fun e => by have := (hap.2 k hk).1; have := h.lt; omega⟩) hb
structure InS (n b0 bt bm ba be bf : Nat) (SC MC LC : Array Value) (tg : Int) (a : Nat) (ve : Value) (es : List (Int × List Tr)) (rows : List (List Value)) (bss : List (List Nat)) (vt : Value) (ts : List Tr) (rows' : List (List Value)) (bss' : List (List Nat)) (w : World) : Prop where
 ft : FtS n b0 bt bm ba SC MC a ve es rows bss w
 tr : RowO (TrO n b0) b0 39 5 w vt ts rows' bss'
 eb : Blk w be #[.int .i64 tg,vt] 63
 fb : Blk w bf LC 56
 ap : Apt b0 w (fpO b0 bt bm ve bss ++ ([bf,be] ++ allB vt bss'))
section
variable {n b0 bt bm ba be bf : Nat} {SC MC LC : Array Value} {tg : Int} {a : Nat} {ve : Value} {es : List (Int × List Tr)} {rows : List (List Value)} {bss : List (List Nat)} {vt : Value} {ts : List Tr} {rows' : List (List Value)} {bss' : List (List Nat)} {w w' : World}
theorem InS.sm {a' : Nat} (h : InS n b0 bt bm ba be bf SC MC LC tg a ve es rows bss vt ts rows' bss' w) (hs : Sm w w' (fpO b0 bt bm ve bss ++ ([bf,be] ++ allB vt bss'))) (hz : w.heap.size ≤ w'.heap.size) (hb : Blk w' ba #[.int .i64 (a' : Int)] 3) :
  InS n b0 bt bm ba be bf SC MC LC tg a' ve es rows bss vt ts rows' bss' w' :=
 ⟨h.ft.sm (hs.mono fun k hk => List.mem_append.2 (.inl hk)) hb,h.tr.sm (hs.mono fun k hk => by simp [hk]) fun _ _ _ hp hb => hp.sm hb,(hs be (by simp)).trans h.eb,(hs bf (by simp)).trans h.fb,h.ap.mono hz⟩
theorem InS.below (h : InS n b0 bt bm ba be bf SC MC LC tg a ve es rows bss vt ts rows' bss' w) (hb : Below w.heap.size w w') : InS n b0 bt bm ba be bf SC MC LC tg a ve es rows bss vt ts rows' bss' w' :=
 h.sm (Sm.below hb fun k hk => (h.ap.2 k hk).2) hb.size (h.ft.ab.below hb)
theorem InS.at' {a' : Nat} (h : InS n b0 bt bm ba be bf SC MC LC tg a ve es rows bss vt ts rows' bss' w) (hk : Kp (fun q => q = ba) w w') (hb : Blk w' ba #[.int .i64 (a' : Int)] 3) : InS n b0 bt bm ba be bf SC MC LC tg a' ve es rows bss vt ts rows' bss' w' :=
 h.sm (hk.sm fun k hk => ⟨(h.ap.2 k hk).2,fun e => by have := (h.ap.2 k hk).1; have := h.ft.lt; omega⟩) hk.size hb
theorem InS.new (h : FtS n b0 bt bm ba SC MC a ve es rows bss w) (hap : Apt b0 w (fpO b0 bt bm ve bss ++ [bf,be])) (he : Blk w be #[.int .i64 tg,.slice none 0 0] 63) (hf : Blk w bf LC 56) : InS n b0 bt bm ba be bf SC MC LC tg a ve es rows bss (.slice none 0 0) [] [] [] w :=
 ⟨h,RowO.nil _ _ _ _ _,he,hf,by simpa [allB,blkOf,Value.ownBlock] using hap⟩
theorem InS.pushT (h : InS n b0 bt bm ba be bf SC MC LC tg a ve es rows bss vt ts rows' bss' w) {r : List Value} {x : Tr} {bs : List Nat} {bz : Nat} (hO : TrO n b0 w r x bs) (hr5 : r.length = 5) (hr1 : ∀ u ∈ r,u.oneCell' = true) (hap : Apt b0 w ((fpO b0 bt bm ve bss ++ ([bf,be] ++ allB vt bss')) ++ bs)) (BZ : Blk w bz r.toArray 39) (hl : ts.length ≤ 100) :
  ∃ v' W',(Builtin.append_ #[61,61] 61 #[vt,.slice (some ⟨bz,0,none⟩) 1 1]).run Tryz.prog w = .ok v' W' ∧ (∃ a c,v' = .slice a (ts.length + 1) c) ∧ Blk W' be #[.int .i64 tg,vt] 63 ∧ Kp (fun q => b0 ≤ q) w (W'.setCell ⟨be,1,none⟩ v') ∧
   InS n b0 bt bm ba be bf SC MC LC tg a ve es rows bss v' (ts ++ [x]) (rows' ++ [r]) (bss' ++ [bs]) (W'.setCell ⟨be,1,none⟩ v') := by
 have hB0 : b0 ≤ w.heap.size := by have := (h.ap.2 b0 (by simp [fpO])); omega
 obtain ⟨v',W',r1,r2,r3,r4,r5⟩ := push_row (P := TrO n b0) (t := 61) (more := fpO b0 bt bm ve bss ++ [bf,be]) Tryz.underlying61 infoTr rfl (by decide) h.tr (by simpa only [List.append_assoc] using hap) hO hr5 hr1 (fun _ _ _ _ hp hs => hp.sm hs) BZ (by omega) (by decide) hB0;have hno : ∀ k ∈ fpO b0 bt bm ve bss ++ [bf,be],k ∉ blkOf vt := fun k hk hq => (h.ap.of_count (cs := (fpO b0 bt bm ve bss ++ [bf,be]) ++ allB vt bss') fun q => by simp only [List.count_append]; omega).apart k hk (by simp [allB,hq])
 have hs1 : Sm w W' (fpO b0 bt bm ve bss ++ [bf,be]) := r5.sm fun k hk => ⟨(h.ap.2 k (by simp only [List.mem_append] at hk ⊢; rcases hk with hk | hk; exact .inl hk; exact .inr (.inl hk))).2,hno k hk⟩
 have hgeb : ∀ k ∈ blkOf vt,b0 ≤ k := fun k hk => (own_lt h.tr.own (mem_blkOf.1 hk)).1
 have BA1 : Blk W' ba #[.int .i64 (a : Int)] 3 := h.ft.ab.kp r5 (fun e => by have := hgeb ba e; have := h.ft.lt; omega);have BE1 : Blk W' be #[.int .i64 tg,vt] 63 := (hs1 be (by simp)).trans h.eb;have hbe0 : b0 ≤ be := (h.ap.2 be (by simp)).1
 have KS : Kp (fun q => q = be) W' (W'.setCell ⟨be,1,none⟩ v') := by
  refine Kp.setCell ?_ (fun _ => by simp) _;exact Kp.refl _ _
 have hnb : ∀ k ∈ (fpO b0 bt bm ve bss ++ [bf]) ++ allB v' (bss' ++ [bs]),k ≠ be := fun k hk e => by
  subst e;exact (r3.of_count (cs := ((fpO b0 bt bm ve bss ++ [bf]) ++ allB v' (bss' ++ [bs])) ++ [k]) fun q => by simp only [List.count_append,List.count_cons,List.count_nil]; omega).apart k hk (by simp)
 have hs2 : Sm W' (W'.setCell ⟨be,1,none⟩ v') ((fpO b0 bt bm ve bss ++ [bf]) ++ allB v' (bss' ++ [bs])) := KS.sm fun k hk => ⟨(r3.2 k (by simp only [List.mem_append] at hk ⊢; rcases hk with (hk | hk) | hk; exact .inl (.inl hk); exact .inl (.inr (by simp at hk; simp [hk])); exact .inr hk)).2,hnb k hk⟩
 have hk2 : Kp (fun q => b0 ≤ q) w (W'.setCell ⟨be,1,none⟩ v') := (r5.weak fun i _ hi => hgeb i hi).trans (KS.weak fun i _ hi => by omega);refine ⟨v',W',r1,r4,BE1,hk2,?_⟩;have ft1 : FtS n b0 bt bm ba SC MC a ve es rows bss W' := h.ft.sm (hs1.mono fun k hk => List.mem_append.2 (.inl hk)) BA1;refine ⟨ft1.sm (hs2.mono fun k hk => by simp [hk]) (BA1.kp KS (fun e => by have := h.ft.lt; omega)),r2.sm (hs2.mono fun k hk => by simp [hk]) fun _ _ _ hp hb => hp.sm hb,BE1.set 1 _ rfl,(hs2 bf (by simp)).trans ((hs1 bf (by simp)).trans h.fb),?_⟩
 exact (r3.mono KS.size).of_count fun k => by simp only [List.count_append]; omega
theorem InS.pushE (h : InS n b0 bt bm ba be bf SC MC LC tg a ve es rows bss vt ts rows' bss' w) {bz : Nat} (h64 : Is64 tg) (BZ : Blk w bz #[.int .i64 tg,vt] 63) (hl : es.length ≤ 100) (h1 : vt.oneCell' = true) :
  ∃ v' W',(Builtin.append_ #[36,36] 36 #[ve,.slice (some ⟨bz,0,none⟩) 1 1]).run Tryz.prog w = .ok v' W' ∧ (∃ a c,v' = .slice a (es.length + 1) c) ∧ Blk W' bt #[.int .i64 3,.int .i64 0,.string ⟨#[]⟩,ve,.slice none 0 0] 39 ∧ Kp (fun q => b0 ≤ q) w (W'.setCell ⟨bt,3,none⟩ v') ∧
   FtS n b0 bt bm ba SC MC a v' (es ++ [(tg,ts)]) (rows ++ [[.int .i64 tg,vt]]) (bss ++ [allB vt bss']) (W'.setCell ⟨bt,3,none⟩ v') ∧ Apt b0 (W'.setCell ⟨bt,3,none⟩ v') (fpO b0 bt bm v' (bss ++ [allB vt bss'])) := by
 have hB0 : b0 ≤ w.heap.size := by have := (h.ap.2 b0 (by simp [fpO])); omega
 have hap : Apt b0 w ([b0,b0 + 1,bm,bt] ++ (allB ve bss ++ allB vt bss')) := h.ap.of_count fun k => by simp only [fpO,List.count_append]; omega
 obtain ⟨v',W',r1,r2,r3,r4,r5⟩ := push_row (P := EtO (TrO n b0) b0) (t := 36) (x := (tg,ts)) (r := [.int .i64 tg,vt]) (more := [b0,b0 + 1,bm,bt]) Tryz.underlying36 infoEt rfl (by decide) h.ft.row hap ⟨vt,rows',bss',rfl,h64,h.tr,rfl⟩ rfl (fun u hu => by
  simp only [List.mem_cons,List.not_mem_nil,or_false] at hu
  rcases hu with rfl | rfl
  ·rfl
  ·exact h1) (fun _ _ _ _ hp hs => hp.sm hs) BZ (by omega) (by decide) hB0
 have hno : ∀ k ∈ [b0,b0 + 1,bm,bt],k ∉ blkOf ve := fun k hk hq => hap.apart k hk (by simp [allB,hq])
 have hs1 : Sm w W' [b0,b0 + 1,bm,bt] := r5.sm fun k hk => ⟨(hap.2 k (List.mem_append.2 (.inl hk))).2,hno k hk⟩
 have hgeb : ∀ k ∈ blkOf ve,b0 ≤ k := fun k hk => (own_lt h.ft.row.own (mem_blkOf.1 hk)).1
 have BA1 : Blk W' ba #[.int .i64 (a : Int)] 3 := h.ft.ab.kp r5 (fun e => by have := hgeb ba e; have := h.ft.lt; omega);have BT1 : Blk W' bt #[.int .i64 3,.int .i64 0,.string ⟨#[]⟩,ve,.slice none 0 0] 39 := (hs1 bt (by simp)).trans h.ft.tb;have hbt0 : b0 ≤ bt := (hap.2 bt (by simp)).1
 have KS : Kp (fun q => q = bt) W' (W'.setCell ⟨bt,3,none⟩ v') := by
  refine Kp.setCell ?_ (fun _ => by simp) _;exact Kp.refl _ _
 have hnb : ∀ k ∈ [b0,b0 + 1,bm] ++ allB v' (bss ++ [allB vt bss']),k ≠ bt := fun k hk e => by
  subst e;exact (r3.of_count (cs := ([b0,b0 + 1,bm] ++ allB v' (bss ++ [allB vt bss'])) ++ [k]) fun q => by simp only [List.count_append,List.count_cons,List.count_nil]; omega).apart k hk (by simp)
 have hs2 : Sm W' (W'.setCell ⟨bt,3,none⟩ v') ([b0,b0 + 1,bm] ++ allB v' (bss ++ [allB vt bss'])) := KS.sm fun k hk => ⟨(r3.2 k (by simp only [List.mem_append] at hk ⊢; rcases hk with hk | hk; exact .inl (by simp at hk ⊢; rcases hk with rfl | rfl | rfl <;> simp); exact .inr hk)).2,hnb k hk⟩
 have hk2 : Kp (fun q => b0 ≤ q) w (W'.setCell ⟨bt,3,none⟩ v') := (r5.weak fun i _ hi => hgeb i hi).trans (KS.weak fun i _ hi => by omega);refine ⟨v',W',r1,r4,BT1,hk2,⟨r2.sm (hs2.mono fun k hk => by simp [hk]) fun _ _ _ hp hb => hp.sm hb,BT1.set 3 _ rfl,(hs2 b0 (by simp)).trans ((hs1 b0 (by simp)).trans h.ft.sb),(hs2 (b0 + 1) (by simp)).trans ((hs1 (b0 + 1) (by simp)).trans h.ft.rb),(hs2 bm (by simp)).trans ((hs1 bm (by simp)).trans h.ft.mb),BA1.kp KS (fun e => by have := h.ft.lt; omega),h.ft.lt⟩,?_⟩;exact r3.mono KS.size
end
abbrev KE := Int × (Value × List Tr × List Nat)
def esK (K : List KE) : List (Int × List Tr) := K.map fun k => (k.1,k.2.2.1)
def vsK (K : List KE) : List (Int × Value) := K.map fun k => (k.1,k.2.1)
def fpK (K : List KE) : List Nat := K.flatMap fun k => k.2.2.2
theorem esK_set (tag : Int) (x : Value × List Tr × List Nat) (K : List KE) : esK (setE tag x K) = setE tag x.2.1 (esK K) := setE_map (fun y : Value × List Tr × List Nat => y.2.1) tag x K
theorem vsK_set (tag : Int) (x : Value × List Tr × List Nat) (K : List KE) : vsK (setE tag x K) = setE tag x.1 (vsK K) := setE_map (fun y : Value × List Tr × List Nat => y.1) tag x K
theorem esK_del (tag : Int) (K : List KE) : esK (delE tag K) = delE tag (esK K) := delE_map (fun y : Value × List Tr × List Nat => y.2.1) tag K
theorem vsK_del (tag : Int) (K : List KE) : vsK (delE tag K) = delE tag (vsK K) := delE_map (fun y : Value × List Tr × List Nat => y.1) tag K
theorem fpK_app (K K' : List KE) : fpK (K ++ K') = fpK K ++ fpK K' := by simp [fpK]
theorem fpK_cons (k : KE) (K : List KE) : fpK (k :: K) = k.2.2.2 ++ fpK K := by simp [fpK]
theorem cnt_two (tag : Int) (K : List KE) (q : Nat) : (fpK (K.filter fun e => decide (e.1 < tag))).count q + (fpK (K.filter fun e => decide (tag < e.1))).count q ≤ (fpK (delE tag K)).count q := by
 induction K with
 | nil => simp [fpK,delE]
 | cons a l ih =>
  simp only [delE] at ih ⊢;simp only [List.filter_cons]
  by_cases h1 : a.1 < tag
  ·have h2 : ¬ tag < a.1 := by omega
   have h3 : a.1 ≠ tag := by omega
   simp only [h1,h2,h3,decide_true,decide_false,if_true,ne_eq,not_false_eq_true,Bool.false_eq_true,if_false,fpK_cons,List.count_append] at ih ⊢
   omega
  ·by_cases h2 : tag < a.1
   ·have h3 : a.1 ≠ tag := by omega
    simp only [h1,h2,h3,decide_true,decide_false,if_true,ne_eq,not_false_eq_true,Bool.false_eq_true,if_false,fpK_cons,List.count_append] at ih ⊢
    omega
   ·have h3 : a.1 = tag := by omega
    simp only [h3,Int.lt_irrefl,decide_false,ne_eq,not_true_eq_false,Bool.false_eq_true,if_false] at ih ⊢;exact ih
theorem cnt_set (tag : Int) (x : Value × List Tr × List Nat) (K : List KE) (q : Nat) : (fpK (setE tag x K)).count q ≤ x.2.2.count q + (fpK (delE tag K)).count q := by
 have h := cnt_two tag K q
 show List.count q (fpK (K.filter (fun e => decide (e.1 < tag)) ++ (tag,x) :: K.filter (fun e => decide (tag < e.1)))) ≤ _
 rw [fpK_app,fpK_cons,List.count_append,List.count_append];exact Nat.le_trans (Nat.le_of_eq (Nat.add_left_comm _ _ _)) (Nat.add_le_add_left h _)
theorem cnt_del0 (tag : Int) (K : List KE) (q : Nat) : (fpK (delE tag K)).count q ≤ (fpK K).count q := by
 induction K with
 | nil => simp [fpK,delE]
 | cons a l ih =>
  simp only [delE] at ih ⊢;simp only [List.filter_cons]
  split
  ·simp only [fpK_cons,List.count_append]; omega
  ·simp only [fpK_cons,List.count_append]; omega
theorem cnt_del {K : List KE} {p : KE} (hp : p ∈ K) (q : Nat) : (fpK (delE p.1 K)).count q + p.2.2.2.count q ≤ (fpK K).count q := by
 induction K with
 | nil => cases hp
 | cons a l ih =>
  rcases List.mem_cons.1 hp with rfl | hp
  ·have h0 := cnt_del0 p.1 l q
   have h1 : delE p.1 (p :: l) = delE p.1 l := by simp [delE]
   rw [h1];simp only [fpK_cons,List.count_append]; omega
  ·have h0 := ih hp;simp only [delE] at h0 ⊢;simp only [List.filter_cons]
   split
   ·simp only [fpK_cons,List.count_append]; omega
   ·simp only [fpK_cons,List.count_append]; omega
theorem fpK_mem {K : List KE} {k : KE} (hk : k ∈ K) : ∀ q ∈ k.2.2.2,q ∈ fpK K := fun q hq => List.mem_flatMap.2 ⟨k,hk,hq⟩
structure DcS (n B bR bm c : Nat) (K : List KE) (vr : Value) (rest : List Fd) (w : World) : Prop where
 map : KMap w bm c (vsK K)
 ris : RisE K
 row : ∀ k ∈ K,∃ rows bss,RowO (TrO n B) B 39 5 w k.2.1 k.2.2.1 rows bss ∧ k.2.2.2 = allB k.2.1 bss
 i64 : ∀ k ∈ K,Is64 k.1
 rb : Blk w bR #[vr] 37
 rr : w.ownsRow B 44 4 vr rest.length (rawCells rest)
 r64 : Fd64 rest
 ap : Apt B w (fpK K ++ blkOf vr)
 ltR : bR < B
 ltm : bm < B
section
variable {n B bR bm c : Nat} {K : List KE} {vr : Value} {rest : List Fd} {w w' : World}
theorem DcS.nil (hm : KMap w bm 0 []) (hb : Blk w bR #[.slice none 0 0] 37) (h1 : bR < B) (h2 : bm < B) : DcS n B bR bm 0 [] (.slice none 0 0) [] w :=
 ⟨hm,List.Pairwise.nil,by simp,by simp,hb,World.ownsRow_nil _ _ _ _,(fun f hf => by cases hf),Apt.nil _ _,h1,h2⟩
theorem DcS.kp {S : Nat → Prop} (h : DcS n B bR bm c K vr rest w) (hk : Kp S w w') (hs : ∀ q ∈ fpK K ++ blkOf vr,¬ S q) (h1 : ¬ S bR) (h2 : ¬ S bm) : DcS n B bR bm c K vr rest w' := by
 have hsm : Sm w w' (fpK K ++ blkOf vr) := hk.sm fun k hq => ⟨(h.ap.2 k hq).2,hs k hq⟩
 refine ⟨h.map.kp hk h2,h.ris,fun k hq => ?_,h.i64,h.rb.kp hk h1,own_sm h.rr (hsm.mono fun q hq => List.mem_append.2 (.inr hq)),h.r64,h.ap.mono hk.size,h.ltR,h.ltm⟩;obtain ⟨rows,bss,g1,g2⟩ := h.row k hq;exact ⟨rows,bss,g1.sm (hsm.mono fun q hq' => List.mem_append.2 (.inl (fpK_mem hq q (by rw [g2]; exact hq')))) fun _ _ _ hp hb => hp.sm hb,g2⟩
theorem DcS.below (h : DcS n B bR bm c K vr rest w) (hk : Below w.heap.size w w') : DcS n B bR bm c K vr rest w' := h.kp (S := fun _ => False) (Kp.ofBelow hk) (fun _ _ e => e) (fun e => e) (fun e => e)
theorem DcS.setNew (h : DcS n B bR bm c K vr rest w) {tag : Int} (h64 : Is64 tag) {v' : Value} {ts' : List Tr} {rows' : List (List Value)} {bss' : List (List Nat)} {c' : Nat} (hs : Sm w w' (fpK (delE tag K) ++ blkOf vr)) (hb : Blk w' bR #[vr] 37) (hm : KMap w' bm c' (setE tag v' (vsK K)))
  (hr : RowO (TrO n B) B 39 5 w' v' ts' rows' bss') (hap : Apt B w' ((fpK (delE tag K) ++ blkOf vr) ++ allB v' bss')) : DcS n B bR bm c' (setE tag (v',ts',allB v' bss') K) vr rest w' := by
 refine ⟨by rw [vsK_set]; exact hm,h.ris.set _ _,fun k hk => ?_,fun k hk => ?_,hb,own_sm h.rr (hs.mono fun q hq => List.mem_append.2 (.inr hq)),h.r64,?_,h.ltR,h.ltm⟩
 ·rcases mem_setE.1 hk with rfl | ⟨hk,hne⟩
  ·exact ⟨rows',bss',hr,rfl⟩
  ·obtain ⟨rows,bss,g1,g2⟩ := h.row k hk;exact ⟨rows,bss,g1.sm (hs.mono fun q hq' => List.mem_append.2 (.inl (fpK_mem (mem_delE.2 ⟨hk,hne⟩) q (by rw [g2]; exact hq')))) fun _ _ _ hp hb => hp.sm hb,g2⟩
 ·rcases mem_setE.1 hk with rfl | ⟨hk,hne⟩
  ·exact h64
  ·exact h.i64 k hk
 ·refine hap.of_count fun q => ?_
  have := cnt_set tag (v',ts',allB v' bss') K q;simp only [List.count_append] at this ⊢
  omega
theorem DcS.setDel (h : DcS n B bR bm c K vr rest w) (tag : Int) (hk : Kp (fun q => q = bm) w w') (hm : KMap w' bm c (delE tag (vsK K))) : DcS n B bR bm c (delE tag K) vr rest w' := by
 have hne : ∀ q ∈ fpK K ++ blkOf vr,q ≠ bm := fun q hq e => by have := (h.ap.2 q hq).1; have := h.ltm; omega
 have hsm : Sm w w' (fpK K ++ blkOf vr) := hk.sm fun k hq => ⟨(h.ap.2 k hq).2,hne k hq⟩
 refine ⟨by rw [vsK_del]; exact hm,h.ris.del _,fun k hq => ?_,fun k hq => h.i64 k (mem_delE.1 hq).1,h.rb.kp hk (h.map.ne h.rb),own_sm h.rr (hsm.mono fun q hq => List.mem_append.2 (.inr hq)),h.r64,?_,h.ltR,h.ltm⟩
 ·obtain ⟨rows,bss,g1,g2⟩ := h.row k (mem_delE.1 hq).1;exact ⟨rows,bss,g1.sm (hsm.mono fun q hq' => List.mem_append.2 (.inl (fpK_mem (mem_delE.1 hq).1 q (by rw [g2]; exact hq')))) fun _ _ _ hp hb => hp.sm hb,g2⟩
 ·refine (h.ap.mono hk.size).of_count fun q => ?_
  have := cnt_del0 tag K q;simp only [List.count_append]
  omega
theorem DcS.at (h : DcS n B bR bm c K vr rest w) (tag : Int) : ∃ rows bss,RowO (TrO n B) B 39 5 w (lookE (vsK K) tag) (undE (esK K) tag) rows bss ∧ ∀ q,(fpK (delE tag K)).count q + (allB (lookE (vsK K) tag) bss).count q ≤ (fpK K).count q := by
 cases hf : K.find? (fun e => decide (e.1 = tag)) with
 | none =>
  have h1 : (vsK K).find? (fun e => decide (e.1 = tag)) = none := by simp [vsK,List.find?_map,Function.comp_def,hf]
  have h2 : (esK K).find? (fun e => decide (e.1 = tag)) = none := by simp [esK,List.find?_map,Function.comp_def,hf]
  simp only [lookE,undE,h1,h2,Option.map_none,Option.getD_none];exact ⟨[],[],RowO.nil _ _ _ _ _,fun q => by have := cnt_del0 tag K q; simp [allB,blkOf,Value.ownBlock]; exact this⟩
 | some p =>
  have hp := List.mem_of_find?_eq_some hf
  have hpx : p.1 = tag := by simpa using List.find?_some hf
  have h1 : (vsK K).find? (fun e => decide (e.1 = tag)) = some (p.1,p.2.1) := by simp [vsK,List.find?_map,Function.comp_def,hf]
  have h2 : (esK K).find? (fun e => decide (e.1 = tag)) = some (p.1,p.2.2.1) := by simp [esK,List.find?_map,Function.comp_def,hf]
  simp only [lookE,undE,h1,h2,Option.map_some,Option.getD_some];obtain ⟨rows,bss,g1,g2⟩ := h.row p hp;refine ⟨rows,bss,g1,fun q => ?_⟩;have := cnt_del hp q;rw [hpx,g2] at this;exact this
end
theorem i64_of {z : Int} (h : Is64 z) : I64 z := h
theorem TrO.len5 {n B : Nat} {w : World} {r : List Value} {t : Tr} {bs : List Nat} (h : TrO n B w r t bs) : r.length = 5 ∧ ∀ u ∈ r,u.oneCell' = true := by
 obtain ⟨a1,n1,c1,a2,n2,c2,rfl⟩ := h.open;refine ⟨rfl,fun u hu => ?_⟩;simp only [List.mem_cons,List.not_mem_nil,or_false] at hu
 rcases hu with rfl | rfl | rfl | rfl | rfl <;> rfl
section
variable {n B bR bm c : Nat} {K : List KE} {vr : Value} {rest : List Fd} {w w' : World} {tag : Int} {r : List Value} {x : Tr} {bs : List Nat}
theorem row_one (hB : B ≤ w.heap.size) (hx : TrO n B w r x bs) (hb : Blk w' w.heap.size r.toArray 39) (hs : Sm w w' bs) : RowO (TrO n B) B 39 5 w' (.slice (some ⟨w.heap.size,0,none⟩) 1 1) [x] [r] [bs] := by
 obtain ⟨h5,_⟩ := hx.len5;refine ⟨⟨by simp [h5],.inr ⟨w.heap.size,1,r.toArray,rfl,hB,hb,Nat.le_refl _,by unfold maxLen; omega,by simp [h5],by simp [h5,List.take_of_length_le]⟩⟩,rfl,rfl,by simpa using h5,fun i y hy => ?_⟩
 cases i with
 | zero =>
  obtain rfl : x = y := by simpa using hy
  exact ⟨r,bs,rfl,rfl,hx.sm hs⟩
 | succ i => simp at hy
theorem DcS.one (h : DcS n B bR bm c K vr rest w) (hB : B ≤ w.heap.size) (h64 : Is64 tag) (hx : TrO n B w r x bs) (hap : Apt B w ((fpK K ++ blkOf vr) ++ bs)) (hc : c < maxLen) :
  ∃ w5,(Instr.mapUpdate 111 (.map (some bm)) (.int .i64 tag) (.slice (some ⟨w.heap.size,0,none⟩) 1 1)).run Tryz.prog (w.alloc (Obj.cells r.toArray 39)) = .ok () w5 ∧
   DcS n B bR bm (c + 1) (setE tag (.slice (some ⟨w.heap.size,0,none⟩) 1 1,[x],allB (.slice (some ⟨w.heap.size,0,none⟩) 1 1) [bs]) K) vr rest w5 ∧ Kp (fun q => q = bm) (w.alloc (Obj.cells r.toArray 39)) w5 := by
 have al : Below w.heap.size w (w.alloc (Obj.cells r.toArray 39)) := (Below.refl _ _).alloc (Nat.le_refl _) _;obtain ⟨w5,hrun,hm5,k5⟩ := (h.map.below al).put hc (i64_of h64) (.slice (some ⟨w.heap.size,0,none⟩) 1 1)
 have hsz5 : w.heap.size < w5.heap.size := by have := k5.size; simp at this; omega
 have hS : ∀ q ∈ (fpK K ++ blkOf vr) ++ bs,w5.heap[q]? = w.heap[q]? := fun q hq => by
  have h1 := hap.2 q hq;have := h.ltm;exact (k5.block q (by simp; omega) (by omega)).trans (al.block q h1.2)
 refine ⟨w5,hrun,h.setNew h64 (rows' := [r]) (bss' := [bs]) (fun q hq => hS q ?_) ?_ hm5 (row_one hB hx ?_ fun q hq => hS q (List.mem_append.2 (.inr hq))) ?_,k5⟩
 ·rcases List.mem_append.1 hq with hq | hq
  ·have := cnt_del0 tag K q;exact List.mem_append.2 (.inl (List.mem_append.2 (.inl (List.count_pos_iff.1 (Nat.lt_of_lt_of_le (List.count_pos_iff.2 hq) this)))))
  ·exact List.mem_append.2 (.inl (List.mem_append.2 (.inr hq)))
 ·exact (h.rb.below al).kp k5 (h.map.ne h.rb)
 ·exact (Blk.new w _ _).kp k5 (fun e => by have := h.ltm; omega)
 ·have h1 : Apt B w5 (((fpK K ++ blkOf vr) ++ bs) ++ [w.heap.size]) := hap.new hB hsz5;refine h1.of_count fun q => ?_
  have := cnt_del0 tag K q;simp only [allB,blkOf,Value.ownBlock,List.count_append,List.flatten_cons,List.flatten_nil,List.append_nil]
  omega
theorem DcS.more (h : DcS n B bR bm c K vr rest w) (hB : B ≤ w.heap.size) (h64 : Is64 tag) (hx : TrO n B w r x bs) (hap : Apt B w ((fpK K ++ blkOf vr) ++ bs)) (hc : c < maxLen) (hl : (undE (esK K) tag).length ≤ 64) {bz : Nat} (BZ : Blk w bz r.toArray 39) :
  ∃ v' W' w5 bs',(Builtin.append_ #[61,61] 61 #[lookE (vsK K) tag,.slice (some ⟨bz,0,none⟩) 1 1]).run Tryz.prog w = .ok v' W' ∧ Kp (fun q => q ∈ blkOf (lookE (vsK K) tag)) w W' ∧
   (Instr.mapUpdate 111 (.map (some bm)) (.int .i64 tag) v').run Tryz.prog W' = .ok () w5 ∧ DcS n B bR bm (c + 1) (setE tag (v',undE (esK K) tag ++ [x],bs') K) vr rest w5 ∧ Kp (fun q => q = bm) W' w5 := by
 obtain ⟨h5,h1⟩ := hx.len5;obtain ⟨rows,bss,g1,g2⟩ := h.at tag
 have hap1 : Apt B w ((fpK (delE tag K) ++ blkOf vr) ++ (allB (lookE (vsK K) tag) bss ++ bs)) := hap.of_count fun q => by
  have := g2 q;simp only [List.count_append] at this ⊢
  omega
 obtain ⟨v',W',r1,r2,r3,r4,r5⟩ := push_row (P := TrO n B) (t := 61) (more := fpK (delE tag K) ++ blkOf vr) Tryz.underlying61 infoTr rfl (by decide) g1 hap1 hx h5 h1 (fun _ _ _ _ hp hs => hp.sm hs) BZ (by omega) (by decide) hB;have hgeb : ∀ k ∈ blkOf (lookE (vsK K) tag),B ≤ k := fun k hk => (own_lt g1.own (mem_blkOf.1 hk)).1
 have hnm : bm ∉ blkOf (lookE (vsK K) tag) := fun e => by have := hgeb _ e; have := h.ltm; omega
 have hnR : bR ∉ blkOf (lookE (vsK K) tag) := fun e => by have := hgeb _ e; have := h.ltR; omega
 obtain ⟨w5,hrun,hm5,k5⟩ := (h.map.kp r5 hnm).put hc (i64_of h64) v';refine ⟨v',W',w5,allB v' (bss ++ [bs]),r1,r5,hrun,?_,k5⟩;have hS1 : Sm w W' (fpK (delE tag K) ++ blkOf vr) := r5.sm fun k hk => ⟨(hap1.2 k (List.mem_append.2 (.inl hk))).2,fun e => hap1.apart k hk (List.mem_append.2 (.inl (by simp [allB,e])))⟩
 have hne : ∀ k ∈ (fpK (delE tag K) ++ blkOf vr) ++ allB v' (bss ++ [bs]),k ≠ bm := fun k hk e => by have := (r3.2 k hk).1; have := h.ltm; omega
 have hS2 : Sm W' w5 ((fpK (delE tag K) ++ blkOf vr) ++ allB v' (bss ++ [bs])) := k5.sm fun k hk => ⟨(r3.2 k hk).2,hne k hk⟩
 refine h.setNew h64 (rows' := rows ++ [r]) (bss' := bss ++ [bs]) (fun q hq => (hS2 q (List.mem_append.2 (.inl hq))).trans (hS1 q hq)) ((h.rb.kp r5 hnR).kp k5 (h.map.ne h.rb)) hm5 (r2.sm (hS2.mono fun q hq => List.mem_append.2 (.inr hq)) fun _ _ _ hp hb => hp.sm hb) (r3.mono k5.size)
end
def set5 (w : World) (g o : Nat) (a b c d e : Value) : World := ((((w.setCell ⟨g,o,none⟩ a).setCell ⟨g,o + 1,none⟩ b).setCell ⟨g,o + 2,none⟩ c).setCell ⟨g,o + 3,none⟩ d).setCell ⟨g,o + 4,none⟩ e
theorem set5_kp (w : World) (g o : Nat) (a b c d e : Value) : Kp (fun q => q = g) w (set5 w g o a b c d e) := by
 unfold set5;refine Kp.setCell ?_ (fun _ => by simp) _;refine Kp.setCell ?_ (fun _ => by simp) _;refine Kp.setCell ?_ (fun _ => by simp) _;refine Kp.setCell ?_ (fun _ => by simp) _;refine Kp.setCell ?_ (fun _ => by simp) _;exact Kp.refl _ _
abbrev Pl : Type := Option Addr × Nat
def plV (x : Pl) : Value := .agg #[.pointer x.1,.int .i64 (x.2 : Int)]
def PlOk (w : World) (x : Pl) : Prop := ∀ a,x.1 = some a → ∃ cs ty,w.heap[a.block]? = some (.cells cs ty (0,0))
theorem eql_ptr (w : World) (d : Nat) (p q : Option Addr) (hp : ∀ a,p = some a → ∃ cs ty,w.heap[a.block]? = some (.cells cs ty (0,0))) (hq : ∀ a,q = some a → ∃ cs ty,w.heap[a.block]? = some (.cells cs ty (0,0))) :
  (Op.equalIn (d + 1) 174 (.pointer p) (.pointer q)).run Tryz.prog w = .ok (decide (p = q)) w := by
 have hu : Tryz.prog.underlying 174 = some (.pointer 63) := by kernel_rfl
 have hi : (Tryz.prog.info? 63).map (fun i => i.size) = some 2 := by kernel_rfl
 obtain ⟨j,hj,hs⟩ : ∃ j,Tryz.prog.info? 63 = some j ∧ j.size = 2 := by
  cases h : Tryz.prog.info? 63 with
  | none => rw [h] at hi; cases hi
  | some j => rw [h] at hi; exact ⟨j,rfl,by simpa using hi⟩
 cases p with
 | none => cases q <;> simp [Op.equalIn,run_underlying hu]
 | some a =>
  cases q with
  | none => simp [Op.equalIn,run_underlying hu]
  | some b =>
   by_cases e : a = b
   ·subst e
    simp [Op.equalIn,run_underlying hu,sizeOf,typeInfo,hj,hs,run_sameAddr_same]
   ·obtain ⟨ca,ta,ha⟩ := hp a rfl;obtain ⟨cb,tb,hb⟩ := hq b rfl
    simp [Op.equalIn,run_underlying hu,sizeOf,typeInfo,hj,hs,run_sameAddr_other w e ha hb,e]
theorem eql_pl (w : World) (x y : Pl) (hx : PlOk w x) (hy : PlOk w y) : (Op.equal 176 (plV x) (plV y)).run Tryz.prog w = .ok (decide (x = y)) w := by
 obtain ⟨p,m⟩ := x;obtain ⟨q,n⟩ := y;have h1 := fun d => eql_ptr w d p q hx hy
 by_cases e : p = q
 ·subst e
  by_cases e2 : m = n
  ·subst e2
   simp [plV,Op.equal,Op.maxDepth,go_sem,h1]
  ·have e3 : ¬ (m : Int) = (n : Int) := by omega
   simp [plV,Op.equal,Op.maxDepth,go_sem,h1,e2,e3]
 ·simp [plV,Op.equal,Op.maxDepth,go_sem,h1,e]
theorem check_pl (w : World) (b : Bool) (x : Pl) : (Instr.checkKey b 10000 176 (plV x)).run Tryz.prog w = .ok () w := by kernel_rfl
def PlSet (w : World) (b : Nat) (L : List Value) : Prop := ∃ es clock,w.heap[b]? = some (.map es clock) ∧ es.toList.map MapEntry.key = L ∧ ∀ e ∈ es.toList,e.val = .agg #[]
theorem PlSet.lt {w : World} {b : Nat} {L : List Value} (h : PlSet w b L) : b < w.heap.size := by
 obtain ⟨es,c,h,_⟩ := h;exact (Array.getElem?_eq_some_iff.1 h).1
theorem PlSet.kp {S : Nat → Prop} {w w1 : World} {b : Nat} {L : List Value} (h : PlSet w b L) (hk : Kp S w w1) (hs : ¬ S b) : PlSet w1 b L := by
 have hl := h.lt;obtain ⟨es,c,h1,h2⟩ := h;exact ⟨es,c,(hk.block b hl hs).trans h1,h2⟩
theorem PlSet.below {w w1 : World} {b : Nat} {L : List Value} (h : PlSet w b L) (hk : Below w.heap.size w w1) : PlSet w1 b L := h.kp (S := fun _ => False) (Kp.ofBelow hk) (fun e => e)
theorem PlSet.made (w : World) : PlSet (w.alloc (.map #[] 0)) w.heap.size [] := ⟨#[],0,heap_alloc_new w _,rfl,by simp⟩
theorem PlSet.neB {w : World} {b : Nat} {L : List Value} (h : PlSet w b L) {g : Nat} {cs : Array Value} {t : TypeId} {fz : Nat × Nat} (hc : w.heap[g]? = some (.cells cs t fz)) : g ≠ b := by
 rintro rfl;obtain ⟨es,c,hb,_⟩ := h;rw [hb] at hc; cases hc
section
variable {T MT : TypeId} {w : World} {k : Value}
def Told (T : TypeId) (w : World) (k : Value) (L : List Value) : Prop := ∀ q ∈ L,(k = q → (Op.equal T k q).run Tryz.prog w = .ok true w) ∧ (k ≠ q → (Op.equal T k q).run Tryz.prog w = .ok false w)
theorem find_ask : ∀ (l : List MapEntry) (i : Nat),Told T w k (l.map MapEntry.key) → (∀ e ∈ l,e.val = .agg #[]) →
  (k ∈ l.map MapEntry.key → ∃ j,(Instr.findAsking T k l i).run Tryz.prog w = .ok (some (j,.agg #[])) w) ∧ (k ∉ l.map MapEntry.key → (Instr.findAsking T k l i).run Tryz.prog w = .ok none w)
 | [],i,_,_ => by simp [Instr.findAsking]
 | e :: l,i,ht,hv => by
  have ih := find_ask l (i + 1) (fun q hq => ht q (List.mem_cons_of_mem _ hq)) (fun x hx => hv x (List.mem_cons_of_mem _ hx));obtain ⟨h1,h2⟩ := ht e.key (List.mem_cons_self ..);have h3 := hv e (List.mem_cons_self ..)
  by_cases hke : k = e.key
  ·refine ⟨fun _ => ⟨i,?_⟩,fun h => absurd (by rw [hke]; simp) h⟩;unfold Instr.findAsking;rw [Sem.run_bind,h1 hke]
   simp [Result.andThen,h3]
  ·have hrun : (Instr.findAsking T k (e :: l) i).run Tryz.prog w = (Instr.findAsking T k l (i + 1)).run Tryz.prog w := by
    conv => lhs; unfold Instr.findAsking
    rw [Sem.run_bind,h2 hke]
    simp [Result.andThen]
   refine ⟨fun h => ?_,fun h => ?_⟩
   ·rcases List.mem_cons.1 h with h | h
    ·exact absurd h hke
    ·obtain ⟨j,hj⟩ := ih.1 h;exact ⟨j,hrun.trans hj⟩
   ·exact hrun.trans (ih.2 fun h2 => h (List.mem_cons_of_mem _ h2))
theorem find_key {fs : TypeDesc} (hu : Tryz.prog.underlying T = some fs) (hf : ∀ k q,Instr.sameNow fs (.agg k) q = none) {ks : Array Value} (hk : k = .agg ks) (l : List MapEntry) (ht : Told T w k (l.map MapEntry.key)) (hv : ∀ e ∈ l,e.val = .agg #[]) :
  (k ∈ l.map MapEntry.key → ∃ j,(Instr.findKey T k l).run Tryz.prog w = .ok (some (j,.agg #[])) w) ∧ (k ∉ l.map MapEntry.key → (Instr.findKey T k l).run Tryz.prog w = .ok none w) := by
 cases l with
 | nil => simp [Instr.findKey,run_underlying hu,Instr.findNow]
 | cons e l =>
  have h1 : Instr.findNow fs k (e :: l) 0 = none := by rw [hk]; simp [Instr.findNow,hf]
  have h2 : (Instr.findKey T k (e :: l)).run Tryz.prog w = (Instr.findAsking T k (e :: l) 0).run Tryz.prog w := by
   simp [Instr.findKey,run_underlying hu,h1]
  rw [h2];exact find_ask (e :: l) 0 ht hv
variable {E : TypeId} {L : List Value} {b : Nat}
theorem look_pl (hm : Tryz.prog.underlying MT = some (.map T E)) (hz : ∀ w,(zeroValue E).run Tryz.prog w = .ok (.agg #[]) w) {fs : TypeDesc} (hu : Tryz.prog.underlying T = some fs) (hf : ∀ k q,Instr.sameNow fs (.agg k) q = none) {ks : Array Value} (hk : k = .agg ks)
  (hc : ∀ e,(Instr.checkKey e 10000 T k).run Tryz.prog w = .ok () w) (hs : PlSet w b L) (ht : Told T w k L) (r : Bool) (hr : r = true ↔ k ∈ L) :
  (Instr.lookup MT (.map (some b)) k true).run Tryz.prog w = .ok (.tuple #[.agg #[],.bool r]) w := by
 obtain ⟨es,c,h1,rfl,h3⟩ := hs;have hfk := find_key hu hf hk es.toList ht h3
 have hgo : (getObj b).run Tryz.prog w = .ok (.map es c) w := by simp [getObj,Sem.run,h1]
 by_cases hm' : k ∈ es.toList.map MapEntry.key
 ·obtain ⟨j,hj⟩ := hfk.1 hm';obtain rfl : r = true := hr.2 hm'
  simp [Instr.lookup,run_underlying hm,hgo,hc,hj]
 ·have hj := hfk.2 hm'
  obtain rfl : r = false := by cases r; rfl; exact absurd (hr.1 rfl) hm'
  simp [Instr.lookup,run_underlying hm,hgo,hc,hj,hz]
theorem update_pl (hm : Tryz.prog.underlying MT = some (.map T E)) {fs : TypeDesc} (hu : Tryz.prog.underlying T = some fs) (hf : ∀ k q,Instr.sameNow fs (.agg k) q = none) {ks : Array Value} (hk : k = .agg ks)
  (hc : ∀ e,(Instr.checkKey e 10000 T k).run Tryz.prog w = .ok () w) (hs : PlSet w b L) (ht : Told T w k L) (hn : k ∉ L) :
  ∃ w',(Instr.mapUpdate MT (.map (some b)) k (.agg #[])).run Tryz.prog w = .ok () w' ∧ PlSet w' b (L ++ [k]) ∧ Kp (fun q => q = b) w w' ∧ w'.heap.size = w.heap.size := by
 obtain ⟨es,c,h1,rfl,h3⟩ := hs;have hj := (find_key hu hf hk es.toList ht h3).2 hn
 have hgo : (getObj b).run Tryz.prog w = .ok (.map es c) w := by simp [getObj,Sem.run,h1]
 have hse : ∀ o,(setObj b o).run Tryz.prog w = .ok () { w with heap := w.heap.setIfInBounds b o } := fun o => by simp [setObj,Sem.run,h1]
 refine ⟨{ w with heap := w.heap.setIfInBounds b (.map (es.push { key := k,val := .agg #[],born := c }) (c + 1)) },?_,?_,?_,by simp⟩
 ·simp [Instr.mapUpdate,run_underlying hm,hgo,hc,hj,hse]
 ·refine ⟨es.push { key := k,val := .agg #[],born := c },c + 1,?_,by simp,?_⟩
  ·have := (Array.getElem?_eq_some_iff.1 h1).1
   simp [this]
  ·intro e he;simp only [Array.toList_push,List.mem_append,List.mem_singleton] at he
   rcases he with he | rfl
   ·exact h3 e he
   ·rfl
 ·refine ⟨rfl,rfl,rfl,by simp,fun q hq hs => ?_⟩;simp only;rw [Array.getElem?_setIfInBounds_ne (Ne.symm hs)]
theorem wpList_lookup_pl {ops : Array Oper} {rest : List Oper} {o : Oper} {a : Act} {Q : Exit → Act → World → Prop} (hgd : o.guard = none) (m x : Operand) (hop : o.op = Op.lookup MT m x true) {v : Value}
  (hmm : a.eval m = .map (some b)) (hx : a.eval x = k) (hr : (Instr.lookup MT (.map (some b)) k true).run Tryz.prog w = .ok v w) (h : wpList Tryz.prog ops Q rest (a.put o.dst v) w) : wpList Tryz.prog ops Q (o :: rest) a w :=
 wpList_plain hgd fun K hK => by
  unfold Oper.wp
  simp [execOp,hop,hmm,hx,hr,Result.andThen]
  exact hK _ _ h
theorem wpList_update_pl {ops : Array Oper} {rest : List Oper} {o : Oper} {a : Act} {Q : Exit → Act → World → Prop} (hgd : o.guard = none) (m x y : Operand) (hop : o.op = Op.mapUpdate MT m x y) {w' : World} {v : Value}
  (hmm : a.eval m = .map (some b)) (hx : a.eval x = k) (hy : a.eval y = v) (hr : (Instr.mapUpdate MT (.map (some b)) k v).run Tryz.prog w = .ok () w') (h : wpList Tryz.prog ops Q rest (a.put o.dst undef) w') : wpList Tryz.prog ops Q (o :: rest) a w :=
 wpList_plain hgd fun K hK => by
  unfold Oper.wp
  simp [execOp,hop,hmm,hx,hy,hr,Result.andThen]
  exact hK _ _ h
end
def PlnV (w : World) (v : Value) : Prop := ∀ g off n cap,v = .slice (some ⟨g,off,none⟩) n cap → n ≠ 0 → ∃ cs ty,w.heap[g]? = some (.cells cs ty (0,0))
def TrQ : Nat → World → List Value → Tr → Prop
 | 0,_,_,_ => False
 | n + 1,w,r,t => ∃ ve vr,r = [.int .i64 t.kind,.int .i64 t.n,.string t.s,ve,vr] ∧ Is64 t.kind ∧ Is64 t.n ∧ t.s.size ≤ 140737488351232 ∧ Fd64 t.rest ∧ RowG w vr 4 (fdRows t.rest) ∧ RowP (EnC (TrQ n w) w) w 2 ve t.es ∧ PlnV w ve
abbrev TrsQ (n : Nat) (w : World) (v : Value) (ts : List Tr) : Prop := RowP (TrQ n w) w 5 v ts
abbrev EnsQ (n : Nat) (w : World) (v : Value) (es : List (Int × List Tr)) : Prop := RowP (EnC (TrQ n w) w) w 2 v es
theorem PlnV.below {w w1 : World} {v : Value} (h : PlnV w v) (hb : Below w.heap.size w w1) : PlnV w1 v := fun g off n cap e hn => by
 obtain ⟨cs,ty,h1⟩ := h g off n cap e hn;exact ⟨cs,ty,(hb.block g (Array.getElem?_eq_some_iff.1 h1).1).trans h1⟩
theorem TrQ.below : ∀ {n : Nat} {w w1 : World} {r : List Value} {t : Tr},TrQ n w r t → Below w.heap.size w w1 → TrQ n w1 r t
 | 0,_,_,_,_,h,_ => h
 | n + 1,w,w1,r,t,h,hb => by
  obtain ⟨ve,vr,h1,h2,h3,h4,h5,h6,h7,h8⟩ := h;refine ⟨ve,vr,h1,h2,h3,h4,h5,h6.below hb,h7.mono hb fun r x hx hp => ?_,h8.below hb⟩;obtain ⟨vt,g1,g2,g3⟩ := hp;exact ⟨vt,g1,g2,g3.mono hb fun r x hx hp => hp.below hb⟩
theorem RowP.belowTQ {n : Nat} {w w1 : World} {v : Value} {ts : List Tr} (h : TrsQ n w v ts) (hb : Below w.heap.size w w1) : TrsQ n w1 v ts := RowP.mono h hb fun _ _ _ hp => hp.below hb
theorem RowP.belowEQ {n : Nat} {w w1 : World} {v : Value} {es : List (Int × List Tr)} (h : EnsQ n w v es) (hb : Below w.heap.size w w1) : EnsQ n w1 v es :=
 RowP.mono h hb fun _ _ _ hp => by
  obtain ⟨vt,g1,g2,g3⟩ := hp;exact ⟨vt,g1,g2,g3.belowTQ hb⟩
theorem TrQ.trC : ∀ {n : Nat} {w : World} {r : List Value} {t : Tr},TrQ n w r t → TrC n w r t
 | 0,_,_,_,h => h
 | n + 1,w,r,t,h => by
  obtain ⟨ve,vr,h1,h2,h3,h4,h5,h6,h7,h8⟩ := h;refine ⟨ve,vr,h1,h2,h3,h4,h5,h6,h7.imp fun r x hx hp => ?_⟩;obtain ⟨vt,g1,g2,g3⟩ := hp;exact ⟨vt,g1,g2,g3.imp fun r x hx hp => hp.trC⟩
theorem own_pln {w : World} {B e s n : Nat} {v : Value} {xs : List Value} (h : w.ownsRow B e s v n xs) : PlnV w v := by
 intro g off m cap ev hm
 rcases h.2 with ⟨rfl,_⟩ | ⟨g',cap',cur,rfl,_,h3,_⟩
 ·cases ev
 ·simp at ev
  obtain ⟨⟨rfl,_⟩,_⟩ := ev;exact ⟨cur,e,h3⟩
theorem RowP.uniq {α : Type} {P Q : List Value → α → Prop} {w : World} {size : Nat} {a : Option Addr} {N c1 c2 : Nat} {xs ys : List α} (h : RowP P w size (.slice a N c1) xs) (k : RowP Q w size (.slice a N c2) ys)
  (hp : ∀ r s x y,P r x → Q s y → (∀ j : Nat,r[j]? ≠ none → s[j]? ≠ none → r[j]? = s[j]?) → x = y) : xs = ys := by
 obtain ⟨a1,c1',e1,_,_,_,_,_⟩ := h.open;obtain ⟨a2,c2',e2,_,_,_,_,_⟩ := k.open;simp only [Value.slice.injEq] at e1 e2;obtain ⟨_,e1,_⟩ := e1;obtain ⟨_,e2,_⟩ := e2;refine List.ext_getElem? fun i => ?_
 by_cases hi : i < xs.length
 ·obtain ⟨g,off,ha,r,hr,hcr⟩ := h.get (List.getElem?_eq_getElem hi);obtain ⟨g',off',ha',s,hs,hcs⟩ := k.get (i := i) (List.getElem?_eq_getElem (by omega));rw [ha] at ha'
  simp at ha'
  obtain ⟨rfl,rfl⟩ := ha';rw [List.getElem?_eq_getElem hi,List.getElem?_eq_getElem (by omega)];refine congrArg some (hp r s _ _ hr hs fun j h1 h2 => ?_)
  cases hrj : r[j]? with
  | none => exact absurd hrj h1
  | some u =>
   cases hsj : s[j]? with
   | none => exact absurd hsj h2
   | some u' =>
    have q1 := hcr j u hrj;have q2 := hcs j u' hsj;rw [q1] at q2;exact q2
 ·rw [List.getElem?_eq_none (by omega),List.getElem?_eq_none (by omega)]
theorem fd_uniq {w : World} {a : Option Addr} {N c1 c2 : Nat} {l m : List Fd} (h : RowG w (.slice a N c1) 4 (fdRows l)) (k : RowG w (.slice a N c2) 4 (fdRows m)) : l = m := by
 have h1 : RowP (fun r (f : Fd) => r = f.cells) w 4 (.slice a N c1) l := ⟨fdRows l,h,by simp [fdRows],fun i x hx => ⟨x.cells,by simp [fdRows,hx],rfl⟩⟩;have h2 : RowP (fun r (f : Fd) => r = f.cells) w 4 (.slice a N c2) m := ⟨fdRows m,k,by simp [fdRows],fun i x hx => ⟨x.cells,by simp [fdRows,hx],rfl⟩⟩;refine h1.uniq h2 fun r s x y hr hs hj => ?_
 subst hr hs;have j0 := hj 0 (by simp [Fd.cells]) (by simp [Fd.cells]);have j1 := hj 1 (by simp [Fd.cells]) (by simp [Fd.cells]);have j2 := hj 2 (by simp [Fd.cells]) (by simp [Fd.cells]);have j3 := hj 3 (by simp [Fd.cells]) (by simp [Fd.cells])
 simp [Fd.cells] at j0 j1 j2 j3
 cases x; cases y; simp_all
theorem TrC.uniq : ∀ {n m : Nat} {w : World} {r s : List Value} {t u : Tr},TrC n w r t → TrC m w s u → (∀ j : Nat,r[j]? ≠ none → s[j]? ≠ none → r[j]? = s[j]?) → t = u
 | 0,_,_,_,_,_,_,h,_,_ => h.elim
 | _ + 1,0,_,_,_,_,_,_,h,_ => h.elim
 | n + 1,m + 1,w,r,s,t,u,h,k,hj => by
  obtain ⟨ve,vr,rfl,_,_,_,_,h6,h7⟩ := h;obtain ⟨ve',vr',rfl,_,_,_,_,k6,k7⟩ := k;have j0 := hj 0 (by simp) (by simp);have j1 := hj 1 (by simp) (by simp);have j2 := hj 2 (by simp) (by simp);have j3 := hj 3 (by simp) (by simp);have j4 := hj 4 (by simp) (by simp)
  simp at j0 j1 j2 j3 j4
  subst j3 j4;obtain ⟨a1,c1,e1,_⟩ := h7.open;obtain ⟨a2,c2,e2,_⟩ := h6.form2;subst e1 e2
  have hes : t.es = u.es := h7.uniq k7 fun r s x y hp hq hj => by
   obtain ⟨vt,rfl,_,g3⟩ := hp;obtain ⟨vt',rfl,_,g3'⟩ := hq;have i0 := hj 0 (by simp) (by simp);have i1 := hj 1 (by simp) (by simp)
   simp at i0 i1
   subst i1;obtain ⟨a3,c3,e3,_⟩ := g3.open;subst e3;have := g3.uniq g3' fun r s x y hp hq hj => hp.uniq hq hj
   exact Prod.ext i0 this
  have hrs : t.rest = u.rest := fd_uniq h6 k6
  cases t; cases u; simp_all
def plOf (v : Value) : Pl := match v with
 | .slice a n _ => if n = 0 then (none,0) else (a,n)
 | _ => (none,0)
theorem plOf_ok {w : World} {v : Value} {P : List Value → (Int × List Tr) → Prop} {es : List (Int × List Tr)} (h : PlnV w v) (hr : RowP P w 2 v es) : PlOk w (plOf v) := by
 obtain ⟨a,cap,rfl,_,_,h4,_⟩ := hr.open;intro b hb;unfold plOf at hb;simp only at hb
 split at hb
 ·cases hb
 ·rename_i hne
  simp only at hb;subst hb
  rcases h4 with rfl | ⟨g,off,e⟩
  ·exact absurd rfl hne
  ·simp at e
   subst e;exact h g off _ cap rfl hne
theorem pl_uniq {n m : Nat} {w : World} {v v' : Value} {es es' : List (Int × List Tr)} (h : EnsQ n w v es) (k : EnsQ m w v' es') (e : plOf v = plOf v') : es = es' := by
 obtain ⟨a,cap,rfl,_,_,h4,_⟩ := RowP.open h;obtain ⟨a',cap',rfl,_,_,h4',_⟩ := RowP.open k;unfold plOf at e;simp only at e
 by_cases hn : es.length = 0
 ·rw [if_pos hn] at e
  by_cases hn' : es'.length = 0
  ·rw [List.eq_nil_of_length_eq_zero hn,List.eq_nil_of_length_eq_zero hn']
  ·rw [if_neg hn'] at e
   simp at e
   exact absurd (e.2.symm ▸ rfl) hn'
 ·rw [if_neg hn] at e
  by_cases hn' : es'.length = 0
  ·rw [if_pos hn'] at e
   simp at e
   exact absurd e.2 (by intro h0; rw [h0] at hn; exact hn rfl)
  ·rw [if_neg hn'] at e;simp only [Prod.mk.injEq] at e;obtain ⟨rfl,e2⟩ := e;rw [← e2] at k;refine RowP.uniq h k fun r s x y hp hq hj => ?_
   obtain ⟨vt,rfl,_,g3⟩ := hp;obtain ⟨vt',rfl,_,g3'⟩ := hq;have i0 := hj 0 (by simp) (by simp);have i1 := hj 1 (by simp) (by simp)
   simp at i0 i1
   subst i1;obtain ⟨a3,c3,e3,_⟩ := g3.open;subst e3;exact Prod.ext i0 (g3.uniq g3' fun r s x y hp hq hj => hp.trC.uniq hq.trC hj)
def Cel (w w' : World) : Prop := ∀ (k : Nat) (cs : Array Value) (t : TypeId) (fz : Nat × Nat),w.heap[k]? = some (Obj.cells cs t fz) → w'.heap[k]? = some (Obj.cells cs t fz)
theorem Cel.ofBelow {w w' : World} (h : Below w.heap.size w w') : Cel w w' := fun k cs t fz e => (h.block k (Array.getElem?_eq_some_iff.1 e).1).trans e
theorem Cel.cell {w w' : World} (h : Cel w w') {p : Addr} {u : Value} (hc : w.cell? p = some u) : w'.cell? p = some u := by
 cases hb : w.heap[p.block]? with
 | none => simp [World.cell?,hb] at hc
 | some o =>
  cases o with
  | cells cs t fz =>
   have := h _ _ _ _ hb;simp only [World.cell?,hb] at hc;simp only [World.cell?,this];exact hc
  | _ => simp [World.cell?,hb] at hc
theorem RowG.cel {w w1 : World} {v : Value} {size : Nat} {rs : List (List Value)} (h : RowG w v size rs) (hb : Cel w w1) : RowG w1 v size rs := by
 obtain ⟨a,cap,h1,h2,h3,h0,h4⟩ := h.form;refine ⟨a,cap,h1,h2,h3,h0,fun hne => ?_⟩;obtain ⟨g,off,h5,h6⟩ := h4 hne;exact ⟨g,off,h5,fun i c u j hc hu => hb.cell (h6 i c u j hc hu)⟩
theorem RowP.cel {α : Type} {P Q : List Value → α → Prop} {w w1 : World} {size : Nat} {v : Value} {xs : List α} (h : RowP P w size v xs) (hb : Cel w w1) (hp : ∀ r x,x ∈ xs → P r x → Q r x) : RowP Q w1 size v xs := by
 obtain ⟨rows,h1,h2,h3⟩ := h;refine ⟨rows,h1.cel hb,h2,fun i x hx => ?_⟩;obtain ⟨r,g1,g2⟩ := h3 i x hx;exact ⟨r,g1,hp r x (List.mem_of_getElem? hx) g2⟩
theorem PlnV.cel {w w1 : World} {v : Value} (h : PlnV w v) (hb : Cel w w1) : PlnV w1 v := fun g off n cap e hn => by
 obtain ⟨cs,ty,h1⟩ := h g off n cap e hn;exact ⟨cs,ty,hb _ _ _ _ h1⟩
def TrR : Nat → World → List Value → Tr → Prop
 | 0,_,_,_ => False
 | n + 1,w,r,t => ∃ ve vr,r = [.int .i64 t.kind,.int .i64 t.n,.string t.s,ve,vr] ∧ Is64 t.kind ∧ Is64 t.n ∧ t.s.size ≤ 140737488351232 ∧ Fd64 t.rest ∧ RowG w vr 4 (fdRows t.rest) ∧ RowP (EnC (TrR n w) w) w 2 ve t.es ∧ PlnV w ve ∧ PlnV w vr
abbrev TrsR (n : Nat) (w : World) (v : Value) (ts : List Tr) : Prop := RowP (TrR n w) w 5 v ts
abbrev EnsR (n : Nat) (w : World) (v : Value) (es : List (Int × List Tr)) : Prop := RowP (EnC (TrR n w) w) w 2 v es
theorem TrR.cel : ∀ {n : Nat} {w w1 : World} {r : List Value} {t : Tr},TrR n w r t → Cel w w1 → TrR n w1 r t
 | 0,_,_,_,_,h,_ => h
 | n + 1,w,w1,r,t,h,hb => by
  obtain ⟨ve,vr,h1,h2,h3,h4,h5,h6,h7,h8,h9⟩ := h;refine ⟨ve,vr,h1,h2,h3,h4,h5,h6.cel hb,h7.cel hb fun r x hx hp => ?_,h8.cel hb,h9.cel hb⟩;obtain ⟨vt,g1,g2,g3⟩ := hp;exact ⟨vt,g1,g2,RowP.cel g3 hb fun r x hx hp => hp.cel hb⟩
theorem TrR.trQ : ∀ {n : Nat} {w : World} {r : List Value} {t : Tr},TrR n w r t → TrQ n w r t
 | 0,_,_,_,h => h
 | n + 1,w,r,t,h => by
  obtain ⟨ve,vr,h1,h2,h3,h4,h5,h6,h7,h8,h9⟩ := h;refine ⟨ve,vr,h1,h2,h3,h4,h5,h6,h7.imp fun r x hx hp => ?_,h8⟩;obtain ⟨vt,g1,g2,g3⟩ := hp;exact ⟨vt,g1,g2,g3.imp fun r x hx hp => hp.trQ⟩
theorem TrO.trR : ∀ {n B : Nat} {w : World} {r : List Value} {t : Tr} {bs : List Nat},TrO n B w r t bs → TrR n w r t
 | 0,_,_,_,_,_,h => h
 | n + 1,B,w,r,t,bs,h => by
  obtain ⟨ve,vr,rows,bss,h1,h2,h3,h4,h5,h6,h7,rfl⟩ := h;refine ⟨ve,vr,h1,h2,h3,h4,h5,own_rest h6,h7.rowP (by decide) (fun r x b hx hp => ?_),own_pln h7.own,own_pln h6⟩;obtain ⟨vt,rows',bss',g1,g2,g3,rfl⟩ := hp;exact ⟨vt,g1,g2,g3.rowP (by decide) fun r x b hx hp => hp.trR⟩
theorem RowP.all {α : Type} {P : List Value → α → Prop} {w : World} {size : Nat} {v : Value} {xs : List α} (h : RowP P w size v xs) : ∀ x ∈ xs,∃ r,P r x := fun x hx => by
 obtain ⟨rows,h1,h2,h3⟩ := h;obtain ⟨i,hi,e⟩ := List.getElem_of_mem hx;obtain ⟨r,_,g2⟩ := h3 i x (by rw [List.getElem?_eq_getElem hi,e]);exact ⟨r,g2⟩
theorem TrR.dp : ∀ {n : Nat} {w : World} {r : List Value} {t : Tr},TrR n w r t → DpN n t
 | 0,_,_,_,h => h
 | n + 1,w,r,t,h => by
  obtain ⟨ve,vr,h1,h2,h3,h4,h5,h6,h7,h8,h9⟩ := h;intro e he x hx;obtain ⟨r',vt,_,_,g3⟩ := h7.all e he;obtain ⟨r'',hp⟩ := RowP.all g3 x hx;exact hp.dp
def TrW (n : Nat) (w : World) (v : Value) (t : Tr) : Prop := ∃ r,v = .agg r.toArray ∧ TrR n w r t
theorem TrW.cel {n : Nat} {w w1 : World} {v : Value} {t : Tr} (h : TrW n w v t) (hb : Cel w w1) : TrW n w1 v t := by
 obtain ⟨r,h1,h2⟩ := h;exact ⟨r,h1,h2.cel hb⟩
theorem TrV.trW {n B : Nat} {w : World} {v : Value} {t : Tr} {bs : List Nat} (h : TrV n B w v t bs) : TrW n w v t := by
 obtain ⟨r,h1,h2,_⟩ := h;exact ⟨r,h1,h2.trR⟩
theorem TrW.open {n : Nat} {w : World} {v : Value} {t : Tr} (h : TrW n w v t) : ∃ m a1 c1 a2 c2,n = m + 1 ∧ v = .agg #[.int .i64 t.kind,.int .i64 t.n,.string t.s,.slice a1 t.es.length c1,.slice a2 t.rest.length c2] ∧ Is64 t.kind ∧ Is64 t.n ∧ t.s.size ≤ 140737488351232 ∧ t.es.length ≤ c1 ∧ c1 ≤ maxLen ∧ t.rest.length ≤ c2 ∧ c2 ≤ maxLen ∧
  (t.es.length = 0 ∨ ∃ g off,a1 = some ⟨g,off,none⟩) ∧ (t.rest.length = 0 ∨ ∃ g off,a2 = some ⟨g,off,none⟩) ∧ RowG w (.slice a2 t.rest.length c2) 4 (fdRows t.rest) ∧ EnsR m w (.slice a1 t.es.length c1) t.es ∧ PlnV w (.slice a1 t.es.length c1) ∧ PlnV w (.slice a2 t.rest.length c2) := by
 obtain ⟨r,rfl,h⟩ := h
 cases n with
 | zero => exact h.elim
 | succ m =>
  obtain ⟨ve,vr,rfl,h2,h3,h4,h5,h6,h7,h8,h9⟩ := h;obtain ⟨a1,c1,rfl,u1,u2,u3, -⟩ := RowP.open h7;obtain ⟨a2,c2,rfl,x1,x2,x3, -⟩ := rest_holds h6;exact ⟨m,a1,c1,a2,c2,rfl,rfl,h2,h3,h4,u1,u2,x1,x2,u3.imp (fun h => by rw [h]; rfl) id,x3.imp (fun h => by rw [h]; rfl) id,h6,h7,h8,h9⟩
theorem trsR_get {n : Nat} {w : World} {a : Option Addr} {N cap : Nat} {ts : List Tr} (h : TrsR n w (.slice a N cap) ts) {i : Nat} {t : Tr} (hi : ts[i]? = some t) :
  ∃ g off a1 n1 c1 a2 n2 c2,a = some ⟨g,off,none⟩ ∧ w.cell? ⟨g,off + i * 5,none⟩ = some (.int .i64 t.kind) ∧ w.cell? ⟨g,off + i * 5 + 1,none⟩ = some (.int .i64 t.n) ∧ w.cell? ⟨g,off + i * 5 + 2,none⟩ = some (.string t.s) ∧ w.cell? ⟨g,off + i * 5 + 3,none⟩ = some (.slice a1 n1 c1) ∧ w.cell? ⟨g,off + i * 5 + 4,none⟩ = some (.slice a2 n2 c2) ∧
   TrW n w (.agg #[.int .i64 t.kind,.int .i64 t.n,.string t.s,.slice a1 n1 c1,.slice a2 n2 c2]) t := by
 obtain ⟨g,off,ha,r,hr,hc⟩ := RowP.get h hi;obtain ⟨m,a1,c1,a2,c2,rfl,e,_⟩ := TrW.open ⟨r,rfl,hr⟩
 have e1 : r = [.int .i64 t.kind,.int .i64 t.n,.string t.s,.slice a1 t.es.length c1,.slice a2 t.rest.length c2] := by simpa using e
 subst e1;exact ⟨g,off,a1,_,c1,a2,_,c2,ha,hc 0 _ rfl,hc 1 _ rfl,hc 2 _ rfl,hc 3 _ rfl,hc 4 _ rfl,_,rfl,hr⟩
theorem ensR_get {n : Nat} {w : World} {a : Option Addr} {N cap : Nat} {es : List (Int × List Tr)} (h : EnsR n w (.slice a N cap) es) {i : Nat} {e : Int × List Tr} (hi : es[i]? = some e) :
  ∃ g off a1 c1,a = some ⟨g,off,none⟩ ∧ w.cell? ⟨g,off + i * 2,none⟩ = some (.int .i64 e.1) ∧ w.cell? ⟨g,off + i * 2 + 1,none⟩ = some (.slice a1 e.2.length c1) ∧ Is64 e.1 ∧ TrsR n w (.slice a1 e.2.length c1) e.2 ∧ e.2.length ≤ c1 ∧ c1 ≤ maxLen := by
 obtain ⟨g,off,ha,r,⟨vt,rfl,h2,h3⟩,hc⟩ := RowP.get h hi;obtain ⟨a1,c1,rfl,u1,u2, -⟩ := RowP.open h3;exact ⟨g,off,a1,c1,ha,hc 0 _ rfl,hc 1 _ rfl,h2,h3,u1,u2⟩
theorem TrW.parts {n : Nat} {w : World} {t : Tr} {K N : Int} {S : ByteArray} {a1 a2 : Option Addr} {n1 c1 n2 c2 : Nat} (h : TrW n w (.agg #[.int .i64 K,.int .i64 N,.string S,.slice a1 n1 c1,.slice a2 n2 c2]) t) : t.kind = K ∧ t.n = N ∧ t.s = S ∧ t.es.length = n1 ∧ t.rest.length = n2 := by
 obtain ⟨m,a1',c1',a2',c2', -,e, -⟩ := h.open;simp only [Value.agg.injEq,Array.mk.injEq,List.cons.injEq,Value.int.injEq,Value.string.injEq,Value.slice.injEq,and_true,true_and] at e;obtain ⟨e1,e2,e3,⟨-,e4, -⟩, -,e5, -⟩ := e;exact ⟨e1.symm,e2.symm,e3.symm,e4.symm,e5.symm⟩
theorem eql_ptrR (w : World) (d : Nat) (p q : Option Addr) (hp : ∀ a,p = some a → ∃ cs ty,w.heap[a.block]? = some (.cells cs ty (0,0))) (hq : ∀ a,q = some a → ∃ cs ty,w.heap[a.block]? = some (.cells cs ty (0,0))) :
  (Op.equalIn (d + 1) 201 (.pointer p) (.pointer q)).run Tryz.prog w = .ok (decide (p = q)) w := by
 have hu : Tryz.prog.underlying 201 = some (.pointer 44) := by kernel_rfl
 have hi : (Tryz.prog.info? 44).map (fun i => i.size) = some 4 := by kernel_rfl
 obtain ⟨j,hj,hs⟩ : ∃ j,Tryz.prog.info? 44 = some j ∧ j.size = 4 := by
  cases h : Tryz.prog.info? 44 with
  | none => rw [h] at hi; cases hi
  | some j => rw [h] at hi; exact ⟨j,rfl,by simpa using hi⟩
 cases p with
 | none => cases q <;> simp [Op.equalIn,run_underlying hu]
 | some a =>
  cases q with
  | none => simp [Op.equalIn,run_underlying hu]
  | some b =>
   by_cases e : a = b
   ·subst e
    simp [Op.equalIn,run_underlying hu,sizeOf,typeInfo,hj,hs,run_sameAddr_same]
   ·obtain ⟨ca,ta,ha⟩ := hp a rfl;obtain ⟨cb,tb,hb⟩ := hq b rfl
    simp [Op.equalIn,run_underlying hu,sizeOf,typeInfo,hj,hs,run_sameAddr_other w e ha hb,e]
theorem plOf_ok4 {w : World} {v : Value} {l : List Fd} (h : PlnV w v) (hr : RowG w v 4 (fdRows l)) : PlOk w (plOf v) := by
 obtain ⟨a,cap,rfl,_,_,h4,_⟩ := rest_holds hr;intro b hb;unfold plOf at hb;simp only at hb
 split at hb
 ·cases hb
 ·rename_i hne
  simp only at hb;subst hb
  rcases h4 with rfl | ⟨g,off,e⟩
  ·exact absurd rfl hne
  ·simp at e
   subst e;exact h g off _ cap rfl hne
theorem pl_uniq4 {w : World} {v v' : Value} {l l' : List Fd} (h : RowG w v 4 (fdRows l)) (k : RowG w v' 4 (fdRows l')) (e : plOf v = plOf v') : l = l' := by
 obtain ⟨a,cap,rfl,_,_,h4,_⟩ := rest_holds h;obtain ⟨a',cap',rfl,_,_,h4',_⟩ := rest_holds k;unfold plOf at e;simp only at e
 by_cases hn : l.length = 0
 ·rw [if_pos hn] at e
  by_cases hn' : l'.length = 0
  ·rw [List.eq_nil_of_length_eq_zero hn,List.eq_nil_of_length_eq_zero hn']
  ·rw [if_neg hn'] at e
   simp at e
   exact absurd (e.2.symm ▸ rfl) hn'
 ·rw [if_neg hn] at e
  by_cases hn' : l'.length = 0
  ·rw [if_pos hn'] at e
   simp at e
   exact absurd e.2 (by intro h0; rw [h0] at hn; exact hn rfl)
  ·rw [if_neg hn'] at e;simp only [Prod.mk.injEq] at e;obtain ⟨rfl,e2⟩ := e;rw [← e2] at k;exact fd_uniq h k
theorem EnC.trQ {n : Nat} {w : World} {v : Value} {es : List (Int × List Tr)} (h : EnsR n w v es) : EnsQ n w v es := RowP.imp h fun r x hx hp => by
 obtain ⟨vt,g1,g2,g3⟩ := hp;exact ⟨vt,g1,g2,g3.imp fun r x hx hp => hp.trQ⟩
end
section
open Go.ChangeShapes Go.WideShapes Go.ChangeAt Go.RowKit Go.Maps
theorem cfield_any {w : World} {snm : ByteArray} {nm : Int} {am : Option Addr} {M cm : Nat} {vt : Value} {ts : List FlS} (hr : RowG w vt 5 (flRows ts)) :
  Calls Tryz.prog 57 #[.agg #[.string snm,vt,.slice am M cm],.int .i64 nm] w fun e w' => e = .returned (.tuple #[flV ((ts.find? fun m => decide (m.tag = nm)).getD zeroF),.bool (ts.find? fun m => decide (m.tag = nm)).isSome]) ∧ Below w.heap.size w w' := by
 obtain ⟨a,c,rfl,q1,q2⟩ := hr.form2
 have hN : (flRows ts).length = ts.length := by simp [flRows]
 rw [hN] at hr q1 ⊢;clear hN;obtain ⟨N,hN⟩ : ∃ N,ts.length = N := ⟨_,rfl⟩;rw [hN] at hr q1 ⊢;have HN : Hid (ts.length = N) := hN;have HR : Hid (RowG w (.slice a N c) 5 (flRows ts)) := hr;clear hN hr;obtain ⟨A,hA⟩ : ∃ A,(ts.find? fun m => decide (m.tag = nm)) = A := ⟨_,rfl⟩;rw [hA];have HA : Hid (A = ((ts.drop 0).find? fun m => decide (m.tag = nm))) := hA.symm;clear hA;have BX0 : Blk ((w.alloc (.cells #[.string snm,.slice a N c,.slice am M cm] 34)).alloc (.cells #[.string ⟨#[]⟩,.int .i64 0,.int .i64 0,.int .i64 0,.string ⟨#[]⟩] 56)) w.heap.size #[.string snm,.slice a N c,.slice am M cm] 34 := (Blk.new w _ _).below ((Below.refl _ _).alloc (Nat.le_refl _) _)
 have BR0 : Blk ((w.alloc (.cells #[.string snm,.slice a N c,.slice am M cm] 34)).alloc (.cells #[.string ⟨#[]⟩,.int .i64 0,.int .i64 0,.int .i64 0,.string ⟨#[]⟩] 56)) (w.heap.size + 1) #[.string ⟨#[]⟩,.int .i64 0,.int .i64 0,.int .i64 0,.string ⟨#[]⟩] 56 := by
  have := Blk.new (w.alloc (.cells #[.string snm,.slice a N c,.slice am M cm] 34)) #[.string ⟨#[]⟩,.int .i64 0,.int .i64 0,.int .i64 0,.string ⟨#[]⟩] 56
  rwa [show (w.alloc (.cells #[.string snm,.slice a N c,.slice am M cm] 34)).heap.size = w.heap.size + 1 by simp] at this
 have hb0 : Below w.heap.size w ((w.alloc (.cells #[.string snm,.slice a N c,.slice am M cm] 34)).alloc (.cells #[.string ⟨#[]⟩,.int .i64 0,.int .i64 0,.int .i64 0,.string ⟨#[]⟩] 56)) := ((Below.refl _ _).alloc (Nat.le_refl _) _).alloc (by simp) _
 go_enter Tryz.func57,Tryz.ntmps57
 go_wp2_with fail
 go_loopw [11] (fun iv wr => ∃ k : Nat,iv = .int .i64 (k : Int) ∧ k ≤ N ∧ Hid (A = ((ts.drop k).find? fun m => decide (m.tag = nm))) ∧ Below w.heap.size w wr ∧ Blk wr (w.heap.size + 1) #[.string ⟨#[]⟩,.int .i64 0,.int .i64 0,.int .i64 0,.string ⟨#[]⟩] 56) (fun iv _ => N - (intOf iv).toNat)
 case atStart => exact ⟨0,rfl,by omega,HA,hb0,BR0⟩
 case round =>
  obtain ⟨k,rfl,hk,HAk,hbel,BR⟩ := hrel;clear BX0 BR0 hb0;have hlt2 : w.heap.size + 1 < wr.heap.size := BR.lt;have r0 := (BR.cell 0).trans rfl;have z0 := BR.froz 0;have r1 := (BR.cell 1).trans rfl;have z1 := BR.froz 1;have r2 := (BR.cell 2).trans rfl;have z2 := BR.froz 2;have r3 := (BR.cell 3).trans rfl;have z3 := BR.froz 3;have r4 := (BR.cell 4).trans rfl;have z4 := BR.froz 4
  by_cases hlt : k < N
  ·obtain ⟨f,hf⟩ : ∃ n,ts[k]? = some n := ⟨_,List.getElem?_eq_getElem (by rw [HN.out]; exact hlt)⟩
   have hrr : (flRows ts)[k]? = some f.cells := by simp [flRows,hf]
   obtain ⟨g,off,rfl,c1⟩ := (HR.out.below hbel).get hrr;obtain ⟨f0,f1,f2,f3,f4⟩ := f
   have HA2 : Hid (A = if decide (f1 = nm) = true then some ⟨f0,f1,f2,f3,f4⟩ else ((ts.drop (k + 1)).find? fun m => decide (m.tag = nm))) := by
    show _ = _
    rw [HAk.out,drop_at hf,List.find?_cons]
    cases decide (f1 = nm) <;> rfl
   have p0 := c1 0 _ rfl;have p1 := c1 1 _ rfl;have p2 := c1 2 _ rfl;have p3 := c1 3 _ rfl;have p4 := c1 4 _ rfl;simp only [Nat.add_zero] at p0 p1 p2 p3 p4;clear c1 hrr hf HAk
   by_cases he : f1 = nm
   ·subst he;go_wp2_with fail;refine bodyPost_ret (results_two rfl _ _ _ ⟨w.heap.size + 1,0,none⟩ (.agg #[.string f0,.int .i64 f1,.int .i64 f2,.int .i64 f3,.string f4]) (by go_simp) (by go_simp)) rfl ?_;exact ⟨ret_two (by rw [HA2.out,if_pos (by simp)]; rfl) (by rw [HA2.out,if_pos (by simp)]; rfl),(Below.alloc (Below.setCell (Below.setCell (Below.setCell (Below.setCell (Below.setCell hbel (by simp) _) (by simp) _) (by simp) _) (by simp) _) (by simp) _) (by simp; omega) _)⟩
   ·have hq : (f1 == nm) = false := by simpa using he
    have HA3 : Hid (A = ((ts.drop (k + 1)).find? fun m => decide (m.tag = nm))) := by show _ = _; rw [HA2.out,if_neg (by simpa using he)]
    have hb2 : Below w.heap.size w (wr.alloc (.cells #[.string f0,.int .i64 f1,.int .i64 f2,.int .i64 f3,.string f4] 56)) := hbel.alloc (by omega) _;have BR2 : Blk (wr.alloc (.cells #[.string f0,.int .i64 f1,.int .i64 f2,.int .i64 f3,.string f4] 56)) (w.heap.size + 1) #[.string ⟨#[]⟩,.int .i64 0,.int .i64 0,.int .i64 0,.string ⟨#[]⟩] 56 := BR.below ((Below.refl _ _).alloc (Nat.le_refl _) _);go_wp2_with fail
    go_roundw
    case rel => exact ⟨k + 1,by go_num,by omega,HA3,hb2,BR2⟩
    case measure => simp [intOf]; omega
  ·have HA2 : Hid (A = none) := by show _ = _; rw [HAk.out,drop_end (by rw [HN.out]; omega)]; rfl
   go_wp2_with fail;refine bodyPost_ret (results_two rfl _ _ _ ⟨w.heap.size + 1,0,none⟩ (.agg #[.string ⟨#[]⟩,.int .i64 0,.int .i64 0,.int .i64 0,.string ⟨#[]⟩]) (by go_simp) (by go_simp)) rfl ?_;exact ⟨ret_two (by rw [HA2.out]; rfl) (by rw [HA2.out]; rfl),(Below.setCell (Below.setCell (Below.setCell (Below.setCell (Below.setCell hbel (by simp) _) (by simp) _) (by simp) _) (by simp) _) (by simp) _)⟩
end
section
open Go.ChangeShapes Go.WideShapes Go.ChangeAt Go.RowKit
theorem number_any (k n : Int) (nm : ByteArray) (w : World) : Calls Tryz.prog 82 #[.agg #[.int .i64 k,.string nm],.int .i64 n] w fun e w' => e = .returned (.bool (nmrB k n)) ∧ Below w.heap.size w w' := by
 have hb : Below w.heap.size w (w.alloc (Obj.cells #[.int .i64 k,.string nm] 54)) := (Below.refl _ _).alloc (Nat.le_refl _) _
 have rng : n < -2147483648 ∨ (-2147483648 ≤ n ∧ n < 0) ∨ (0 ≤ n ∧ n ≤ 1) ∨ (1 < n ∧ n ≤ 2147483647) ∨ 2147483647 < n := by omega
 have kk : k = 3 ∨ k = 6 ∨ k = 1 ∨ k = 2 ∨ (¬ k = 3 ∧ ¬ k = 6 ∧ ¬ k = 1 ∧ ¬ k = 2) := by omega
 rcases rng with g | g | g | g | g
 ·have f1 : decide (1 < n) = false := by simp; omega
  have f2 : decide (n < 0) = true := by simp; omega
  have f3 : decide (n < -2147483648) = true := by simp; omega
  have f4 : decide (2147483647 < n) = false := by simp; omega
  rcases kk with rfl | rfl | rfl | rfl | ⟨h3,h6,h1,h2⟩
  ·have hr : nmrB 3 n = false := by simp [nmrB]; omega
   rw [hr];clear hr g
   go_enter Tryz.func82,Tryz.ntmps82
   go_wp2_with fail;go_ret;exact ⟨rfl,hb⟩
  ·have hr : nmrB 6 n = false := by simp [nmrB]; omega
   rw [hr];clear hr g
   go_enter Tryz.func82,Tryz.ntmps82
   go_wp2_with fail;go_ret;exact ⟨rfl,hb⟩
  ·have hr : nmrB 1 n = false := by simp [nmrB]; omega
   rw [hr];clear hr g
   go_enter Tryz.func82,Tryz.ntmps82
   go_wp2_with fail;go_ret;exact ⟨rfl,hb⟩
  ·have hr : nmrB 2 n = true := by simp [nmrB]
   rw [hr];clear hr g
   go_enter Tryz.func82,Tryz.ntmps82
   go_wp2_with fail;go_ret;exact ⟨rfl,hb⟩
  ·have e1 : (k == 1) = false := by simpa using h1
   have e2 : (k == 2) = false := by simpa using h2
   have e3 : (k == 3) = false := by simpa using h3
   have e6 : (k == 6) = false := by simpa using h6
   have hr : nmrB k n = false := by simp [nmrB,h3,h6,h1,h2]
   rw [hr];clear h1 h2 h3 h6 hr g
   go_enter Tryz.func82,Tryz.ntmps82
   go_wp2_with fail;go_ret;exact ⟨rfl,hb⟩
 ·have f1 : decide (1 < n) = false := by simp; omega
  have f2 : decide (n < 0) = true := by simp; omega
  have f3 : decide (n < -2147483648) = false := by simp; omega
  have f4 : decide (2147483647 < n) = false := by simp; omega
  rcases kk with rfl | rfl | rfl | rfl | ⟨h3,h6,h1,h2⟩
  ·have hr : nmrB 3 n = false := by simp [nmrB]; omega
   rw [hr];clear hr g
   go_enter Tryz.func82,Tryz.ntmps82
   go_wp2_with fail;go_ret;exact ⟨rfl,hb⟩
  ·have hr : nmrB 6 n = false := by simp [nmrB]; omega
   rw [hr];clear hr g
   go_enter Tryz.func82,Tryz.ntmps82
   go_wp2_with fail;go_ret;exact ⟨rfl,hb⟩
  ·have hr : nmrB 1 n = true := by simp [nmrB]; omega
   rw [hr];clear hr g
   go_enter Tryz.func82,Tryz.ntmps82
   go_wp2_with fail;go_ret;exact ⟨rfl,hb⟩
  ·have hr : nmrB 2 n = true := by simp [nmrB]
   rw [hr];clear hr g
   go_enter Tryz.func82,Tryz.ntmps82
   go_wp2_with fail;go_ret;exact ⟨rfl,hb⟩
  ·have e1 : (k == 1) = false := by simpa using h1
   have e2 : (k == 2) = false := by simpa using h2
   have e3 : (k == 3) = false := by simpa using h3
   have e6 : (k == 6) = false := by simpa using h6
   have hr : nmrB k n = false := by simp [nmrB,h3,h6,h1,h2]
   rw [hr];clear h1 h2 h3 h6 hr g
   go_enter Tryz.func82,Tryz.ntmps82
   go_wp2_with fail;go_ret;exact ⟨rfl,hb⟩
 ·have f1 : decide (1 < n) = false := by simp; omega
  have f2 : decide (n < 0) = false := by simp; omega
  have f3 : decide (n < -2147483648) = false := by simp; omega
  have f4 : decide (2147483647 < n) = false := by simp; omega
  rcases kk with rfl | rfl | rfl | rfl | ⟨h3,h6,h1,h2⟩
  ·have hr : nmrB 3 n = true := by simp [nmrB]; omega
   rw [hr];clear hr g
   go_enter Tryz.func82,Tryz.ntmps82
   go_wp2_with fail;go_ret;exact ⟨rfl,hb⟩
  ·have hr : nmrB 6 n = true := by simp [nmrB]; omega
   rw [hr];clear hr g
   go_enter Tryz.func82,Tryz.ntmps82
   go_wp2_with fail;go_ret;exact ⟨rfl,hb⟩
  ·have hr : nmrB 1 n = true := by simp [nmrB]; omega
   rw [hr];clear hr g
   go_enter Tryz.func82,Tryz.ntmps82
   go_wp2_with fail;go_ret;exact ⟨rfl,hb⟩
  ·have hr : nmrB 2 n = true := by simp [nmrB]
   rw [hr];clear hr g
   go_enter Tryz.func82,Tryz.ntmps82
   go_wp2_with fail;go_ret;exact ⟨rfl,hb⟩
  ·have e1 : (k == 1) = false := by simpa using h1
   have e2 : (k == 2) = false := by simpa using h2
   have e3 : (k == 3) = false := by simpa using h3
   have e6 : (k == 6) = false := by simpa using h6
   have hr : nmrB k n = false := by simp [nmrB,h3,h6,h1,h2]
   rw [hr];clear h1 h2 h3 h6 hr g
   go_enter Tryz.func82,Tryz.ntmps82
   go_wp2_with fail;go_ret;exact ⟨rfl,hb⟩
 ·have f1 : decide (1 < n) = true := by simp; omega
  have f2 : decide (n < 0) = false := by simp; omega
  have f3 : decide (n < -2147483648) = false := by simp; omega
  have f4 : decide (2147483647 < n) = false := by simp; omega
  rcases kk with rfl | rfl | rfl | rfl | ⟨h3,h6,h1,h2⟩
  ·have hr : nmrB 3 n = false := by simp [nmrB]; omega
   rw [hr];clear hr g
   go_enter Tryz.func82,Tryz.ntmps82
   go_wp2_with fail;go_ret;exact ⟨rfl,hb⟩
  ·have hr : nmrB 6 n = true := by simp [nmrB]; omega
   rw [hr];clear hr g
   go_enter Tryz.func82,Tryz.ntmps82
   go_wp2_with fail;go_ret;exact ⟨rfl,hb⟩
  ·have hr : nmrB 1 n = true := by simp [nmrB]; omega
   rw [hr];clear hr g
   go_enter Tryz.func82,Tryz.ntmps82
   go_wp2_with fail;go_ret;exact ⟨rfl,hb⟩
  ·have hr : nmrB 2 n = true := by simp [nmrB]
   rw [hr];clear hr g
   go_enter Tryz.func82,Tryz.ntmps82
   go_wp2_with fail;go_ret;exact ⟨rfl,hb⟩
  ·have e1 : (k == 1) = false := by simpa using h1
   have e2 : (k == 2) = false := by simpa using h2
   have e3 : (k == 3) = false := by simpa using h3
   have e6 : (k == 6) = false := by simpa using h6
   have hr : nmrB k n = false := by simp [nmrB,h3,h6,h1,h2]
   rw [hr];clear h1 h2 h3 h6 hr g
   go_enter Tryz.func82,Tryz.ntmps82
   go_wp2_with fail;go_ret;exact ⟨rfl,hb⟩
 ·have f1 : decide (1 < n) = true := by simp; omega
  have f2 : decide (n < 0) = false := by simp; omega
  have f3 : decide (n < -2147483648) = false := by simp; omega
  have f4 : decide (2147483647 < n) = true := by simp; omega
  rcases kk with rfl | rfl | rfl | rfl | ⟨h3,h6,h1,h2⟩
  ·have hr : nmrB 3 n = false := by simp [nmrB]; omega
   rw [hr];clear hr g
   go_enter Tryz.func82,Tryz.ntmps82
   go_wp2_with fail;go_ret;exact ⟨rfl,hb⟩
  ·have hr : nmrB 6 n = false := by simp [nmrB]; omega
   rw [hr];clear hr g
   go_enter Tryz.func82,Tryz.ntmps82
   go_wp2_with fail;go_ret;exact ⟨rfl,hb⟩
  ·have hr : nmrB 1 n = false := by simp [nmrB]; omega
   rw [hr];clear hr g
   go_enter Tryz.func82,Tryz.ntmps82
   go_wp2_with fail;go_ret;exact ⟨rfl,hb⟩
  ·have hr : nmrB 2 n = true := by simp [nmrB]
   rw [hr];clear hr g
   go_enter Tryz.func82,Tryz.ntmps82
   go_wp2_with fail;go_ret;exact ⟨rfl,hb⟩
  ·have e1 : (k == 1) = false := by simpa using h1
   have e2 : (k == 2) = false := by simpa using h2
   have e3 : (k == 3) = false := by simpa using h3
   have e6 : (k == 6) = false := by simpa using h6
   have hr : nmrB k n = false := by simp [nmrB,h3,h6,h1,h2]
   rw [hr];clear h1 h2 h3 h6 hr g
   go_enter Tryz.func82,Tryz.ntmps82
   go_wp2_with fail;go_ret;exact ⟨rfl,hb⟩
theorem size_empty {s : ByteArray} (h : s.size = 0) : s = ⟨#[]⟩ := by
 obtain ⟨⟨l⟩⟩ := s
 cases l with
 | nil => rfl
 | cons a l => simp [ByteArray.size] at h
theorem zero_any (t : Tr) (a1 a2 : Option Addr) (n1 c1 n2 c2 : Nat) (w : World) (h1 : n1 = t.es.length) (h2 : n2 = t.rest.length) : Calls Tryz.prog 85 #[.agg #[.int .i64 t.kind,.int .i64 t.n,.string t.s,.slice a1 n1 c1,.slice a2 n2 c2]] w fun e w' => e = .returned (.bool (zroB t)) ∧ Below w.heap.size w w' := by
 have hb : Below w.heap.size w (w.alloc (Obj.cells #[.int .i64 t.kind,.int .i64 t.n,.string t.s,.slice a1 n1 c1,.slice a2 n2 c2] 39)) := (Below.refl _ _).alloc (Nat.le_refl _) _
 have hz : zroB t = (decide (t.kind = 1 ∨ t.kind = 2 ∨ t.kind = 3) && decide (t.n = 0) && decide (t.s.size = 0) && decide (n1 = 0) && decide (n2 = 0)) := by rw [zroB,h1,h2]
 rw [hz];clear hz h1 h2;generalize t.kind = K at *;generalize t.n = N at *;generalize t.s = S at *
 have kk : K = 1 ∨ K = 2 ∨ K = 3 ∨ (¬ K = 1 ∧ ¬ K = 2 ∧ ¬ K = 3) := by omega
 rcases kk with rfl | rfl | rfl | ⟨h1,h2,h3⟩
 ·by_cases hN : N = 0
  ·subst hN
   by_cases hS : S.size = 0
   ·obtain rfl := size_empty hS
    by_cases h1 : n1 = 0
    ·subst h1
     by_cases h2 : n2 = 0
     ·subst h2
      go_enter Tryz.func85,Tryz.ntmps85
      go_wp2_with fail;go_ret;exact ⟨rfl,hb⟩
     ·have d2 : ((n2 : Int) == 0) = false := by simp; omega
      simp only [decide_eq_false h2,Bool.and_false];clear h2
      go_enter Tryz.func85,Tryz.ntmps85
      go_wp2_with fail;go_ret;exact ⟨rfl,hb⟩
    ·have d1 : ((n1 : Int) == 0) = false := by simp; omega
     simp only [decide_eq_false h1,Bool.and_false,Bool.false_and];clear h1
     go_enter Tryz.func85,Tryz.ntmps85
     go_wp2_with fail;go_ret;exact ⟨rfl,hb⟩
   ·have dS : (S.toList == ([] : List UInt8)) = false := by rw [ByteArray.toList_eq]; simp; intro e; exact hS (by rw [← ByteArray.size_data,e]; rfl)
    simp only [decide_eq_false hS,Bool.and_false,Bool.false_and];clear hS
    go_enter Tryz.func85,Tryz.ntmps85
    go_wp2_with fail;go_ret;exact ⟨rfl,hb⟩
  ·have dN : (N == 0) = false := by simpa using hN
   simp only [decide_eq_false hN,Bool.and_false,Bool.false_and];clear hN
   go_enter Tryz.func85,Tryz.ntmps85
   go_wp2_with fail;go_ret;exact ⟨rfl,hb⟩
 ·by_cases hN : N = 0
  ·subst hN
   by_cases hS : S.size = 0
   ·obtain rfl := size_empty hS
    by_cases h1 : n1 = 0
    ·subst h1
     by_cases h2 : n2 = 0
     ·subst h2
      go_enter Tryz.func85,Tryz.ntmps85
      go_wp2_with fail;go_ret;exact ⟨rfl,hb⟩
     ·have d2 : ((n2 : Int) == 0) = false := by simp; omega
      simp only [decide_eq_false h2,Bool.and_false];clear h2
      go_enter Tryz.func85,Tryz.ntmps85
      go_wp2_with fail;go_ret;exact ⟨rfl,hb⟩
    ·have d1 : ((n1 : Int) == 0) = false := by simp; omega
     simp only [decide_eq_false h1,Bool.and_false,Bool.false_and];clear h1
     go_enter Tryz.func85,Tryz.ntmps85
     go_wp2_with fail;go_ret;exact ⟨rfl,hb⟩
   ·have dS : (S.toList == ([] : List UInt8)) = false := by rw [ByteArray.toList_eq]; simp; intro e; exact hS (by rw [← ByteArray.size_data,e]; rfl)
    simp only [decide_eq_false hS,Bool.and_false,Bool.false_and];clear hS
    go_enter Tryz.func85,Tryz.ntmps85
    go_wp2_with fail;go_ret;exact ⟨rfl,hb⟩
  ·have dN : (N == 0) = false := by simpa using hN
   simp only [decide_eq_false hN,Bool.and_false,Bool.false_and];clear hN
   go_enter Tryz.func85,Tryz.ntmps85
   go_wp2_with fail;go_ret;exact ⟨rfl,hb⟩
 ·by_cases hN : N = 0
  ·subst hN
   by_cases hS : S.size = 0
   ·obtain rfl := size_empty hS
    by_cases h1 : n1 = 0
    ·subst h1
     by_cases h2 : n2 = 0
     ·subst h2
      go_enter Tryz.func85,Tryz.ntmps85
      go_wp2_with fail;go_ret;exact ⟨rfl,hb⟩
     ·have d2 : ((n2 : Int) == 0) = false := by simp; omega
      simp only [decide_eq_false h2,Bool.and_false];clear h2
      go_enter Tryz.func85,Tryz.ntmps85
      go_wp2_with fail;go_ret;exact ⟨rfl,hb⟩
    ·have d1 : ((n1 : Int) == 0) = false := by simp; omega
     simp only [decide_eq_false h1,Bool.and_false,Bool.false_and];clear h1
     go_enter Tryz.func85,Tryz.ntmps85
     go_wp2_with fail;go_ret;exact ⟨rfl,hb⟩
   ·have dS : (S.toList == ([] : List UInt8)) = false := by rw [ByteArray.toList_eq]; simp; intro e; exact hS (by rw [← ByteArray.size_data,e]; rfl)
    simp only [decide_eq_false hS,Bool.and_false,Bool.false_and];clear hS
    go_enter Tryz.func85,Tryz.ntmps85
    go_wp2_with fail;go_ret;exact ⟨rfl,hb⟩
  ·have dN : (N == 0) = false := by simpa using hN
   simp only [decide_eq_false hN,Bool.and_false,Bool.false_and];clear hN
   go_enter Tryz.func85,Tryz.ntmps85
   go_wp2_with fail;go_ret;exact ⟨rfl,hb⟩
 ·have e1 : (K == 1) = false := by simpa using h1
  have e2 : (K == 2) = false := by simpa using h2
  have e3 : (K == 3) = false := by simpa using h3
  have hk : decide (K = 1 ∨ K = 2 ∨ K = 3) = false := by simp [h1,h2,h3]
  simp only [hk,Bool.false_and];clear h1 h2 h3 hk
  go_enter Tryz.func85,Tryz.ntmps85
  go_wp2_with fail;go_ret;exact ⟨rfl,hb⟩
theorem valid_any (s : ByteArray) (w : World) (hs : s.size ≤ 140737488351232) :
  Calls Tryz.prog 83 #[.string s] w fun e w' => e = .returned (.bool (validB s.data.toList)) ∧ Below w.heap.size w w' := by
 go_enter Tryz.func83,Tryz.ntmps83
 go_wp2
 go_loopw [] (fun wr => ∃ (pos : Nat) (acc : List Nat),wr = w.iter s pos ∧ Hid (Gone s.data.toList pos acc)) (fun wr => s.size - wr.iterPos w.heap.size)
 case atStart => exact ⟨0,[],rfl,Gone.start _⟩
 case round =>
  obtain ⟨pos,acc,rfl,H⟩ := hrel
  by_cases hp : pos < s.size
  ·obtain ⟨c,k,hd,h1,h2⟩ := dec_at s pos hp
   have hnx : ∀ ty,(Instr.next (.pointer (some ⟨w.heap.size,0,none⟩)) true ty).run Tryz.prog (w.iter s pos) = .ok (.tuple #[.bool true,.int .i64 (pos : Int),.int .i32 (c : Int)]) (w.iter s (pos + k)) := by
    intro ty;have := run_next_any (P := Tryz.prog) w s pos ty hp;rw [hd] at this;exact this
   have H1 : Hid (standsB (s.data.toList.drop pos) c = true → nxL (s.data.toList.drop pos) = some (c,k)) := h1;have H2 : Hid (standsB (s.data.toList.drop pos) c = false → nxL (s.data.toList.drop pos) = none) := h2;clear hd h1 h2;go_wp2_with fail;refine (stands_any s _ _ _ hs (by omega) (by omega)).mono ?_;rintro e w' ⟨rfl,rfl⟩;rw [Int.toNat_natCast]
   cases hst : standsB (s.data.toList.drop pos) c with
   | false =>
    go_wp2
    go_ret;exact ⟨ret_bool (by unfold validB; rw [H.out.bad (by rw [len_data]; exact hp) (H2.out hst)]; rfl),below_iter _ _ _⟩
   | true =>
    have HN := H1.out hst;have hk : 1 ≤ k := (nxL_some _ _ _ HN).2.2.2.1;have HG : Hid (Gone s.data.toList (pos + k) (acc ++ [c])) := H.out.step HN;clear HN
    go_wp2
    go_roundw
    case rel => exact ⟨pos + k,acc ++ [c],rfl,HG⟩
    case measure => simp; omega
  ·have hnx : ∀ ty,(Instr.next (.pointer (some ⟨w.heap.size,0,none⟩)) true ty).run Tryz.prog (w.iter s pos) = _ := fun ty => run_next_end w s pos ty hp
   go_wp2
   go_ret;exact ⟨ret_bool (by unfold validB; rw [H.out.done (by rw [len_data]; omega)]; rfl),below_iter _ _ _⟩
theorem getF_put0 (v p : Nat) (rest : List Nat) (hv : v < 18446744073709551616) : getF (digs v ++ rest) 0 0 p = (v,p + (digs v).length,0) := by
 rw [getF_digs v 0 0 p rest (by omega) (by omega) (by omega)]
 simp
theorem drop_pre (pre l : List Nat) : (pre ++ l).drop pre.length = l := List.drop_left
theorem drop_pre2 (pre l m : List Nat) (q : Nat) (hq : q = pre.length + l.length) : (pre ++ (l ++ m)).drop q = m := by
 rw [← List.append_assoc,hq,← List.length_append];exact List.drop_left
theorem next_put {r : Fd} (h : okF r = true) (hn : Is64 r.n) (pre rest : List Nat) : nextN (pre ++ (fieldN r ++ rest)) pre.length = (r,pre.length + (fieldN r).length,0) := by
 rcases ok_cases h hn with ⟨t,n,rfl,h1,h2,h3⟩ | ⟨t,b,rfl,h1,h2,h3⟩
 ·have hz := zigN_bd n h3.1 h3.2;have hzz : ((zigN n).toNat : Int) = zigN n := Int.toNat_of_nonneg hz.1;rw [fieldN_num]
  have g1 : getF ((pre ++ (digs (2 * t) ++ digs (zigN n).toNat ++ rest)).drop pre.length) 0 0 pre.length = (2 * t,pre.length + (digs (2 * t)).length,0) := by
   rw [drop_pre,List.append_assoc]; exact getF_put0 _ _ _ (by omega)
  have g2 : getF ((pre ++ (digs (2 * t) ++ digs (zigN n).toNat ++ rest)).drop (pre.length + (digs (2 * t)).length)) 0 0 (pre.length + (digs (2 * t)).length) = ((zigN n).toNat,pre.length + (digs (2 * t)).length + (digs (zigN n).toNat).length,0) := by
   rw [List.append_assoc,drop_pre2 pre _ _ _ rfl]; exact getF_put0 _ _ _ (by omega)
  rw [next_num g1 (by omega) g2 (by omega),hzz,zag_zig,show 2 * t / 2 = t by omega,List.length_append,Nat.add_assoc]
 ·rw [fieldN_text]
  have g1 : getF ((pre ++ (digs (2 * t + 1) ++ (digs b.size ++ bytesN b) ++ rest)).drop pre.length) 0 0 pre.length = (2 * t + 1,pre.length + (digs (2 * t + 1)).length,0) := by
   rw [drop_pre,List.append_assoc]; exact getF_put0 _ _ _ (by omega)
  have g2 : getF ((pre ++ (digs (2 * t + 1) ++ (digs b.size ++ bytesN b) ++ rest)).drop (pre.length + (digs (2 * t + 1)).length)) 0 0 (pre.length + (digs (2 * t + 1)).length) = (b.size,pre.length + (digs (2 * t + 1)).length + (digs b.size).length,0) := by
   rw [List.append_assoc,drop_pre2 pre _ _ _ rfl,List.append_assoc]; exact getF_put0 _ _ _ (by omega)
  have hd : (pre ++ (digs (2 * t + 1) ++ (digs b.size ++ bytesN b) ++ rest)).drop (pre.length + (digs (2 * t + 1)).length + (digs b.size).length) = bytesN b ++ rest := by
   have e : pre ++ (digs (2 * t + 1) ++ (digs b.size ++ bytesN b) ++ rest) = (pre ++ digs (2 * t + 1)) ++ (digs b.size ++ (bytesN b ++ rest)) := by simp
   rw [e,drop_pre2 _ _ _ _ (by rw [List.length_append])]
  rw [next_text g1 (by omega) g2 (by omega) (by simp [bytesN_len]; omega),hd]
  have ht : (bytesN b ++ rest).take b.size = bytesN b := by rw [← bytesN_len b]; exact List.take_left
  rw [ht,strN_bytesN,show (2 * t + 1) / 2 = t by omega,List.length_append,List.length_append,bytesN_len];simp only [Prod.mk.injEq,true_and,and_true]
  omega
theorem getA_skip : ∀ (rs : List Fd) (pre tail : List Nat),(∀ r ∈ rs,okF r = true) → (∀ r ∈ rs,Is64 r.n) → (∀ n ∈ pre ++ (flatN rs ++ tail),n < 256) →
  getA (pre ++ (flatN rs ++ tail)) pre.length = joinA rs (getA (pre ++ (flatN rs ++ tail)) (pre.length + (flatN rs).length))
 | [],pre,tail,_,_,hb => by
  rw [flatN_nil,List.length_nil,Nat.add_zero,joinA_nil _ (getA_nil _ _)]
 | r :: rs,pre,tail,ho,hn,hb => by
  have hr := ho r (by simp);have hr64 := hn r (by simp);have hl := (fieldN_len hr hr64).1
  have e : pre ++ (flatN (r :: rs) ++ tail) = pre ++ (fieldN r ++ (flatN rs ++ tail)) := by rw [flatN_cons,List.append_assoc]
  have e2 : pre ++ (fieldN r ++ (flatN rs ++ tail)) = (pre ++ fieldN r) ++ (flatN rs ++ tail) := by rw [List.append_assoc]
  have hx := next_put hr hr64 pre (flatN rs ++ tail);rw [e] at hb ⊢;rw [getA_on (by simp; omega) hx hb];have ih := getA_skip rs (pre ++ fieldN r) tail (fun x hx => ho x (by simp [hx])) (fun x hx => hn x (by simp [hx])) (by rw [← e2]; exact hb);rw [← e2,List.length_append] at ih;rw [ih,joinA_join,List.singleton_append,flatN_cons,List.length_append,Nat.add_assoc]
theorem getL_put {rs : List Fd} (ho : rs.all okF = true) (hn : ∀ r ∈ rs,Is64 r.n) (hl : (flatN rs).length ≤ 4096) : getL (flatN rs) = (rs,0) := by
 have := getA_skip rs [] [] (List.all_eq_true.1 ho) hn (by simpa using flatN_lt rs);simp only [List.nil_append,List.append_nil,List.length_nil,Nat.zero_add] at this;rw [getL,if_neg (by omega),this,getA_end (Nat.le_refl _),joinA,if_pos rfl,List.append_nil]
theorem getF_inv : ∀ (l : List Nat) (i acc p v q : Nat),getF l i acc p = (v,q,0) → (∀ n ∈ l,n < 256) → ∃ u rest,l = digs u ++ rest ∧ v = acc + u * 128 ^ i ∧ q = p + i + (digs u).length ∧ (0 < i → 0 < u)
 | [],i,acc,p,v,q,hg,_ => by simp [getF] at hg
 | c :: r,i,acc,p,v,q,hg,hb => by
  have hc := hb c (by simp)
  by_cases h9 : i = 9 ∧ 1 < c
  ·rw [getF_ten r acc p h9.1 h9.2] at hg; simp at hg
  ·by_cases h1 : 128 ≤ c
   ·rw [getF_on r acc p h9 h1] at hg;obtain ⟨u,rest,rfl,rfl,rfl,hu⟩ := getF_inv r (i + 1) _ p v q hg (fun n hn => hb n (by simp [hn]));have hu0 := hu (by omega);refine ⟨c % 128 + 128 * u,rest,?_,?_,?_,fun _ => by omega⟩
    ·rw [digs_big (v := c % 128 + 128 * u) (by omega),show (c % 128 + 128 * u) % 128 + 128 = c by omega,show (c % 128 + 128 * u) / 128 = u by omega]
     rfl
    ·rw [Nat.pow_succ,Nat.add_mul,Nat.add_assoc]
     congr 2
     rw [Nat.mul_comm 128 u,Nat.mul_assoc,Nat.mul_comm 128]
    ·rw [digs_big (v := c % 128 + 128 * u) (by omega),show (c % 128 + 128 * u) / 128 = u by omega,List.length_cons]
     omega
   ·by_cases h0 : c = 0 ∧ 0 < i
    ·rw [getF_zero r acc p h9 h0.1 h0.2] at hg; simp at hg
    ·rw [getF_end r acc p h9 (by omega) h0] at hg;simp only [Prod.mk.injEq,and_true] at hg;obtain ⟨rfl,rfl⟩ := hg;refine ⟨c,r,?_,rfl,?_,fun hi => by omega⟩
     ·rw [digs_small (by omega)]; rfl
     ·rw [digs_small (by omega)]; simp
theorem getF_at_inv {ns : List Nat} {p v q : Nat} (hg : getF (ns.drop p) 0 0 p = (v,q,0)) (hb : ∀ n ∈ ns,n < 256) : ns.drop p = digs v ++ ns.drop q ∧ q = p + (digs v).length := by
 obtain ⟨u,rest,hl,hv,hq, -⟩ := getF_inv _ 0 0 p v q hg (fun n hn => hb n (List.mem_of_mem_drop hn));simp only [Nat.pow_zero,Nat.mul_one,Nat.zero_add,Nat.add_zero] at hv hq;subst hv
 have hd : ns.drop q = rest := by
  rw [hq,← List.drop_drop,hl];exact List.drop_left
 rw [hd];exact ⟨hl,hq⟩
theorem next_inv {ns : List Nat} {p q : Nat} {r : Fd} (hx : nextN ns p = (r,q,0)) (hb : ∀ n ∈ ns,n < 256) (hp : p ≤ ns.length) (hl : ns.length ≤ 4096) : okF r = true ∧ Is64 r.n ∧ ns.drop p = fieldN r ++ ns.drop q := by
 obtain ⟨⟨h,q1,e1⟩,g1⟩ : ∃ x,getF (ns.drop p) 0 0 p = x := ⟨_,rfl⟩
 by_cases he1 : e1 = 0
 ·subst he1
  by_cases ht : h / 2 = 0 ∨ 500 < h / 2
  ·rw [next_tag g1 ht] at hx; simp at hx
  ·have b1 := getF_at_bd g1 hb hp;have i1 := getF_at_inv g1 hb;obtain ⟨⟨v,q2,e2⟩,g2⟩ : ∃ x,getF (ns.drop q1) 0 0 q1 = x := ⟨_,rfl⟩
   by_cases he2 : e2 = 0
   ·subst he2;have b2 := getF_at_bd g2 hb (by omega);have i2 := getF_at_inv g2 hb
    by_cases hw : h % 2 = 0
    ·rw [next_num g1 ht g2 hw] at hx;simp only [Prod.mk.injEq,and_true] at hx;obtain ⟨rfl,rfl⟩ := hx;have hz := zagN_bd v (by omega) (by omega);refine ⟨?_,hz,?_⟩
     ·unfold okF okV;rw [(toList_empty _).2 rfl]
      simp
      omega
     ·rw [fieldN_num,zig_zag v (by omega),show 2 * (h / 2) = h by omega,Int.toNat_natCast,i1.1,i2.1,List.append_assoc]
    ·by_cases hv : ns.length - q2 < v
     ·rw [next_short g1 ht g2 hw hv] at hx; simp at hx
     ·rw [next_text g1 ht g2 hw (by omega)] at hx;simp only [Prod.mk.injEq,and_true] at hx;obtain ⟨rfl,rfl⟩ := hx
      have hlen : ((ns.drop q2).take v).length = v := by simp; omega
      have hsz : (strN ((ns.drop q2).take v)).size = v := by rw [strN_size,hlen]
      refine ⟨?_,by unfold Is64; simp,?_⟩
      ·unfold okF okV
       simp [hsz]
       omega
      ·rw [fieldN_text,hsz,bytesN_strN _ (fun n hn => hb n (List.mem_of_mem_drop (List.mem_of_mem_take hn))),show 2 * (h / 2) + 1 = h by omega,i1.1,i2.1];simp only [List.append_assoc];rw [← List.drop_drop,List.take_append_drop]
   ·rw [next_e2 g1 ht g2 he2] at hx; simp at hx; omega
 ·rw [next_e1 g1 he1] at hx; simp at hx; omega
theorem getA_inv {ns : List Nat} (hb : ∀ n ∈ ns,n < 256) (hl : ns.length ≤ 4096) : ∀ k p rs,ns.length - p ≤ k → p ≤ ns.length → getA ns p = (rs,0) → (∀ r ∈ rs,okF r = true ∧ Is64 r.n) ∧ flatN rs = ns.drop p
 | 0,p,rs,hk,hp,h => by
  rw [getA_end (by omega)] at h;obtain rfl : [] = rs := (Prod.mk.inj h).1;exact ⟨by simp,by rw [List.drop_of_length_le (by omega),flatN_nil]⟩
 | k + 1,p,rs,hk,hp,h => by
  by_cases hlt : p < ns.length
  ·obtain ⟨⟨r,q,e⟩,hx⟩ : ∃ x,nextN ns p = x := ⟨_,rfl⟩
   by_cases he : e = 0
   ·subst he;have hq := nextN_bd hx hb hp;have hi := next_inv hx hb hp hl;rw [getA_on hlt hx hb,joinA] at h
    split at h <;> rename_i h2
    ·obtain rfl : [r] ++ (getA ns q).1 = rs := (Prod.mk.inj h).1;have ih := getA_inv hb hl k q (getA ns q).1 (by omega) hq.2 (Prod.ext rfl h2);refine ⟨?_,?_⟩
     ·intro x hx
      rcases List.mem_append.1 hx with hx | hx
      ·obtain rfl : x = r := by simpa using hx
       exact ⟨hi.1,hi.2.1⟩
      ·exact ih.1 x hx
     ·rw [flatN_app,flatN_cons,flatN_nil,List.append_nil,ih.2,hi.2.2]
    ·exact absurd (Prod.mk.inj h).2 h2
   ·rw [getA_err hlt hx he] at h;exact absurd (Prod.mk.inj h).2 he
  ·rw [getA_end (by omega)] at h;obtain rfl : [] = rs := (Prod.mk.inj h).1;exact ⟨by simp,by rw [List.drop_of_length_le (by omega),flatN_nil]⟩
theorem putL_get {ns : List Nat} (hb : ∀ n ∈ ns,n < 256) {rs : List Fd} (h : getL ns = (rs,0)) : putL rs = (ns,0) ∧ (∀ r ∈ rs,Is64 r.n) := by
 rw [getL] at h
 split at h
 ·simp at h
 ·rename_i hl
  have hi := getA_inv hb (by omega) ns.length 0 rs (by omega) (by omega) h;rw [List.drop_zero] at hi;refine ⟨?_,fun r hr => (hi.1 r hr).2⟩;rw [putL_ok (List.all_eq_true.2 fun r hr => (hi.1 r hr).1) (by rw [hi.2]; omega),hi.2]
end
end Go.Proofs.YtiajaocckkghgabGreat
