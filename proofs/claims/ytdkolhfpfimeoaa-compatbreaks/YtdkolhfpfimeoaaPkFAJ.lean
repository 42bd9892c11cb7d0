/- Part 10 of what the proof stands on. -/
import Derived.Test.YtdkolhfpfimeoaaPkFAI
import Derived.Deep.QuietTactic
import Derived.Deep.RegionWith
namespace Go.Proofs.Ytdkolhfpfimeoaa
set_option maxHeartbeats 8000000
set_option linter.unusedVariables false
set_option linter.unusedSimpArgs false
set_option maxRecDepth 20000
section
open Go.ChangeShapes Go.WideShapes Go.ChangeAt Go.RowKit
theorem nameB_some (s : ByteArray) (rs : List Nat) (h : runesOf s.data.toList = some rs) : nameB s = (decide (1 ≤ rs.length ∧ rs.length ≤ 20) && !keyB s && okFrom true rs) := by
 unfold nameB countN; rw [h]; rfl
theorem okFrom_bad {acc rest : List Nat} {c : Nat} (h1 : letB c = false) (h2 : digB c = false) (b : Bool) : okFrom b (acc ++ c :: rest) = false := by
 rw [okFrom_append]; simp [okFrom,h1,h2]
theorem split_at (rs : List Nat) (k : Nat) (h : k < rs.length) : rs = rs.take k ++ rs.getD k 0 :: rs.drop (k + 1) := by
 rw [List.getD_eq_getElem?_getD,List.getElem?_eq_getElem h,Option.getD_some];exact (List.take_append_drop k rs).symm.trans (by rw [List.drop_eq_getElem_cons h])
def okTo (rs : List Nat) (k : Nat) : Prop := okFrom true (rs.take k) = true
theorem okTo_step {rs : List Nat} {k : Nat} (h : okTo rs k) (h1 : 1 ≤ k) (hk : k < rs.length) (hc : letB (rs.getD k 0) = true ∨ digB (rs.getD k 0) = true) : okTo rs (k + 1) := by
  unfold okTo at h ⊢
  have e : rs.take (k + 1) = rs.take k ++ [rs.getD k 0] := by
    rw [List.take_succ_eq_append_getElem hk, List.getD_eq_getElem?_getD, List.getElem?_eq_getElem hk, Option.getD_some]
  rw [e, okFrom_append, h]
  have e2 : (rs.take k).isEmpty = false := by
    cases e3 : rs.take k with
    | nil => have : (rs.take k).length = 0 := by rw [e3]; rfl
             rw [List.length_take] at this; omega
    | cons a r => rfl
  generalize rs.getD k 0 = c at *
  rcases hc with hc | hc <;> simp [okFrom, e2, hc]
theorem okTo_bad {rs : List Nat} {k : Nat} (hk : k < rs.length) (h1 : letB (rs.getD k 0) = false) (h2 : digB (rs.getD k 0) = false) : okFrom true rs = false := by
 rw [split_at rs k hk]; exact okFrom_bad h1 h2 _
theorem rfname_any (s : ByteArray) (w : World) (hs : s.size ≤ 20000) :
  Calls Try.prog 28 #[.string s] w fun e w' => e = .returned (.bool (nameB s)) ∧ Below w.heap.size w w' := by
 cases hr : runesOf s.data.toList with
 | none =>
  have HX : Hid (false = nameB s) := by show false = _; unfold nameB countN; rw [hr]; rfl
  have HV : Hid (validB s.data.toList = false) := by show _ = _; unfold validB; rw [hr]; rfl
  clear hr
  go_enter Try.func28,Try.ntmps28
  go_wp2_with fail;refine (rall_any s _ hs).mono ?_;rintro e w1 ⟨v,rfl,_,h1⟩;rw [HV.out];go_wp2_with fail;go_ret;exact ⟨ret_bool HX.out,h1⟩
 | some rs =>
  have HX : Hid (nameB s = (decide (1 ≤ rs.length ∧ rs.length ≤ 20) && !keyB s && okFrom true rs)) := nameB_some s rs hr
  have HV : Hid (validB s.data.toList = true) := by show _ = _; unfold validB; rw [hr]; rfl
  have HC : Hid (countN s.data.toList = rs.length) := by show _ = _; unfold countN; rw [hr]; rfl
  have HR : Hid ((runesOf s.data.toList).getD [] = rs) := by show _ = _; rw [hr]; rfl
  clear hr
  go_enter Try.func28,Try.ntmps28
  go_wp2_with fail;refine (rall_any s _ hs).mono ?_;rintro e w1 ⟨v,rfl,ho,h1⟩;rw [HV.out];rw [HC.out,HR.out] at ho;obtain ⟨a,cap,rfl,hc⟩ := owns_form ho;clear ho
  by_cases g1 : rs.length < 1
  ·have hd1 : decide ((rs.length : Int) < 1) = true := by simp; omega
   have HF : Hid (false = nameB s) := by show false = _; rw [HX.out]; simp; omega
   generalize rs.length = n at *;clear hc;go_wp2_with fail;go_ret;exact ⟨ret_bool HF.out,h1⟩
  ·have hd1 : decide ((rs.length : Int) < 1) = false := by simp; omega
   by_cases g2 : 20 < rs.length
   ·have hd2 : decide (20 < (rs.length : Int)) = true := by simp; omega
    have HF : Hid (false = nameB s) := by show false = _; rw [HX.out]; simp; omega
    clear hc;generalize rs.length = n at *;go_wp2_with fail;go_ret;exact ⟨ret_bool HF.out,h1⟩
   ·have hd2 : decide (20 < (rs.length : Int)) = false := by simp; omega
    obtain ⟨g,rfl,hcell⟩ := hc (by omega)
    have hcl : ∀ j,j < rs.length → w1.cell? ⟨g,j,none⟩ = some (.int .i32 ((rs.getD j 0 : Nat) : Int)) := fun j hj => by
     rw [hcell j hj]; simp [runeCells,List.getD_eq_getElem?_getD,List.getElem?_eq_getElem hj]
    have HCL : Hid (∀ j,j < rs.length → w1.cell? ⟨g,j,none⟩ = some (.int .i32 ((rs.getD j 0 : Nat) : Int))) := hcl;have hc0 := hcl 0 (by omega);clear hcell hcl hc;have HL : Hid (rs.length = rs.length) := rfl
    have hn1 : 1 ≤ rs.length := by omega
    have hn2 : rs.length ≤ 20 := by omega
    have H0 : Hid (letB ((rs.getD 0 0 : Nat) : Int) = true → okTo rs 1) := fun hh => by
     unfold okTo
     have : rs.take 1 = [rs.getD 0 0] := by
      match rs,hn1 with
      | c :: r,_ => rfl
     rw [this];generalize rs.getD 0 0 = c at *
     simp [okFrom,hh]
    have H0f : Hid (letB ((rs.getD 0 0 : Nat) : Int) = false → okFrom true rs = false) := fun hh => by
     match rs,hn1,hh with
     | c :: r,_,hh => simp only [List.getD_cons_zero] at hh; simp [okFrom,hh]
    have HD : Hid (okTo rs rs.length → okFrom true rs = true) := fun hh => by unfold okTo at hh; simpa using hh
    have HK : Hid (∀ k,k < rs.length → letB ((rs.getD k 0 : Nat) : Int) = false → digB ((rs.getD k 0 : Nat) : Int) = false → okFrom true rs = false) := fun k hk a b => okTo_bad hk a b
    have HS : Hid (∀ k,okTo rs k → 1 ≤ k → k < rs.length → letB ((rs.getD k 0 : Nat) : Int) = true ∨ digB ((rs.getD k 0 : Nat) : Int) = true → okTo rs (k + 1)) := fun k a b c d => okTo_step a b c d
    have HF : Hid (okFrom true rs = false → false = nameB s) := fun hh => by rw [HX.out,hh]; simp
    have HFK : Hid (keyB s = true → false = nameB s) := fun hh => by rw [HX.out,hh]; simp
    have HT : Hid (keyB s = false → okFrom true rs = true → true = nameB s) := fun a b => by rw [HX.out,a,b]; simp; omega
    generalize rs.length = n at *;clear HX HV HC HR HL;generalize hc0e : ((rs.getD 0 0 : Nat) : Int) = c0 at hc0 H0 H0f;clear hc0e;go_wp2_with fail;refine (rletter_any _ _).mono ?_;rintro e w2 ⟨rfl,rfl⟩
    cases hl0 : letB c0 with
    | false =>
     go_wp2_with fail;go_ret;exact ⟨ret_bool (HF.out (H0f.out hl0)),h1⟩
    | true =>
     have HO : Hid (okTo rs 1) := H0.out hl0;go_wp2_with fail;refine (rkey_any _ _).mono ?_;rintro e w3 ⟨rfl,rfl⟩
     cases hk : keyB s with
     | true =>
      go_wp2_with fail;go_ret;exact ⟨ret_bool (HFK.out hk),h1⟩
     | false =>
      have HKF : Hid (keyB s = false) := hk;clear hk hl0 hc0;go_wp2_with fail
      go_loop [5] (fun i => ∃ k : Nat,1 ≤ k ∧ k ≤ n ∧ i = .int .i64 k ∧ Hid (okTo rs k)) (fun i => n - (intOf i).toNat)
      case atStart => exact ⟨1,by omega,by omega,rfl,HO⟩
      case round =>
       obtain ⟨k,hk1,hk2,rfl,HOk⟩ := hrel
       by_cases hlt : k < n
       ·have hck := HCL.out k hlt;have HSk : Hid (letB ((rs.getD k 0 : Nat) : Int) = true ∨ digB ((rs.getD k 0 : Nat) : Int) = true → okTo rs (k + 1)) := HS.out k HOk.out hk1 hlt;have HKk : Hid (letB ((rs.getD k 0 : Nat) : Int) = false → digB ((rs.getD k 0 : Nat) : Int) = false → okFrom true rs = false) := HK.out k hlt;generalize hce : ((rs.getD k 0 : Nat) : Int) = c at hck HSk HKk;clear hce;go_wp2_with fail;refine (rletter_any _ _).mono ?_;rintro e w4 ⟨rfl,rfl⟩
        cases hl : letB c with
        | true =>
         go_wp2_with fail
         go_round
         case rel => exact ⟨k + 1,by omega,by omega,by go_num,HSk.out (.inl hl)⟩
         case measure => simp [intOf]; omega
        | false =>
         go_wp2_with fail;refine (rdigit_any _ _).mono ?_;rintro e w5 ⟨rfl,rfl⟩
         cases hdg : digB c with
         | true =>
          go_wp2_with fail
          go_round
          case rel => exact ⟨k + 1,by omega,by omega,by go_num,HSk.out (.inr hdg)⟩
          case measure => simp [intOf]; omega
         | false =>
          go_wp2_with fail;go_ret;exact ⟨ret_bool (HF.out (HKk.out hl hdg)),h1⟩
       ·obtain rfl : k = n := by omega
        go_wp2_with fail;go_ret;exact ⟨ret_bool (HT.out HKF.out (HD.out HOk.out)),h1⟩
end
section
open Go.ChangeShapes Go.WideShapes Go.ChangeAt Go.RowKit Go.Maps
def stRows (ns : List ByteArray) : List (List Value) := ns.map fun n => [.string n]
theorem memB_cons (x y : ByteArray) (l : List ByteArray) : memB x (y :: l) = (decide (x = y) || memB x l) := by simp [memB]
theorem rfresh_any {w : World} {v : Value} {ns : List ByteArray} (nm : ByteArray) (hs : nm.size ≤ 20000) (hr : RowG w v 1 (stRows ns)) :
  Calls Try.prog 30 #[.string nm,v] w fun e w' => e = .returned (.bool (freshB nm ns)) ∧ Below w.heap.size w w' := by
 obtain ⟨a,c,rfl,q1,q2⟩ := hr.form2
 have hN : (stRows ns).length = ns.length := by simp [stRows]
 rw [hN] at hr q1 ⊢;clear hN;obtain ⟨N,hN⟩ : ∃ N,ns.length = N := ⟨_,rfl⟩;rw [hN] at hr q1 ⊢;have HN : Hid (ns.length = N) := hN;have HR : Hid (RowG w (.slice a N c) 1 (stRows ns)) := hr;clear hN hr;obtain ⟨A,hA⟩ : ∃ A,freshB nm ns = A := ⟨_,rfl⟩;rw [hA];have HA : Hid (A = (nameB nm && !memB nm (ns.drop 0))) := hA.symm;clear hA
 go_enter Try.func30,Try.ntmps30
 go_wp2_with fail
 go_loopw [5] (fun iv wr => ∃ k : Nat,iv = .int .i64 (k : Int) ∧ k ≤ N ∧ Hid (A = (nameB nm && !memB nm (ns.drop k))) ∧ Below w.heap.size w wr) (fun iv _ => N - (intOf iv).toNat)
 case atStart => exact ⟨0,rfl,by omega,HA,Below.refl _ _⟩
 case round =>
  obtain ⟨k,rfl,hk,HAk,hbel⟩ := hrel
  by_cases hlt : k < N
  ·obtain ⟨f,hf⟩ : ∃ n,ns[k]? = some n := ⟨_,List.getElem?_eq_getElem (by rw [HN.out]; exact hlt)⟩
   have hrr : (stRows ns)[k]? = some [.string f] := by simp [stRows,hf]
   obtain ⟨g,off,rfl,c1⟩ := (HR.out.below hbel).get hrr
   have HA2 : Hid (A = (nameB nm && !(decide (nm = f) || memB nm (ns.drop (k + 1))))) := by
    show _ = _
    rw [HAk.out,drop_at hf,memB_cons]
   have p0 := c1 0 _ rfl;simp only [Nat.mul_one,Nat.add_zero] at p0;clear c1 hrr hf HAk
   by_cases he : f = nm
   ·subst he
    have HA3 : Hid (A = false) := by show _ = _; rw [HA2.out,decide_eq_true rfl]; simp
    clear HA2;go_wp2_with fail;go_ret;exact ⟨ret_bool HA3.out.symm,hbel⟩
   ·have hq := bytes_ne he
    have HA3 : Hid (A = (nameB nm && !memB nm (ns.drop (k + 1)))) := by show _ = _; rw [HA2.out,decide_eq_false (Ne.symm he)]; rfl
    go_wp2_with fail
    go_roundw
    case rel => exact ⟨k + 1,by go_num,by omega,HA3,hbel⟩
    case measure => simp [intOf]; omega
  ·have HA2 : Hid (A = nameB nm) := by show _ = _; rw [HAk.out,drop_end (by rw [HN.out]; omega),memB_nil]; simp
   clear HAk;go_wp2_with fail;refine (rfname_any nm _ hs).mono ?_;rintro e w1 ⟨rfl,hb⟩;go_wp2_with fail;go_ret;exact ⟨ret_bool HA2.out.symm,hbel.trans (hb.mono hbel.size)⟩
theorem find_mn (ms : List MsS) (t : ByteArray) : (ms.find? fun m => decide (m.name = t)).isSome = memB t (ms.map MsS.name) := by
 rw [Bool.eq_iff_iff,List.find?_isSome,memB_iff,List.mem_map]
 simp
theorem find_en (ms : List EnS) (t : ByteArray) : (ms.find? fun m => decide (m.name = t)).isSome = memB t (ms.map EnS.name) := by
 rw [Bool.eq_iff_iff,List.find?_isSome,memB_iff,List.mem_map]
 simp
theorem r7kind_any {w : World} {snm t : ByteArray} {am ae at' : Option Addr} {M cm E ce T ct : Nat} {ms : List MsS} {es : List EnS} (k : Int) (hm : MsIn w (.slice am M cm) ms) (he : EnIn w (.slice ae E ce) es) :
  Calls Try.prog 67 #[.agg #[.string snm,.slice am M cm,.slice ae E ce,.slice at' T ct],.agg #[.int .i64 k,.string t]] w fun e w' => e = .returned (.bool (typeB (ms.map MsS.name) (es.map EnS.name) k t)) ∧ Below w.heap.size w w' := by
 have HM : Hid (MsIn w (.slice am M cm) ms) := hm;have HE : Hid (EnIn w (.slice ae E ce) es) := he;clear hm he;have hb0 : Below w.heap.size w ((w.alloc (.cells #[.string snm,.slice am M cm,.slice ae E ce,.slice at' T ct] 26)).alloc (.cells #[.int .i64 k,.string t] 28)) := ((Below.refl _ _).alloc (Nat.le_refl _) _).alloc (by simp) _;obtain ⟨A,hA⟩ : ∃ A,typeB (ms.map MsS.name) (es.map EnS.name) k t = A := ⟨_,rfl⟩;rw [hA];have HA : Hid (A = typeB (ms.map MsS.name) (es.map EnS.name) k t) := hA.symm;clear hA
 by_cases hk : 1 ≤ k ∧ k ≤ 5
 ·have HA2 : Hid (A = decide (t = ⟨#[]⟩)) := by
   show _ = _
   rw [HA.out];unfold typeB;rw [decide_eq_true hk,decide_eq_false (by omega : ¬ k = 6),decide_eq_false (by omega : ¬ k = 7)]
   simp
  clear HA
  have hc : k = 1 ∨ k = 2 ∨ k = 3 ∨ k = 4 ∨ k = 5 := by omega
  clear hk
  by_cases ht : t = ⟨#[]⟩
  ·have HA3 : Hid (A = true) := by show _ = _; rw [HA2.out]; simp [ht]
   clear HA2;subst ht
   rcases hc with rfl | rfl | rfl | rfl | rfl
   all_goals
    go_enter Try.func67,Try.ntmps67
    go_wp2_with fail;go_ret;exact ⟨ret_bool HA3.out.symm,hb0⟩
  ·have HA3 : Hid (A = false) := by show _ = _; rw [HA2.out]; simp [ht]
   have hq : Hid (t.toList.isEmpty = false) := by
    show _ = _
    cases h : t.toList.isEmpty with
    | false => rfl
    | true =>
     rw [List.isEmpty_iff] at h;refine absurd ((bytes_eq_iff _ _).2 ?_) ht;rw [← ByteArray.toList_eq,h]
   clear HA2 ht
   rcases hc with rfl | rfl | rfl | rfl | rfl
   all_goals
    go_enter Try.func67,Try.ntmps67
    go_wp2_with fail;go_ret;exact ⟨ret_bool (hq.out.trans HA3.out.symm),hb0⟩
 by_cases hk6 : k = 6
 ·subst hk6
  have HA2 : Hid (A = (es.find? fun m => decide (m.name = t)).isSome) := by
   show _ = _
   rw [HA.out,find_en];unfold typeB
   simp
  clear HA hk
  go_enter Try.func67,Try.ntmps67
  go_wp2_with fail;refine (r7enum_any (HE.out.below hb0)).mono ?_;rintro e w1 ⟨vv,rfl,h1,hb⟩;obtain ⟨xa,xc,rfl,_,_⟩ := h1.form2;rw [← HA2.out];generalize ((es.find? fun m => decide (m.name = t)).getD zeroN).name = xn at *;generalize (nmRows ((es.find? fun m => decide (m.name = t)).getD zeroN).values).length = xl at *;have hb1 : Below w.heap.size w (w1.alloc (.cells #[.string xn,.slice xa xl xc] 51)) := (hb0.trans (hb.mono hb0.size)).alloc (hb0.trans (hb.mono hb0.size)).size _;clear h1 hb;go_wp2_with fail;go_ret;exact ⟨rfl,hb1⟩
 by_cases hk7 : k = 7
 ·subst hk7
  have HA2 : Hid (A = (ms.find? fun m => decide (m.name = t)).isSome) := by
   show _ = _
   rw [HA.out,find_mn];unfold typeB
   simp
  clear HA hk hk6
  go_enter Try.func67,Try.ntmps67
  go_wp2_with fail;refine (r7message_any (HM.out.below hb0)).mono ?_;rintro e w1 ⟨vf,vr,rfl,h1,h2,hb⟩;obtain ⟨xa,xc,rfl,_,_⟩ := h1.form2;obtain ⟨ya,yc,rfl,_,_⟩ := h2.form2;rw [← HA2.out];generalize ((ms.find? fun m => decide (m.name = t)).getD zeroM).name = xn at *;generalize (flRows ((ms.find? fun m => decide (m.name = t)).getD zeroM).fields).length = xl at *;generalize (inRows ((ms.find? fun m => decide (m.name = t)).getD zeroM).reserved).length = yl at *;have hb1 : Below w.heap.size w (w1.alloc (.cells #[.string xn,.slice xa xl xc,.slice ya yl yc] 40)) := (hb0.trans (hb.mono hb0.size)).alloc (hb0.trans (hb.mono hb0.size)).size _;clear h1 h2 hb;go_wp2_with fail;go_ret;exact ⟨rfl,hb1⟩
 have HA2 : Hid (A = false) := by
  show _ = _
  rw [HA.out];unfold typeB;rw [decide_eq_false hk,decide_eq_false hk6,decide_eq_false hk7]
  simp
 have k1 : (k == 1) = false := by rw [beq_eq_false_iff_ne]; omega
 have k2 : (k == 2) = false := by rw [beq_eq_false_iff_ne]; omega
 have k3 : (k == 3) = false := by rw [beq_eq_false_iff_ne]; omega
 have k4 : (k == 4) = false := by rw [beq_eq_false_iff_ne]; omega
 have k5 : (k == 5) = false := by rw [beq_eq_false_iff_ne]; omega
 have k6 : (k == 6) = false := by rw [beq_eq_false_iff_ne]; omega
 have k7 : (k == 7) = false := by rw [beq_eq_false_iff_ne]; omega
 clear HA hk hk6 hk7
 go_enter Try.func67,Try.ntmps67
 go_wp2_with fail;go_ret;exact ⟨ret_bool HA2.out.symm,hb0⟩
theorem ret_e {a b : Int} (h : a = b) : Ending.returned (.int .i64 a) = .returned (.int .i64 b) := by rw [h]
theorem infoSt : (Try.prog.info? 9).map (fun i => (i.zero,i.size,i.bytes)) = some (some (.string ⟨#[]⟩),1,16) := by kernel_rfl
theorem str_len (ns : List ByteArray) : ∀ r ∈ stRows ns,r.length = 1 := fun r hr => by simp only [stRows,List.mem_map] at hr; obtain ⟨_,_,rfl⟩ := hr; rfl
def Seen (w : World) (B : Nat) (v : Value) (al : List ByteArray) : Prop := w.ownsRow B 9 1 v al.length (stRows al).flatten
theorem Seen.nil (w : World) (B : Nat) : Seen w B (.slice none 0 0) [] := World.ownsRow_nil _ _ _ _
theorem Seen.row {w : World} {B : Nat} {v : Value} {al : List ByteArray} (h : Seen w B v al) : RowG w v 1 (stRows al) := (RowG.own (str_len al) (by decide) h).1
theorem Seen.below {w w' : World} {B : Nat} {v : Value} {al : List ByteArray} (h : Seen w B v al) (hb : Below w.heap.size w w') : Seen w' B v al := own_below h hb
theorem Seen.form {w : World} {B : Nat} {v : Value} {al : List ByteArray} (h : Seen w B v al) : ∃ a c,v = .slice a al.length c := own_form h
theorem Seen.snoc {w : World} {B : Nat} {v : Value} {al : List ByteArray} {x : ByteArray} (h : w.ownsRow B 9 1 v (al.length + 1) ((stRows al).flatten ++ [.string x])) : Seen w B v (al ++ [x]) := by
 show World.ownsRow _ _ _ _ _ _ _
 rw [show (al ++ [x]).length = al.length + 1 by simp,show (stRows (al ++ [x])).flatten = (stRows al).flatten ++ [.string x] by simp [stRows]];exact h
theorem wpList_seen {w : World} {ops : Array Oper} {rest : List Oper} {o : Oper} {a : Act} {Q : Exit → Act → World → Prop} {B : Nat} {v : Value} {al : List ByteArray} {x : ByteArray} (hgd : o.guard = none) (s y : Operand)
  (ho : o.op = .call { callee := .builtin .append,args := #[s,y],argTypes := #[76,76] }) (hs : a.eval s = v) (hy : a.eval y = .slice (some ⟨w.heap.size,0,none⟩) 1 1) (hown : Seen w B v al) (hB : B ≤ w.heap.size) (hn : al.length ≤ 100000)
  (h : ∀ v' w',Seen w' B v' (al ++ [x]) → Kp (fun k => v.ownBlock = some k) w w' → Below B w w' → wpList Try.prog ops Q rest (a.put o.dst v') w') : wpList Try.prog ops Q (o :: rest) a (w.alloc (.cells #[.string x] 9)) := by
 have hba : Below w.heap.size w (w.alloc (.cells #[.string x] 9)) := (Below.refl _ _).alloc (Nat.le_refl _) _;refine wpList_joinG hgd s y 76 9 1 16 _ ho Try.underlying76 infoSt rfl (by decide) B v al.length (stRows al).flatten hs (own_below hown hba) (.slice (some ⟨w.heap.size,0,none⟩) 1 1) [[.string x]] hy (RowG.blk (Blk.new w _ _) rfl (by simp) rfl (by omega)) (by simp) (by simp [Value.oneCell']) (by simp; omega) (by decide) (Nat.le_trans hB hba.size) ?_;intro v' w' ho' hg;refine h v' w' (Seen.snoc (by simpa using ho')) ?_ ?_
 ·exact (Kp.ofBelow hba).trans ((Kp.refl _ _).grown hg (fun k hk _ => hk))
 ·exact ((Below.refl B w).alloc hB _).grown hg (by have := hba.size; omega) (fun k hk => ((own_below hown hba).lt k hk).1)
theorem chkEb_big {e : EnS} (h : 16 < e.values.length) : chkEb e = 4 := by unfold chkEb; rw [if_pos h]
theorem rfenum_any {w : World} {vv : Value} {nm : ByteArray} {vs : List NmS} (hr : RowG w vv 2 (nmRows vs)) (hl : vs.length ≤ 30000) (hw : ∀ f ∈ vs,f.name.size ≤ 20000) :
  Calls Try.prog 49 #[.agg #[.string nm,vv]] w fun e w' => e = .returned (.int .i64 (chkEb ⟨nm,vs⟩)) ∧ Below w.heap.size w w' := by
 obtain ⟨a,c,rfl,q1,q2⟩ := hr.form2
 have hN : (nmRows vs).length = vs.length := by simp [nmRows]
 rw [hN] at q1 hr ⊢;obtain ⟨N,hN2⟩ : ∃ N,vs.length = N := ⟨_,rfl⟩;rw [hN2] at q1 hr hl ⊢;have HN : Hid (vs.length = N) := hN2;have HR : Hid (RowG w (.slice a N c) 2 (nmRows vs)) := hr;have HW : Hid (∀ f ∈ vs,f.name.size ≤ 20000) := hw;clear hr hN hN2 hw;obtain ⟨A,hA⟩ : ∃ A,chkEb ⟨nm,vs⟩ = A := ⟨_,rfl⟩;rw [hA];have HA : Hid (A = chkEb ⟨nm,vs⟩) := hA.symm;clear hA;have hba : Below w.heap.size w (w.alloc (.cells #[.string nm,.slice a N c] 51)) := (Below.refl _ _).alloc (Nat.le_refl _) _;have BX := Blk.new w #[.string nm,.slice a N c] 51
 by_cases hbig : 16 < N
 ·have HA2 : Hid (A = 4) := by show _ = _; rw [HA.out]; exact chkEb_big (by show 16 < vs.length; rw [HN.out]; exact hbig)
  go_enter Try.func49,Try.ntmps49
  go_wp2_with fail;go_ret;exact ⟨ret_e HA2.out.symm,hba⟩
 have HA1 : Hid (A = if zeroV vs = false then 12 else chkVs [] [] vs) := by
  show _ = _
  rw [HA.out]; unfold chkEb;rw [if_neg (by show ¬ 16 < vs.length; rw [HN.out]; exact hbig)]
  rfl
 clear HA
 go_enter Try.func49,Try.ntmps49
 go_wp2_with fail;generalize w.alloc (.cells #[.string nm,.slice a N c] 51) = wb at *
 go_loopw [3,4] (fun zv iv wr => ∃ (k : Nat) (z : Bool),zv = .bool z ∧ iv = .int .i64 (k : Int) ∧ k ≤ N ∧ Hid (zeroV vs = (z || zeroV (vs.drop k))) ∧ wr = wb) (fun _ iv _ => N - (intOf iv).toNat)
 case atStart => exact ⟨0,false,rfl,rfl,by omega,by show _ = _; simp,rfl⟩
 case round =>
  obtain ⟨k,z,rfl,rfl,hk,HZ,rfl⟩ := hrel;have x1 : wr.cell? ⟨w.heap.size,1,none⟩ = some (.slice a N c) := BX.cell 1
  by_cases hlt : k < N
  ·obtain ⟨f,hf⟩ : ∃ n,vs[k]? = some n := ⟨_,List.getElem?_eq_getElem (by rw [HN.out]; exact hlt)⟩
   have hrr : (nmRows vs)[k]? = some f.cells := by simp [nmRows,hf]
   obtain ⟨g,off,rfl,c1⟩ := (HR.out.below hba).get hrr;obtain ⟨f0,f1⟩ := f
   have HZ2 : Hid (zeroV vs = (z || (decide (f1 = 0) || zeroV (vs.drop (k + 1))))) := by
    show _ = _
    rw [HZ.out,drop_at hf]; rfl
   have p1 := c1 1 _ rfl;clear c1 hrr hf HZ
   cases z with
   | true =>
    have HZ3 : Hid (zeroV vs = (true || zeroV (vs.drop (k + 1)))) := by show _ = _; rw [HZ2.out]; rfl
    go_wp2_with fail
    go_roundw
    case rel => exact ⟨k + 1,true,rfl,by go_num,by omega,HZ3,trivial⟩
    case measure => simp [intOf]; omega
   | false =>
    by_cases h0 : f1 = 0
    ·subst h0
     have HZ3 : Hid (zeroV vs = (true || zeroV (vs.drop (k + 1)))) := by show _ = _; rw [HZ2.out]; rfl
     go_wp2_with fail
     go_roundw
     case rel => exact ⟨k + 1,true,rfl,by go_num,by omega,HZ3,trivial⟩
     case measure => simp [intOf]; omega
    ·have hq : (f1 == 0) = false := by rw [beq_eq_false_iff_ne]; exact h0
     have HZ3 : Hid (zeroV vs = (false || zeroV (vs.drop (k + 1)))) := by show _ = _; rw [HZ2.out,decide_eq_false h0]; rfl
     go_wp2_with fail
     go_roundw
     case rel => exact ⟨k + 1,false,rfl,by go_num,by omega,HZ3,trivial⟩
     case measure => simp [intOf]; omega
  ·have HZ2 : Hid (zeroV vs = z) := by show _ = _; rw [HZ.out,drop_end (by rw [HN.out]; omega)]; simp [zeroV]
   clear HZ
   cases z with
   | false =>
    have HA2 : Hid (A = 12) := by show _ = _; rw [HA1.out,HZ2.out]; rfl
    clear HA1 HZ2;go_wp2_with fail;go_ret;exact ⟨ret_e HA2.out.symm,hba⟩
   | true =>
    have HA2 : Hid (A = chkVs [] ((vs.take 0).map NmS.n) (vs.drop 0)) := by show _ = _; rw [HA1.out,HZ2.out]; rfl
    clear HA1 HZ2;go_wp2_with fail;clear x1;have HS0 : Hid (Seen wr w.heap.size (.slice none 0 0) []) := Seen.nil _ _
    go_loopw [5,6] (fun nv iv wr => ∃ (k : Nat) (al : List ByteArray) (sa : Option Addr) (sc : Nat),nv = .slice sa k sc ∧ iv = .int .i64 (k : Int) ∧ k ≤ N ∧ Hid (al.length = k) ∧ Hid (A = chkVs al ((vs.take k).map NmS.n) (vs.drop k)) ∧ Hid (Seen wr w.heap.size (.slice sa k sc) al) ∧ Below w.heap.size w wr ∧ Blk wr w.heap.size #[.string nm,.slice a N c] 51) (fun _ iv _ => N - (intOf iv).toNat)
    case atStart => exact ⟨0,[],none,0,rfl,rfl,by omega,rfl,HA2,HS0,hba,BX⟩
    case round =>
     clear HA2 HS0 hba BX hlt hk;obtain ⟨k,al,sa,sc,rfl,rfl,hk,HK,HAk,HSE,hbel,BX⟩ := hrel;have x1 : wr.cell? ⟨w.heap.size,1,none⟩ = some (.slice a N c) := BX.cell 1
     by_cases hlt : k < N
     ·obtain ⟨f,hf⟩ : ∃ n,vs[k]? = some n := ⟨_,List.getElem?_eq_getElem (by rw [HN.out]; exact hlt)⟩
      have hrr : (nmRows vs)[k]? = some f.cells := by simp [nmRows,hf]
      obtain ⟨g,off,rfl,c1⟩ := (HR.out.below hbel).get hrr;have hsz := HW.out _ (List.mem_of_getElem? hf);obtain ⟨f0,f1⟩ := f;simp only at hsz
      have HA3 : Hid (A = if freshB f0 al = false then 6 else if numB f1 ((vs.take k).map NmS.n) = false then 11 else chkVs (al ++ [f0]) ((vs.take k).map NmS.n ++ [f1]) (vs.drop (k + 1))) := by
       show _ = _
       rw [HAk.out,drop_at hf]; rfl
      have HT : Hid ((vs.take (k + 1)).map NmS.n = (vs.take k).map NmS.n ++ [f1]) := by
       show _ = _
       rw [List.take_add_one,hf]; simp
      have p0 := c1 0 _ rfl;have p1 := c1 1 _ rfl;simp only [Nat.add_zero] at p0 p1;have ha : Below wr.heap.size wr (wr.alloc (.cells #[.string f0,.int .i64 f1] 53)) := (Below.refl _ _).alloc (Nat.le_refl _) _;have BV := Blk.new wr #[.string f0,.int .i64 f1] 53;clear c1 hrr hf HAk;go_wp2_with fail;clear x1 p0 p1;refine (rfresh_any f0 hsz (HSE.out.below ha).row).mono ?_;rintro e w1 ⟨rfl,hb1⟩;have hbw1 : Below w.heap.size w w1 := (hbel.trans (ha.mono hbel.size)).trans (hb1.mono (hbel.trans (ha.mono hbel.size)).size);have HS1 : Hid (Seen w1 w.heap.size (.slice sa k sc) al) := (HSE.out.below ha).below hb1;have BX1 := (BX.below ha).below hb1;have BV1 := BV.below hb1;clear BV ha hb1 HSE
      cases hfr : freshB f0 al with
      | false =>
       have HA4 : Hid (A = 6) := by show _ = _; rw [HA3.out,if_pos hfr]
       clear HA3;go_wp2_with fail;go_ret;exact ⟨ret_e HA4.out.symm,hbw1⟩
      | true =>
       have HA4 : Hid (A = if numB f1 ((vs.take k).map NmS.n) = false then 11 else chkVs (al ++ [f0]) ((vs.take k).map NmS.n ++ [f1]) (vs.drop (k + 1))) := by show _ = _; rw [HA3.out,if_neg (by rw [hfr]; decide)]
       clear HA3 hfr;obtain ⟨bv,hbv⟩ : ∃ n,wr.heap.size = n := ⟨_,rfl⟩;rw [hbv] at BV1 ⊢;clear hbv hbel BX;have v0 : w1.cell? ⟨bv,0,none⟩ = some (.string f0) := BV1.cell 0
       go_wp2_with (first
        | (at_builtin; refine wpList_seen (al := al) (x := f0) rfl _ _ rfl rfl rfl HS1.out ?c1 ?c2 ?_)
        | fail)
       case c1 => exact hbw1.size
       case c2 => rw [HK.out]; omega
       intro v' w2 hS2 hK2 hB2;obtain ⟨ta,tc,rfl⟩ := hS2.form
       have hl2 : (al ++ [f0]).length = k + 1 := by rw [List.length_append,HK.out]; rfl
       rw [hl2] at hS2 ⊢;have HS2 : Hid (Seen w2 w.heap.size (.slice ta (k + 1) tc) (al ++ [f0])) := hS2;have HK2 : Hid ((al ++ [f0]).length = k + 1) := hl2;have hb2 : Below w.heap.size w w2 := hbw1.trans hB2;have BX2 := BX1.kp hK2 (fun e => absurd (own_type HS1.out e BX1) (by decide));have BV2 := BV1.kp hK2 (fun e => absurd (own_type HS1.out e BV1) (by decide));have v1 : w2.cell? ⟨bv,1,none⟩ = some (.int .i64 f1) := BV2.cell 1;clear v0 hS2 hl2 hK2 hB2 BX1 BV1 HS1 hbw1 HK
       by_cases hlo : f1 < 0
       ·have HA5 : Hid (A = 11) := by show _ = _; rw [HA4.out,if_pos (by unfold numB; rw [numR_low hlo]; rfl)]
        clear HA4;go_wp2_with fail;go_ret;exact ⟨ret_e HA5.out.symm,hb2⟩
       by_cases hhi : 2147483647 < f1
       ·have HA5 : Hid (A = 11) := by show _ = _; rw [HA4.out,if_pos (by unfold numB; rw [numR_high hhi]; rfl)]
        clear HA4;go_wp2_with fail;go_ret;exact ⟨ret_e HA5.out.symm,hb2⟩
       have HNR : Hid (numR f1 = true) := numR_in hlo hhi;go_wp2_with fail;clear v1
       go_loopw [8] (fun jv wr => ∃ j : Nat,jv = .int .i64 (j : Int) ∧ j ≤ k ∧ Hid (memI f1 ((vs.take j).map NmS.n) = false) ∧ Below w2.heap.size w2 wr) (fun jv _ => k - (intOf jv).toNat)
       case atStart => exact ⟨0,rfl,by omega,by show _ = _; simp [memI],Below.refl _ _⟩
       case round =>
        obtain ⟨j,rfl,hj,HJ,hb3⟩ := hrel;have hbw3 : Below w.heap.size w wr := hb2.trans (hb3.mono hb2.size)
        by_cases hltj : j < k
        ·obtain ⟨f',hf'⟩ : ∃ n,vs[j]? = some n := ⟨_,List.getElem?_eq_getElem (by rw [HN.out]; omega)⟩
         have hrr : (nmRows vs)[j]? = some f'.cells := by simp [nmRows,hf']
         obtain ⟨g',off',heq,c1⟩ := (HR.out.below hbw3).get hrr;simp only [Option.some.injEq,Addr.mk.injEq,and_true] at heq;obtain ⟨rfl,rfl⟩ := heq;obtain ⟨e0,e1⟩ := f'
         have HJ2 : Hid (memI f1 ((vs.take (j + 1)).map NmS.n) = (memI f1 ((vs.take j).map NmS.n) || decide (f1 = e1))) := by
          show _ = _
          rw [List.take_add_one,hf']; simp only [List.map_append,Option.toList_some,List.map_cons,List.map_nil]; exact memI_snoc _ _ _
         have HJM : Hid (e1 ∈ (vs.take k).map NmS.n) := List.mem_map.2 ⟨⟨e0,e1⟩,List.mem_of_getElem? (i := j) (by rw [List.getElem?_take_of_lt hltj]; exact hf'),rfl⟩;have p1 := c1 1 _ rfl;have x1 : wr.cell? ⟨w.heap.size,1,none⟩ = some (.slice (some ⟨g,off,none⟩) N c) := (BX2.below hb3).cell 1;have v1 : wr.cell? ⟨bv,1,none⟩ = some (.int .i64 f1) := (BV2.below hb3).cell 1;clear c1 hrr hf'
         by_cases he : e1 = f1
         ·subst he
          have HA5 : Hid (A = 11) := by show _ = _; rw [HA4.out,if_pos (by unfold numB memI; rw [decide_eq_true HJM.out]; simp)]
          clear HA4;go_wp2_with fail
          go_quiet (fail)
          go_wp2_with fail;go_ret;exact ⟨ret_e HA5.out.symm,below_drewN nq hbw3⟩
         ·have hq : (e1 == f1) = false := by rw [beq_eq_false_iff_ne]; exact he
          have HJ3 : Hid (memI f1 ((vs.take (j + 1)).map NmS.n) = false) := by show _ = _; rw [HJ2.out,HJ.out,decide_eq_false (Ne.symm he)]; rfl
          go_wp2_with fail
          go_quiet (fail)
          go_wp2_with fail
          go_roundw
          case rel => exact ⟨j + 1,by go_num,by omega,HJ3,below_drewN nq hb3⟩
          case measure => simp [intOf]; omega
        ·have hjk : j = k := by omega
         rw [hjk] at HJ
         have HA5 : Hid (A = chkVs (al ++ [f0]) ((vs.take (k + 1)).map NmS.n) (vs.drop (k + 1))) := by
          show _ = _
          rw [HA4.out,if_neg (by unfold numB; rw [HNR.out,HJ.out]; decide),HT.out]
         have HS3 : Hid (Seen wr w.heap.size (.slice ta (k + 1) tc) (al ++ [f0])) := HS2.out.below hb3;have BX3 := BX2.below hb3;clear hjk HA4 HJ BX2 BV2 HS2 hb3 hb2;go_wp2_with fail
         go_roundw
         case rel => exact ⟨k + 1,al ++ [f0],ta,tc,rfl,by go_num,by omega,HK2,HA5,HS3,hbw3,BX3⟩
         case measure => simp [intOf]; omega
     ·have HA3 : Hid (A = 0) := by show _ = _; rw [HAk.out,drop_end (by rw [HN.out]; omega)]; rfl
      clear HAk;go_wp2_with fail;go_ret;exact ⟨ret_e HA3.out.symm,hbel⟩
theorem memI_cons' (x y : Int) (l : List Int) : memI x (y :: l) = (decide (x = y) || memI x l) := by simp [memI,Bool.decide_or]
theorem rreserved_any {w : World} {v : Value} {ns : List Int} {snm : ByteArray} {af : Option Addr} {F cf : Nat} (t : Int) (hr : RowG w v 1 (inRows ns)) :
  Calls Try.prog 40 #[.agg #[.string snm,.slice af F cf,v],.int .i64 t] w fun e w' => e = .returned (.bool (memI t ns)) ∧ Below w.heap.size w w' := by
 obtain ⟨a,c,rfl,q1,q2⟩ := hr.form2
 have hN : (inRows ns).length = ns.length := by simp [inRows]
 rw [hN] at hr q1 ⊢;clear hN;obtain ⟨N,hN⟩ : ∃ N,ns.length = N := ⟨_,rfl⟩;rw [hN] at hr q1 ⊢;have HN : Hid (ns.length = N) := hN;have HR : Hid (RowG w (.slice a N c) 1 (inRows ns)) := hr;clear hN hr;obtain ⟨A,hA⟩ : ∃ A,memI t ns = A := ⟨_,rfl⟩;rw [hA];have HA : Hid (A = memI t ns) := hA.symm;clear hA;have hb0 : Below w.heap.size w (w.alloc (.cells #[.string snm,.slice af F cf,.slice a N c] 40)) := (Below.refl _ _).alloc (Nat.le_refl _) _;have BX0 := Blk.new w #[.string snm,.slice af F cf,.slice a N c] 40
 go_enter Try.func40,Try.ntmps40
 go_wp2_with fail
 go_loopw [5] (fun iv wr => ∃ k : Nat,iv = .int .i64 (k : Int) ∧ k ≤ N ∧ Hid (A = memI t (ns.drop k)) ∧ Below w.heap.size w wr ∧ Blk wr w.heap.size #[.string snm,.slice af F cf,.slice a N c] 40) (fun iv _ => N - (intOf iv).toNat)
 case atStart => exact ⟨0,rfl,by omega,HA,hb0,BX0⟩
 case round =>
  obtain ⟨k,rfl,hk,HAk,hbel,BX⟩ := hrel;clear hb0 BX0;have b2 : wr.cell? ⟨w.heap.size,2,none⟩ = some (.slice a N c) := BX.cell 2
  by_cases hlt : k < N
  ·obtain ⟨f,hf⟩ : ∃ n,ns[k]? = some n := ⟨_,List.getElem?_eq_getElem (by rw [HN.out]; exact hlt)⟩
   have hrr : (inRows ns)[k]? = some [.int .i64 f] := by simp [inRows,hf]
   obtain ⟨g,off,rfl,c1⟩ := (HR.out.below hbel).get hrr
   have HA2 : Hid (A = (decide (t = f) || memI t (ns.drop (k + 1)))) := by
    show _ = _
    rw [HAk.out,drop_at hf,memI_cons']
   have p0 := c1 0 _ rfl;simp only [Nat.mul_one,Nat.add_zero] at p0;clear c1 hrr hf HAk
   by_cases he : t = f
   ·subst he
    have HA3 : Hid (A = true) := by show _ = _; rw [HA2.out,decide_eq_true rfl]; rfl
    clear HA2;go_wp2_with fail;go_ret;exact ⟨ret_bool HA3.out.symm,hbel⟩
   ·have hq : (f == t) = false := by simpa using Ne.symm he
    have HA3 : Hid (A = memI t (ns.drop (k + 1))) := by show _ = _; rw [HA2.out,decide_eq_false he]; rfl
    go_wp2_with fail
    go_roundw
    case rel => exact ⟨k + 1,by go_num,by omega,HA3,hbel,BX⟩
    case measure => simp [intOf]; omega
  ·go_wp2_with fail;go_ret;exact ⟨ret_bool (by rw [HAk.out,drop_end (by rw [HN.out]; omega)]; rfl),hbel⟩
theorem r7field_any {w : World} {snm : ByteArray} {nm : Int} {am : Option Addr} {M cm : Nat} {vt : Value} {ts : List FlS} (hr : RowG w vt 5 (flRows ts)) :
  Calls Try.prog 41 #[.agg #[.string snm,vt,.slice am M cm],.int .i64 nm] w fun e w' => e = .returned (.tuple #[flV ((ts.find? fun m => decide (m.tag = nm)).getD zeroF),.bool (ts.find? fun m => decide (m.tag = nm)).isSome]) ∧ Below w.heap.size w w' := by
 obtain ⟨a,c,rfl,q1,q2⟩ := hr.form2
 have hN : (flRows ts).length = ts.length := by simp [flRows]
 rw [hN] at hr q1 ⊢;clear hN;obtain ⟨N,hN⟩ : ∃ N,ts.length = N := ⟨_,rfl⟩;rw [hN] at hr q1 ⊢;have HN : Hid (ts.length = N) := hN;have HR : Hid (RowG w (.slice a N c) 5 (flRows ts)) := hr;clear hN hr;obtain ⟨A,hA⟩ : ∃ A,(ts.find? fun m => decide (m.tag = nm)) = A := ⟨_,rfl⟩;rw [hA];have HA : Hid (A = ((ts.drop 0).find? fun m => decide (m.tag = nm))) := hA.symm;clear hA;have BX0 : Blk ((w.alloc (.cells #[.string snm,.slice a N c,.slice am M cm] 40)).alloc (.cells #[.string ⟨#[]⟩,.int .i64 0,.int .i64 0,.int .i64 0,.string ⟨#[]⟩] 42)) w.heap.size #[.string snm,.slice a N c,.slice am M cm] 40 := (Blk.new w _ _).below ((Below.refl _ _).alloc (Nat.le_refl _) _)
 have BR0 : Blk ((w.alloc (.cells #[.string snm,.slice a N c,.slice am M cm] 40)).alloc (.cells #[.string ⟨#[]⟩,.int .i64 0,.int .i64 0,.int .i64 0,.string ⟨#[]⟩] 42)) (w.heap.size + 1) #[.string ⟨#[]⟩,.int .i64 0,.int .i64 0,.int .i64 0,.string ⟨#[]⟩] 42 := by
  have := Blk.new (w.alloc (.cells #[.string snm,.slice a N c,.slice am M cm] 40)) #[.string ⟨#[]⟩,.int .i64 0,.int .i64 0,.int .i64 0,.string ⟨#[]⟩] 42
  rwa [show (w.alloc (.cells #[.string snm,.slice a N c,.slice am M cm] 40)).heap.size = w.heap.size + 1 by simp] at this
 have hb0 : Below w.heap.size w ((w.alloc (.cells #[.string snm,.slice a N c,.slice am M cm] 40)).alloc (.cells #[.string ⟨#[]⟩,.int .i64 0,.int .i64 0,.int .i64 0,.string ⟨#[]⟩] 42)) := ((Below.refl _ _).alloc (Nat.le_refl _) _).alloc (by simp) _
 go_enter Try.func41,Try.ntmps41
 go_wp2_with fail
 go_loopw [6] (fun iv wr => ∃ k : Nat,iv = .int .i64 (k : Int) ∧ k ≤ N ∧ Hid (A = ((ts.drop k).find? fun m => decide (m.tag = nm))) ∧ Below w.heap.size w wr ∧ Blk wr (w.heap.size + 1) #[.string ⟨#[]⟩,.int .i64 0,.int .i64 0,.int .i64 0,.string ⟨#[]⟩] 42 ∧ Blk wr w.heap.size #[.string snm,.slice a N c,.slice am M cm] 40) (fun iv _ => N - (intOf iv).toNat)
 case atStart => exact ⟨0,rfl,by omega,HA,hb0,BR0,BX0⟩
 case round =>
  obtain ⟨k,rfl,hk,HAk,hbel,BR,BX⟩ := hrel;clear BX0 BR0 hb0;have hlt2 : w.heap.size + 1 < wr.heap.size := BR.lt;have r0 := (BR.cell 0).trans rfl;have z0 := BR.froz 0;have r1 := (BR.cell 1).trans rfl;have z1 := BR.froz 1;have r2 := (BR.cell 2).trans rfl;have z2 := BR.froz 2;have r3 := (BR.cell 3).trans rfl;have z3 := BR.froz 3;have r4 := (BR.cell 4).trans rfl;have z4 := BR.froz 4;have x1 : wr.cell? ⟨w.heap.size,1,none⟩ = some (.slice a N c) := BX.cell 1
  by_cases hlt : k < N
  ·obtain ⟨f,hf⟩ : ∃ n,ts[k]? = some n := ⟨_,List.getElem?_eq_getElem (by rw [HN.out]; exact hlt)⟩
   have hrr : (flRows ts)[k]? = some f.cells := by simp [flRows,hf]
   obtain ⟨g,off,rfl,c1⟩ := (HR.out.below hbel).get hrr;obtain ⟨f0,f1,f2,f3,f4⟩ := f
   have HA2 : Hid (A = if decide (f1 = nm) = true then some ⟨f0,f1,f2,f3,f4⟩ else ((ts.drop (k + 1)).find? fun m => decide (m.tag = nm))) := by
    show _ = _
    rw [HAk.out,drop_at hf,List.find?_cons]
    cases decide (f1 = nm) <;> rfl
   have p0 := c1 0 _ rfl;have p1 := c1 1 _ rfl;have p2 := c1 2 _ rfl;have p3 := c1 3 _ rfl;have p4 := c1 4 _ rfl;simp only [Nat.add_zero] at p0 p1 p2 p3 p4;clear c1 hrr hf HAk
   by_cases he : f1 = nm
   ·subst he;go_wp2_with fail;refine bodyPost_ret (results_two rfl _ _ _ ⟨w.heap.size + 1,0,none⟩ (.agg #[.string f0,.int .i64 f1,.int .i64 f2,.int .i64 f3,.string f4]) (by go_simp) (by go_simp)) rfl ?_;exact ⟨ret_two (by rw [HA2.out,if_pos (by simp)]; rfl) (by rw [HA2.out,if_pos (by simp)]; rfl),(Below.setCell (Below.setCell (Below.setCell (Below.setCell (Below.setCell hbel (by simp) _) (by simp) _) (by simp) _) (by simp) _) (by simp) _)⟩
   ·have hq : (f1 == nm) = false := by simpa using he
    have HA3 : Hid (A = ((ts.drop (k + 1)).find? fun m => decide (m.tag = nm))) := by show _ = _; rw [HA2.out,if_neg (by simpa using he)]
    go_wp2_with fail
    go_roundw
    case rel => exact ⟨k + 1,by go_num,by omega,HA3,hbel,BR,BX⟩
    case measure => simp [intOf]; omega
  ·have HA2 : Hid (A = none) := by show _ = _; rw [HAk.out,drop_end (by rw [HN.out]; omega)]; rfl
   go_wp2_with fail;refine bodyPost_ret (results_two rfl _ _ _ ⟨w.heap.size + 1,0,none⟩ (.agg #[.string ⟨#[]⟩,.int .i64 0,.int .i64 0,.int .i64 0,.string ⟨#[]⟩]) (by go_simp) (by go_simp)) rfl ?_;exact ⟨ret_two (by rw [HA2.out]; rfl) (by rw [HA2.out]; rfl),(Below.setCell (Below.setCell (Below.setCell (Below.setCell (Below.setCell hbel (by simp) _) (by simp) _) (by simp) _) (by simp) _) (by simp) _)⟩
end
section
theorem rg_ca3 {P : Program} {md : Region.Mode} {ops : Array Oper} {Q : Exit → Act → World → Prop} {S : World → Prop} {fuel : Nat} {listed : Array Bool} {a : Act} {w : World} {oi oj o1 o2 o3 : Oper} (i j k1 k2 k3 di dj d1 d2 d3 f : Nat) (vals : Array Value) (z : World → Value) (N : World → World) (F1 F2 F3 : Value → Value) (U : Value → Prop) (C : Value → Value → World → Prop)
  (hi : ops[i]? = some oi) (hj : ops[j]? = some oj) (h1 : ops[k1]? = some o1) (h2 : ops[k2]? = some o2) (h3 : ops[k3]? = some o3) (hdi : oi.dst = some di) (hdj : oj.dst = some dj) (hd1 : o1.dst = some d1) (hd2 : o2.dst = some d2) (hd3 : o3.dst = some d3)
  (ij : j ≠ i) (j1 : j ≠ k1) (j2 : j ≠ k2) (j3 : j ≠ k3) (dij : dj ≠ di) (dj1 : dj ≠ d1) (dj2 : dj ≠ d2) (dj3 : dj ≠ d3)
  (hr : Region.ready md ops listed = [i,j]) (hrj : Region.ready md ops (listed.setIfInBounds j true) = [i]) (hs : Region.noSelect ops = true)
  (fA1 : Region.free md ops (listed.setIfInBounds i true) k1 = true) (rA1 : (Region.ready md ops (listed.setIfInBounds i true)).contains k1 = true)
  (fA2 : Region.free md ops ((listed.setIfInBounds i true).setIfInBounds k1 true) k2 = true) (rA2 : (Region.ready md ops ((listed.setIfInBounds i true).setIfInBounds k1 true)).contains k2 = true)
  (fA3 : Region.free md ops (((listed.setIfInBounds i true).setIfInBounds k1 true).setIfInBounds k2 true) k3 = true) (rA3 : (Region.ready md ops (((listed.setIfInBounds i true).setIfInBounds k1 true).setIfInBounds k2 true)).contains k3 = true)
  (rA4 : Region.ready md ops ((((listed.setIfInBounds i true).setIfInBounds k1 true).setIfInBounds k2 true).setIfInBounds k3 true) = [j])
  (fB1 : Region.free md ops ((listed.setIfInBounds j true).setIfInBounds i true) k1 = true) (rB1 : (Region.ready md ops ((listed.setIfInBounds j true).setIfInBounds i true)).contains k1 = true)
  (fB2 : Region.free md ops (((listed.setIfInBounds j true).setIfInBounds i true).setIfInBounds k1 true) k2 = true) (rB2 : (Region.ready md ops (((listed.setIfInBounds j true).setIfInBounds i true).setIfInBounds k1 true)).contains k2 = true)
  (fB3 : Region.free md ops ((((listed.setIfInBounds j true).setIfInBounds i true).setIfInBounds k1 true).setIfInBounds k2 true) k3 = true) (rB3 : (Region.ready md ops ((((listed.setIfInBounds j true).setIfInBounds i true).setIfInBounds k1 true).setIfInBounds k2 true)).contains k3 = true)
  (hwi : ∀ t,Region.wanted oi t = true) (hwj : ∀ t,Region.wanted oj t = true) (hw1 : ∀ t,Region.wanted o1 t = true) (hw2 : ∀ t,Region.wanted o2 t = true) (hw3 : ∀ t,Region.wanted o3 t = true)
  (hQ : ∀ (d : Option Nat) v c a w,Q (.panic c) (Act.put a d v) w → Q (.panic c) a w)
  (hxj : ∀ (a' : Act) w',(execOp a'.eval oj).run P w' = .ok (.value (z w')) (N w'))
  (hxi : ∀ w',(execOp a.eval oi).run P w' = .ok (.enter f vals) w') (hxi' : ∀ v w',(execOp (a.put (some dj) v).eval oi).run P w' = .ok (.enter f vals) w')
  (x1 : ∀ v w',U v → (execOp (a.put (some di) v).eval o1).run P w' = .ok (.value (F1 v)) w') (x1' : ∀ v p w',U v → (execOp ((a.put (some dj) p).put (some di) v).eval o1).run P w' = .ok (.value (F1 v)) w')
  (x2 : ∀ v w',U v → (execOp ((a.put (some di) v).put (some d1) (F1 v)).eval o2).run P w' = .ok (.value (F2 v)) w') (x2' : ∀ v p w',U v → (execOp (((a.put (some dj) p).put (some di) v).put (some d1) (F1 v)).eval o2).run P w' = .ok (.value (F2 v)) w')
  (x3 : ∀ v w',U v → (execOp (((a.put (some di) v).put (some d1) (F1 v)).put (some d2) (F2 v)).eval o3).run P w' = .ok (.value (F3 v)) w') (x3' : ∀ v p w',U v → (execOp ((((a.put (some dj) p).put (some di) v).put (some d1) (F1 v)).put (some d2) (F2 v)).eval o3).run P w' = .ok (.value (F3 v)) w')
  (hA : Calls P f vals w fun e w' => ∃ v,e = .returned v ∧ U v ∧ S w' ∧ S (N w') ∧ C v (z w') (N w'))
  (hB : S (N w) ∧ Calls P f vals (N w) fun e w' => ∃ v,e = .returned v ∧ U v ∧ S w' ∧ C v (z w) w')
  (h : ∀ v p w',U v → S w' → C v p w' → wpAnyH P md ops Q S fuel (((((listed.setIfInBounds i true).setIfInBounds k1 true).setIfInBounds k2 true).setIfInBounds k3 true).setIfInBounds j true) { a with tmps := ((((a.tmps.setIfInBounds di v).setIfInBounds d1 (F1 v)).setIfInBounds d2 (F2 v)).setIfInBounds d3 (F3 v)).setIfInBounds dj p } w') :
  wpAnyH P md ops Q S (fuel + 5) listed a w := by
 refine wpAnyH_ready (rs := [i,j]) hr (by simp) (AllReadyH.cons hi (fun K hK => ?_) (AllReadyH.cons hj (fun K hK => ?_) AllReadyH.nil))
 ·rw [if_pos (hwi _)];unfold Oper.wp;rw [hxi];refine Calls.mono hA ?_;rintro e w1 ⟨v,rfl,u,s1,s2,c⟩;refine hK.out _ _ s1 (fun _ => ?_);rw [hdi];refine rg_take k1 d1 (F1 v) _ h1 hd1 hs fA1 rA1 (fun c a w => hQ _ _ c a w) (hw1 _) (fun w' _ => x1 v w' u) s1 rfl rfl ?_;refine rg_take k2 d2 (F2 v) _ h2 hd2 hs fA2 rA2 (fun c a w => hQ _ _ c a w) (hw2 _) (fun w' _ => x2 v w' u) s1 rfl rfl ?_;refine rg_take k3 d3 (F3 v) _ h3 hd3 hs fA3 rA3 (fun c a w => hQ _ _ c a w) (hw3 _) (fun w' _ => x3 v w' u) s1 rfl rfl ?_;exact rg_run j dj (z w1) (N w1) hj hdj rA4 (hwj _) rfl (hxj _ w1) s2 (h v (z w1) (N w1) u s2 c)
 ·rw [if_pos (hwj _)];unfold Oper.wp;rw [hxj];refine hK.out _ _ hB.1 (fun _ => ?_);rw [hdj];refine rg_call i di f vals hi hdi hrj (hwi _) rfl (fun W => hxi' (z w) W) ?_;refine Calls.mono hB.2 ?_;rintro e w1 ⟨v,rfl,u,s1,c⟩;refine ⟨v,rfl,s1,?_⟩;refine rg_take k1 d1 (F1 v) _ h1 hd1 hs fB1 rB1 (fun c a w => hQ _ _ c a w) (hw1 _) (fun w' _ => x1' v (z w) w' u) s1 rfl rfl ?_;refine rg_take k2 d2 (F2 v) _ h2 hd2 hs fB2 rB2 (fun c a w => hQ _ _ c a w) (hw2 _) (fun w' _ => x2' v (z w) w' u) s1 rfl rfl ?_;refine rg_take k3 d3 (F3 v) _ h3 hd3 hs fB3 rB3 (fun c a w => hQ _ _ c a w) (hw3 _) (fun w' _ => x3' v (z w) w' u) s1 rfl rfl ?_;have hh := h v (z w) w1 u s1 c;rw [set_comm2 _ (Ne.symm j3),set_comm2 _ (Ne.symm j2),set_comm2 _ (Ne.symm j1),set_comm2 _ (Ne.symm ij),set_comm2 _ (Ne.symm dj3),set_comm2 _ (Ne.symm dj2),set_comm2 _ (Ne.symm dj1),set_comm2 _ (Ne.symm dij)] at hh;exact hh
end
section
open Go.RowKit
structure Kept (B : Nat) (w0 : World) where
 w : World
 below : Below B w0 w
theorem wp_region_qb {P : Program} {id : Nat} {Q : Exit → Act → World → Prop} {a : Act} {w : World} {l : List Oper} {B : Nat} {w0 : World} (h0 : Below B w0 w) (hm : P.follows .mixedOrders = true) (hB : Region.lexB .any l.toArray = true)
  (h : wpQuiet P l.toArray (fun w' => ∃ x : Kept B w0,w' = x.w) (fun a' => ∀ w',(∃ x : Kept B w0,w' = x.w) → Q .normal a' w') l a) : (Code.region id l.toArray true).wp P Q a w :=
 wp_region_quiet (C := fun w' => ∃ x : Kept B w0,w' = x.w) hm hB ⟨⟨_,h0.drew⟩,rfl⟩ (by simpa using h)
theorem nonempty_qb {B : Nat} {w0 w : World} (h0 : Below B w0 w) : Nonempty (Kept B w0) := ⟨⟨w,h0⟩⟩
theorem qb_call {P : Program} {f : FuncId} {args : Array Value} {B : Nat} {w0 : World} {x : Kept B w0} {v : Value}
  (h : ∀ W,Below B w0 W → Calls P f args W fun e W' => e = .returned v ∧ Below B w0 W') : Calls P f args x.w fun e w'' => e = .returned v ∧ ∃ y : Kept B w0,w'' = y.w :=
 (h _ x.below).mono fun _ W' h => ⟨h.1,⟨⟨W',h.2⟩,rfl⟩⟩
end
section
open Go.ChangeShapes Go.WideShapes Go.ChangeAt Go.RowKit
theorem kept_cell {w : World} {a : Addr} {u : Value} (h : w.cell? a = some u) (x : Kept w.heap.size w) : x.w.cell? a = some u := by
 rw [x.below.cell (World.block_lt_of_cell? _ _ h)]; exact h
end
end Go.Proofs.Ytdkolhfpfimeoaa
