/- What Put answers, behind any bytes: new memory that holds them and the number's. -/
import Derived.Test.YtfbekeebllcdbaaVnLeaf
import Derived.ArgAppend
import Derived.Laws.AppendOwn
import Derived.Laws.BytesArg
namespace Go.Proofs.Ytfbekeebllcdbaa
open Go.ChangeShapes Go.WideShapes Go.ChangeAt Go.RowKit
set_option linter.unusedVariables false
set_option maxRecDepth 20000

theorem low_or (v : Nat) : bits .or .u8 ((v : Int) % 256) 128 = ((v % 128 + 128 : Nat) : Int) := by
  rw [show (v : Int) % 256 = ((v % 256 : Nat) : Int) from by omega]
  rw [show (128 : Int) = ((128 : Nat) : Int) from rfl, u8_or_nat _ _ (by omega) (by decide)]
  have : v % 256 ||| 128 = v % 128 + 128 := by
    have h := nat_join 7 128 (v % 128) (by decide) (by show v % 128 < 128; omega)
    rw [Nat.or_comm] at h
    by_cases hv : v % 256 < 128
    · rw [show v % 256 = v % 128 by omega, h]; omega
    · have e : v % 256 = v % 128 ||| 128 := by rw [h]; omega
      rw [e, Nat.or_assoc, Nat.or_self, h]; omega
  rw [this]

/-- Where Put's loop stands: nothing appended yet, or new memory that holds what came and the bytes so far. -/
def PutAt (w : World) (a : Option Addr) (ns acc : List Nat) (out : Value) (wr : World) : Prop :=
  (acc = [] ∧ out = .slice a ns.length ns.length ∧ wr = w) ∨ wr.ownsRow w.heap.size 5 1 out (ns ++ acc).length (byteCells (ns ++ acc))

theorem bytes_snoc (ns acc : List Nat) (c : Nat) : (ns ++ (acc ++ [c])).length = (ns ++ acc).length + 1 ∧ byteCells (ns ++ (acc ++ [c])) = byteCells (ns ++ acc) ++ [.int .u8 (c : Int)] := by
  constructor
  · simp; omega
  · simp [byteCells]

theorem own_step {w : World} {B B' : Nat} {r : Value} {ns acc : List Nat} {c n : Nat} {xs : List Value} (h : w.ownsRow B' 5 1 r (n + 1) (xs ++ [.int .u8 (c : Int)])) (hn : n = (ns ++ acc).length) (hx : xs = byteCells (ns ++ acc)) (hB : B ≤ B') :
    w.ownsRow B 5 1 r (ns ++ (acc ++ [c])).length (byteCells (ns ++ (acc ++ [c]))) := by
  subst hn hx
  rw [(bytes_snoc ns acc c).1, (bytes_snoc ns acc c).2]
  exact own_mono h hB

set_option maxHeartbeats 1000000 in
theorem put_any (a : Option Addr) (ns : List Nat) (cap v : Nat) (w : World) (ha : a = none → ns = [] ∧ cap = 0) (hc : ns.length ≤ cap) (hm : cap ≤ maxLen) (hl : ns.length ≤ 140737488355300) (hh : Holds w a ns) (hv : v < 18446744073709551616) :
    Calls Try.prog 34 #[.slice a ns.length cap, .int .u64 (v : Int)] w fun e w' => ∃ r, e = .returned r ∧
      w'.ownsRow w.heap.size 5 1 r (ns ++ digs v).length (byteCells (ns ++ digs v)) ∧ Below w.heap.size w w' := by
  obtain ⟨i0, hi, hz0, hz1, hz2⟩ := info_parts infoByte
  have HH : Hid (Holds w a ns) := hh
  have HA : Hid (a = none → ns = [] ∧ cap = 0) := ha
  have hd := (digs_len64 v hv).2
  unfold maxLen at hm
  clear hh ha
  go_enter Try.func34, Try.ntmps34
  go_wp2_with fail
  go_loopw [1, 5] (fun vv out wr => ∃ (v' : Nat) (acc : List Nat), vv = .int .u64 (v' : Int) ∧ v' < 18446744073709551616 ∧ acc.length + (digs v').length ≤ 10 ∧ Hid (acc ++ digs v' = digs v) ∧ Hid (PutAt w a ns acc out wr) ∧ Below w.heap.size w wr)
    (fun vv _ _ => (intOf vv).toNat)
  case atStart => exact ⟨v, [], rfl, hv, by simpa using hd, rfl, .inl ⟨rfl, rfl, rfl⟩, Below.refl _ _⟩
  case round =>
    obtain ⟨v', acc, rfl, hv', hacc, HD, HP, hbel⟩ := hrel
    have hws := hbel.size
    by_cases h : v' < 128
    · have HE : Hid (acc ++ [v'] = digs v) := by show _ = _; rw [← HD.out, digs_small h]
      have hlen : acc.length ≤ 9 := by rw [digs_small h] at hacc; simp at hacc; omega
      clear HD hacc
      rcases HP.out with ⟨rfl, rfl, rfl⟩ | hown
      · clear HP
        go_wp2_with (first
          | (at_builtin; refine wpList_append_grows _ rfl _ _ 22 rfl 5 i0 (.int .u8 0) 1 1 Try.underlying22 hi hz0 hz1 hz2 rfl (by decide) _ _ _ (byteCells ns) rfl ?c0 ?c1 ?c2 ⟨wr.heap.size, 0, none⟩ 1 1 [.int .u8 (v' : Int)] rfl rfl ?c3 ?c4 ?c5 ?c6 ?c7 ?_)
          | fail)
        case c0 => exact fun h0 => ⟨by rw [(HA.out h0).1]; rfl, by rw [(HA.out h0).1]; rfl⟩
        case c1 => simp [byteCells]
        case c2 => exact HH.out.below ((Below.refl _ _).alloc (Nat.le_refl _) _)
        case c3 =>
          intro j u hj
          match j, hj with
          | 0, hj => simp at hj; subst hj; simp [Addr.add]
        case c4 => intro u hu; simp at hu; subst hu; rfl
        case c5 => omega
        case c6 => unfold maxLen; omega
        case c7 => omega
        intro r w2 hown' hgrow
        have hb2 : Below wr.heap.size wr w2 := ((Below.refl _ _).alloc (Nat.le_refl _) _).grown hgrow (by simp) (fun k hk => by cases hk)
        have HO : Hid (w2.ownsRow wr.heap.size 5 1 r (ns ++ ([] ++ [v'])).length (byteCells (ns ++ ([] ++ [v'])))) := own_step hown' (by simp) (by simp) (by simp)
        clear hown' hgrow
        go_wp2_with fail
        go_ret
        exact ⟨_, rfl, by rw [← HE.out]; exact HO.out, hb2⟩
      · clear HP
        go_wp2_with (first
          | (at_builtin; refine wpList_append_own _ rfl _ _ 22 rfl w.heap.size 5 i0 (.int .u8 0) 1 1 Try.underlying22 hi hz0 hz1 hz2 rfl (by decide) _ _ _ rfl (hown.alloc _) ⟨wr.heap.size, 0, none⟩ 1 1 [.int .u8 (v' : Int)] rfl rfl ?c1 ?c2 ?c3 ?c4 ?c5 ?_)
          | fail)
        case c1 =>
          intro j u hj
          match j, hj with
          | 0, hj => simp at hj; subst hj; simp [Addr.add]
        case c2 => intro u hu; simp at hu; subst hu; rfl
        case c3 => unfold maxLen; simp; omega
        case c4 => simp; omega
        case c5 => simp; omega
        intro r w2 hown' hgrow _
        have hb2 : Below w.heap.size w w2 := (hbel.alloc hws _).grown hgrow (by simp; omega) (fun k hk => (hown.lt k hk).1)
        have HO : Hid (w2.ownsRow w.heap.size 5 1 r (ns ++ (acc ++ [v'])).length (byteCells (ns ++ (acc ++ [v'])))) := own_step hown' (by simp) rfl (Nat.le_refl _)
        clear hown hown' hgrow
        go_wp2_with fail
        go_ret
        exact ⟨_, rfl, by rw [← HE.out]; exact HO.out, hb2⟩
    · have HE : Hid (acc ++ [v' % 128 + 128] ++ digs (v' / 128) = digs v) := by show _ = _; rw [← HD.out, digs_big h]; simp
      have hlen : acc.length ≤ 9 := by have := List.length_pos_iff.2 (digs_ne v'); omega
      have hacc' : (acc ++ [v' % 128 + 128]).length + (digs (v' / 128)).length ≤ 10 := by rw [digs_big h] at hacc; simp at hacc ⊢; omega
      have hob := low_or v'
      have h128 : 128 ≤ (v' : Int) := by omega
      clear HD hacc
      generalize v' % 128 + 128 = c at *
      rcases HP.out with ⟨rfl, rfl, rfl⟩ | hown
      · clear HP
        go_wp2_with (first
          | (at_builtin; refine wpList_append_grows _ rfl _ _ 22 rfl 5 i0 (.int .u8 0) 1 1 Try.underlying22 hi hz0 hz1 hz2 rfl (by decide) _ _ _ (byteCells ns) rfl ?c0 ?c1 ?c2 ⟨wr.heap.size, 0, none⟩ 1 1 [.int .u8 (c : Int)] rfl rfl ?c3 ?c4 ?c5 ?c6 ?c7 ?_)
          | fail)
        case c0 => exact fun h0 => ⟨by rw [(HA.out h0).1]; rfl, by rw [(HA.out h0).1]; rfl⟩
        case c1 => simp [byteCells]
        case c2 => exact HH.out.below ((Below.refl _ _).alloc (Nat.le_refl _) _)
        case c3 =>
          intro j u hj
          match j, hj with
          | 0, hj => simp at hj; subst hj; simp [Addr.add]
        case c4 => intro u hu; simp at hu; subst hu; rfl
        case c5 => omega
        case c6 => unfold maxLen; omega
        case c7 => omega
        intro r w2 hown' hgrow
        have hb2 : Below wr.heap.size wr w2 := ((Below.refl _ _).alloc (Nat.le_refl _) _).grown hgrow (by simp) (fun k hk => by cases hk)
        have HO : Hid (w2.ownsRow wr.heap.size 5 1 r (ns ++ ([] ++ [c])).length (byteCells (ns ++ ([] ++ [c])))) := own_step hown' (by simp) (by simp) (by simp)
        clear hown' hgrow hob
        go_wp2_with fail
        go_roundw
        case rel => exact ⟨v' / 128, [] ++ [c], by go_num, by omega, hacc', HE, .inr HO.out, hb2⟩
        case measure => simp [intOf]; omega
      · clear HP
        go_wp2_with (first
          | (at_builtin; refine wpList_append_own _ rfl _ _ 22 rfl w.heap.size 5 i0 (.int .u8 0) 1 1 Try.underlying22 hi hz0 hz1 hz2 rfl (by decide) _ _ _ rfl (hown.alloc _) ⟨wr.heap.size, 0, none⟩ 1 1 [.int .u8 (c : Int)] rfl rfl ?c1 ?c2 ?c3 ?c4 ?c5 ?_)
          | fail)
        case c1 =>
          intro j u hj
          match j, hj with
          | 0, hj => simp at hj; subst hj; simp [Addr.add]
        case c2 => intro u hu; simp at hu; subst hu; rfl
        case c3 => unfold maxLen; simp; omega
        case c4 => simp; omega
        case c5 => simp; omega
        intro r w2 hown' hgrow _
        have hb2 : Below w.heap.size w w2 := (hbel.alloc hws _).grown hgrow (by simp; omega) (fun k hk => (hown.lt k hk).1)
        have HO : Hid (w2.ownsRow w.heap.size 5 1 r (ns ++ (acc ++ [c])).length (byteCells (ns ++ (acc ++ [c])))) := own_step hown' (by simp) rfl (Nat.le_refl _)
        clear hown hown' hgrow hob
        go_wp2_with fail
        go_roundw
        case rel => exact ⟨v' / 128, acc ++ [c], by go_num, by omega, hacc', HE, .inr HO.out, hb2⟩
        case measure => simp [intOf]; omega
end Go.Proofs.Ytfbekeebllcdbaa
