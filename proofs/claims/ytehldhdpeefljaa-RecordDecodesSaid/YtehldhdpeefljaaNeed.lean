/- Package record: Need. -/
import Derived.Test.YtehldhdpeefljaaReadHead
namespace Go.Proofs.Ytehldhdpeefljaa
open Go.RowKit
set_option linter.unusedVariables false

theorem take_part {α : Type} (xs : List α) (m i n : Nat) (h : i + n ≤ m) : ((xs.take m).drop i).take n = (xs.drop i).take n := by
  rw [List.drop_take, List.take_take, Nat.min_eq_left (by omega)]
theorem kind_take (xs : List Int) (m : Nat) (h : 21 ≤ m) : kindOf (xs.take m) = kindOf xs := by unfold kindOf; rw [List.take_take, Nat.min_eq_left (by omega)]
theorem flags_take (xs : List Int) (m : Nat) (h : 21 ≤ m) : flagsOf (xs.take m) = flagsOf xs := by unfold flagsOf; rw [take_part _ _ _ _ (by omega)]
theorem exp_take (xs : List Int) (m : Nat) (h : 21 ≤ m) : expOf (xs.take m) = expOf xs := by unfold expOf; rw [take_part _ _ _ _ (by omega)]
theorem seq_take (xs : List Int) (m : Nat) (h : 21 ≤ m) : seqOf (xs.take m) = seqOf xs := by unfold seqOf; rw [take_part _ _ _ _ (by omega)]
theorem klen_take (xs : List Int) (m : Nat) (h : 21 ≤ m) : klenOf (xs.take m) = klenOf xs := by unfold klenOf; rw [take_part _ _ _ _ (by omega)]
theorem vlen_take (xs : List Int) (m : Nat) (h : 21 ≤ m) : vlenOf (xs.take m) = vlenOf xs := by unfold vlenOf; rw [take_part _ _ _ _ (by omega)]

/-- Bytes that a record that may be begins with, as far as the head tells. -/
def MayB (xs : List Int) : Prop := May (kindOf xs) (flagsOf xs) (expOf xs) (seqOf xs) (klenOf xs) (vlenOf xs)
instance (xs : List Int) : Decidable (MayB xs) := by unfold MayB; infer_instance
def needOf (xs : List Int) : Nat := 21 + klenOf xs + vlenOf xs

theorem flags_bounds {xs : List Int} (hb : Bytes xs) : 0 ≤ flagsOf xs ∧ flagsOf xs ≤ 4294967295 := by have := part_bounds hb 1 4; unfold flagsOf; omega
theorem exp_bounds {xs : List Int} (hb : Bytes xs) : 0 ≤ expOf xs ∧ expOf xs ≤ 4294967295 := by have := part_bounds hb 5 4; unfold expOf; omega
theorem seq_bounds {xs : List Int} (hb : Bytes xs) : 0 ≤ seqOf xs ∧ seqOf xs ≤ 18446744073709551615 := by have := part_bounds hb 9 8; unfold seqOf; omega

theorem need_short (A : Option Addr) (n c : Nat) (w : World) (hn : n < 21) :
    Calls Try.prog 25 #[.slice A n c] w fun e w' => e = .returned (.tuple #[.int .i64 0, .int .i64 9]) ∧ Below w.heap.size w w' := by
  go_enter Try.func25, Try.ntmps25
  go_wp2_with fail
  go_ret2
  exact ⟨rfl, Below.refl _ _⟩

set_option maxHeartbeats 1000000 in
theorem need_bad (A : Option Addr) (n c : Nat) (xs : List Int) (S : Nat → Prop) (w : World) (hx : RowI .u8 w S A n xs) (hS : ∀ b, S b → b < w.heap.size) (hb : Bytes xs) (hn : 21 ≤ n) (hc : n ≤ c) (hm : ¬ MayB xs) :
    Calls Try.prog 25 #[.slice A n c] w fun e w' => e = .returned (.tuple #[.int .i64 0, .int .i64 160]) ∧ Below w.heap.size w w' := by
  obtain ⟨b0, o0, rfl, hb0, hc0⟩ := hx.2 (by omega)
  have hl := hx.1
  have HX := Lib.hid (hx.take 21 hn)
  have HBY := Lib.hid (hb.take 21)
  have HM := Lib.hid hm
  have h1 : ¬ ((n : Int) < 21) := by omega
  have h2 : (21 : Int) ≤ c := by omega
  clear hx hb hm hb0 hc0
  go_enter Try.func25, Try.ntmps25
  go_wp2_with fail
  refine (read_any _ 21 c (xs.take 21) S w HX.out hS (by omega)).mono ?_
  rintro e w2 ⟨r, rfl, hr, hrd, hb⟩
  have HB2 := Lib.hid hb
  have HD2 := Lib.hid hrd
  clear hb hrd
  go_wp2_with fail
  refine (readHead_ok (xs.take 21) w2 r w.heap.size HD2.out (by simp; omega) HBY.out HD2.out.blk.lt HD2.out.arr.lt).mono ?_
  rintro e w3 ⟨rfl, hrd, hk⟩
  rw [kind_take _ _ (by omega), flags_take _ _ (by omega), exp_take _ _ (by omega), seq_take _ _ (by omega), klen_take _ _ (by omega), vlen_take _ _ (by omega)]
  have HB3 := Lib.hid (HB2.out.trans (hk.to_below (B := w.heap.size) fun b hb => ⟨by have := HB2.out.size; omega, by omega⟩))
  clear hrd hk
  go_wp2_with fail
  refine (may_no _ _ _ _ _ _ _ HM.out).mono ?_
  rintro e w4 ⟨rfl, hb⟩
  have HB4 := Lib.hid ((HB3.out.alloc HB3.out.size _).trans (hb.mono (by have := HB3.out.size; simp; omega)))
  clear hb
  go_wp2_with fail
  go_ret2
  exact ⟨rfl, HB4.out⟩

set_option maxHeartbeats 1000000 in
theorem need_ok (A : Option Addr) (n c : Nat) (xs : List Int) (S : Nat → Prop) (w : World) (hx : RowI .u8 w S A n xs) (hS : ∀ b, S b → b < w.heap.size) (hb : Bytes xs) (hn : 21 ≤ n) (hc : n ≤ c) (hm : MayB xs) :
    Calls Try.prog 25 #[.slice A n c] w fun e w' => e = .returned (.tuple #[.int .i64 ((needOf xs : Nat) : Int), .int .i64 0]) ∧ Below w.heap.size w w' := by
  obtain ⟨b0, o0, rfl, hb0, hc0⟩ := hx.2 (by omega)
  have hl := hx.1
  have HX := Lib.hid (hx.take 21 hn)
  have HBY := Lib.hid (hb.take 21)
  have HM := Lib.hid hm
  have h1 : ¬ ((n : Int) < 21) := by omega
  have h2 : (21 : Int) ≤ c := by omega
  clear hx hb hm hb0 hc0
  go_enter Try.func25, Try.ntmps25
  go_wp2_with fail
  refine (read_any _ 21 c (xs.take 21) S w HX.out hS (by omega)).mono ?_
  rintro e w2 ⟨r, rfl, hr, hrd, hb⟩
  have HB2 := Lib.hid hb
  have HD2 := Lib.hid hrd
  clear hb hrd
  go_wp2_with fail
  refine (readHead_ok (xs.take 21) w2 r w.heap.size HD2.out (by simp; omega) HBY.out HD2.out.blk.lt HD2.out.arr.lt).mono ?_
  rintro e w3 ⟨rfl, hrd, hk⟩
  rw [kind_take _ _ (by omega), flags_take _ _ (by omega), exp_take _ _ (by omega), seq_take _ _ (by omega), klen_take _ _ (by omega), vlen_take _ _ (by omega)]
  have HB3 := Lib.hid (HB2.out.trans (hk.to_below (B := w.heap.size) fun b hb => ⟨by have := HB2.out.size; omega, by omega⟩))
  clear hrd hk
  go_wp2_with fail
  refine (may_yes _ _ _ _ _ _ _ HM.out).mono ?_
  rintro e w4 ⟨rfl, hb⟩
  have hg : Blk w4 w3.heap.size 51 (headC (kindOf xs) (flagsOf xs) (expOf xs) (seqOf xs) (klenOf xs) (vlenOf xs)) := (Blk.new w3 _ _).below hb (by simp)
  have HB4 := Lib.hid ((HB3.out.alloc HB3.out.size _).trans (hb.mono (by have := HB3.out.size; simp; omega)))
  have c0 := hg.cell 0
  have c1 := hg.cell 1
  have c2 := hg.cell 2
  have c3 := hg.cell 3
  have c4 := hg.cell 4
  have c5 := hg.cell 5
  simp only [List.getElem?_toArray, List.getElem?_cons_zero, List.getElem?_cons_succ] at c0 c1 c2 c3 c4 c5
  clear hb hg
  go_wp2_with fail
  refine (size_any _ _ _ _ _ _ _ HM.out.2.2.1 HM.out.2.2.2.1).mono ?_
  rintro e w5 ⟨rfl, hb⟩
  have HB5 := Lib.hid (HB4.out.trans (hb.mono HB4.out.size))
  clear hb c0 c1 c2 c3 c4 c5
  go_wp2_with fail
  go_ret2
  exact ⟨rfl, HB5.out⟩

end Go.Proofs.Ytehldhdpeefljaa
