/- octet.Equal: whether bytes are the same. -/
import Derived.Test.YtehldhdpeefljaaHead
import Derived.Test.YtehldhdpeefljaaEq
namespace Go.Proofs.Ytehldhdpeefljaa
open Go.RowKit
set_option linter.unusedVariables false

theorem nums_list (s : ByteArray) : nums s = s.toList.map fun c => (c.toNat : Int) := by rw [ByteArray.toList_eq]; rfl
theorem texts_no {s t : ByteArray} {xs ys : List Int} (h1 : nums s = xs) (h2 : nums t = ys) (h : xs ≠ ys) : (s.toList == t.toList) = false := by
  rw [beq_eq_false_iff_ne]
  intro e
  apply h
  rw [← h1, ← h2, nums_list, nums_list, e]
theorem texts_any {s t : ByteArray} {xs ys : List Int} (h1 : nums s = xs) (h2 : nums t = ys) : (s.toList == t.toList) = decide (xs = ys) := by
  by_cases h : xs = ys
  · rw [decide_eq_true h]
    obtain rfl : s = t := nums_inj (h1.trans (h.trans h2.symm))
    exact beq_self_eq_true _
  · rw [decide_eq_false h, texts_no h1 h2 h]

theorem equal_no (A A' : Option Addr) (n n' c c' : Nat) (xs ys : List Int) (S S' : Nat → Prop) (w : World) (hx : RowI .u8 w S A n xs) (hx' : RowI .u8 w S' A' n' ys) (hS : ∀ b, S b → b < w.heap.size) (hS' : ∀ b, S' b → b < w.heap.size) (hb : Bytes xs) (hb' : Bytes ys) (hne : xs ≠ ys) :
    Calls Try.prog 20 #[.slice A n c, .slice A' n' c'] w fun e w' => e = .returned (.bool false) ∧ w = w' := by
  obtain ⟨s, hs, hns⟩ := conv_string (P := Try.prog) w 24 9 5 Try.underlying24 Try.underlying5 Try.underlying9 c (hx.more (T := (· < w.heap.size)) hS).toRow hb
  obtain ⟨t, ht, hnt⟩ := conv_string (P := Try.prog) w 24 9 5 Try.underlying24 Try.underlying5 Try.underlying9 c' (hx'.more (T := (· < w.heap.size)) hS').toRow hb'
  have hst : (s.toList == t.toList) = false := texts_no hns hnt hne
  clear hns hnt hx hx'
  go_enter Try.func20, Try.ntmps20
  go_wp2
  go_ret
  exact ⟨rfl, rfl⟩

theorem oequal_yes (A A' : Option Addr) (n c c' : Nat) (xs : List Int) (S S' : Nat → Prop) (w : World) (hx : RowI .u8 w S A n xs) (hx' : RowI .u8 w S' A' n xs) (hS : ∀ b, S b → b < w.heap.size) (hS' : ∀ b, S' b → b < w.heap.size) (hb : Bytes xs) :
    Calls Try.prog 38 #[.slice A n c, .slice A' n c'] w fun e w' => e = .returned (.bool true) ∧ w = w' := by
  have HX := Lib.hid hx
  have HX' := Lib.hid hx'
  clear hx hx'
  go_enter Try.func38, Try.ntmps38
  go_wp2_with fail
  refine (equal_yes A A' n c c' xs S S' w HX.out HX'.out hS hS' hb).mono ?_
  rintro e w' ⟨rfl, rfl⟩
  go_wp2_with fail
  go_ret
  exact ⟨rfl, rfl⟩

theorem oequal_no (A A' : Option Addr) (n n' c c' : Nat) (xs ys : List Int) (S S' : Nat → Prop) (w : World) (hx : RowI .u8 w S A n xs) (hx' : RowI .u8 w S' A' n' ys) (hS : ∀ b, S b → b < w.heap.size) (hS' : ∀ b, S' b → b < w.heap.size) (hb : Bytes xs) (hb' : Bytes ys) (hne : xs ≠ ys) :
    Calls Try.prog 38 #[.slice A n c, .slice A' n' c'] w fun e w' => e = .returned (.bool false) ∧ w = w' := by
  have HX := Lib.hid hx
  have HX' := Lib.hid hx'
  clear hx hx'
  go_enter Try.func38, Try.ntmps38
  go_wp2_with fail
  refine (equal_no A A' n n' c c' xs ys S S' w HX.out HX'.out hS hS' hb hb' hne).mono ?_
  rintro e w' ⟨rfl, rfl⟩
  go_wp2_with fail
  go_ret
  exact ⟨rfl, rfl⟩

/-- Both at once. -/
theorem oequal_any (A A' : Option Addr) (n n' c c' : Nat) (xs ys : List Int) (S S' : Nat → Prop) (w : World) (hx : RowI .u8 w S A n xs) (hx' : RowI .u8 w S' A' n' ys) (hS : ∀ b, S b → b < w.heap.size) (hS' : ∀ b, S' b → b < w.heap.size) (hb : Bytes xs) (hb' : Bytes ys) :
    Calls Try.prog 38 #[.slice A n c, .slice A' n' c'] w fun e w' => e = .returned (.bool (decide (xs = ys))) ∧ w = w' := by
  by_cases h : xs = ys
  · subst h
    obtain rfl : n = n' := by rw [← hx.1, ← hx'.1]
    rw [decide_eq_true rfl]
    exact oequal_yes A A' n c c' xs S S' w hx hx' hS hS' hb
  · rw [decide_eq_false h]
    exact oequal_no A A' n n' c c' xs ys S S' w hx hx' hS hS' hb hb' h

end Go.Proofs.Ytehldhdpeefljaa
