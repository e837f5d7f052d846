/- Package octet: Put64 and Put16; U64 and U16 of a Reader. -/
import Derived.Test.YtkmbbfdjdmkjpaaPut
import Derived.Test.YtkmbbfdjdmkjpaaNumber
namespace Go.Proofs.Ytkmbbfdjdmkjpaa
open Go.RowKit
set_option linter.unusedVariables false

theorem put64_any (A : Option Addr) (n cap : Nat) (xs : List Int) (S : Nat → Prop) (x : Int) (w : World) (hx : RowI .u8 w S A n xs) (hS : ∀ b, S b → b < w.heap.size)
    (hn : n + 8 ≤ 140737488351232) (x0 : 0 ≤ x) (x1 : x ≤ 18446744073709551615) :
    Calls Try.prog 100 #[.slice A n cap, .int .u64 x] w fun e w' => e = .returned (.slice (some ⟨w.heap.size, 0, none⟩) (n + 8) (n + 8)) ∧ ArrU w' w.heap.size (xs ++ beBytes x 8) ∧ Below w.heap.size w w' := by
  have HX := Lib.hid hx
  clear hx
  go_enter Try.func100, Try.ntmps100
  go_wp2_with (go_at_call 115; refine (put_any A n cap xs S x 8 _ HX.out hS (by omega) (by omega) x0 (by omega)).mono ?_; rintro e w' ⟨rfl, ha, hb⟩; have HA := Lib.hid ha; have HB := Lib.hid hb; clear ha hb)
  go_ret
  exact ⟨rfl, HA.out, HB.out⟩

theorem put16_any (A : Option Addr) (n cap : Nat) (xs : List Int) (S : Nat → Prop) (x : Int) (w : World) (hx : RowI .u8 w S A n xs) (hS : ∀ b, S b → b < w.heap.size)
    (hn : n + 2 ≤ 140737488351232) (x0 : 0 ≤ x) (x1 : x ≤ 65535) :
    Calls Try.prog 101 #[.slice A n cap, .int .u16 x] w fun e w' => e = .returned (.slice (some ⟨w.heap.size, 0, none⟩) (n + 2) (n + 2)) ∧ ArrU w' w.heap.size (xs ++ beBytes x 2) ∧ Below w.heap.size w w' := by
  have HX := Lib.hid hx
  clear hx
  go_enter Try.func101, Try.ntmps101
  go_wp2_with (go_at_call 115; refine (put_any A n cap xs S x 2 _ HX.out hS (by omega) (by omega) x0 (by omega)).mono ?_; rintro e w' ⟨rfl, ha, hb⟩; have HA := Lib.hid ha; have HB := Lib.hid hb; clear ha hb)
  go_ret
  exact ⟨rfl, HA.out, HB.out⟩

theorem u64_ok (w : World) (r g : Nat) (xs : List Int) (pos : Nat) (h : Rd w r g xs pos 0) (hn : 8 ≤ xs.length - pos) (hb : Bytes xs) :
    Calls Try.prog 105 #[.pointer (some ⟨r, 0, none⟩)] w fun e w' =>
      e = .returned (.int .u64 (numOf ((xs.drop pos).take 8))) ∧ Rd w' r g xs (pos + 8) 0 ∧ Kept (fun b => b < w.heap.size ∧ b ≠ r) w w' := by
  have H := Lib.hid h
  have HB := Lib.hid hb
  clear h hb
  go_enter Try.func105, Try.ntmps105
  go_wp2_with (go_at_call 118; refine (number_ok _ r g xs pos 8 H.out hn (by omega) HB.out).mono ?_; rintro e w1 ⟨rfl, hrd, hk⟩; have HD := Lib.hid hrd; have HK := Lib.hid hk; clear hrd hk)
  go_ret
  exact ⟨rfl, HD.out, HK.out⟩

theorem u16_ok (w : World) (r g : Nat) (xs : List Int) (pos : Nat) (h : Rd w r g xs pos 0) (hn : 2 ≤ xs.length - pos) (hb : Bytes xs) :
    Calls Try.prog 106 #[.pointer (some ⟨r, 0, none⟩)] w fun e w' =>
      e = .returned (.int .u16 (numOf ((xs.drop pos).take 2))) ∧ Rd w' r g xs (pos + 2) 0 ∧ Kept (fun b => b < w.heap.size ∧ b ≠ r) w w' := by
  have H := Lib.hid h
  have HB := Lib.hid hb
  have hl : ((xs.drop pos).take 2).length = 2 := by simp; omega
  have hbt : Bytes ((xs.drop pos).take 2) := by
    have : Bytes (xs.drop pos) := fun j => by have := hb (pos + j); simpa [List.getD, List.getElem?_drop] using this
    exact this.take 2
  have hv := numOf_bounds _ hbt
  rw [hl] at hv
  have hv1 : numOf ((xs.drop pos).take 2) < 65536 := hv.2
  have hv0 := hv.1
  clear h hb hbt hv hl
  go_enter Try.func106, Try.ntmps106
  go_wp2_with (go_at_call 118; refine (number_ok _ r g xs pos 2 H.out hn (by omega) HB.out).mono ?_; rintro e w1 ⟨rfl, hrd, hk⟩; have HD := Lib.hid hrd; have HK := Lib.hid hk; clear hrd hk)
  go_ret
  exact ⟨rfl, HD.out, HK.out⟩

end Go.Proofs.Ytkmbbfdjdmkjpaa
