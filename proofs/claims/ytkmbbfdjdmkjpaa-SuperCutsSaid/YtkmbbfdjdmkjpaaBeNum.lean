/- Numbers as bytes there and back, in plain lists. -/
import Derived.Test.YtkmbbfdjdmkjpaaPut
import Derived.Test.YtkmbbfdjdmkjpaaNumber
namespace Go.Proofs.Ytkmbbfdjdmkjpaa
open Go.RowKit
set_option linter.unusedVariables false

theorem getD_ext {xs ys : List Int} (hl : xs.length = ys.length) (h : ∀ j, j < xs.length → xs.getD j 0 = ys.getD j 0) : xs = ys := by
  apply List.ext_getElem hl
  intro j h1 h2
  have := h j h1
  simpa [List.getD, List.getElem?_eq_getElem h1, List.getElem?_eq_getElem h2] using this

theorem be_snoc (x : Int) (n : Nat) (h : 0 ≤ x) : beBytes x (n + 1) = beBytes (x / 256) n ++ [x % 256] := by
  unfold beBytes
  rw [List.range_succ, List.map_append, List.map_singleton]
  congr 1
  · apply List.map_congr_left
    intro j hj
    have hj : j < n := by simpa using hj
    unfold byteAt
    rw [show n + 1 - 1 - j = (n - 1 - j) + 1 by omega, ← pow_step]
    rw [Int.ediv_ediv_of_nonneg (by exact Int.natCast_nonneg _), Int.mul_comm, ← Int.ediv_ediv_of_nonneg (by omega)]
  · simp [byteAt]

theorem be_num (n : Nat) : ∀ l : List Int, Bytes l → l.length = n → beBytes (numOf l) n = l := by
  induction n with
  | zero => intro l _ h; rw [List.eq_nil_of_length_eq_zero h]; rfl
  | succ n ih =>
    intro l hb hl
    have hs := take_snoc l n (by omega)
    rw [List.take_of_length_le (by omega)] at hs
    have hn := numOf_snoc (l.take n) (l.getD n 0)
    rw [← hs] at hn
    have hx := hb n
    have hnn := (numOf_bounds (l.take n) (hb.take n)).1
    rw [be_snoc _ _ (numOf_bounds l hb).1, hn, show (numOf (l.take n) * 256 + l.getD n 0) / 256 = numOf (l.take n) by omega, show (numOf (l.take n) * 256 + l.getD n 0) % 256 = l.getD n 0 by omega,
      ih (l.take n) (hb.take n) (by simp; omega)]
    exact hs.symm

theorem num_be (n : Nat) : ∀ x : Int, 0 ≤ x → x < ((256 ^ n : Nat) : Int) → numOf (beBytes x n) = x := by
  induction n with
  | zero => intro x h0 h1; simp at h1; obtain rfl : x = 0 := by omega
            rfl
  | succ n ih =>
    intro x h0 h1
    rw [Nat.pow_succ, Int.natCast_mul] at h1
    rw [be_snoc _ _ h0, numOf_snoc, ih (x / 256) (by omega) (by generalize ((256 ^ n : Nat) : Int) = m at *; omega)]
    omega

theorem bytes_part {xs : List Int} (hb : Bytes xs) (k n : Nat) : Bytes ((xs.drop k).take n) := by
  have : Bytes (xs.drop k) := fun j => by have := hb (k + j); simpa [List.getD, List.getElem?_drop] using this
  exact this.take n

theorem bytes_append {a b : List Int} (ha : Bytes a) (hb : Bytes b) : Bytes (a ++ b) := by
  intro j
  by_cases h : j < a.length
  · have := ha j; simpa [List.getD, List.getElem?_append_left h] using this
  · have := hb (j - a.length); simpa [List.getD, List.getElem?_append_right (Nat.le_of_not_lt h)] using this

end Go.Proofs.Ytkmbbfdjdmkjpaa
