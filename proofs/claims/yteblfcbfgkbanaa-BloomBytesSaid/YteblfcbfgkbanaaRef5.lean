/- The document's answers of layer 4: Of. -/
import Derived.Test.YteblfcbfgkbanaaRef3
import Derived.Test.YteblfcbfgkbanaaNumber
namespace Go.Proofs.Yteblfcbfgkbanaa
open Go.RowKit
set_option linter.unusedVariables false

theorem ref_of_short (A : Option Addr) (n c : Nat) (xs : List Int) (S : Nat → Prop) (w : World) (hx : RowI .u8 w S A n xs) (hn : n < 4) :
    Calls Try.prog 23 #[.slice A n c] w fun e w' => e = .returned (.tuple #[.slice none 0 0, .int .i64 1]) ∧ w = w' := by
  clear hx
  go_enter Try.func23, Try.ntmps23
  go_wp2
  go_ret2
  exact ⟨rfl, rfl⟩

theorem wraps_i64 (n : Int) (h₀ : 0 ≤ n) (h₁ : n < 2 ^ 62) : IntKind.i64.wrap n = n := by
  have e : (2 : Int) ^ 62 = 4611686018427387904 := by decide
  rw [e] at h₁
  rw [IntKind.wrap_i64]; omega
theorem or4 (x0 x1 x2 x3 : Int) (b0 : 0 ≤ x0 ∧ x0 ≤ 255) (b1 : 0 ≤ x1 ∧ x1 ≤ 255) (b2 : 0 ≤ x2 ∧ x2 ≤ 255) (b3 : 0 ≤ x3 ∧ x3 ≤ 255) :
    bits .or .i64 (bits .or .i64 (bits .or .i64 (x0 * 16777216) (x1 * 65536)) (x2 * 256)) x3 = x0 * 16777216 + x1 * 65536 + x2 * 256 + x3 := by
  have e : (2 : Int) ^ 62 = 4611686018427387904 := by decide
  have e24 : (2 : Int) ^ 24 = 16777216 := by decide
  have e16 : (2 : Int) ^ 16 = 65536 := by decide
  have e8 : (2 : Int) ^ 8 = 256 := by decide
  rw [bits_join .i64 62 (by decide) wraps_i64 24 (x0 * 16777216) (x1 * 65536) (by omega) (by rw [e24]; omega) (by rw [e]; omega) (by omega) (by rw [e24]; omega) (by rw [e]; omega)]
  rw [bits_join .i64 62 (by decide) wraps_i64 16 (x0 * 16777216 + x1 * 65536) (x2 * 256) (by omega) (by rw [e16]; omega) (by rw [e]; omega) (by omega) (by rw [e16]; omega) (by rw [e]; omega)]
  rw [bits_join .i64 62 (by decide) wraps_i64 8 (x0 * 16777216 + x1 * 65536 + x2 * 256) x3 (by omega) (by rw [e8]; omega) (by rw [e]; omega) (by omega) (by rw [e8]; omega) (by rw [e]; omega)]
theorem numOf4 (xs : List Int) (h : 4 ≤ xs.length) : numOf (xs.take 4) = xs.getD 0 0 * 16777216 + xs.getD 1 0 * 65536 + xs.getD 2 0 * 256 + xs.getD 3 0 := by
  match xs, h with
  | a :: b :: c :: d :: r, _ => simp [numOf]; omega

theorem ref_of_bad (A : Option Addr) (n c : Nat) (xs : List Int) (S : Nat → Prop) (w : World) (hx : RowI .u8 w S A n xs) (hn : 4 ≤ n) (hn2 : n ≤ 9223372036854775807) (hby : Bytes xs)
    (hbad : ¬ (8 ≤ numOf (xs.take 4) ∧ numOf (xs.take 4) ≤ 65536 ∧ numOf (xs.take 4) % 8 = 0) ∨ (n : Int) ≠ 4 + numOf (xs.take 4) / 8) :
    Calls Try.prog 23 #[.slice A n c] w fun e w' => e = .returned (.tuple #[.slice none 0 0, .int .i64 2]) ∧ ∃ k, w.drewN k = w' := by
  obtain ⟨b, off, rfl, _, hc⟩ := hx.2 (by omega)
  have hl := hx.1
  have c0 := hc 0 (by omega)
  have c1 := hc 1 (by omega)
  have c2 := hc 2 (by omega)
  have c3 := hc 3 (by omega)
  have b0 := hby 0
  have b1 := hby 1
  have b2 := hby 2
  have b3 := hby 3
  have hnum := numOf4 xs (by omega)
  generalize xs.getD 0 0 = x0 at *
  generalize xs.getD 1 0 = x1 at *
  generalize xs.getD 2 0 = x2 at *
  generalize xs.getD 3 0 = x3 at *
  have hor := or4 x0 x1 x2 x3 b0 b1 b2 b3
  rw [← hnum] at hor
  generalize numOf (xs.take 4) = m at *
  have hm0 : 0 ≤ m := by omega
  have hm1 : m < 4294967296 := by omega
  rw [Nat.add_zero] at c0
  have n0 : 0 < n := by omega
  have n1 : 1 < n := by omega
  have n2 : 2 < n := by omega
  have n3 : 3 < n := by omega
  have m1 : (1 : Int) < n := by omega
  have m2 : (2 : Int) < n := by omega
  have m3 : (3 : Int) < n := by omega
  clear hc hx hby hnum hl
  by_cases hr : 8 ≤ m ∧ m ≤ 65536 ∧ m % 8 = 0
  · have hne : ((n : Int) != 4 + m / 8) = true := by
      rcases hbad with h | h
      · exact absurd hr h
      · simpa using h
    have hd : decide (8 ≤ m ∧ m ≤ 65536 ∧ m % 8 = 0) = true := by simpa using hr
    have hright := fun w => right_any m w
    simp only [hd] at hright
    have hm2 : m ≤ 65536 := hr.2.1
    have HR := Lib.hid hright
    clear hright hd hr hbad
    go_enter Try.func23, Try.ntmps23
    go_wp2
    go_quiet (fail)
    clear hor
    go_wp2_with (go_at_call 25; refine (HR.out _).mono ?_; rintro e w' ⟨rfl, rfl⟩)
    go_ret2
    exact ⟨rfl, _, rfl⟩
  · have hd : decide (8 ≤ m ∧ m ≤ 65536 ∧ m % 8 = 0) = false := by simpa using hr
    have hright := fun w => right_any m w
    simp only [hd] at hright
    have HR := Lib.hid hright
    clear hright hd hr hbad
    go_enter Try.func23, Try.ntmps23
    go_wp2
    go_quiet (fail)
    clear hor
    go_wp2_with (go_at_call 25; refine (HR.out _).mono ?_; rintro e w' ⟨rfl, rfl⟩)
    go_ret2
    exact ⟨rfl, _, rfl⟩

end Go.Proofs.Yteblfcbfgkbanaa
