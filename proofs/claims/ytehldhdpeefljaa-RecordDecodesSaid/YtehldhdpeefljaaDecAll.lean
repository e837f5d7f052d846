/- Package record: Decode, where it does not decode. -/
import Derived.Test.YtehldhdpeefljaaDec
namespace Go.Proofs.Ytehldhdpeefljaa
open Go.RowKit
set_option linter.unusedVariables false

/-- The n bytes xs begin with a record. -/
def DecOk (xs : List Int) (n : Nat) : Prop := 21 ≤ n ∧ MayB xs ∧ needOf xs ≤ n
instance (xs : List Int) (n : Nat) : Decidable (DecOk xs n) := by unfold DecOk; infer_instance
def errOf (xs : List Int) (n : Nat) : Int := if 21 ≤ n ∧ ¬ MayB xs then 160 else 9
theorem errOf_cases (xs : List Int) (n : Nat) : errOf xs n = 9 ∨ errOf xs n = 160 := by unfold errOf; split <;> simp
theorem errOf_short {xs : List Int} {n : Nat} (h : n < 21) : errOf xs n = 9 := if_neg (by omega)
theorem errOf_bad {xs : List Int} {n : Nat} (h : 21 ≤ n) (hm : ¬ MayB xs) : errOf xs n = 160 := if_pos ⟨h, hm⟩
theorem errOf_cut {xs : List Int} {n : Nat} (hm : MayB xs) : errOf xs n = 9 := if_neg fun h => h.2 hm

theorem dec_no (A : Option Addr) (n c : Nat) (xs : List Int) (S : Nat → Prop) (w : World) (hx : RowI .u8 w S A n xs) (hS : ∀ b, S b → b < w.heap.size) (hb : Bytes xs) (hc : n ≤ c) (h : ¬ DecOk xs n) :
    Calls Try.prog 24 #[.slice A n c] w fun e w' => e = .returned (.tuple #[.agg #[.int .i64 0, .int .u32 0, .int .u32 0, .int .u64 0, .slice none 0 0, .slice none 0 0], .int .i64 0, .int .i64 (errOf xs n)]) ∧ Below w.heap.size w w' := by
  by_cases h1 : n < 21
  · rw [errOf_short h1]
    exact dec_short A n c w h1
  by_cases h2 : MayB xs
  · rw [errOf_cut h2]
    exact dec_cut A n c xs S w hx hS hb (by omega) hc h2 (by rcases Nat.lt_or_ge n (needOf xs) with h3 | h3; exact h3; exact absurd ⟨by omega, h2, h3⟩ h)
  · rw [errOf_bad (by omega) h2]
    exact dec_bad A n c xs S w hx hS hb (by omega) hc h2

/-- What Need tells, at once. -/
def needV (xs : List Int) (n : Nat) : Value := if 21 ≤ n then (if MayB xs then .tuple #[.int .i64 ((needOf xs : Nat) : Int), .int .i64 0] else .tuple #[.int .i64 0, .int .i64 160]) else .tuple #[.int .i64 0, .int .i64 9]

end Go.Proofs.Ytehldhdpeefljaa
