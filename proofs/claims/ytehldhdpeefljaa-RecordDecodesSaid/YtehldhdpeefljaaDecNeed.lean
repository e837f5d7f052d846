/- Package record: what Decode and Need tell, the document's and the program's, at once. -/
import Derived.Test.YtehldhdpeefljaaDecAll
import Derived.Test.YtehldhdpeefljaaRDec0
import Derived.Test.YtehldhdpeefljaaRNeed
import Derived.Test.YtehldhdpeefljaaNeed
namespace Go.Proofs.Ytehldhdpeefljaa
open Go.RowKit
set_option linter.unusedVariables false

def needK (xs : List Int) (n : Nat) : Nat := if 21 ≤ n ∧ MayB xs then needOf xs else 0
def needE (xs : List Int) (n : Nat) : Int := if 21 ≤ n ∧ MayB xs then 0 else errOf xs n
theorem need_all (A : Option Addr) (n c : Nat) (xs : List Int) (S : Nat → Prop) (w : World) (hx : RowI .u8 w S A n xs) (hS : ∀ b, S b → b < w.heap.size) (hb : Bytes xs) (hc : n ≤ c) :
    Calls Try.prog 25 #[.slice A n c] w fun e w' => e = .returned (.tuple #[.int .i64 ((needK xs n : Nat) : Int), .int .i64 (needE xs n)]) ∧ Below w.heap.size w w' := by
  by_cases h1 : n < 21
  · rw [show needK xs n = 0 from if_neg (by omega), show needE xs n = errOf xs n from if_neg (by omega), errOf_short h1]
    exact need_short A n c w h1
  by_cases h2 : MayB xs
  · rw [show needK xs n = needOf xs from if_pos ⟨by omega, h2⟩, show needE xs n = 0 from if_pos ⟨by omega, h2⟩]
    exact need_ok A n c xs S w hx hS hb (by omega) hc h2
  · rw [show needK xs n = 0 from if_neg fun h => h2 h.2, show needE xs n = errOf xs n from if_neg fun h => h2 h.2, errOf_bad (by omega) h2]
    exact need_bad A n c xs S w hx hS hb (by omega) hc h2
theorem rneed_all (A : Option Addr) (n c : Nat) (xs : List Int) (S : Nat → Prop) (w : World) (hx : RowI .u8 w S A n xs) (hS : ∀ b, S b → b < w.heap.size) (hb : Bytes xs) (hc : n ≤ c) :
    Calls Try.prog 23 #[.slice A n c] w fun e w' => e = .returned (.tuple #[.int .i64 ((needK xs n : Nat) : Int), .int .i64 (needE xs n)]) ∧ Below w.heap.size w w' := by
  by_cases h1 : n < 21
  · rw [show needK xs n = 0 from if_neg (by omega), show needE xs n = errOf xs n from if_neg (by omega), errOf_short h1]
    exact rneed_short A n c w h1
  by_cases h2 : MayB xs
  · rw [show needK xs n = needOf xs from if_pos ⟨by omega, h2⟩, show needE xs n = 0 from if_pos ⟨by omega, h2⟩]
    exact (rneed_any A n c xs S w hx hS hb (by omega) hc).mono fun e w' h => ⟨h.1 h2, h.2.2⟩
  · rw [show needK xs n = 0 from if_neg fun h => h2 h.2, show needE xs n = errOf xs n from if_neg fun h => h2 h.2, errOf_bad (by omega) h2]
    exact (rneed_any A n c xs S w hx hS hb (by omega) hc).mono fun e w' h => ⟨h.2.1 h2, h.2.2⟩
theorem rdec_no (A : Option Addr) (n c : Nat) (xs : List Int) (S : Nat → Prop) (w : World) (hx : RowI .u8 w S A n xs) (hS : ∀ b, S b → b < w.heap.size) (hb : Bytes xs) (hc : n ≤ c) (h : ¬ DecOk xs n) :
    Calls Try.prog 22 #[.slice A n c] w fun e w' => e = .returned (.tuple #[.agg #[.int .i64 0, .int .u32 0, .int .u32 0, .int .u64 0, .slice none 0 0, .slice none 0 0], .int .i64 0, .int .i64 (errOf xs n)]) ∧ Below w.heap.size w w' := by
  by_cases h1 : n < 21
  · rw [errOf_short h1]
    exact rdec_short A n c w h1
  by_cases h2 : MayB xs
  · rw [errOf_cut h2]
    exact rdec_cut A n c xs S w hx hS hb (by omega) hc h2 (by rcases Nat.lt_or_ge n (needOf xs) with h3 | h3; exact h3; exact absurd ⟨by omega, h2, h3⟩ h)
  · rw [errOf_bad (by omega) h2]
    exact rdec_bad A n c xs S w hx hS hb (by omega) hc h2

end Go.Proofs.Ytehldhdpeefljaa
