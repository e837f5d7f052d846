/- Words of the stage's laws. -/
import Derived.Test.YtighdflbmpkehaaWake17
import Derived.Test.YtighdflbmpkehaaArgs
namespace Go.Proofs.Ytighdflbmpkehaa
open Go.RowKit
theorem u32_of {x : Int} (h : (Lit.int .u32 x).wf = true) : U32 x := by
  have h : 0 ≤ x ∧ x ≤ 4294967295 := by simpa [Lit.wf, IntKind.min, IntKind.max, IntKind.signed, IntKind.bits] using h
  exact h
theorem u64_of {x : Int} (h : (Lit.int .u64 x).wf = true) : ∃ n : Nat, x = n ∧ n ≤ 18446744073709551615 := by
  have h : 0 ≤ x ∧ x ≤ 18446744073709551615 := by simpa [Lit.wf, IntKind.min, IntKind.max, IntKind.signed, IntKind.bits] using h
  exact ⟨x.toNat, by omega, by omega⟩
theorem bytes_append {xs ys : List Int} (hx : Bytes xs) (hy : Bytes ys) : Bytes (xs ++ ys) := by
  intro j
  by_cases h : j < xs.length
  · have e : (xs ++ ys).getD j 0 = xs.getD j 0 := by simp [List.getD, List.getElem?_append, h]
    rw [e]; exact hx j
  · have e : (xs ++ ys).getD j 0 = ys.getD (j - xs.length) 0 := by simp [List.getD, List.getElem?_append, h]
    rw [e]; exact hy _
end Go.Proofs.Ytighdflbmpkehaa
