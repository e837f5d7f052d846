/- Addresses: are they the same? -/
import Derived.Test.YtfgmbkflpdobcaaOwn10
namespace Go.Proofs.Ytfgmbkflpdobcaa
open Go.RowKit
set_option linter.unusedVariables false
set_option linter.unusedSimpArgs false
theorem eql_adr (a b c a' b' c' : Int) (w : World) : (binOp .eql 36 (.agg #[.int .i64 a, .int .u64 b, .int .i64 c]) (.agg #[.int .i64 a', .int .u64 b', .int .i64 c'])).run Try.prog w = .ok (.bool (decide ((a, b, c) = (a', b', c')))) w := by
  by_cases h0 : a = a'
  case neg =>
    have e0 : (a == a') = false := by simpa using h0
    rw [show decide ((a, b, c) = (a', b', c')) = false from decide_eq_false (fun h => h0 (by simp only [Prod.mk.injEq] at h; first | exact h.1 | exact h.2.1 | exact h.2.2))]
    go_simp
  subst h0
  by_cases h1 : b = b'
  case neg =>
    have e1 : (b == b') = false := by simpa using h1
    rw [show decide ((a, b, c) = (a, b', c')) = false from decide_eq_false (fun h => h1 (by simp only [Prod.mk.injEq] at h; first | exact h.1 | exact h.2.1 | exact h.2.2))]
    go_simp
  subst h1
  by_cases h2 : c = c'
  case neg =>
    have e2 : (c == c') = false := by simpa using h2
    rw [show decide ((a, b, c) = (a, b, c')) = false from decide_eq_false (fun h => h2 (by simp only [Prod.mk.injEq] at h; first | exact h.1 | exact h.2.1 | exact h.2.2))]
    go_simp
  subst h2
  rw [show decide ((a, b, c) = (a, b, c)) = true from decide_eq_true rfl]
  go_simp
theorem neq_adr (a b c a' b' c' : Int) (w : World) : (binOp .neq 36 (.agg #[.int .i64 a, .int .u64 b, .int .i64 c]) (.agg #[.int .i64 a', .int .u64 b', .int .i64 c'])).run Try.prog w = .ok (.bool (!decide ((a, b, c) = (a', b', c')))) w := by
  by_cases h0 : a = a'
  case neg =>
    have e0 : (a == a') = false := by simpa using h0
    rw [show decide ((a, b, c) = (a', b', c')) = false from decide_eq_false (fun h => h0 (by simp only [Prod.mk.injEq] at h; first | exact h.1 | exact h.2.1 | exact h.2.2))]
    go_simp
  subst h0
  by_cases h1 : b = b'
  case neg =>
    have e1 : (b == b') = false := by simpa using h1
    rw [show decide ((a, b, c) = (a, b', c')) = false from decide_eq_false (fun h => h1 (by simp only [Prod.mk.injEq] at h; first | exact h.1 | exact h.2.1 | exact h.2.2))]
    go_simp
  subst h1
  by_cases h2 : c = c'
  case neg =>
    have e2 : (c == c') = false := by simpa using h2
    rw [show decide ((a, b, c) = (a, b, c')) = false from decide_eq_false (fun h => h2 (by simp only [Prod.mk.injEq] at h; first | exact h.1 | exact h.2.1 | exact h.2.2))]
    go_simp
  subst h2
  rw [show decide ((a, b, c) = (a, b, c)) = true from decide_eq_true rfl]
  go_simp

end Go.Proofs.Ytfgmbkflpdobcaa
