/- Two things known are compared. -/
import Derived.Test.YtkmbbfdjdmkjpaaFlip
import Derived.Test.YtkmbbfdjdmkjpaaSetAll
namespace Go.Proofs.Ytkmbbfdjdmkjpaa
open Go.RowKit
set_option linter.unusedVariables false
set_option linter.unusedSimpArgs false

theorem eql_supN (a b g r v f a' b' g' r' v' f' : Int) (w : World) (h : ¬ (a = a' ∧ b = b' ∧ g = g' ∧ r = r' ∧ v = v' ∧ f = f')) :
    (binOp .eql 24 (.agg (supC a b g r v f)) (.agg (supC a' b' g' r' v' f'))).run Try.prog w = .ok (.bool false) w := by
  by_cases h0 : a = a'
  case neg =>
    have e0 : (a == a') = false := by simpa using h0
    clear h
    go_simp
  subst h0
  by_cases h1 : b = b'
  case neg =>
    have e1 : (b == b') = false := by simpa using h1
    clear h
    go_simp
  subst h1
  by_cases h2 : g = g'
  case neg =>
    have e2 : (g == g') = false := by simpa using h2
    clear h
    go_simp
  subst h2
  by_cases h3 : r = r'
  case neg =>
    have e3 : (r == r') = false := by simpa using h3
    clear h
    go_simp
  subst h3
  by_cases h4 : v = v'
  case neg =>
    have e4 : (v == v') = false := by simpa using h4
    clear h
    go_simp
  subst h4
  by_cases h5 : f = f'
  case neg =>
    have e5 : (f == f') = false := by simpa using h5
    clear h
    go_simp
  subst h5
  exact absurd ⟨rfl, rfl, rfl, rfl, rfl, rfl⟩ h
theorem guard_sup : Try.prog.eqGuardType Try.prog.depth 24 = false := by kernel_rfl
theorem eqg_sup (x y : Operand) (u v : Array Value) (W : World) : (eqGuard .eql 24 x y (.agg u) (.agg v)).run Try.prog W = .ok () W := run_eqGuard_agg W .eql _ x y u v guard_sup
theorem eql_same (s : Sup) (W : World) : (binOp .eql 24 (.agg s.c) (.agg s.c)).run Try.prog W = .ok (.bool true) W := eql_sup ..
theorem eql_not {s x : Sup} (h : s ≠ x) (W : World) : (binOp .eql 24 (.agg s.c) (.agg x.c)).run Try.prog W = .ok (.bool false) W := by
  refine eql_supN _ _ _ _ _ _ _ _ _ _ _ _ W (fun k => h ?_)
  obtain ⟨a, b, g, r, v, f⟩ := s
  obtain ⟨a', b', g', r', v', f'⟩ := x
  obtain ⟨h1, h2, h3, h4, h5, h6⟩ := k
  simp only [] at h1 h2 h3 h4 h5 h6
  subst h1 h2 h3 h4 h5 h6
  rfl

end Go.Proofs.Ytkmbbfdjdmkjpaa
