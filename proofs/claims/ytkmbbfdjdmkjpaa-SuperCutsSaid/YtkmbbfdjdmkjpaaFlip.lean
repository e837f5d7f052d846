/- A bit is turned; what is known is compared. -/
import Derived.Test.YtkmbbfdjdmkjpaaGood
namespace Go.Proofs.Ytkmbbfdjdmkjpaa
open Go.RowKit
set_option linter.unusedVariables false
set_option linter.unusedSimpArgs false

theorem xor_flip : ∀ m : Fin 8, ∀ y : Fin 256, bits .xor .u8 ((y.val : Nat) : Int) ((2 ^ m.val : Nat) : Int) ≠ ((y.val : Nat) : Int) ∧ 0 ≤ bits .xor .u8 ((y.val : Nat) : Int) ((2 ^ m.val : Nat) : Int) ∧ bits .xor .u8 ((y.val : Nat) : Int) ((2 ^ m.val : Nat) : Int) ≤ 255 := by
  decide +kernel
theorem flip_in (m : Nat) (hm : m < 8) (y : Int) (h0 : 0 ≤ y) (h1 : y ≤ 255) : bits .xor .u8 y ((2 ^ m : Nat) : Int) ≠ y ∧ 0 ≤ bits .xor .u8 y ((2 ^ m : Nat) : Int) ∧ bits .xor .u8 y ((2 ^ m : Nat) : Int) ≤ 255 := by
  have h := xor_flip ⟨m, hm⟩ ⟨y.toNat, by omega⟩
  have e : ((y.toNat : Nat) : Int) = y := by omega
  simp only [e] at h
  exact h
theorem shl_pow (m : Nat) (hm : m < 8) (w : World) : (binOp .shl 5 (.int .u8 1) (.int .i64 m)).run Try.prog w = .ok (.int .u8 ((2 ^ m : Nat) : Int)) w := by
  match m, hm with
  | 0, _ | 1, _ | 2, _ | 3, _ | 4, _ | 5, _ | 6, _ | 7, _ => rfl

theorem wrap_pow (m : Nat) (hm : m < 8) : IntKind.u8.wrap ((2 : Int) ^ m) = ((2 ^ m : Nat) : Int) := by
  match m, hm with
  | 0, _ | 1, _ | 2, _ | 3, _ | 4, _ | 5, _ | 6, _ | 7, _ => rfl
theorem neq_sup (a b g r v f a' b' g' r' v' f' : Int) (w : World) (h : ¬ (a = a' ∧ b = b' ∧ g = g' ∧ r = r' ∧ v = v' ∧ f = f')) :
    (binOp .neq 24 (.agg (supC a b g r v f)) (.agg (supC a' b' g' r' v' f'))).run Try.prog w = .ok (.bool true) w := by
  by_cases h0 : a = a'
  case neg =>
    have e0 : (a == a') = false := by simpa using h0
    clear h
    go_simp
  subst h0
  by_cases h1 : b = b'
  case neg =>
    have e1 : (b == b') = false := by simpa using h1
    clear h
    go_simp
  subst h1
  by_cases h2 : g = g'
  case neg =>
    have e2 : (g == g') = false := by simpa using h2
    clear h
    go_simp
  subst h2
  by_cases h3 : r = r'
  case neg =>
    have e3 : (r == r') = false := by simpa using h3
    clear h
    go_simp
  subst h3
  by_cases h4 : v = v'
  case neg =>
    have e4 : (v == v') = false := by simpa using h4
    clear h
    go_simp
  subst h4
  by_cases h5 : f = f'
  case neg =>
    have e5 : (f == f') = false := by simpa using h5
    clear h
    go_simp
  subst h5
  exact absurd ⟨rfl, rfl, rfl, rfl, rfl, rfl⟩ h
theorem neq_sup_no (a b g r v f : Int) (w : World) : (binOp .neq 24 (.agg (supC a b g r v f)) (.agg (supC a b g r v f))).run Try.prog w = .ok (.bool false) w := by go_simp
theorem eql_sup (a b g r v f : Int) (w : World) : (binOp .eql 24 (.agg (supC a b g r v f)) (.agg (supC a b g r v f))).run Try.prog w = .ok (.bool true) w := by go_simp

end Go.Proofs.Ytkmbbfdjdmkjpaa
