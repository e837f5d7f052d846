/- Package super: what may be; the document's May. -/
import Derived.Test.YtkmbbfdjdmkjpaaWalk
namespace Go.Proofs.Ytkmbbfdjdmkjpaa
open Go.RowKit
set_option linter.unusedVariables false

abbrev supC (a b g r v f : Int) : Array Value := #[.int .i64 a, .int .i64 b, .int .u64 g, .int .u64 r, .int .u64 v, .int .u64 f]
abbrev turC (a b g r v f t : Int) : Array Value := #[.int .i64 a, .int .i64 b, .int .u64 g, .int .u64 r, .int .u64 v, .int .u64 f, .int .u64 t]
theorem size_sup : (Try.prog.info? 24).map (·.size) = some 6 := by kernel_rfl
theorem size_tur : (Try.prog.info? 95).map (·.size) = some 7 := by kernel_rfl

/-- What is known may be. -/
def MayS (a b g r : Int) : Prop := 4 ≤ a ∧ a ≤ 16 ∧ 24 ≤ b ∧ b ≤ 64 ∧ r ≤ g
instance (a b g r : Int) : Decidable (MayS a b g r) := by unfold MayS; infer_instance

theorem may_any (a b g r v f : Int) (w : World) :
    Calls Try.prog 99 #[.agg (supC a b g r v f)] w fun e w' => e = .returned (.bool (decide (MayS a b g r))) ∧ Below w.heap.size w w' := by
  by_cases h0 : (4 : Int) ≤ a
  case neg =>
    have hno : decide (MayS a b g r) = false := decide_eq_false (fun h => h0 h.1)
    rw [hno]
    have e0 : decide ((4 : Int) ≤ a) = false := decide_eq_false h0
    go_enter Try.func99, Try.ntmps99
    go_wp2
    go_ret
    exact ⟨rfl, (Below.refl _ _).alloc (Nat.le_refl _) _⟩
  have e0 : decide ((4 : Int) ≤ a) = true := decide_eq_true h0
  by_cases h1 : a ≤ (16 : Int)
  case neg =>
    have hno : decide (MayS a b g r) = false := decide_eq_false (fun h => h1 h.2.1)
    rw [hno]
    have e1 : decide (a ≤ (16 : Int)) = false := decide_eq_false h1
    go_enter Try.func99, Try.ntmps99
    go_wp2
    go_ret
    exact ⟨rfl, (Below.refl _ _).alloc (Nat.le_refl _) _⟩
  have e1 : decide (a ≤ (16 : Int)) = true := decide_eq_true h1
  by_cases h2 : (24 : Int) ≤ b
  case neg =>
    have hno : decide (MayS a b g r) = false := decide_eq_false (fun h => h2 h.2.2.1)
    rw [hno]
    have e2 : decide ((24 : Int) ≤ b) = false := decide_eq_false h2
    go_enter Try.func99, Try.ntmps99
    go_wp2
    go_ret
    exact ⟨rfl, (Below.refl _ _).alloc (Nat.le_refl _) _⟩
  have e2 : decide ((24 : Int) ≤ b) = true := decide_eq_true h2
  by_cases h3 : b ≤ (64 : Int)
  case neg =>
    have hno : decide (MayS a b g r) = false := decide_eq_false (fun h => h3 h.2.2.2.1)
    rw [hno]
    have e3 : decide (b ≤ (64 : Int)) = false := decide_eq_false h3
    go_enter Try.func99, Try.ntmps99
    go_wp2
    go_ret
    exact ⟨rfl, (Below.refl _ _).alloc (Nat.le_refl _) _⟩
  have e3 : decide (b ≤ (64 : Int)) = true := decide_eq_true h3
  by_cases h4 : r ≤ g
  case neg =>
    have hno : decide (MayS a b g r) = false := decide_eq_false (fun h => h4 h.2.2.2.2)
    rw [hno]
    have e4 : decide (r ≤ g) = false := decide_eq_false h4
    go_enter Try.func99, Try.ntmps99
    go_wp2
    go_ret
    exact ⟨rfl, (Below.refl _ _).alloc (Nat.le_refl _) _⟩
  have e4 : decide (r ≤ g) = true := decide_eq_true h4
  have hyes : decide (MayS a b g r) = true := decide_eq_true ⟨h0, h1, h2, h3, h4⟩
  rw [hyes]
  go_enter Try.func99, Try.ntmps99
  go_wp2
  go_ret
  exact ⟨rfl, (Below.refl _ _).alloc (Nat.le_refl _) _⟩

theorem rmay_any (a b g r v f : Int) (w : World) :
    Calls Try.prog 16 #[.agg (supC a b g r v f)] w fun e w' => e = .returned (.bool (decide (MayS a b g r))) ∧ Below w.heap.size w w' := by
  by_cases h0 : (4 : Int) ≤ a
  case neg =>
    have hno : decide (MayS a b g r) = false := decide_eq_false (fun h => h0 h.1)
    rw [hno]
    have e0 : decide ((4 : Int) ≤ a) = false := decide_eq_false h0
    go_enter Try.func16, Try.ntmps16
    go_wp2
    go_ret
    exact ⟨rfl, (Below.refl _ _).alloc (Nat.le_refl _) _⟩
  have e0 : decide ((4 : Int) ≤ a) = true := decide_eq_true h0
  by_cases h1 : a ≤ (16 : Int)
  case neg =>
    have hno : decide (MayS a b g r) = false := decide_eq_false (fun h => h1 h.2.1)
    rw [hno]
    have e1 : decide (a ≤ (16 : Int)) = false := decide_eq_false h1
    go_enter Try.func16, Try.ntmps16
    go_wp2
    go_ret
    exact ⟨rfl, (Below.refl _ _).alloc (Nat.le_refl _) _⟩
  have e1 : decide (a ≤ (16 : Int)) = true := decide_eq_true h1
  by_cases h2 : (24 : Int) ≤ b
  case neg =>
    have hno : decide (MayS a b g r) = false := decide_eq_false (fun h => h2 h.2.2.1)
    rw [hno]
    have e2 : decide ((24 : Int) ≤ b) = false := decide_eq_false h2
    go_enter Try.func16, Try.ntmps16
    go_wp2
    go_ret
    exact ⟨rfl, (Below.refl _ _).alloc (Nat.le_refl _) _⟩
  have e2 : decide ((24 : Int) ≤ b) = true := decide_eq_true h2
  by_cases h3 : b ≤ (64 : Int)
  case neg =>
    have hno : decide (MayS a b g r) = false := decide_eq_false (fun h => h3 h.2.2.2.1)
    rw [hno]
    have e3 : decide (b ≤ (64 : Int)) = false := decide_eq_false h3
    go_enter Try.func16, Try.ntmps16
    go_wp2
    go_ret
    exact ⟨rfl, (Below.refl _ _).alloc (Nat.le_refl _) _⟩
  have e3 : decide (b ≤ (64 : Int)) = true := decide_eq_true h3
  by_cases h4 : r ≤ g
  case neg =>
    have hno : decide (MayS a b g r) = false := decide_eq_false (fun h => h4 h.2.2.2.2)
    rw [hno]
    have e4 : decide (r ≤ g) = false := decide_eq_false h4
    go_enter Try.func16, Try.ntmps16
    go_wp2
    go_ret
    exact ⟨rfl, (Below.refl _ _).alloc (Nat.le_refl _) _⟩
  have e4 : decide (r ≤ g) = true := decide_eq_true h4
  have hyes : decide (MayS a b g r) = true := decide_eq_true ⟨h0, h1, h2, h3, h4⟩
  rw [hyes]
  go_enter Try.func16, Try.ntmps16
  go_wp2
  go_ret
  exact ⟨rfl, (Below.refl _ _).alloc (Nat.le_refl _) _⟩

end Go.Proofs.Ytkmbbfdjdmkjpaa
