/- The law's kind and few. -/
import Derived.Test.YtfgmbkflpdobcaaArgsOps
import Derived.Test.YtfgmbkflpdobcaaMem
namespace Go.Proofs.Ytfgmbkflpdobcaa
open Go.RowKit
attribute [local go_sem] Oper.semAt_some
set_option linter.unusedVariables false
set_option linter.unusedSimpArgs false
def kindN (K : Int) : Nat := [0, 0, 0, 1, 2, 3].getD ((IntKind.u64.wrap K).tmod 6).toNat 0
theorem kindN_lt (K : Int) : kindN K < 4 := by
  have h0 : 0 ≤ IntKind.u64.wrap K := wrap_u64_nonneg K
  have h1 : (IntKind.u64.wrap K).tmod 6 = (IntKind.u64.wrap K) % 6 := Int.tmod_eq_emod_of_nonneg h0
  obtain ⟨r, hr⟩ : ∃ r : Nat, (IntKind.u64.wrap K).tmod 6 = (r : Int) := ⟨((IntKind.u64.wrap K) % 6).toNat, by omega⟩
  have hr6 : r < 6 := by omega
  unfold kindN
  rw [hr, Int.toNat_natCast]
  obtain rfl | rfl | rfl | rfl | rfl | rfl : r = 0 ∨ r = 1 ∨ r = 2 ∨ r = 3 ∨ r = 4 ∨ r = 5 := by omega
  all_goals decide
theorem index_six (r : Nat) (hr : r < 6) (w : World) : (Instr.index 75 (.agg #[.int .i64 0, .int .i64 0, .int .i64 0, .int .i64 1, .int .i64 2, .int .i64 3]) (.int .u64 (r : Nat))).run Try.prog w = .ok (.int .i64 ([0, 0, 0, 1, 2, 3].getD r 0 : Nat)) w := by
  have hs : (sizeOf 3).run Try.prog w = .ok 1 w := Try.sizeOf3 w
  have h1 : 0 ≤ (r : Int) ∧ (r : Int) < 6 := by omega
  obtain rfl | rfl | rfl | rfl | rfl | rfl : r = 0 ∨ r = 1 ∨ r = 2 ∨ r = 3 ∨ r = 4 ∨ r = 5 := by omega
  all_goals simp [Instr.index, run_underlying Try.underlying75, asIntOf, go_sem, hs]
set_option maxRecDepth 100000 in
theorem kind_any (K : Int) (f : Nat) (s g c : Int) (w : World) : Calls Try.prog 22 #[.agg #[.int .i64 K, .int .u32 f, .int .i64 s, .int .u64 g, .int .i64 c]] w fun e w' => e = .returned (.int .i64 (kindN K)) ∧ Below w.heap.size w w' := by
  have h0 : 0 ≤ IntKind.u64.wrap K := wrap_u64_nonneg K
  have h1 : (IntKind.u64.wrap K).tmod 6 = (IntKind.u64.wrap K) % 6 := Int.tmod_eq_emod_of_nonneg h0
  obtain ⟨r, hr⟩ : ∃ r : Nat, (IntKind.u64.wrap K).tmod 6 = (r : Int) := ⟨((IntKind.u64.wrap K) % 6).toNat, by omega⟩
  have hr6 : r < 6 := by omega
  have hk : kindN K = [0, 0, 0, 1, 2, 3].getD r 0 := by unfold kindN; rw [hr, Int.toNat_natCast]
  rw [hk]
  have hb := (Below.refl w.heap.size w).alloc (Nat.le_refl _) (.cells #[.int .i64 K, .int .u32 f, .int .i64 s, .int .u64 g, .int .i64 c] 38)
  have hx0 : ∀ w, (Instr.index 75 (.agg #[.int .i64 0, .int .i64 0, .int .i64 0, .int .i64 1, .int .i64 2, .int .i64 3]) (.int .u64 0)).run Try.prog w = .ok (.int .i64 0) w := index_six 0 (by omega)
  have hx1 : ∀ w, (Instr.index 75 (.agg #[.int .i64 0, .int .i64 0, .int .i64 0, .int .i64 1, .int .i64 2, .int .i64 3]) (.int .u64 1)).run Try.prog w = .ok (.int .i64 0) w := index_six 1 (by omega)
  have hx2 : ∀ w, (Instr.index 75 (.agg #[.int .i64 0, .int .i64 0, .int .i64 0, .int .i64 1, .int .i64 2, .int .i64 3]) (.int .u64 2)).run Try.prog w = .ok (.int .i64 0) w := index_six 2 (by omega)
  have hx3 : ∀ w, (Instr.index 75 (.agg #[.int .i64 0, .int .i64 0, .int .i64 0, .int .i64 1, .int .i64 2, .int .i64 3]) (.int .u64 3)).run Try.prog w = .ok (.int .i64 1) w := index_six 3 (by omega)
  have hx4 : ∀ w, (Instr.index 75 (.agg #[.int .i64 0, .int .i64 0, .int .i64 0, .int .i64 1, .int .i64 2, .int .i64 3]) (.int .u64 4)).run Try.prog w = .ok (.int .i64 2) w := index_six 4 (by omega)
  have hx5 : ∀ w, (Instr.index 75 (.agg #[.int .i64 0, .int .i64 0, .int .i64 0, .int .i64 1, .int .i64 2, .int .i64 3]) (.int .u64 5)).run Try.prog w = .ok (.int .i64 3) w := index_six 5 (by omega)
  clear h1 hk h0
  obtain rfl | rfl | rfl | rfl | rfl | rfl : r = 0 ∨ r = 1 ∨ r = 2 ∨ r = 3 ∨ r = 4 ∨ r = 5 := by omega
  all_goals
    clear hr6
    go_enter Try.func22, Try.ntmps22
    go_wp2
    go_ret
    exact ⟨rfl, hb⟩
theorem few_any (A : Option Addr) (n c m : Nat) (hm : m = min n 200) (hnc : n ≤ c) (hA : A = none → c = 0) (w : World) : Calls Try.prog 10 #[.slice A n c] w fun e w' => e = .returned (.slice A m c) ∧ w' = w := by
  have hmin : min (n : Int) 200 = (m : Int) := by omega
  have h2 : (m : Int) ≤ c := by omega
  go_enter Try.func10, Try.ntmps10
  go_wp2
  · have e : min n 200 = 200 := by omega
    rw [e]
    go_ret
    exact ⟨rfl, rfl⟩
  · have e : min n 200 = n := by omega
    rw [e]
    go_ret
    exact ⟨rfl, rfl⟩
end Go.Proofs.Ytfgmbkflpdobcaa
