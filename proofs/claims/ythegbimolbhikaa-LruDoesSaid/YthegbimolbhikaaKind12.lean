/- The law's kind and few. -/
import Derived.Test.YthegbimolbhikaaArgs12
import Derived.Test.YthegbimolbhikaaMem
import Derived.Deep.DeepCutAuto
import Derived.Deep.RegionHeld3
namespace Go.Proofs.Ythegbimolbhikaa
open Go.RowKit
attribute [local go_sem] Oper.semAt_some
set_option linter.unusedVariables false
set_option linter.unusedSimpArgs false
def kindL (K : Int) : Nat := [0, 0, 1, 2].getD ((IntKind.u64.wrap K).tmod 4).toNat 0
theorem wrap_u64_pos (K : Int) : 0 ≤ IntKind.u64.wrap K := by rw [IntKind.wrap_u64]; omega
theorem kind_rem (K : Int) : ∃ r : Nat, (IntKind.u64.wrap K).tmod 4 = (r : Int) ∧ r < 4 := by
  have h0 := wrap_u64_pos K
  have h1 : (IntKind.u64.wrap K).tmod 4 = (IntKind.u64.wrap K) % 4 := Int.tmod_eq_emod_of_nonneg h0
  exact ⟨((IntKind.u64.wrap K) % 4).toNat, by omega, by omega⟩
theorem kindL_lt (K : Int) : kindL K = 0 ∨ kindL K = 1 ∨ kindL K = 2 := by
  obtain ⟨r, hr, hr4⟩ := kind_rem K
  unfold kindL
  rw [hr, Int.toNat_natCast]
  obtain rfl | rfl | rfl | rfl : r = 0 ∨ r = 1 ∨ r = 2 ∨ r = 3 := by omega
  all_goals decide
theorem index_four (r : Nat) (hr : r < 4) (w : World) : (Instr.index 66 (.agg #[.int .i64 0, .int .i64 0, .int .i64 1, .int .i64 2]) (.int .u64 (r : Nat))).run Try.prog w = .ok (.int .i64 ([0, 0, 1, 2].getD r 0 : Nat)) w := by
  have hs : (sizeOf 3).run Try.prog w = .ok 1 w := Try.sizeOf3 w
  have h1 : 0 ≤ (r : Int) ∧ (r : Int) < 4 := by omega
  obtain rfl | rfl | rfl | rfl : r = 0 ∨ r = 1 ∨ r = 2 ∨ r = 3 := by omega
  all_goals simp [Instr.index, run_underlying Try.underlying66, asIntOf, go_sem, hs]
set_option maxRecDepth 100000 in
theorem kind_any (K L N : Int) (w : World) : Calls Try.prog 12 #[.agg #[.int .i64 K, .int .i64 L, .int .i64 N]] w fun e w' => e = .returned (.int .i64 (kindL K)) ∧ Below w.heap.size w w' := by
  obtain ⟨r, hr, hr4⟩ := kind_rem K
  have hk : kindL K = [0, 0, 1, 2].getD r 0 := by unfold kindL; rw [hr, Int.toNat_natCast]
  rw [hk]
  have hb := (Below.refl w.heap.size w).alloc (Nat.le_refl _) (.cells #[.int .i64 K, .int .i64 L, .int .i64 N] 35)
  have hx0 : ∀ w, (Instr.index 66 (.agg #[.int .i64 0, .int .i64 0, .int .i64 1, .int .i64 2]) (.int .u64 0)).run Try.prog w = .ok (.int .i64 0) w := index_four 0 (by omega)
  have hx1 : ∀ w, (Instr.index 66 (.agg #[.int .i64 0, .int .i64 0, .int .i64 1, .int .i64 2]) (.int .u64 1)).run Try.prog w = .ok (.int .i64 0) w := index_four 1 (by omega)
  have hx2 : ∀ w, (Instr.index 66 (.agg #[.int .i64 0, .int .i64 0, .int .i64 1, .int .i64 2]) (.int .u64 2)).run Try.prog w = .ok (.int .i64 1) w := index_four 2 (by omega)
  have hx3 : ∀ w, (Instr.index 66 (.agg #[.int .i64 0, .int .i64 0, .int .i64 1, .int .i64 2]) (.int .u64 3)).run Try.prog w = .ok (.int .i64 2) w := index_four 3 (by omega)
  clear hk
  obtain rfl | rfl | rfl | rfl : r = 0 ∨ r = 1 ∨ r = 2 ∨ r = 3 := by omega
  all_goals
    clear hr4
    go_enter Try.func12, Try.ntmps12
    go_wp2
    go_ret
    exact ⟨rfl, hb⟩
theorem few_any (A : Option Addr) (n c m : Nat) (hm : m = min n 200) (hnc : n ≤ c) (hA : A = none → c = 0) (w : World) : Calls Try.prog 11 #[.slice A n c] w fun e w' => e = .returned (.slice A m c) ∧ w' = w := by
  have hmin : min (n : Int) 200 = (m : Int) := by omega
  have h2 : (m : Int) ≤ c := by omega
  go_enter Try.func11, Try.ntmps11
  go_wp2
  · have e : min n 200 = 200 := by omega
    rw [e]
    go_ret
    exact ⟨rfl, rfl⟩
  · have e : min n 200 = n := by omega
    rw [e]
    go_ret
    exact ⟨rfl, rfl⟩
/-- An op of a slice that came in, as its cells. -/
theorem op_cells {w : World} {A : Option Addr} {n c : Nat} {z : List OpE} (h : IsOps w A n c z) {W : World} (hB : Below w.heap.size w W) {j : Nat} (hj : j < n) :
    ∃ b off, A = some ⟨b, off, none⟩ ∧ ∃ K L N, OpIn (K, L, N) ∧ z.getD j op0 = (K, L, N) ∧ W.cell? ⟨b, off + j * 3, none⟩ = some (.int .i64 K) ∧ W.cell? ⟨b, off + j * 3 + 1, none⟩ = some (.int .i64 L) ∧ W.cell? ⟨b, off + j * 3 + 2, none⟩ = some (.int .i64 N) := by
  obtain ⟨b, off, e, hb, hc⟩ := h.row.2 (by omega)
  have hf := h.fin j hj
  have hcj := hc j hj
  obtain ⟨⟨K, L, N⟩, hz⟩ : ∃ o, z.getD j op0 = o := ⟨_, rfl⟩
  rw [hz] at hf hcj
  exact ⟨b, off, e, K, L, N, hf, hz, (hB.cell (p := ⟨b, off + j * 3, none⟩) hb).trans (hcj 0 _ rfl), (hB.cell (p := ⟨b, off + j * 3 + 1, none⟩) hb).trans (hcj 1 _ rfl), (hB.cell (p := ⟨b, off + j * 3 + 2, none⟩) hb).trans (hcj 2 _ rfl)⟩
end Go.Proofs.Ythegbimolbhikaa
