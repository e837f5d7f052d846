/- The law's same: are these the same addresses? -/
import Derived.Test.YtfgmbkflpdobcaaAdrMem
import Derived.Test.YtfgmbkflpdobcaaEqA
namespace Go.Proofs.Ytfgmbkflpdobcaa
open Go.RowKit
attribute [local go_sem] Oper.semAt_some
set_option linter.unusedVariables false
set_option linter.unusedSimpArgs false
theorem row_cells {w : World} {S : Nat → Prop} {A : Option Addr} {n : Nat} {xs : List Seg} (h : RowZ w S A n xs) {j : Nat} (hj : j < n) :
    ∃ b off, A = some ⟨b, off, none⟩ ∧ w.cell? ⟨b, off + j * 3, none⟩ = some (.int .i64 (xs.getD j seg0).1) ∧ w.cell? ⟨b, off + j * 3 + 1, none⟩ = some (.int .u64 (xs.getD j seg0).2.1) ∧ w.cell? ⟨b, off + j * 3 + 2, none⟩ = some (.int .i64 (xs.getD j seg0).2.2) := by
  obtain ⟨b, off, e, _, hc⟩ := h.2 (by omega)
  exact ⟨b, off, e, hc j hj 0 _ rfl, hc j hj 1 _ rfl, hc j hj 2 _ rfl⟩
set_option maxRecDepth 100000 in
set_option maxHeartbeats 2000000 in
/-- Of equal lists: yes. -/
theorem same_yes {w : World} {S T : Nat → Prop} {A B : Option Addr} {n m c d : Nat} {xs ys : List Seg} (hx : RowZ w S A n xs) (hy : RowZ w T B m ys) (he : xs = ys) (hn63 : n ≤ 1000000) :
    Calls Try.prog 13 #[.slice A n c, .slice B m d] w fun e w' => e = .returned (.bool true) ∧ Kept (fun _ => True) w w' := by
  subst he
  obtain rfl : n = m := by rw [← hx.1, hy.1]
  have HX := Lib.hid hx
  have HY := Lib.hid hy
  clear hx hy
  have hq : ((n : Int) != (n : Int)) = false := by simp
  go_enter Try.func13, Try.ntmps13
  go_wp2
  go_loopw [13] (fun i wr => ∃ j : Nat, i = .int .i64 j ∧ j ≤ n ∧ Kept (fun _ => True) w wr) (fun i _ => n - (intOf i).toNat)
  case atStart => exact ⟨0, rfl, Nat.zero_le _, Kept.refl _ _⟩
  case round =>
    obtain ⟨j, rfl, hj, hk⟩ := hrel
    have HK := Lib.hid hk
    clear hk
    by_cases hjn : j < n
    · obtain ⟨b, off, rfl, a0, a1, a2⟩ := row_cells (HX.out.kept HK.out (fun _ _ => trivial)) hjn
      obtain ⟨b', off', rfl, b0, b1, b2⟩ := row_cells (HY.out.kept HK.out (fun _ _ => trivial)) hjn
      obtain ⟨⟨x, y, z⟩, hs⟩ : ∃ s, xs.getD j seg0 = s := ⟨_, rfl⟩
      rw [hs] at a0 a1 a2 b0 b1 b2
      have hne : ∀ w, (binOp .neq 36 (.agg #[.int .i64 x, .int .u64 y, .int .i64 z]) (.agg #[.int .i64 x, .int .u64 y, .int .i64 z])).run Try.prog w = .ok (.bool false) w := fun w => by
        have := neq_adr x y z x y z w
        simpa using this
      clear hs
      go_wp2
      go_quiet (fail)
      go_wp2
      go_roundw
      case rel => exact ⟨j + 1, by simp, by omega, HK.out.drewN _⟩
      case measure => show n - (Int.toNat ((j : Int) + 1)) < n - (Int.toNat (j : Int)); omega
    · obtain rfl : n = j := by omega
      go_wp2
      go_ret
      exact ⟨rfl, HK.out⟩
end Go.Proofs.Ytfgmbkflpdobcaa
