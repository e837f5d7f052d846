/- The document's answers of layer 1 (icehouseref01): Same. -/
import Derived.Test.YtikeiloeeklkeaaOctet
namespace Go.Proofs.Ytikeiloeeklkeaa
open Go.RowKit
set_option linter.unusedVariables false

theorem same1_unlike (A A' : Option Addr) (n c n' c' : Nat) (w : World) (hne : n ≠ n') :
    Calls Try.prog 14 #[.slice A n c, .slice A' n' c'] w fun e w' => e = .returned (.bool false) ∧ w = w' := by
  have h1 : ((n : Int) != (n' : Int)) = true := by simp; omega
  go_enter Try.func14, Try.ntmps14
  go_wp2
  go_ret
  exact ⟨rfl, rfl⟩

set_option maxHeartbeats 400000 in
theorem same1_yes (A A' : Option Addr) (n c c' : Nat) (xs : List Int) (S S' : Nat → Prop) (w : World) (hx : RowI .u8 w S A n xs) (hy : RowI .u8 w S' A' n xs) (hn : n ≤ 140737488351232) :
    Calls Try.prog 14 #[.slice A n c, .slice A' n c'] w fun e w' => e = .returned (.bool true) ∧ ∃ k, w.drewN k = w' := by
  have HX := Lib.hid hx
  have HY := Lib.hid hy
  clear hx hy
  go_enter Try.func14, Try.ntmps14
  go_wp2
  go_loopw [5] (fun i wr => ∃ k d : Nat, k ≤ n ∧ i = .int .i64 k ∧ wr = w.drewN d) (fun i _ => n - (intOf i).toNat)
  case atStart => exact ⟨0, 0, by omega, rfl, rfl⟩
  case round =>
    obtain ⟨k, d, hk, rfl, rfl⟩ := hrel
    by_cases hlt : k < n
    · obtain ⟨_, off, rfl, _, hc⟩ := HX.out.2 (by omega)
      obtain ⟨_, off', rfl, _, hc'⟩ := HY.out.2 (by omega)
      have hcell := hc k hlt
      have hcell' := hc' k hlt
      generalize xs.getD k 0 = y at *
      clear hc hc'
      go_wp2
      go_quiet (fail)
      go_wp2
      go_roundw
      case rel => exact ⟨k + 1, _, by omega, by go_num, rfl⟩
      case measure => (simp [intOf] <;> omega)
    · obtain rfl : k = n := by omega
      go_wp2
      go_ret
      exact ⟨rfl, _, rfl⟩

end Go.Proofs.Ytikeiloeeklkeaa
