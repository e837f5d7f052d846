/- The document's answers of layer 1 (icehouseref01): Number. -/
import Derived.Test.YtbnioceednkjcaaNumber
namespace Go.Proofs.Ytbnioceednkjcaa
open Go.RowKit
set_option linter.unusedVariables false

set_option maxHeartbeats 400000 in
theorem num_any (A : Option Addr) (n c : Nat) (xs : List Int) (S : Nat → Prop) (w : World) (hx : RowI .u8 w S A n xs) (hb : Bytes xs) (h8 : n ≤ 8) :
    Calls Try.prog 70 #[.slice A n c] w fun e w' => e = .returned (.int .u64 (numOf xs)) ∧ w = w' := by
  have HX := Lib.hid hx
  have HL := Lib.hid hx.1
  have HB := Lib.hid hb
  clear hx hb
  go_enter Try.func70, Try.ntmps70
  go_wp2
  go_loop [3, 4] (fun x i => ∃ k : Nat, k ≤ n ∧ i = .int .i64 k ∧ x = .int .u64 (numOf (xs.take k))) (fun _ i => n - (intOf i).toNat)
  case atStart => exact ⟨0, by omega, rfl, rfl⟩
  case round =>
    obtain ⟨k, hk, rfl, rfl⟩ := hrel
    by_cases hlt : k < n
    · obtain ⟨_, off, rfl, _, hc⟩ := HX.out.2 (by omega)
      have hcell := hc k hlt
      have hr : 0 ≤ xs.getD k 0 ∧ xs.getD k 0 ≤ 255 := HB.out k
      have hv := numOf_take xs HB.out k (by have := HL.out; omega) (by omega)
      have hs : numOf (xs.take (k + 1)) = numOf (xs.take k) * 256 + xs.getD k 0 := by rw [take_snoc xs k (by have := HL.out; omega), numOf_snoc]
      generalize numOf (xs.take k) = x at *
      generalize xs.getD k 0 = y at *
      have HS := Lib.hid hs
      clear hs hc
      go_wp2
      go_round
      case rel => exact ⟨k + 1, by omega, by go_num, by rw [HS.out]⟩
      case measure => (simp [intOf] <;> omega)
    · obtain rfl : k = n := by omega
      have ht := Lib.hid (List.take_of_length_le (l := xs) (i := k) (by have := HL.out; omega))
      go_wp2
      go_ret
      exact ⟨ret_int (by rw [ht.out]), rfl⟩

end Go.Proofs.Ytbnioceednkjcaa
