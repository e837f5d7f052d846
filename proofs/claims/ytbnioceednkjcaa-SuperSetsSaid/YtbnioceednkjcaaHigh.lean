/- The document's answers of layer 1 (icehouseref01): High. -/
import Derived.Test.YtbnioceednkjcaaPut
namespace Go.Proofs.Ytbnioceednkjcaa
open Go.RowKit
set_option linter.unusedVariables false

set_option maxHeartbeats 400000 in
theorem high_any (x : Int) (c : Nat) (w : World) (x0 : 0 ≤ x) (x1 : x ≤ 18446744073709551615) (hc : c ≤ 8) :
    Calls Try.prog 67 #[.int .u64 x, .int .i64 c] w fun e w' => e = .returned (.slice (some ⟨w.heap.size, 0, none⟩) c c) ∧ ArrU w' w.heap.size (beBytes x c) ∧ Below w.heap.size w w' := by
  have hmk := fun u : World => run_make_row' (P := Try.prog) 91 5 (.int .u8 0) 1 Try.underlying91 info_u8 rfl .i64 .i64 c (by omega) (by omega) u
  go_enter Try.func67, Try.ntmps67
  go_wp2
  go_loopw [0, 6] (fun v i wr => ∃ (k : Nat) (p y : Int), k ≤ c ∧ p = (c : Int) - 1 - k ∧ i = .int .i64 p ∧ y = x / ((256 ^ k : Nat) : Int) ∧ v = .int .u64 y ∧ ArrU wr w.heap.size (laid x c k) ∧ Below w.heap.size w wr) (fun _ i _ => (intOf i + 1).toNat)
  case atStart =>
    refine ⟨0, _, x, by omega, by simp, rfl, by simp, rfl, ?_, (Below.refl _ _).alloc (Nat.le_refl _) _⟩
    rw [laid_none]
    exact Arr.made w 0 c _
  case round =>
    obtain ⟨k, p, y, hk, hp, rfl, hy, rfl, harr, hbel⟩ := hrel
    by_cases hlt : k < c
    · obtain ⟨q, rfl⟩ : ∃ q : Nat, p = (q : Int) := ⟨p.toNat, by omega⟩
      have hq : q = c - 1 - k := by omega
      have hcell := harr.cell (i := q) (by rw [laid_length]; omega) 0
      have hfr := harr.frozen q
      have hy0 : 0 ≤ y := by rw [hy]; exact Int.ediv_nonneg x0 (Int.natCast_nonneg _)
      have hy1 : y ≤ 18446744073709551615 := by rw [hy]; exact Int.le_trans (Int.ediv_le_self _ x0) x1
      have HA := Lib.hid harr
      have HB2 := Lib.hid hbel
      have HY := Lib.hid hy
      have HP := Lib.hid hp
      have HQ := Lib.hid hq
      have hqc : (q : Int) < c := by omega
      clear harr hbel hy hp hq
      go_wp2
      go_roundw
      case rel =>
        refine ⟨k + 1, (q : Int) - 1, y / 256, by omega, by have := HP.out; omega, rfl, by rw [HY.out]; exact pow_step x k, rfl, ?_, HB2.out.setCell (Nat.le_refl _) _⟩
        have hs := HA.out.set q (y % 256)
        rw [HQ.out] at hs
        rw [HQ.out]
        rw [show (laid x c k).set (c - 1 - k) (y % 256) = laid x c (k + 1) by rw [HY.out]; exact laid_set x c k hlt] at hs
        exact hs
      case measure => (simp [intOf] <;> omega)
    · obtain rfl : k = c := by omega
      have hpn2 : p < 0 := by omega
      have HA := Lib.hid harr
      have HB2 := Lib.hid hbel
      clear harr hbel hy hp
      go_wp2
      go_ret
      rw [laid_all] at HA
      exact ⟨rfl, HA.out, HB2.out⟩

end Go.Proofs.Ytbnioceednkjcaa
