/- Two lists of numbers that are the same are told so; and the layer does something. -/
import Derived.Test.YtcmafkejniajeaaProbes
import Derived.Deep.QuietTactic
import Derived.BigQuiet
import Derived.Lib.SlBytesConst
namespace Go.Proofs.Ytcmafkejniajeaa
open Go.RowKit
set_option linter.unusedVariables false

theorem below_drewN {B : Nat} {a w : World} (h : Below B a w) (n : Nat) : Below B a (w.drewN n) := ⟨h.os, h.tape, h.output, h.size, h.block⟩

set_option maxHeartbeats 400000 in
theorem same_yes (A1 A2 : Option Addr) (n c1 c2 : Nat) (xs : List Int) (B : Nat) (w : World) (h1 : Row .i64 w B A1 n xs) (h2 : Row .i64 w B A2 n xs) (hn : n ≤ 9223372036854775807) :
    Calls Try.prog 15 #[.slice A1 n c1, .slice A2 n c2] w fun e w' => e = .returned (.bool true) ∧ ∃ k, w.drewN k = w' := by
  go_enter Try.func15, Try.ntmps15
  go_wp2
  go_loopw [13] (fun i wr => ∃ k d : Nat, k ≤ n ∧ i = .int .i64 k ∧ wr = w.drewN d) (fun i _ => n - (intOf i).toNat)
  case atStart => exact ⟨0, 0, by omega, rfl, rfl⟩
  case round =>
    obtain ⟨k, d, hk, rfl, rfl⟩ := hrel
    by_cases hlt : k < n
    · obtain ⟨b1, o1, rfl, _, hc1⟩ := h1.2 (by omega)
      obtain ⟨b2, o2, rfl, _, hc2⟩ := h2.2 (by omega)
      have e1 := hc1 k hlt
      have e2 := hc2 k hlt
      clear hc1 hc2 h1 h2
      go_wp2
      go_quiet (fail)
      go_wp2
      go_roundw
      case rel => exact ⟨k + 1, _, by omega, by go_num, rfl⟩
      case measure => simp [intOf]; omega
    · clear h1 h2
      go_wp2
      go_ret
      exact ⟨rfl, d, rfl⟩

theorem fnv_a : fnv start [97] = 12638187200555641996 := by decide +kernel
theorem fing_a : fing [97] = 2942557260 := by decide +kernel

theorem row_a (w : World) : Row .u8 (w.alloc (.cells #[.int .u8 97] 5 (1, 2))) (w.heap.size + 1) (some ⟨w.heap.size, 0, none⟩) 1 [97] := by
  refine ⟨rfl, fun _ => ⟨w.heap.size, 0, rfl, by omega, fun j hj => ?_⟩⟩
  obtain rfl : j = 0 := by omega
  exact World.cell?_alloc_mark w _ _ _ 0
theorem bytes_a : Bytes [97] := by
  intro j
  rcases j with _ | j <;> simp [List.getD]
def textA : ByteArray := { data := #[97] }
theorem nums_a : nums textA = [97] := rfl

set_option maxHeartbeats 400000 in
theorem wakes_any (w : World) : Calls Try.prog 8 #[] w fun e w' => e = .returned (.bool true) ∧ Below w.heap.size w w' := by
  have kc := fun (w : World) (C : Array Value) (n c : Nat) => Lib.run_convert_bytes_const (P := Try.prog) w 22 5 C n c Try.underlying22 Try.underlying5
  have hrow := row_a w
  have hbel : Below w.heap.size w (w.alloc (.cells #[.int .u8 97] 5 (1, 2))) := (Below.refl _ _).alloc (Nat.le_refl _) _
  go_enter Try.func8, Try.ntmps8
  go_wp2_with fail
  refine (hash_any _ _ _ _ _ _ hrow bytes_a (by omega)).mono ?_
  rintro e w' ⟨rfl, rfl⟩
  rw [fnv_a]
  go_wp2_with fail
  refine (finger_any textA _ (by decide)).mono ?_
  rintro e w' ⟨rfl, rfl⟩
  rw [nums_a, fing_a]
  go_wp2_with fail
  refine (probes_any 0 10 3 _ (by omega)).mono ?_
  rintro e w' ⟨A, len, cap, xs, rfl, hr, hb, _, _, hx⟩
  have hlen : len = 3 := by rw [← hr.1, hx]; rfl
  subst hlen
  have HB := Lib.hid (hbel.trans (hb.mono (by simp)))
  clear hb hr hx hbel hrow
  go_wp2
  go_ret
  exact ⟨rfl, HB.out⟩

end Go.Proofs.Ytcmafkejniajeaa
