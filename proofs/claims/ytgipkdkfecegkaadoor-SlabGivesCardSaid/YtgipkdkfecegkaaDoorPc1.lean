/- Classes: sizes, Class, Size, Chunks. -/
import Derived.Test.YtgipkdkfecegkaaDoorPm
import Derived.Test.YtgipkdkfecegkaaDoorTill
import Derived.WalkKit
import Derived.Shelf.Abstract
import Derived.Shelf.RegionOpen
import Derived.Deep.RegionHeld3
import Derived.Lib.Hide
namespace Go.Proofs.YtgipkdkfecegkaaDoor
open Go.RowKit Go.Shelf
attribute [local go_sem] Oper.semAt_some
set_option linter.unusedVariables false
set_option linter.unusedSimpArgs false
abbrev sizesC : Array Value := #[.int .i64 32, .int .i64 64, .int .i64 96, .int .i64 144, .int .i64 216, .int .i64 324, .int .i64 486, .int .i64 1024]
theorem size_sizes : (Tryd.prog.info? 53).map (·.size) = some 8 := by kernel_rfl
theorem sizes_any (w : World) : Calls Tryd.prog 27 #[] w fun e w' => e = .returned (.agg sizesC) ∧ Below w.heap.size w w' := by
  go_enter Tryd.func27, Tryd.ntmps27
  go_wp2_with (with_reducible refine halt_end ?_)
  exact Halt.ret (results_row1 (p := 0) rfl _ _ w.heap.size 53 sizesC _ rfl (Blk.new w _ _) Tryd.underlying53 rfl size_sizes) rfl ⟨rfl, (Below.refl _ _).alloc (Nat.le_refl _) _⟩
theorem index_sizes (r : Nat) (hr : r < 8) (w : World) : (Instr.index 53 (.agg sizesC) (.int .i64 (r : Nat))).run Tryd.prog w = .ok (.int .i64 (szN r : Nat)) w := by
  have hs : (sizeOf 3).run Tryd.prog w = .ok 1 w := Tryd.sizeOf3 w
  obtain rfl | rfl | rfl | rfl | rfl | rfl | rfl | rfl : r = 0 ∨ r = 1 ∨ r = 2 ∨ r = 3 ∨ r = 4 ∨ r = 5 ∨ r = 6 ∨ r = 7 := by omega
  all_goals simp [Instr.index, run_underlying Tryd.underlying53, asIntOf, go_sem, hs, szN]
set_option maxHeartbeats 2000000 in
theorem class_any (n : Int) (w : World) : Calls Tryd.prog 9 #[.int .i64 n] w fun e w' => e = .returned (.tuple #[.int .i64 (clsK n : Nat), .int .i64 (clsE n : Nat)]) ∧ Below w.heap.size w w' := by
  go_enter Tryd.func9, Tryd.ntmps9
  by_cases h0 : n < 0
  · go_wp2
    go_ret2
    refine ⟨?_, Below.refl _ _⟩
    unfold clsK clsE
    rw [if_pos h0, if_pos h0]
    rfl
  · go_wp2_with fail
    refine (sizes_any _).mono ?_
    rintro e w2 ⟨rfl, hb⟩
    have HB := Lib.hid hb
    clear hb
    go_wp2_with fail
    go_loopw [9] (fun i wr => ∃ j : Nat, i = .int .i64 j ∧ j ≤ 8 ∧ (1 ≤ j → (szN (j - 1) : Int) < n) ∧ wr = w2) (fun i _ => 8 - (intOf i).toNat)
    case atStart => exact ⟨0, rfl, by omega, fun h => absurd h (by omega), rfl⟩
    case round =>
      obtain ⟨j, rfl, hj, hlt, rfl⟩ := hrel
      have hkey : ∀ (s : Int) (k : Nat), (k < 8) → szN k = s → (∀ n : Int, 0 ≤ n → n ≤ s → (1 ≤ k → (szN (k - 1) : Int) < n) → clsK n = k ∧ clsE n = 0) := by
        intro s k hk hs n hn hle hl
        have h8 : k = 0 ∨ k = 1 ∨ k = 2 ∨ k = 3 ∨ k = 4 ∨ k = 5 ∨ k = 6 ∨ k = 7 := by omega
        subst hs
        rcases h8 with rfl | rfl | rfl | rfl | rfl | rfl | rfl | rfl <;> simp [szN] at hle hl <;> (unfold clsK clsE; constructor <;> repeat' split) <;> omega
      have HKEY := Lib.hid hkey
      have h0' : 0 ≤ n := by omega
      clear hkey
      by_cases h8 : j = 8
      · subst h8
        go_wp2
        go_ret2
        refine ⟨?_, HB.out⟩
        simp [szN] at hlt
        have e1 : clsK n = 0 := by (unfold clsK; repeat' split) <;> omega
        have e2 : clsE n = 3 := by (unfold clsE; repeat' split) <;> omega
        rw [e1, e2]
        rfl
      · have hj8 : j = 0 ∨ j = 1 ∨ j = 2 ∨ j = 3 ∨ j = 4 ∨ j = 5 ∨ j = 6 ∨ j = 7 := by omega
        rcases hj8 with rfl | rfl | rfl | rfl | rfl | rfl | rfl | rfl
        all_goals simp only [szN, List.getD_cons_zero, List.getD_cons_succ, Nat.reduceSub, Nat.reduceLeDiff, forall_const, true_implies] at hlt
        · by_cases hle : n ≤ 32
          · have hx : ∀ w, (Instr.index 53 (.agg #[.int .i64 32, .int .i64 64, .int .i64 96, .int .i64 144, .int .i64 216, .int .i64 324, .int .i64 486, .int .i64 1024]) (.int .i64 0)).run Tryd.prog w = .ok (.int .i64 32) w := index_sizes 0 (by decide)
            have hk := HKEY.out 32 0 (by decide) rfl n h0' hle (by simp only [szN]; simp <;> omega)
            have HK := Lib.hid hk
            clear hk
            go_wp2
            go_ret2
            refine ⟨?_, HB.out⟩
            rw [HK.out.1, HK.out.2]
            rfl
          · have hx : ∀ w, (Instr.index 53 (.agg #[.int .i64 32, .int .i64 64, .int .i64 96, .int .i64 144, .int .i64 216, .int .i64 324, .int .i64 486, .int .i64 1024]) (.int .i64 0)).run Tryd.prog w = .ok (.int .i64 32) w := index_sizes 0 (by decide)
            go_wp2
            go_roundw
            case rel => exact ⟨1, by simp, by decide, fun _ => by simp [szN]; omega, trivial⟩
            case measure => show 8 - (Int.toNat ((0 : Nat) + 1 : Int)) < 8 - (Int.toNat ((0 : Nat) : Int)); decide
        · by_cases hle : n ≤ 64
          · have hx : ∀ w, (Instr.index 53 (.agg #[.int .i64 32, .int .i64 64, .int .i64 96, .int .i64 144, .int .i64 216, .int .i64 324, .int .i64 486, .int .i64 1024]) (.int .i64 1)).run Tryd.prog w = .ok (.int .i64 64) w := index_sizes 1 (by decide)
            have hk := HKEY.out 64 1 (by decide) rfl n h0' hle (by simp only [szN]; simp <;> omega)
            have HK := Lib.hid hk
            clear hk
            go_wp2
            go_ret2
            refine ⟨?_, HB.out⟩
            rw [HK.out.1, HK.out.2]
            rfl
          · have hx : ∀ w, (Instr.index 53 (.agg #[.int .i64 32, .int .i64 64, .int .i64 96, .int .i64 144, .int .i64 216, .int .i64 324, .int .i64 486, .int .i64 1024]) (.int .i64 1)).run Tryd.prog w = .ok (.int .i64 64) w := index_sizes 1 (by decide)
            go_wp2
            go_roundw
            case rel => exact ⟨2, by simp, by decide, fun _ => by simp [szN]; omega, trivial⟩
            case measure => show 8 - (Int.toNat ((1 : Nat) + 1 : Int)) < 8 - (Int.toNat ((1 : Nat) : Int)); decide
        · by_cases hle : n ≤ 96
          · have hx : ∀ w, (Instr.index 53 (.agg #[.int .i64 32, .int .i64 64, .int .i64 96, .int .i64 144, .int .i64 216, .int .i64 324, .int .i64 486, .int .i64 1024]) (.int .i64 2)).run Tryd.prog w = .ok (.int .i64 96) w := index_sizes 2 (by decide)
            have hk := HKEY.out 96 2 (by decide) rfl n h0' hle (by simp only [szN]; simp <;> omega)
            have HK := Lib.hid hk
            clear hk
            go_wp2
            go_ret2
            refine ⟨?_, HB.out⟩
            rw [HK.out.1, HK.out.2]
            rfl
          · have hx : ∀ w, (Instr.index 53 (.agg #[.int .i64 32, .int .i64 64, .int .i64 96, .int .i64 144, .int .i64 216, .int .i64 324, .int .i64 486, .int .i64 1024]) (.int .i64 2)).run Tryd.prog w = .ok (.int .i64 96) w := index_sizes 2 (by decide)
            go_wp2
            go_roundw
            case rel => exact ⟨3, by simp, by decide, fun _ => by simp [szN]; omega, trivial⟩
            case measure => show 8 - (Int.toNat ((2 : Nat) + 1 : Int)) < 8 - (Int.toNat ((2 : Nat) : Int)); decide
        · by_cases hle : n ≤ 144
          · have hx : ∀ w, (Instr.index 53 (.agg #[.int .i64 32, .int .i64 64, .int .i64 96, .int .i64 144, .int .i64 216, .int .i64 324, .int .i64 486, .int .i64 1024]) (.int .i64 3)).run Tryd.prog w = .ok (.int .i64 144) w := index_sizes 3 (by decide)
            have hk := HKEY.out 144 3 (by decide) rfl n h0' hle (by simp only [szN]; simp <;> omega)
            have HK := Lib.hid hk
            clear hk
            go_wp2
            go_ret2
            refine ⟨?_, HB.out⟩
            rw [HK.out.1, HK.out.2]
            rfl
          · have hx : ∀ w, (Instr.index 53 (.agg #[.int .i64 32, .int .i64 64, .int .i64 96, .int .i64 144, .int .i64 216, .int .i64 324, .int .i64 486, .int .i64 1024]) (.int .i64 3)).run Tryd.prog w = .ok (.int .i64 144) w := index_sizes 3 (by decide)
            go_wp2
            go_roundw
            case rel => exact ⟨4, by simp, by decide, fun _ => by simp [szN]; omega, trivial⟩
            case measure => show 8 - (Int.toNat ((3 : Nat) + 1 : Int)) < 8 - (Int.toNat ((3 : Nat) : Int)); decide
        · by_cases hle : n ≤ 216
          · have hx : ∀ w, (Instr.index 53 (.agg #[.int .i64 32, .int .i64 64, .int .i64 96, .int .i64 144, .int .i64 216, .int .i64 324, .int .i64 486, .int .i64 1024]) (.int .i64 4)).run Tryd.prog w = .ok (.int .i64 216) w := index_sizes 4 (by decide)
            have hk := HKEY.out 216 4 (by decide) rfl n h0' hle (by simp only [szN]; simp <;> omega)
            have HK := Lib.hid hk
            clear hk
            go_wp2
            go_ret2
            refine ⟨?_, HB.out⟩
            rw [HK.out.1, HK.out.2]
            rfl
          · have hx : ∀ w, (Instr.index 53 (.agg #[.int .i64 32, .int .i64 64, .int .i64 96, .int .i64 144, .int .i64 216, .int .i64 324, .int .i64 486, .int .i64 1024]) (.int .i64 4)).run Tryd.prog w = .ok (.int .i64 216) w := index_sizes 4 (by decide)
            go_wp2
            go_roundw
            case rel => exact ⟨5, by simp, by decide, fun _ => by simp [szN]; omega, trivial⟩
            case measure => show 8 - (Int.toNat ((4 : Nat) + 1 : Int)) < 8 - (Int.toNat ((4 : Nat) : Int)); decide
        · by_cases hle : n ≤ 324
          · have hx : ∀ w, (Instr.index 53 (.agg #[.int .i64 32, .int .i64 64, .int .i64 96, .int .i64 144, .int .i64 216, .int .i64 324, .int .i64 486, .int .i64 1024]) (.int .i64 5)).run Tryd.prog w = .ok (.int .i64 324) w := index_sizes 5 (by decide)
            have hk := HKEY.out 324 5 (by decide) rfl n h0' hle (by simp only [szN]; simp <;> omega)
            have HK := Lib.hid hk
            clear hk
            go_wp2
            go_ret2
            refine ⟨?_, HB.out⟩
            rw [HK.out.1, HK.out.2]
            rfl
          · have hx : ∀ w, (Instr.index 53 (.agg #[.int .i64 32, .int .i64 64, .int .i64 96, .int .i64 144, .int .i64 216, .int .i64 324, .int .i64 486, .int .i64 1024]) (.int .i64 5)).run Tryd.prog w = .ok (.int .i64 324) w := index_sizes 5 (by decide)
            go_wp2
            go_roundw
            case rel => exact ⟨6, by simp, by decide, fun _ => by simp [szN]; omega, trivial⟩
            case measure => show 8 - (Int.toNat ((5 : Nat) + 1 : Int)) < 8 - (Int.toNat ((5 : Nat) : Int)); decide
        · by_cases hle : n ≤ 486
          · have hx : ∀ w, (Instr.index 53 (.agg #[.int .i64 32, .int .i64 64, .int .i64 96, .int .i64 144, .int .i64 216, .int .i64 324, .int .i64 486, .int .i64 1024]) (.int .i64 6)).run Tryd.prog w = .ok (.int .i64 486) w := index_sizes 6 (by decide)
            have hk := HKEY.out 486 6 (by decide) rfl n h0' hle (by simp only [szN]; simp <;> omega)
            have HK := Lib.hid hk
            clear hk
            go_wp2
            go_ret2
            refine ⟨?_, HB.out⟩
            rw [HK.out.1, HK.out.2]
            rfl
          · have hx : ∀ w, (Instr.index 53 (.agg #[.int .i64 32, .int .i64 64, .int .i64 96, .int .i64 144, .int .i64 216, .int .i64 324, .int .i64 486, .int .i64 1024]) (.int .i64 6)).run Tryd.prog w = .ok (.int .i64 486) w := index_sizes 6 (by decide)
            go_wp2
            go_roundw
            case rel => exact ⟨7, by simp, by decide, fun _ => by simp [szN]; omega, trivial⟩
            case measure => show 8 - (Int.toNat ((6 : Nat) + 1 : Int)) < 8 - (Int.toNat ((6 : Nat) : Int)); decide
        · by_cases hle : n ≤ 1024
          · have hx : ∀ w, (Instr.index 53 (.agg #[.int .i64 32, .int .i64 64, .int .i64 96, .int .i64 144, .int .i64 216, .int .i64 324, .int .i64 486, .int .i64 1024]) (.int .i64 7)).run Tryd.prog w = .ok (.int .i64 1024) w := index_sizes 7 (by decide)
            have hk := HKEY.out 1024 7 (by decide) rfl n h0' hle (by simp only [szN]; simp <;> omega)
            have HK := Lib.hid hk
            clear hk
            go_wp2
            go_ret2
            refine ⟨?_, HB.out⟩
            rw [HK.out.1, HK.out.2]
            rfl
          · have hx : ∀ w, (Instr.index 53 (.agg #[.int .i64 32, .int .i64 64, .int .i64 96, .int .i64 144, .int .i64 216, .int .i64 324, .int .i64 486, .int .i64 1024]) (.int .i64 7)).run Tryd.prog w = .ok (.int .i64 1024) w := index_sizes 7 (by decide)
            go_wp2
            go_roundw
            case rel => exact ⟨8, by simp, by decide, fun _ => by simp [szN]; omega, trivial⟩
            case measure => show 8 - (Int.toNat ((7 : Nat) + 1 : Int)) < 8 - (Int.toNat ((7 : Nat) : Int)); decide
def szZ (c : Int) : Nat := if c < 0 then 0 else szN c.toNat
def chZ (c : Int) : Nat := if c < 0 then 0 else chN c.toNat
theorem szZ_nat (k : Nat) : szZ (k : Int) = szN k := by unfold szZ; rw [if_neg (by omega), Int.toNat_natCast]
theorem chZ_nat (k : Nat) : chZ (k : Int) = chN k := by unfold chZ; rw [if_neg (by omega), Int.toNat_natCast]
theorem szN_hi {k : Nat} (h : 8 ≤ k) : szN k = 0 ∧ chN k = 0 := by
  unfold szN chN
  constructor <;> (rw [List.getD, List.getElem?_eq_none (by simpa using h)]; rfl)
set_option maxHeartbeats 2000000 in
theorem size_any (c : Int) (w : World) : Calls Tryd.prog 12 #[.int .i64 c] w fun e w' => e = .returned (.int .i64 (szZ c : Nat)) ∧ Below w.heap.size w w' := by
  go_enter Tryd.func12, Tryd.ntmps12
  go_wp2_with fail
  refine (sizes_any _).mono ?_
  rintro e w2 ⟨rfl, hb⟩
  have HB := Lib.hid hb
  have HK := Lib.hid (Blk.new w2 53 sizesC)
  clear hb
  by_cases h0 : c < 0
  · go_wp2
    go_ret
    refine ⟨?_, HB.out.alloc HB.out.size _⟩
    unfold szZ
    rw [if_pos h0]
    rfl
  · by_cases h8 : 8 ≤ c
    · go_wp2
      go_ret
      refine ⟨?_, HB.out.alloc HB.out.size _⟩
      unfold szZ
      rw [if_neg (by omega), (szN_hi (k := c.toNat) (by omega)).1]
      rfl
    · obtain rfl | rfl | rfl | rfl | rfl | rfl | rfl | rfl : c = 0 ∨ c = 1 ∨ c = 2 ∨ c = 3 ∨ c = 4 ∨ c = 5 ∨ c = 6 ∨ c = 7 := by omega
      all_goals (
        go_wp2
        go_ret
        exact ⟨rfl, HB.out.alloc HB.out.size _⟩)
theorem chunks_any (c : Int) (w : World) : Calls Tryd.prog 13 #[.int .i64 c] w fun e w' => e = .returned (.int .i64 (chZ c : Nat)) ∧ Below w.heap.size w w' := by
  have hs := size_any c
  by_cases h0 : szZ c = 0
  · have e : chZ c = 0 := by
      unfold szZ chZ at *
      by_cases h : c < 0
      · rw [if_pos h]
      · rw [if_neg h] at h0 ⊢
        rcases Nat.lt_or_ge c.toNat 8 with h8 | h8
        · exact absurd h0 (chN_div h8).2.1
        · exact (szN_hi h8).2
    rw [h0] at hs
    rw [e]
    go_enter Tryd.func13, Tryd.ntmps13
    go_wp2_with fail
    refine (hs _).mono ?_
    rintro e w2 ⟨rfl, hb⟩
    go_wp2
    go_ret
    exact ⟨rfl, hb⟩
  · have e : ∃ k, k < 8 ∧ c = (k : Nat) := by
      unfold szZ at h0
      by_cases h : c < 0
      · rw [if_pos h] at h0; exact absurd rfl h0
      · rw [if_neg h] at h0
        rcases Nat.lt_or_ge c.toNat 8 with h8 | h8
        · exact ⟨c.toNat, h8, by omega⟩
        · exact absurd (szN_hi h8).1 h0
    obtain ⟨k, hk, rfl⟩ := e
    rw [szZ_nat] at hs
    rw [chZ_nat]
    clear h0
    obtain rfl | rfl | rfl | rfl | rfl | rfl | rfl | rfl : k = 0 ∨ k = 1 ∨ k = 2 ∨ k = 3 ∨ k = 4 ∨ k = 5 ∨ k = 6 ∨ k = 7 := by omega
    all_goals (
      simp only [szN, List.getD_cons_zero, List.getD_cons_succ] at hs
      go_enter Tryd.func13, Tryd.ntmps13
      go_wp2_with fail
      refine (hs _).mono ?_
      rintro e w2 ⟨rfl, hb⟩
      go_wp2
      go_ret
      exact ⟨rfl, hb⟩)
end Go.Proofs.YtgipkdkfecegkaaDoor
