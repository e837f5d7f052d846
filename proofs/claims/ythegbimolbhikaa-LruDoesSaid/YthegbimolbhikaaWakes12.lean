/- Stage 12: wakes; what a New list and one Push tell. -/
import Derived.Test.YthegbimolbhikaaLrN
namespace Go.Proofs.Ythegbimolbhikaa
open Go.RowKit
attribute [local go_sem] Oper.semAt_some
set_option linter.unusedVariables false
set_option linter.unusedSimpArgs false
set_option maxRecDepth 100000
theorem wk1 : pushE 3 (List.replicate 2 []) 1 2 = 0 := by decide
theorem wk2 : pushX 3 (List.replicate 2 []) 1 2 = [[], [2]] := by decide
theorem wk3 : oldV [[], [2]] 1 = 2 ∧ someE [[], [2]] 1 = 0 := by decide
theorem wk4 : (ofX [[], [2]] 1).length = 1 := by decide
theorem wk5 : pushE 3 [[], [2]] 0 2 = 5 := by decide
set_option maxHeartbeats 4000000 in
theorem wakes12 (w : World) : Calls Try.prog 8 #[] w fun e w' => e = .returned (.bool true) ∧ Below w.heap.size w w' := by
  have HN := Lib.hid (new_ok 3 2 (by omega) (by omega) (by omega) (by omega) w)
  go_enter Try.func8, Try.ntmps8
  go_wp2_with fail
  refine HN.out.mono ?_
  rintro e w1 ⟨x, p, rfl, hl, hb1, hx, hp⟩
  have HP := Lib.hid (push_lr hl 1 2)
  rw [wk1, wk2] at HP
  have HB1 := Lib.hid hb1
  clear hl hb1 HN
  go_wp2_with fail
  refine HP.out.mono ?_
  rintro e w2 ⟨rfl, hl, hk⟩
  have HB2 := Lib.hid (HB1.out.trans (hk.to_below fun b hb => ⟨by omega, by omega⟩))
  have HO := Lib.hid (oldest_lr hl 1)
  have HL := Lib.hid (len_any hl 1)
  have HP2 := Lib.hid (push_lr hl 0 2)
  rw [wk3.1, wk3.2] at HO
  rw [wk4] at HL
  rw [wk5] at HP2
  clear hl hk HP
  go_wp2_with (first | (go_at_call 23; refine HO.out.mono ?_; rintro e w3 ⟨rfl, rfl⟩) | (go_at_call 21; refine HL.out.mono ?_; rintro e w3 ⟨rfl, rfl⟩) | (go_at_call 13; refine HP2.out.mono ?_; rintro e w4 ⟨rfl, hl, hk⟩; have HB3 := Lib.hid (HB2.out.trans (hk.to_below fun b hb => ⟨by omega, by omega⟩)); clear hl hk))
  (first | go_ret | go_ret2)
  exact ⟨rfl, HB3.out⟩
end Go.Proofs.Ythegbimolbhikaa
