/- Stage 8: wakes. -/
import Derived.Test.YtkmbbfdjdmkjpaaOkB
import Derived.Test.YtkmbbfdjdmkjpaaSealR
namespace Go.Proofs.Ytkmbbfdjdmkjpaa
open Go.RowKit
set_option linter.unusedVariables false
set_option linter.unusedSimpArgs false

def xs4 : List Seg := List.replicate 4 seg0
def ys4 : List Seg := [(1, 3, 1), seg0, seg0, seg0]
theorem ok4 : OkR 24 xs4 := okB_ok (by decide +kernel)
theorem oky4 : OkR 24 ys4 := okB_ok (by decide +kernel)
theorem open4 : openE 24 xs4 3 = 0 ∧ openX xs4 3 = ys4 ∧ nxtR xs4 = 0 := by
  refine ⟨?_, by decide +kernel, by decide +kernel⟩
  unfold openE
  rw [if_neg (fun k => k ok4)]
  decide +kernel
theorem left4 : leftW 24 ys4 = 23 := by unfold leftW; rw [if_pos oky4]; decide +kernel
theorem frees4 : freesW 24 ys4 = 3 := by unfold freesW; rw [if_pos oky4]; decide +kernel

set_option maxRecDepth 100000 in
set_option maxHeartbeats 2000000 in
theorem wakes8 (w : World) : Calls Try.prog 33 #[] w fun e w' => e = .returned (.bool true) ∧ Below w.heap.size w w' := by
  have HN := Lib.hid (show Calls Try.prog 60 #[.int .i64 4, .int .i64 24] w _ from new_ok (w := w) 4 24 (by decide))
  go_enter Try.func33, Try.ntmps33
  go_wp2_with fail
  refine HN.out.mono ?_
  rintro e w1 ⟨⟨A, rfl, hr⟩, hb1⟩
  obtain ⟨b, off, rfl, hbb, hcc⟩ := seg_get hr (j := 0) (by decide)
  have c0 := (hcc 0 (by decide)).1
  have HR1 := Lib.hid hr
  have HB1 := Lib.hid hb1
  have HC0 := Lib.hid (show w1.cell? ⟨b, off, none⟩ = some (.int .i64 0) by have h := c0; rw [Nat.zero_mul, Nat.add_zero] at h; exact h)
  have HBB := Lib.hid hbb
  have HA := Lib.hid ((Below.refl w1.heap.size w1).alloc (Nat.le_refl _) (.cells #[.int .i64 24, .slice (some ⟨b, off, none⟩) 4 4] 66))
  have HK2 := Lib.hid (Blk.new w1 66 #[.int .i64 24, .slice (some ⟨b, off, none⟩) 4 4])
  obtain ⟨q0, q1⟩ := ring_cells HK2.out
  clear hr hb1 hbb hcc c0 HN
  go_wp2_with fail
  refine (open_any (row_now HR1.out.now HA.out) 24 3).mono ?_
  rintro e w3 ⟨hcase, hb3⟩
  rcases hcase with ⟨_, v, rfl, A', n', cap', rfl, hown⟩ | ⟨hno, _⟩
  rotate_left
  · exact absurd open4.1 hno
  obtain rfl : n' = 4 := by rw [← hown.1]; rfl
  rw [show openX (List.replicate 4 seg0) 3 = ys4 from open4.2.1] at hown
  rw [show nxtR (List.replicate 4 seg0) = 0 from open4.2.2]
  have HO3 := Lib.hid hown
  have HW3 := Lib.hid (HA.out.trans (hb3.mono HA.out.size))
  have hk3 := HK2.out.below hb3 HK2.out.lt
  have HA4 := Lib.hid ((Below.refl w3.heap.size w3).alloc (Nat.le_refl _) (.cells #[.int .i64 24, .slice A' 4 cap'] 66))
  have HK4 := Lib.hid (Blk.new w3 66 #[.int .i64 24, .slice A' 4 cap'])
  have HK3 := Lib.hid (hk3.alloc (.cells #[.int .i64 24, .slice A' 4 cap'] 66))
  obtain ⟨p0, p1⟩ := ring_cells HK4.out
  clear hown hb3 hk3 q0 q1
  go_wp2_with fail
  refine (left_ring (row_now HO3.out.row.now HA4.out) 24).mono ?_
  rintro e w5 ⟨rfl, hb5⟩
  rw [left4]
  have HK5 := Lib.hid (HK3.out.below hb5 HK3.out.lt)
  have HK6 := Lib.hid (HK4.out.below hb5 HK4.out.lt)
  have HA5 := Lib.hid (HA4.out.trans (hb5.mono HA4.out.size))
  obtain ⟨r0, r1⟩ := ring_cells HK6.out
  clear hb5 p0 p1
  go_wp2_with fail
  refine (frees_any (row_now HO3.out.row.now HA5.out) 24).mono ?_
  rintro e w7 ⟨rfl, hb7⟩
  rw [frees4]
  have HK7 := Lib.hid (HK5.out.below hb7 HK5.out.lt)
  have HA7 := Lib.hid (HA5.out.trans (hb7.mono HA5.out.size))
  obtain ⟨s0, s1⟩ := ring_cells HK7.out
  have HW7 := Lib.hid (HW3.out.trans (HA7.out.mono HW3.out.size))
  have d0 : w7.cell? ⟨b, off, none⟩ = some (.int .i64 0) := (Below.cell HW7.out (p := ⟨b, _, none⟩) HBB.out.2).trans HC0.out
  clear hb7 r0 r1
  go_wp2_with fail
  go_ret
  exact ⟨rfl, HB1.out.trans (HW7.out.mono HB1.out.size)⟩

end Go.Proofs.Ytkmbbfdjdmkjpaa
