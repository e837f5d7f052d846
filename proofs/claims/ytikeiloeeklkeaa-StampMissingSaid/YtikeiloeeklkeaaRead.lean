/- Package stamp: Read. -/
import Derived.Test.YtikeiloeeklkeaaSaid
namespace Go.Proofs.Ytikeiloeeklkeaa
open Go.RowKit
set_option linter.unusedVariables false

/-- Is the sector stamped? As the code asks it: packed again it is the same. -/
def stamped (xs : List Int) : Bool := decide (1 ≤ genOf xs) && (packL (genOf xs) (posOf xs) (meantOf xs) == xs)

def ReadTold (xs : List Int) (w : World) (e : Ending) (w' : World) : Prop :=
  ∃ A c, e = .returned (.tuple #[.agg #[.int .u64 (genOf xs), .int .u32 (posOf xs), .int .i64 (fillOf xs)], .slice A (meantOf xs).length c, .int .i64 0]) ∧
    RowI .u8 w' (fun b => w.heap.size ≤ b ∧ b < w'.heap.size) A (meantOf xs).length (meantOf xs) ∧ Below w.heap.size w w' ∧ (A = none → c = 0)

set_option maxHeartbeats 1000000 in
theorem read_ok (xs : List Int) (w : World) (hl : xs.length = 64) (hb : Bytes xs) (hst : stamped xs = true) :
    Calls Try.prog 12 #[.agg (cells8 xs)] w (ReadTold xs w) := by
  have hgb := gen_bounds hb hl
  have hpb := pos_bounds hb hl
  have hml := meant_le xs
  have hpk := packL_length (genOf xs) (posOf xs) (meantOf xs) hml
  have hg1 : 1 ≤ genOf xs := by simp [stamped] at hst; exact hst.1
  have hsame : (packL (genOf xs) (posOf xs) (meantOf xs) == xs) = true := by simp [stamped] at hst; simpa using hst.2
  have HBY := Lib.hid hb
  have HL := Lib.hid hl
  have HGB := Lib.hid hgb
  have HPB := Lib.hid hpb
  have HPK := Lib.hid hpk
  have HSAME := Lib.hid hsame
  have HX0 := Lib.hid (show ArrB ((w.alloc (.cells (cells8 xs) 27)).alloc (.cells #[.int .u64 0, .int .u32 0, .int .i64 0] 34)) w.heap.size xs from (Blk.new w _ _).alloc _)
  clear hb hl hst hgb hpb hpk hsame
  go_enter Try.func12, Try.ntmps12
  go_wp2_with (refine wpList_load_blk (.tmp 1) rfl rfl w.heap.size 0 rfl xs HL.out HX0.out.range ?_)
  generalize hw1 : (w.alloc _).alloc _ = w1 at *
  have HZ1 := Lib.hid (show Blk w1 (w.heap.size + 1) 34 #[.int .u64 0, .int .u32 0, .int .i64 0] by rw [← hw1]; have := Blk.new (w.alloc (.cells (cells8 xs) 27)) 34 #[.int .u64 0, .int .u32 0, .int .i64 0]; simpa using this)
  have HB1 := Lib.hid (show Below w.heap.size w w1 by rw [← hw1]; exact ((Below.refl _ _).alloc (Nat.le_refl _) _).alloc (by simp) _)
  clear hw1
  refine (said_any xs w1 HL.out HBY.out).mono ?_
  rintro e w2 ⟨A, c, rfl, hrow, hb, hnil⟩
  have HNIL := Lib.hid hnil
  clear hnil
  have HR2 := Lib.hid hrow
  have HB2 := Lib.hid hb
  have HZ2 := Lib.hid (HZ1.out.below hb HZ1.out.lt)
  have HX2 := Lib.hid (HX0.out.below hb HX0.out.lt)
  clear hrow hb
  go_wp2_with fail
  generalize hw3 : w2.alloc _ = w3 at *
  have hb3 : Below w2.heap.size w2 w3 := by rw [← hw3]; exact (Below.refl _ _).alloc (Nat.le_refl _) _
  have HS3 := Lib.hid (show Blk w3 w2.heap.size 34 #[.int .u64 (genOf xs), .int .u32 (posOf xs), .int .i64 (fillOf xs)] by rw [← hw3]; exact Blk.new w2 _ _)
  have HB3 := Lib.hid hb3
  have HR3 := Lib.hid (HR2.out.below hb3 (fun b h => h.2))
  clear hw3 hb3
  refine (pack_ok (genOf xs) (posOf xs) A (meantOf xs).length c (meantOf xs) _ w3 HR3.out (fun b h => Nat.lt_of_lt_of_le h.2 HB3.out.size) hg1 HGB.out.2 HPB.out.1 HPB.out.2 hml).mono ?_
  rintro e w4 ⟨rfl, hb⟩
  have HB4 := Lib.hid hb
  have HX4 := Lib.hid ((HX2.out.below HB3.out HX2.out.lt).below hb (Nat.lt_of_lt_of_le HX2.out.lt HB3.out.size))
  have HZ4 := Lib.hid ((HZ2.out.below HB3.out HZ2.out.lt).below hb (Nat.lt_of_lt_of_le HZ2.out.lt HB3.out.size))
  have HS4 := Lib.hid (HS3.out.below hb HS3.out.lt)
  have HR4 := Lib.hid (HR3.out.below hb (fun b h => Nat.lt_of_lt_of_le h.2 HB3.out.size))
  obtain ⟨w5, hw5⟩ : ∃ w5, w5 = w4.alloc (.cells (cells8 (packL (genOf xs) (posOf xs) (meantOf xs))) 27) := ⟨_, rfl⟩
  have HX5 := Lib.hid (show ArrB w5 w.heap.size xs by rw [hw5]; exact HX4.out.alloc _)
  have HP5 := Lib.hid (show ArrB w5 w4.heap.size (packL (genOf xs) (posOf xs) (meantOf xs)) by rw [hw5]; exact Blk.new w4 _ _)
  have HS5 := Lib.hid (show Blk w5 w2.heap.size 34 #[.int .u64 (genOf xs), .int .u32 (posOf xs), .int .i64 (fillOf xs)] by rw [hw5]; exact HS4.out.alloc _)
  have HZ5 := Lib.hid (show Blk w5 (w.heap.size + 1) 34 #[.int .u64 0, .int .u32 0, .int .i64 0] by rw [hw5]; exact HZ4.out.alloc _)
  have HR5 := Lib.hid (HR4.out.below (w' := w5) (B := w4.heap.size) (by rw [hw5]; exact (Below.refl _ _).alloc (Nat.le_refl _) _) (fun b h => Nat.lt_of_lt_of_le h.2 (Nat.le_trans HB3.out.size HB4.out.size)))
  have HB5 := Lib.hid (show Below w4.heap.size w4 w5 by rw [hw5]; exact (Below.refl _ _).alloc (Nat.le_refl _) _)
  have HW5 := Lib.hid hw5
  clear hw5
  have c0 := HS5.out.cell 0
  have c1 := HS5.out.cell 1
  have c2 := HS5.out.cell 2
  have z0 := HZ5.out.cell 0
  have z1 := HZ5.out.cell 1
  have z2 := HZ5.out.cell 2
  have y0 := HZ5.out.frozen 0
  have y1 := HZ5.out.frozen 1
  have y2 := HZ5.out.frozen 2
  simp only [List.getElem?_toArray, List.getElem?_cons_zero, List.getElem?_cons_succ] at c0 c1 c2 z0 z1 z2
  clear hb
  go_wp2_with (first
    | (with_reducible refine halt_end ?_)
    | (refine wpList_alloc_blk rfl rfl ?_)
    | (refine wpList_store_new _ _ rfl rfl w4 (packL (genOf xs) (posOf xs) (meantOf xs)) rfl rfl (noughts 64) rfl (noughts_length 64) HPK.out ?_; rw [← HW5.out])
    | (refine wpList_load_blk (.tmp 7) rfl rfl w4.heap.size 0 rfl _ HPK.out HP5.out.range ?_)
    | (refine wpList_load_blk (.tmp 1) rfl rfl w.heap.size 0 rfl _ HL.out HX5.out.range ?_)
    | (refine wpList_neq_blk (.tmp 26) (.tmp 27) _ rfl rfl _ _ rfl rfl HPK.out HL.out ?_; rw [HSAME.out]))
  have hz := HZ5.out.set3 (.int .u64 (genOf xs)) (.int .u32 (posOf xs)) (.int .i64 (fillOf xs))
  have hs1 := HB1.out.size
  have hs2 := HB2.out.size
  have hs3 := HB3.out.size
  have hs4 := HB4.out.size
  have hs5 := HB5.out.size
  have hz1 := HZ1.out.lt
  refine Halt.ret (results_row3 rfl _ _ (w.heap.size + 1) 34 _ _ rfl hz Try.underlying34 rfl size_stamp) rfl ⟨_, _, rfl, ?_, ?_, HNIL.out⟩
  · refine (HR5.out.keep (fun p hp => cell_far3 w5 (w.heap.size + 1) _ _ _ ?_)).more (fun b hb => ⟨?_, ?_⟩)
    · have := hp.1
      omega
    · omega
    · have := hb.2
      simp
      omega
  · exact below_set3 ((((HB1.out.trans (HB2.out.mono (by omega))).trans (HB3.out.mono (by omega))).trans (HB4.out.mono (by omega))).trans (HB5.out.mono (by omega))) (by omega) _ _ _

set_option maxHeartbeats 1000000 in
theorem read_bad (xs : List Int) (w : World) (hl : xs.length = 64) (hb : Bytes xs) (hst : stamped xs = false) :
    Calls Try.prog 12 #[.agg (cells8 xs)] w fun e w' => e = .returned (.tuple #[.agg #[.int .u64 0, .int .u32 0, .int .i64 0], .slice none 0 0, .int .i64 150]) ∧ Below w.heap.size w w' := by
  have hgb := gen_bounds hb hl
  have hpb := pos_bounds hb hl
  have hml := meant_le xs
  have hpk := packL_length (genOf xs) (posOf xs) (meantOf xs) hml
  have HBY := Lib.hid hb
  have HL := Lib.hid hl
  have HGB := Lib.hid hgb
  have HPB := Lib.hid hpb
  have HPK := Lib.hid hpk
  have HST := Lib.hid hst
  have HX0 := Lib.hid (show ArrB ((w.alloc (.cells (cells8 xs) 27)).alloc (.cells #[.int .u64 0, .int .u32 0, .int .i64 0] 34)) w.heap.size xs from (Blk.new w _ _).alloc _)
  clear hb hl hst hgb hpb hpk
  go_enter Try.func12, Try.ntmps12
  go_wp2_with (refine wpList_load_blk (.tmp 1) rfl rfl w.heap.size 0 rfl xs HL.out HX0.out.range ?_)
  generalize hw1 : (w.alloc _).alloc _ = w1 at *
  have HZ1 := Lib.hid (show Blk w1 (w.heap.size + 1) 34 #[.int .u64 0, .int .u32 0, .int .i64 0] by rw [← hw1]; have := Blk.new (w.alloc (.cells (cells8 xs) 27)) 34 #[.int .u64 0, .int .u32 0, .int .i64 0]; simpa using this)
  have HB1 := Lib.hid (show Below w.heap.size w w1 by rw [← hw1]; exact ((Below.refl _ _).alloc (Nat.le_refl _) _).alloc (by simp) _)
  clear hw1
  refine (said_any xs w1 HL.out HBY.out).mono ?_
  rintro e w2 ⟨A, c, rfl, hrow, hb, hnil⟩
  have HNIL := Lib.hid hnil
  clear hnil
  have HR2 := Lib.hid hrow
  have HB2 := Lib.hid hb
  have HZ2 := Lib.hid (HZ1.out.below hb HZ1.out.lt)
  have HX2 := Lib.hid (HX0.out.below hb HX0.out.lt)
  clear hrow hb
  by_cases hg1 : 1 ≤ genOf xs
  · have HNE := Lib.hid (show (packL (genOf xs) (posOf xs) (meantOf xs) == xs) = false by
      have h := HST.out
      unfold stamped at h
      rw [decide_eq_true hg1, Bool.true_and] at h
      exact h)
    go_wp2_with fail
    generalize hw3 : w2.alloc _ = w3 at *
    have hb3 : Below w2.heap.size w2 w3 := by rw [← hw3]; exact (Below.refl _ _).alloc (Nat.le_refl _) _
    have HB3 := Lib.hid hb3
    have HR3 := Lib.hid (HR2.out.below hb3 (fun b h => h.2))
    clear hw3 hb3
    refine (pack_ok (genOf xs) (posOf xs) A (meantOf xs).length c (meantOf xs) _ w3 HR3.out (fun b h => Nat.lt_of_lt_of_le h.2 HB3.out.size) hg1 HGB.out.2 HPB.out.1 HPB.out.2 hml).mono ?_
    rintro e w4 ⟨rfl, hb⟩
    have HB4 := Lib.hid hb
    have HX4 := Lib.hid ((HX2.out.below HB3.out HX2.out.lt).below hb (Nat.lt_of_lt_of_le HX2.out.lt HB3.out.size))
    have HZ4 := Lib.hid ((HZ2.out.below HB3.out HZ2.out.lt).below hb (Nat.lt_of_lt_of_le HZ2.out.lt HB3.out.size))
    obtain ⟨w5, hw5⟩ : ∃ w5, w5 = w4.alloc (.cells (cells8 (packL (genOf xs) (posOf xs) (meantOf xs))) 27) := ⟨_, rfl⟩
    have HX5 := Lib.hid (show ArrB w5 w.heap.size xs by rw [hw5]; exact HX4.out.alloc _)
    have HP5 := Lib.hid (show ArrB w5 w4.heap.size (packL (genOf xs) (posOf xs) (meantOf xs)) by rw [hw5]; exact Blk.new w4 _ _)
    have HZ5 := Lib.hid (show Blk w5 (w.heap.size + 1) 34 #[.int .u64 0, .int .u32 0, .int .i64 0] by rw [hw5]; exact HZ4.out.alloc _)
    have HB5 := Lib.hid (show Below w4.heap.size w4 w5 by rw [hw5]; exact (Below.refl _ _).alloc (Nat.le_refl _) _)
    have HW5 := Lib.hid hw5
    clear hw5
    have z0 := HZ5.out.cell 0
    have z1 := HZ5.out.cell 1
    have z2 := HZ5.out.cell 2
    have y0 := HZ5.out.frozen 0
    have y1 := HZ5.out.frozen 1
    have y2 := HZ5.out.frozen 2
    simp only [List.getElem?_toArray, List.getElem?_cons_zero, List.getElem?_cons_succ] at z0 z1 z2
    clear hb
    go_wp2_with (first
      | (with_reducible refine halt_end ?_)
      | (refine wpList_alloc_blk rfl rfl ?_)
      | (refine wpList_store_new _ _ rfl rfl w4 (packL (genOf xs) (posOf xs) (meantOf xs)) rfl rfl (noughts 64) rfl (noughts_length 64) HPK.out ?_; rw [← HW5.out])
      | (refine wpList_load_blk (.tmp 7) rfl rfl w4.heap.size 0 rfl _ HPK.out HP5.out.range ?_)
      | (refine wpList_load_blk (.tmp 1) rfl rfl w.heap.size 0 rfl _ HL.out HX5.out.range ?_)
      | (refine wpList_neq_blk (.tmp 26) (.tmp 27) _ rfl rfl _ _ rfl rfl HPK.out HL.out ?_; rw [HNE.out]))
    have hz := HZ5.out.set3 (.int .u64 0) (.int .u32 0) (.int .i64 0)
    have hs1 := HB1.out.size
    have hs2 := HB2.out.size
    have hs3 := HB3.out.size
    have hs4 := HB4.out.size
    have hs5 := HB5.out.size
    refine Halt.ret (results_row3 rfl _ _ (w.heap.size + 1) 34 _ _ rfl hz Try.underlying34 rfl size_stamp) rfl ⟨rfl, ?_⟩
    exact below_set3 ((((HB1.out.trans (HB2.out.mono (by omega))).trans (HB3.out.mono (by omega))).trans (HB4.out.mono (by omega))).trans (HB5.out.mono (by omega))) (by omega) _ _ _
  · have HG := Lib.hid (show genOf xs = 0 by have := HGB.out; omega)
    go_wp2_with fail
    generalize hw3 : w2.alloc _ = w3 at *
    have hb3 : Below w2.heap.size w2 w3 := by rw [← hw3]; exact (Below.refl _ _).alloc (Nat.le_refl _) _
    have HB3 := Lib.hid hb3
    rw [HG.out]
    clear hw3 hb3
    refine (pack_zero (posOf xs) A (meantOf xs).length c w3).mono ?_
    rintro e w4 ⟨rfl, hb⟩
    have HB4 := Lib.hid hb
    have HZ4 := Lib.hid ((HZ2.out.below HB3.out HZ2.out.lt).below hb (Nat.lt_of_lt_of_le HZ2.out.lt HB3.out.size))
    obtain ⟨w5, hw5⟩ : ∃ w5, w5 = w4.alloc (.cells (cells8 (noughts 64)) 27) := ⟨_, rfl⟩
    have HZ5 := Lib.hid (show Blk w5 (w.heap.size + 1) 34 #[.int .u64 0, .int .u32 0, .int .i64 0] by rw [hw5]; exact HZ4.out.alloc _)
    have HB5 := Lib.hid (show Below w4.heap.size w4 w5 by rw [hw5]; exact (Below.refl _ _).alloc (Nat.le_refl _) _)
    have HW5 := Lib.hid hw5
    clear hw5
    have z0 := HZ5.out.cell 0
    have z1 := HZ5.out.cell 1
    have z2 := HZ5.out.cell 2
    have y0 := HZ5.out.frozen 0
    have y1 := HZ5.out.frozen 1
    have y2 := HZ5.out.frozen 2
    simp only [List.getElem?_toArray, List.getElem?_cons_zero, List.getElem?_cons_succ] at z0 z1 z2
    clear hb
    go_wp2_with (first
      | (with_reducible refine halt_end ?_)
      | (refine wpList_alloc_blk rfl rfl ?_)
      | (refine wpList_store_new _ _ rfl rfl w4 (noughts 64) rfl rfl (noughts 64) rfl (noughts_length 64) (noughts_length 64) ?_; rw [← HW5.out]))
    have hz := HZ5.out.set3 (.int .u64 0) (.int .u32 0) (.int .i64 0)
    have hs1 := HB1.out.size
    have hs2 := HB2.out.size
    have hs3 := HB3.out.size
    have hs4 := HB4.out.size
    have hs5 := HB5.out.size
    refine Halt.ret (results_row3 rfl _ _ (w.heap.size + 1) 34 _ _ rfl hz Try.underlying34 rfl size_stamp) rfl ⟨rfl, ?_⟩
    exact below_set3 ((((HB1.out.trans (HB2.out.mono (by omega))).trans (HB3.out.mono (by omega))).trans (HB4.out.mono (by omega))).trans (HB5.out.mono (by omega))) (by omega) _ _ _

end Go.Proofs.Ytikeiloeeklkeaa
