/- Package super: which one of two superblocks counts. -/
import Derived.Test.YtkmbbfdjdmkjpaaGood
namespace Go.Proofs.Ytkmbbfdjdmkjpaa
open Go.RowKit
set_option linter.unusedVariables false
set_option linter.unusedSimpArgs false

set_option maxHeartbeats 1000000 in
set_option maxRecDepth 100000 in
theorem count_of (xs ys : List Int) (w : World) (hl : xs.length = 64) (hl' : ys.length = 64) (a b g r v f t a' b' g' r' v' f' t' e2 : Int) (q : Bool) (hq : q = decide (t' ≤ t)) (he : e2 = 0 ∨ (e2 ≠ 0 ∧ q = true))
    (h1 : ∀ u, Calls Try.prog 69 #[.agg (cells8 xs)] u fun e w' => e = .returned (.tuple #[.agg (turC a b g r v f t), .int .i64 0]) ∧ Below u.heap.size u w')
    (h2 : ∀ u, Calls Try.prog 69 #[.agg (cells8 ys)] u fun e w' => e = .returned (.tuple #[.agg (turC a' b' g' r' v' f' t'), .int .i64 e2]) ∧ Below u.heap.size u w') :
    Calls Try.prog 81 #[.agg (cells8 xs), .agg (cells8 ys)] w fun e w' => e = .returned (.tuple #[.agg (if q then turC a b g r v f t else turC a' b' g' r' v' f' t'), .int .i64 0]) ∧ Below w.heap.size w w' := by
  have H1 := Lib.hid h1
  have H2 := Lib.hid h2
  have HL := Lib.hid hl
  have HL' := Lib.hid hl'
  clear h1 h2 hl hl'
  have HB3 := Lib.hid (show Below w.heap.size w (((w.alloc (.cells (cells8 xs) 26)).alloc (.cells (cells8 ys) 26)).alloc (.cells (turC 0 0 0 0 0 0 0) 95)) from ((((Below.refl w.heap.size w).alloc (Nat.le_refl _) _).alloc (by simp) _).alloc (by simp; omega) _))
  have HX3 := Lib.hid (show ArrB (((w.alloc (.cells (cells8 xs) 26)).alloc (.cells (cells8 ys) 26)).alloc (.cells (turC 0 0 0 0 0 0 0) 95)) w.heap.size xs from ((Blk.new w _ _).alloc _).alloc _)
  have HY3 := Lib.hid (show ArrB (((w.alloc (.cells (cells8 xs) 26)).alloc (.cells (cells8 ys) 26)).alloc (.cells (turC 0 0 0 0 0 0 0) 95)) (w.heap.size + 1) ys from (blk_new2 w _ _ _).alloc _)
  have HT3 := Lib.hid (show Blk (((w.alloc (.cells (cells8 xs) 26)).alloc (.cells (cells8 ys) 26)).alloc (.cells (turC 0 0 0 0 0 0 0) 95)) (w.heap.size + 1 + 1) 95 (turC 0 0 0 0 0 0 0) from blk_new3 w _ _ _ _)
  go_enter Try.func81, Try.ntmps81
  go_wp2_with (refine wpList_load_blk (.tmp 2) rfl rfl w.heap.size 0 rfl xs HL.out HX3.out.range ?_)
  generalize (((w.alloc (.cells (cells8 xs) 26)).alloc (.cells (cells8 ys) 26)).alloc (.cells (turC 0 0 0 0 0 0 0) 95)) = w3 at *
  refine (H1.out _).mono ?_
  rintro e w4 ⟨rfl, hb⟩
  have HY4 := Lib.hid (show ArrB (w4.alloc (.cells (turC a b g r v f t) 95)) (w.heap.size + 1) ys from Blk.alloc (Blk.below HY3.out hb (Blk.lt HY3.out)) _)
  have HT4 := Lib.hid ((HT3.out.below hb HT3.out.lt).alloc (.cells (turC a b g r v f t) 95))
  have HB4 := Lib.hid ((HB3.out.trans (hb.mono HB3.out.size)).alloc (HB3.out.trans (hb.mono HB3.out.size)).size (.cells (turC a b g r v f t) 95))
  have HP4 := Lib.hid (Blk.new w4 95 (turC a b g r v f t))
  have HZ4 := Lib.hid (show w.heap.size + 1 + 1 < w4.heap.size from Nat.lt_of_lt_of_le HT3.out.lt hb.size)
  clear hb
  go_wp2_with (refine wpList_load_blk (.tmp 3) rfl rfl (w.heap.size + 1) 0 rfl ys HL'.out HY4.out.range ?_)
  generalize w4.alloc (.cells (turC a b g r v f t) 95) = w5 at *
  refine (H2.out _).mono ?_
  rintro e w6 ⟨rfl, hb⟩
  have HT6 := Lib.hid ((HT4.out.below hb HT4.out.lt).alloc (.cells (turC a' b' g' r' v' f' t') 95))
  have HB6 := Lib.hid ((HB4.out.trans (hb.mono HB4.out.size)).alloc (HB4.out.trans (hb.mono HB4.out.size)).size (.cells (turC a' b' g' r' v' f' t') 95))
  have HP6 := Lib.hid ((HP4.out.below hb HP4.out.lt).alloc (.cells (turC a' b' g' r' v' f' t') 95))
  have HQ6 := Lib.hid (Blk.new w6 95 (turC a' b' g' r' v' f' t'))
  have HZ6 := Lib.hid (show w.heap.size + 1 + 1 < w6.heap.size from Nat.lt_of_lt_of_le HT4.out.lt hb.size)
  have c6 : (w6.alloc (.cells (turC a' b' g' r' v' f' t') 95)).cell? ⟨w4.heap.size, 6, none⟩ = some (.int .u64 t) := HP6.out.cell 6
  have c7 : (w6.alloc (.cells (turC a' b' g' r' v' f' t') 95)).cell? ⟨w6.heap.size, 6, none⟩ = some (.int .u64 t') := HQ6.out.cell 6
  clear hb
  have hq2 : decide (t' ≤ t) = q := hq.symm
  have HQQ := Lib.hid hq
  clear hq
  rcases he with rfl | ⟨hne, hq1⟩
  · cases q
    · go_wp2_with (first
        | (refine wpList_load_rowB (.tmp 8) 95 rfl rfl w6.heap.size rfl 95 (turC a' b' g' r' v' f' t').toList _ Try.underlying95 rfl size_tur HQ6.out ?_)
        | (refine wpList_store_rowB (.tmp 4) (.tmp 36) 95 rfl rfl (w.heap.size + 1 + 1) (turC a' b' g' r' v' f' t') rfl rfl 95 _ HT6.out size_tur rfl (one_tur _ _ _ _ _ _ _) ?_)
        | (with_reducible refine halt_end ?_))
      exact Halt.ret (results_row2 (p := 4) (u := 5) rfl _ _ (w.heap.size + 1 + 1) 95 (turC a' b' g' r' v' f' t') _ rfl (setRow_heap _ _ _ _ _ _ HT6.out) Try.underlying95 rfl size_tur) rfl ⟨rfl, below_setRow HB6.out (by omega) _⟩
    · go_wp2_with (first
        | (refine wpList_load_rowB (.tmp 6) 95 rfl rfl w4.heap.size rfl 95 (turC a b g r v f t).toList _ Try.underlying95 rfl size_tur HP6.out ?_)
        | (refine wpList_store_rowB (.tmp 4) (.tmp 35) 95 rfl rfl (w.heap.size + 1 + 1) (turC a b g r v f t) rfl rfl 95 _ HT6.out size_tur rfl (one_tur _ _ _ _ _ _ _) ?_)
        | (with_reducible refine halt_end ?_))
      exact Halt.ret (results_row2 (p := 4) (u := 5) rfl _ _ (w.heap.size + 1 + 1) 95 (turC a b g r v f t) _ rfl (setRow_heap _ _ _ _ _ _ HT6.out) Try.underlying95 rfl size_tur) rfl ⟨rfl, below_setRow HB6.out (by omega) _⟩
  · subst hq1
    have d1 : (e2 != 0) = true := by simpa using hne
    clear hne c6 c7
    go_wp2_with (first
      | (refine wpList_load_rowB (.tmp 6) 95 rfl rfl w4.heap.size rfl 95 (turC a b g r v f t).toList _ Try.underlying95 rfl size_tur HP6.out ?_)
      | (refine wpList_store_rowB (.tmp 4) (.tmp 35) 95 rfl rfl (w.heap.size + 1 + 1) (turC a b g r v f t) rfl rfl 95 _ HT6.out size_tur rfl (one_tur _ _ _ _ _ _ _) ?_)
      | (with_reducible refine halt_end ?_))
    exact Halt.ret (results_row2 (p := 4) (u := 5) rfl _ _ (w.heap.size + 1 + 1) 95 (turC a b g r v f t) _ rfl (setRow_heap _ _ _ _ _ _ HT6.out) Try.underlying95 rfl size_tur) rfl ⟨rfl, below_setRow HB6.out (by omega) _⟩
end Go.Proofs.Ytkmbbfdjdmkjpaa
