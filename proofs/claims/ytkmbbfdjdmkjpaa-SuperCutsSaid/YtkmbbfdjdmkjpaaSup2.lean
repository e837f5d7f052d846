/- Package super: Encode, Decode, Get; what is not there. -/
import Derived.Test.YtkmbbfdjdmkjpaaSup1
import Derived.Test.YtkmbbfdjdmkjpaaTill
namespace Go.Proofs.Ytkmbbfdjdmkjpaa
open Go.RowKit
set_option linter.unusedVariables false
set_option linter.unusedSimpArgs false

theorem encode_ok (a b g r v f t : Int) (w : World) (h : MayS a b g r) (hin : InS a b g r v f) (ht : 0 ≤ t ∧ t ≤ 18446744073709551615) :
    Calls Try.prog 15 #[.agg (supC a b g r v f), .int .u64 t] w fun e w' => e = .returned (.tuple #[.agg (cells8 (supL a b g r v f t)), .int .i64 0]) ∧ Below w.heap.size w w' := by
  have hsl := supL_length a b g r v f t
  have HBK := Lib.hid (fun u => block_ok a b g r v f t u h hin ht)
  generalize supL a b g r v f t = sl at *
  have HSL := Lib.hid hsl
  clear h hin ht hsl
  go_enter Try.func15, Try.ntmps15
  go_wp2_with (refine wpList_alloc_blk rfl rfl ?_)
  have HR2 := Lib.hid (show ArrB ((w.alloc (.cells (supC a b g r v f) 24)).alloc (.cells (cells8 (noughts 64)) 26)) (w.heap.size + 1) (noughts 64) from blk_new2 w _ _ _)
  have HB2 := Lib.hid (show Below w.heap.size w ((w.alloc (.cells (supC a b g r v f) 24)).alloc (.cells (cells8 (noughts 64)) 26)) from ((Below.refl _ _).alloc (Nat.le_refl _) _).alloc (by simp) _)
  generalize hw2 : ((w.alloc (.cells (supC a b g r v f) 24)).alloc (.cells (cells8 (noughts 64)) 26)) = w2 at *
  clear hw2
  refine (HBK.out _).mono ?_
  rintro e w3 ⟨rfl, hb⟩
  have HR3 := Lib.hid (show ArrB w3 (w.heap.size + 1) (noughts 64) from Arr.below HR2.out hb HR2.out.lt)
  have HB3 := Lib.hid (HB2.out.trans (hb.mono HB2.out.size))
  clear hb
  go_wp2_with (first
    | (refine wpList_store_blk (.tmp 4) (.tmp 10) rfl rfl (w.heap.size + 1) sl rfl rfl 26 (noughts 64) HR3.out (noughts_length 64) HSL.out ?_)
    | (with_reducible refine halt_end ?_))
  exact Halt.ret (results_blk2 (p := 4) (u := 5) rfl _ _ (w.heap.size + 1) 26 sl rfl (HR3.out.setRow sl) HSL.out) rfl ⟨rfl, below_setRow HB3.out (by omega) _⟩

theorem encode_bad (a b g r v f t : Int) (w : World) (h : ¬ MayS a b g r) :
    Calls Try.prog 15 #[.agg (supC a b g r v f), .int .u64 t] w fun e w' => e = .returned (.tuple #[.agg (cells8 (noughts 64)), .int .i64 2]) ∧ Below w.heap.size w w' := by
  have HBK := Lib.hid (fun u => block_bad a b g r v f t u h)
  clear h
  go_enter Try.func15, Try.ntmps15
  go_wp2_with (refine wpList_alloc_blk rfl rfl ?_)
  have HR2 := Lib.hid (show ArrB ((w.alloc (.cells (supC a b g r v f) 24)).alloc (.cells (cells8 (noughts 64)) 26)) (w.heap.size + 1) (noughts 64) from blk_new2 w _ _ _)
  have HB2 := Lib.hid (show Below w.heap.size w ((w.alloc (.cells (supC a b g r v f) 24)).alloc (.cells (cells8 (noughts 64)) 26)) from ((Below.refl _ _).alloc (Nat.le_refl _) _).alloc (by simp) _)
  generalize hw2 : ((w.alloc (.cells (supC a b g r v f) 24)).alloc (.cells (cells8 (noughts 64)) 26)) = w2 at *
  clear hw2
  refine (HBK.out _).mono ?_
  rintro e w3 ⟨rfl, hb⟩
  have HR3 := Lib.hid (show ArrB w3 (w.heap.size + 1) (noughts 64) from Arr.below HR2.out hb HR2.out.lt)
  have HB3 := Lib.hid (HB2.out.trans (hb.mono HB2.out.size))
  clear hb
  go_wp2_with (first
    | (refine wpList_store_blk (.tmp 4) (.tmp 10) rfl rfl (w.heap.size + 1) (noughts 64) rfl rfl 26 (noughts 64) HR3.out (noughts_length 64) (noughts_length 64) ?_)
    | (with_reducible refine halt_end ?_))
  exact Halt.ret (results_blk2 (p := 4) (u := 5) rfl _ _ (w.heap.size + 1) 26 (noughts 64) rfl (HR3.out.setRow (noughts 64)) (noughts_length 64)) rfl ⟨rfl, below_setRow HB3.out (by omega) _⟩

theorem one_sup (a b g r v f : Int) : (supC a b g r v f).all (·.oneCell') = true := by simp [supC, Value.oneCell']

abbrev dc0 : Oper := { dst := some 12, op := Go.Op.fieldAddr 95 (Go.Operand.tmp 5) 0, type := 0, pos := "super.go:142", after := #[], guard := none }
abbrev dc1 : Oper := { dst := some 13, op := Go.Op.load 24 (Go.Operand.tmp 12), type := 24, pos := "super.go:142", after := #[{ on := 0, ground := Go.Ground.data }], guard := none }
abbrev dc2 : Oper := { dst := some 14, op := Go.Op.fieldAddr 95 (Go.Operand.tmp 5) 1, type := 0, pos := "super.go:142", after := #[{ on := 5, ground := Go.Ground.gcOnly Go.Departure.lateStores }], guard := none }
abbrev dc3 : Oper := { dst := some 15, op := Go.Op.load 22 (Go.Operand.tmp 14), type := 22, pos := "super.go:142", after := #[{ on := 2, ground := Go.Ground.data }, { on := 5, ground := Go.Ground.gcOnly Go.Departure.lateStores }], guard := none }
abbrev dc4 : Oper := { dst := some 16, op := Go.Op.move (Go.Operand.tmp 6), type := 28, pos := "super.go:142", after := #[{ on := 6, ground := Go.Ground.gcOnly Go.Departure.lateStores }], guard := none }
abbrev dc5 : Oper := { dst := none, op := Go.Op.store 24 (Go.Operand.tmp 2) (Go.Operand.tmp 13), type := 0, pos := "super.go:142", after := #[{ on := 1, ground := Go.Ground.data }, { on := 0, ground := Go.Ground.phase }, { on := 1, ground := Go.Ground.phase }, { on := 2, ground := Go.Ground.textOnly Go.Departure.lateStores }, { on := 3, ground := Go.Ground.textOnly Go.Departure.lateStores }, { on := 4, ground := Go.Ground.textOnly Go.Departure.lateStores }], guard := none }
abbrev dc6 : Oper := { dst := some 3, op := Go.Op.assign (Go.Operand.tmp 15), type := 22, pos := "super.go:142", after := #[{ on := 3, ground := Go.Ground.data }, { on := 5, ground := Go.Ground.chain }, { on := 0, ground := Go.Ground.phase }, { on := 1, ground := Go.Ground.phase }, { on := 2, ground := Go.Ground.phase }, { on := 3, ground := Go.Ground.phase }, { on := 4, ground := Go.Ground.textOnly Go.Departure.lateStores }, { on := 5, ground := Go.Ground.phase }], guard := none }
abbrev dc7 : Oper := { dst := some 4, op := Go.Op.assign (Go.Operand.tmp 16), type := 28, pos := "super.go:142", after := #[{ on := 4, ground := Go.Ground.data }, { on := 6, ground := Go.Ground.chain }, { on := 0, ground := Go.Ground.phase }, { on := 1, ground := Go.Ground.phase }, { on := 2, ground := Go.Ground.phase }, { on := 3, ground := Go.Ground.phase }, { on := 4, ground := Go.Ground.phase }, { on := 5, ground := Go.Ground.phase }, { on := 6, ground := Go.Ground.phase }], guard := none }

set_option maxHeartbeats 1000000 in
set_option maxRecDepth 100000 in
theorem decode_of (xs : List Int) (w : World) (hl : xs.length = 64) (a b g r v f t err : Int)
    (hrd : ∀ u, Calls Try.prog 69 #[.agg (cells8 xs)] u fun e w' => e = .returned (.tuple #[.agg (turC a b g r v f t), .int .i64 err]) ∧ Below u.heap.size u w') :
    Calls Try.prog 18 #[.agg (cells8 xs)] w fun e w' => e = .returned (.tuple #[.agg (supC a b g r v f), .int .u64 t, .int .i64 err]) ∧ Below w.heap.size w w' := by
  have HRDD := Lib.hid hrd
  have HL := Lib.hid hl
  clear hrd hl
  have HX2 := Lib.hid (show ArrB ((w.alloc (.cells (cells8 xs) 26)).alloc (.cells (supC 0 0 0 0 0 0) 24)) w.heap.size xs from (Blk.new w _ _).alloc _)
  have HR2 := Lib.hid (show Blk ((w.alloc (.cells (cells8 xs) 26)).alloc (.cells (supC 0 0 0 0 0 0) 24)) (w.heap.size + 1) 24 (supC 0 0 0 0 0 0) from blk_new2 w _ _ _)
  have HB2 := Lib.hid (show Below w.heap.size w ((w.alloc (.cells (cells8 xs) 26)).alloc (.cells (supC 0 0 0 0 0 0) 24)) from ((Below.refl _ _).alloc (Nat.le_refl _) _).alloc (by simp) _)
  go_enter Try.func18, Try.ntmps18
  go_wp2_with (refine wpList_load_blk (.tmp 1) rfl rfl w.heap.size 0 rfl xs HL.out HX2.out.range ?_)
  generalize hw2 : ((w.alloc (.cells (cells8 xs) 26)).alloc (.cells (supC 0 0 0 0 0 0) 24)) = w2 at *
  clear hw2
  refine (HRDD.out _).mono ?_
  rintro e w3 ⟨rfl, hb⟩
  have HR3 := Lib.hid (HR2.out.below hb HR2.out.lt)
  have HB3 := Lib.hid (HB2.out.trans (hb.mono HB2.out.size))
  clear hb
  obtain ⟨w4, hw4⟩ : ∃ w4, w4 = w3.alloc (.cells (turC a b g r v f t) 95) := ⟨_, rfl⟩
  have HW4 := Lib.hid hw4
  have HT4 := Lib.hid (show Blk w4 w3.heap.size 95 (turC a b g r v f t) by rw [hw4]; exact Blk.new w3 _ _)
  have HR4 := Lib.hid (show Blk w4 (w.heap.size + 1) 24 (supC 0 0 0 0 0 0) by rw [hw4]; exact HR3.out.alloc _)
  have HB4 := Lib.hid (show Below w.heap.size w w4 by rw [hw4]; exact HB3.out.alloc HB3.out.size _)
  have HZ := Lib.hid (show w.heap.size + 1 < w3.heap.size from HR3.out.lt)
  clear hw4
  go_wp2_with fail
  rw [← HW4.out]
  obtain ⟨c0, c1, c2, c3, c4, c5, c6⟩ : _ ∧ _ ∧ _ ∧ _ ∧ _ ∧ _ ∧ _ := ⟨HT4.out.cell 0, HT4.out.cell 1, HT4.out.cell 2, HT4.out.cell 3, HT4.out.cell 4, HT4.out.cell 5, HT4.out.cell 6⟩
  simp only [List.getElem?_toArray, List.getElem?_cons_zero, List.getElem?_cons_succ] at c0 c1 c2 c3 c4 c5 c6
  have HN := Lib.hid (show w3.heap.size ≠ w.heap.size + 1 by have := HZ.out; omega)
  have hrow : w4.rangeAt w3.heap.size 0 (supC a b g r v f).toList := fun j u hu => by
    rw [Nat.zero_add, HT4.out.cell j]
    match j, hu with
    | 0, hu | 1, hu | 2, hu | 3, hu | 4, hu | 5, hu => simpa [supC] using hu
    | (m + 6), hu => simp [supC] at hu
  have hu := Try.underlying24
  have hsz : (Try.prog.info? 24).map (·.size) = some (supC a b g r v f).toList.length := size_sup
  have hzs : ∀ w, (sizeOf 24).run Try.prog w = .ok 6 w := Try.sizeOf24
  clear c0 c1 c2 c3 c4 c5
  refine wp_region_noPanic ?_
  refine Tillst.region (fun W => W.rangeAt w3.heap.size 0 (supC a b g r v f).toList ∧ W.cell? ⟨w3.heap.size, 6, none⟩ = some (.int .u64 t)) [] (by kernel_rfl) ⟨hrow, c6⟩ (fun hHeld => ?_)
  refine Tillst.take (i := 0) (oi := dc0) (v := ?_) rfl (by kernel_rfl) (by kernel_rfl) (by kernel_rfl) (by kernel_rfl) (fun _ _ _ h => h) (by rfl) ?_ hHeld ?_
  rotate_left
  · intro W hSW; (try dsimp only at hSW); unfold dc0; go_simp; with_reducible rfl
  simp only [dc0, Act.put, List.setIfInBounds_toArray, List.set_cons_zero, List.set_cons_succ]
  refine Tillst.take (i := 1) (oi := dc1) (v := ?_) rfl (by kernel_rfl) (by kernel_rfl) (by kernel_rfl) (by kernel_rfl) (fun _ _ _ h => h) (by rfl) ?_ hHeld ?_
  rotate_left
  · intro W hSW; refine exec_load_row (.tmp 12) 24 ?_ w3.heap.size 0 ?_ (supC a b g r v f).toList _ hu rfl hsz hSW.1 <;> rfl
  simp only [dc1, Act.put, List.setIfInBounds_toArray, List.set_cons_zero, List.set_cons_succ]
  refine Tillst.take (i := 2) (oi := dc2) (v := ?_) rfl (by kernel_rfl) (by kernel_rfl) (by kernel_rfl) (by kernel_rfl) (fun _ _ _ h => h) (by rfl) ?_ hHeld ?_
  rotate_left
  · intro W hSW; (try dsimp only at hSW); unfold dc2; go_simp; with_reducible rfl
  simp only [dc2, Act.put, List.setIfInBounds_toArray, List.set_cons_zero, List.set_cons_succ]
  refine Tillst.take (i := 3) (oi := dc3) (v := ?_) rfl (by kernel_rfl) (by kernel_rfl) (by kernel_rfl) (by kernel_rfl) (fun _ _ _ h => h) (by rfl) ?_ hHeld ?_
  rotate_left
  · intro W hSW; have hc := hSW.2; unfold dc3; go_simp; with_reducible rfl
  simp only [dc3, Act.put, List.setIfInBounds_toArray, List.set_cons_zero, List.set_cons_succ]
  refine Tillst.take (i := 4) (oi := dc4) (v := ?_) rfl (by kernel_rfl) (by kernel_rfl) (by kernel_rfl) (by kernel_rfl) (fun _ _ _ h => h) (by rfl) ?_ hHeld ?_
  rotate_left
  · intro W hSW; (try dsimp only at hSW); unfold dc4; go_simp; with_reducible rfl
  simp only [dc4, Act.put, List.setIfInBounds_toArray, List.set_cons_zero, List.set_cons_succ]
  refine Tillst.one (i := 5) (o := dc5) (by kernel_rfl) rfl ?_
  intro K hK
  refine step_store_part (.tmp 2) (.tmp 13) 24 rfl rfl hzs (w.heap.size + 1) 0 (supC a b g r v f).toList rfl rfl 24 (supC 0 0 0 0 0 0).toList HR4.out rfl (by intro u hu; simp [supC] at hu; rcases hu with rfl | rfl | rfl | rfl | rfl | rfl <;> rfl) (by simp [supC]) ?_
  simp only [dc5, Act.put, List.setIfInBounds_toArray, List.set_cons_zero, List.set_cons_succ]
  have HRF := Lib.hid (show Blk (w4.drew.setRow (w.heap.size + 1) (supC a b g r v f)) (w.heap.size + 1) 24 (supC a b g r v f) from setRow_heap _ _ _ (supC a b g r v f) _ _ HR4.out)
  have HBF := Lib.hid (show Below w.heap.size w (w4.drew.setRow (w.heap.size + 1) (supC a b g r v f)) from below_setRow HB4.out.drew (by omega) _)
  have hS := And.intro (far_range (cs := supC a b g r v f) hHeld.1 HN.out) (far_row (supC a b g r v f) hHeld.2 HN.out)
  have he : (List.take 0 (supC 0 0 0 0 0 0).toList ++ (supC a b g r v f).toList ++ List.drop (0 + 6) (supC 0 0 0 0 0 0).toList).toArray = supC a b g r v f := by simp [supC]
  rw [he]
  refine hK.out _ _ (fun _ => hS) (fun hHeld => ?_)
  replace hHeld := hHeld (by decide)
  clear hK K hS he
  generalize w4.drew.setRow (w.heap.size + 1) (supC a b g r v f) = wf at *
  refine Tillst.one (i := 6) (o := dc6) (by kernel_rfl) rfl ?_
  intro K hK
  refine step_value ?_ rfl ?_ ?_
  rotate_left
  · unfold dc6; go_simp; with_reducible rfl
  simp only [dc6, Act.put, List.setIfInBounds_toArray, List.set_cons_zero, List.set_cons_succ]
  refine hK.out _ _ (fun _ => hHeld) (fun hHeld => ?_)
  replace hHeld := hHeld (by decide)
  clear hK K
  refine Tillst.one (i := 7) (o := dc7) (by kernel_rfl) rfl ?_
  intro K hK
  refine step_value ?_ rfl ?_ ?_
  rotate_left
  · unfold dc7; go_simp; with_reducible rfl
  simp only [dc7, Act.put, List.setIfInBounds_toArray, List.set_cons_zero, List.set_cons_succ]
  refine hK.out _ _ (fun _ => hHeld) (fun hHeld => ?_)
  replace hHeld := hHeld (by decide)
  clear hK K
  refine Tillst.done (by kernel_rfl) ?_ _
  refine NoPanic.normal ?_
  clear hHeld c6 hrow
  go_wp2_with (with_reducible refine halt_end ?_)
  exact Halt.ret (results_row3 (p := 2) (u := 3) (v := 4) rfl _ _ (w.heap.size + 1) 24 (supC a b g r v f) _ rfl HRF.out Try.underlying24 rfl size_sup) rfl ⟨rfl, HBF.out⟩

/-- Decode, in whatever case. -/
theorem decode_ok (xs : List Int) (w : World) (hl : xs.length = 64) (hb : Bytes xs) (hr : rightS xs = true) :
    Calls Try.prog 18 #[.agg (cells8 xs)] w fun e w' => e = .returned (.tuple #[.agg (supC (numAt xs 16 2) (numAt xs 18 2) (numAt xs 20 8) (numAt xs 28 8) (numAt xs 36 8) (numAt xs 44 8)), .int .u64 (numAt xs 8 8), .int .i64 0]) ∧ Below w.heap.size w w' :=
  decode_of xs w hl _ _ _ _ _ _ _ _ fun u => read_ok xs u hl hb hr
theorem decode_no (xs : List Int) (w : World) (hl : xs.length = 64) (hb : Bytes xs) (hr : rightS xs = false) :
    Calls Try.prog 18 #[.agg (cells8 xs)] w fun e w' => e = .returned (.tuple #[.agg (supC 0 0 0 0 0 0), .int .u64 0, .int .i64 170]) ∧ Below w.heap.size w w' :=
  decode_of xs w hl _ _ _ _ _ _ _ _ fun u => read_any_s xs u hl hb hr

/-! What is not there. -/
theorem get_nil (w : World) : Calls Try.prog 24 #[.pointer none] w fun e w' => e = .returned (.agg (supC 0 0 0 0 0 0)) ∧ Below w.heap.size w w' := by
  go_enter Try.func24, Try.ntmps24
  go_wp2_with (with_reducible refine halt_end ?_)
  exact Halt.ret (results_row1 (p := 2) rfl _ _ w.heap.size 24 (supC 0 0 0 0 0 0) _ rfl (Blk.new w _ _) Try.underlying24 rfl size_sup) rfl ⟨rfl, (Below.refl _ _).alloc (Nat.le_refl _) _⟩
theorem disk_nil (w : World) : Calls Try.prog 29 #[.pointer none] w fun e w' => e = .returned (.pointer none) ∧ w = w' := by
  go_enter Try.func29, Try.ntmps29
  go_wp2
  go_ret
  exact ⟨rfl, rfl⟩
theorem base_nil (i : Int) (w : World) : Calls Try.prog 28 #[.pointer none, .int .i64 i] w fun e w' => e = .returned (.tuple #[.int .i64 0, .int .i64 1]) ∧ w = w' := by
  go_enter Try.func28, Try.ntmps28
  go_wp2
  go_ret2
  exact ⟨rfl, rfl⟩
theorem set_nil (a b g r v f : Int) (w : World) : Calls Try.prog 23 #[.pointer none, .agg (supC a b g r v f)] w fun e w' => e = .returned (.int .i64 1) ∧ Below w.heap.size w w' := by
  go_enter Try.func23, Try.ntmps23
  go_wp2
  go_ret
  exact ⟨rfl, (Below.refl _ _).alloc (Nat.le_refl _) _⟩
theorem format_nil (a b : Int) (w : World) : Calls Try.prog 21 #[.pointer none, .int .i64 a, .int .i64 b] w fun e w' => e = .returned (.tuple #[.pointer none, .int .i64 1]) ∧ w = w' := by
  go_enter Try.func21, Try.ntmps21
  go_wp2
  go_ret2
  exact ⟨rfl, rfl⟩
theorem open_nil (w : World) : Calls Try.prog 27 #[.pointer none] w fun e w' => e = .returned (.tuple #[.pointer none, .int .i64 1]) ∧ w = w' := by
  go_enter Try.func27, Try.ntmps27
  go_wp2
  go_ret2
  exact ⟨rfl, rfl⟩

end Go.Proofs.Ytkmbbfdjdmkjpaa
