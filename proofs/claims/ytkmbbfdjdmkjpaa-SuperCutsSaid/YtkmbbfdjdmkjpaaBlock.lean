/- Package super: the superblock of what is known. -/
import Derived.Test.YtkmbbfdjdmkjpaaSupL
import Derived.Test.YtkmbbfdjdmkjpaaDisk
import Derived.Deep.RegionHeld3
import Derived.Deep.DeepCutAuto
namespace Go.Proofs.Ytkmbbfdjdmkjpaa
open Go.RowKit
set_option linter.unusedVariables false
set_option linter.unusedSimpArgs false

/-- Two rows laid into noughts. -/
theorem splice_at {α : Type} (H zs cs : List α) (k : Nat) (z : α) (h : zs = H ++ List.replicate k z) (hk : cs.length ≤ k) : splice zs H.length cs = H ++ cs ++ List.replicate (k - cs.length) z := by
  subst h
  unfold splice
  rw [List.take_left, List.drop_append, List.drop_eq_nil_of_le (by omega), List.nil_append, List.drop_replicate, show k - (H.length + cs.length - H.length) = k - cs.length by omega, List.append_assoc]

theorem block_bad (a b g r v f t : Int) (w : World) (h : ¬ MayS a b g r) :
    Calls Try.prog 65 #[.agg (turC a b g r v f t)] w fun e w' => e = .returned (.tuple #[.agg (cells8 (noughts 64)), .int .i64 2]) ∧ Below w.heap.size w w' := by
  have HNO := Lib.hid (show decide (MayS a b g r) = false from decide_eq_false h)
  clear h
  go_enter Try.func65, Try.ntmps65
  go_upto_region 1 with (refine wpList_alloc_blk rfl rfl ?_)
  have HT2 := Lib.hid (show Blk ((w.alloc (.cells (turC a b g r v f t) 95)).alloc (.cells (cells8 (noughts 64)) 26)) w.heap.size 95 (turC a b g r v f t) from (Blk.new w _ _).alloc _)
  have HR2 := Lib.hid (show ArrB ((w.alloc (.cells (turC a b g r v f t) 95)).alloc (.cells (cells8 (noughts 64)) 26)) (w.heap.size + 1) (noughts 64) from blk_new2 w _ _ _)
  have HB2 := Lib.hid (show Below w.heap.size w ((w.alloc (.cells (turC a b g r v f t) 95)).alloc (.cells (cells8 (noughts 64)) 26)) from ((Below.refl _ _).alloc (Nat.le_refl _) _).alloc (by simp) _)
  generalize hw2 : ((w.alloc (.cells (turC a b g r v f t) 95)).alloc (.cells (cells8 (noughts 64)) 26)) = w2 at *
  clear hw2
  have HT3 := Lib.hid (HT2.out.alloc (.cells (cells8 (noughts 64)) 26))
  have HR3 := Lib.hid (Blk.alloc HR2.out (.cells (cells8 (noughts 64)) 26))
  have HV3 := Lib.hid (show ArrB (w2.alloc (.cells (cells8 (noughts 64)) 26)) w2.heap.size (noughts 64) from Blk.new w2 _ _)
  have HB3 := Lib.hid (HB2.out.alloc HB2.out.size (.cells (cells8 (noughts 64)) 26))
  have HZ2 := Lib.hid (show w.heap.size + 1 < w2.heap.size from HR2.out.lt)
  obtain ⟨c0, c1, c2, c3, c4, c5, c6⟩ : _ ∧ _ ∧ _ ∧ _ ∧ _ ∧ _ ∧ _ := ⟨HT3.out.cell 0, HT3.out.cell 1, HT3.out.cell 2, HT3.out.cell 3, HT3.out.cell 4, HT3.out.cell 5, HT3.out.cell 6⟩
  simp only [List.getElem?_toArray, List.getElem?_cons_zero, List.getElem?_cons_succ] at c0 c1 c2 c3 c4 c5 c6
  go_wp2_with (first
    | (refine wpList_alloc_blk rfl rfl ?_)
    | (go_at_call 99; refine (may_any a b g r v f _).mono ?_; rintro e w4 ⟨rfl, hb⟩; rw [HNO.out]; have HR4 := Lib.hid (show ArrB w4 (w.heap.size + 1) (noughts 64) from Arr.below HR3.out hb HR3.out.lt); have HV4 := Lib.hid (show ArrB w4 w2.heap.size (noughts 64) from Arr.below HV3.out hb HV3.out.lt); have HB4 := Lib.hid (HB3.out.trans (hb.mono HB3.out.size)); clear hb)
    | (refine wpList_load_blk (.tmp 4) rfl rfl w2.heap.size 0 rfl (noughts 64) (noughts_length 64) HV4.out.range ?_)
    | (refine wpList_store_blk (.tmp 2) (.tmp 10) rfl rfl (w.heap.size + 1) (noughts 64) rfl rfl 26 (noughts 64) HR4.out (noughts_length 64) (noughts_length 64) ?_)
    | (with_reducible refine halt_end ?_))
  exact Halt.ret (results_blk2 (p := 2) (u := 3) rfl _ _ (w.heap.size + 1) 26 (noughts 64) rfl (HR4.out.setRow (noughts 64)) (noughts_length 64)) rfl ⟨rfl, below_setRow HB4.out (by omega) _⟩

set_option maxHeartbeats 2000000 in
set_option maxRecDepth 100000 in
theorem block_ok (a b g r v f t : Int) (w : World) (h : MayS a b g r) (hin : InS a b g r v f) (ht : 0 ≤ t ∧ t ≤ 18446744073709551615) :
    Calls Try.prog 65 #[.agg (turC a b g r v f t)] w fun e w' => e = .returned (.tuple #[.agg (cells8 (supL a b g r v f t)), .int .i64 0]) ∧ Below w.heap.size w w' := by
  have HYES := Lib.hid (show decide (MayS a b g r) = true from decide_eq_true h)
  have hwa : IntKind.u16.wrap a = a := by rw [IntKind.wrap_u16]; have := h.1; have := h.2.1; omega
  have hwb : IntKind.u16.wrap b = b := by rw [IntKind.wrap_u16]; have := h.2.2.1; have := h.2.2.2.1; omega
  have HMAY := Lib.hid h
  have HIN := Lib.hid hin
  have HTT := Lib.hid ht
  clear h hin ht
  go_enter Try.func65, Try.ntmps65
  go_upto_region 1 with (refine wpList_alloc_blk rfl rfl ?_)
  have HT2 := Lib.hid (show Blk ((w.alloc (.cells (turC a b g r v f t) 95)).alloc (.cells (cells8 (noughts 64)) 26)) w.heap.size 95 (turC a b g r v f t) from (Blk.new w _ _).alloc _)
  have HR2 := Lib.hid (show ArrB ((w.alloc (.cells (turC a b g r v f t) 95)).alloc (.cells (cells8 (noughts 64)) 26)) (w.heap.size + 1) (noughts 64) from blk_new2 w _ _ _)
  have HB2 := Lib.hid (show Below w.heap.size w ((w.alloc (.cells (turC a b g r v f t) 95)).alloc (.cells (cells8 (noughts 64)) 26)) from ((Below.refl _ _).alloc (Nat.le_refl _) _).alloc (by simp) _)
  generalize hw2 : ((w.alloc (.cells (turC a b g r v f t) 95)).alloc (.cells (cells8 (noughts 64)) 26)) = w2 at *
  clear hw2
  go_upto_region 2 with (refine wpList_alloc_blk rfl rfl ?_)
  have HT3 := Lib.hid (HT2.out.alloc (.cells (cells8 (noughts 64)) 26))
  have HR3 := Lib.hid (show ArrB _ (w.heap.size + 1) (noughts 64) from Blk.alloc HR2.out (.cells (cells8 (noughts 64)) 26))
  have HV3 := Lib.hid (show ArrB (w2.alloc (.cells (cells8 (noughts 64)) 26)) w2.heap.size (noughts 64) from Blk.new w2 _ _)
  have HB3 := Lib.hid (HB2.out.alloc HB2.out.size (.cells (cells8 (noughts 64)) 26))
  have HZ2 := Lib.hid (show w.heap.size + 1 < w2.heap.size from HR2.out.lt)
  generalize hw3 : w2.alloc (.cells (cells8 (noughts 64)) 26) = w3 at *
  clear hw3
  obtain ⟨c0, c1, c2, c3, c4, c5, c6⟩ : _ ∧ _ ∧ _ ∧ _ ∧ _ ∧ _ ∧ _ := ⟨HT3.out.cell 0, HT3.out.cell 1, HT3.out.cell 2, HT3.out.cell 3, HT3.out.cell 4, HT3.out.cell 5, HT3.out.cell 6⟩
  simp only [List.getElem?_toArray, List.getElem?_cons_zero, List.getElem?_cons_succ] at c0 c1 c2 c3 c4 c5 c6
  go_wp2_with fail
  refine (may_any a b g r v f _).mono ?_
  rintro e w4 ⟨rfl, hb⟩
  rw [HYES.out]
  have HB4 := Lib.hid (show Below w3.heap.size w3 w4 from hb)
  clear hb c0 c1 c2 c3 c4 c5 c6
  have hc1 := Go.Lib.run_convert_bytes_const (P := Try.prog) w4 91 5 #[.int .u8 105, .int .u8 99, .int .u8 101, .int .u8 104, .int .u8 111, .int .u8 117, .int .u8 115, .int .u8 101] 8 8 Try.underlying91 Try.underlying5
  simp only [List.size_toArray, List.length_cons, List.length_nil, Nat.zero_add, Nat.reduceAdd] at hc1
  have ht6 : (w4.alloc (.cells #[.int .u8 105, .int .u8 99, .int .u8 101, .int .u8 104, .int .u8 111, .int .u8 117, .int .u8 115, .int .u8 101] 5 (8, 9))).cell? ⟨w.heap.size, 6, none⟩ = some (.int .u64 t) := cell_alloc _ ((HT3.out.below HB4.out HT3.out.lt).cell 6)
  go_wp2_with fail
  clear hc1 ht6
  have HI5 := Lib.hid (show RowI .u8 (w4.alloc (.cells #[.int .u8 105, .int .u8 99, .int .u8 101, .int .u8 104, .int .u8 111, .int .u8 117, .int .u8 115, .int .u8 101] 5 (8, 9))) (· = w4.heap.size) (some ⟨w4.heap.size, 0, none⟩) 8 iceL from row_marked w4 iceL (8, 9) 8 rfl rfl)
  have HB5 := Lib.hid (show Below w3.heap.size w3 (w4.alloc (.cells #[.int .u8 105, .int .u8 99, .int .u8 101, .int .u8 104, .int .u8 111, .int .u8 117, .int .u8 115, .int .u8 101] 5 (8, 9))) from HB4.out.alloc HB4.out.size _)
  have HZ5 := Lib.hid (show w4.heap.size < (w4.alloc (.cells #[.int .u8 105, .int .u8 99, .int .u8 101, .int .u8 104, .int .u8 111, .int .u8 117, .int .u8 115, .int .u8 101] 5 (8, 9))).heap.size by simp)
  generalize hw5 : w4.alloc (.cells #[.int .u8 105, .int .u8 99, .int .u8 101, .int .u8 104, .int .u8 111, .int .u8 117, .int .u8 115, .int .u8 101] 5 (8, 9)) = w5 at *
  clear hw5
  refine (put64_any (some ⟨w4.heap.size, 0, none⟩) 8 8 (iceL) (· = w4.heap.size) t _ HI5.out (fun b h => by rw [h]; exact HZ5.out) (by omega) HTT.out.1 HTT.out.2).mono ?_
  rintro e w6 ⟨rfl, ha, hb⟩
  have HA6 := Lib.hid (show ArrU w6 w5.heap.size (iceL ++ beBytes t 8) from ha)
  have HB6 := Lib.hid (HB5.out.trans (hb.mono HB5.out.size))
  clear ha hb
  have hc : w6.cell? ⟨w.heap.size, 0, none⟩ = some (.int .i64 a) := (HT3.out.below HB6.out HT3.out.lt).cell 0
  go_wp2_with fail
  clear hc
  refine (put16_any (some ⟨w5.heap.size, 0, none⟩) 16 16 (iceL ++ beBytes t 8) (· = w5.heap.size) a _ (HA6.out.rowN 0 (by simp [iceL, beBytes_length]) rfl) (fun b h => by rw [h]; exact HA6.out.lt) (by omega) (by have := HMAY.out.1; omega) (by have := HMAY.out.2.1; omega)).mono ?_
  rintro e w7 ⟨rfl, ha, hb⟩
  have HA7 := Lib.hid (show ArrU w7 w6.heap.size (iceL ++ beBytes t 8 ++ beBytes a 2) from ha)
  have HB7 := Lib.hid (HB6.out.trans (hb.mono HB6.out.size))
  clear ha hb
  have hc : w7.cell? ⟨w.heap.size, 1, none⟩ = some (.int .i64 b) := (HT3.out.below HB7.out HT3.out.lt).cell 1
  go_wp2_with fail
  clear hc
  refine (put16_any (some ⟨w6.heap.size, 0, none⟩) 18 18 (iceL ++ beBytes t 8 ++ beBytes a 2) (· = w6.heap.size) b _ (HA7.out.rowN 0 (by simp [iceL, beBytes_length]) rfl) (fun b h => by rw [h]; exact HA7.out.lt) (by omega) (by have := HMAY.out.2.2.1; omega) (by have := HMAY.out.2.2.2.1; omega)).mono ?_
  rintro e w8 ⟨rfl, ha, hb⟩
  have HA8 := Lib.hid (show ArrU w8 w7.heap.size (iceL ++ beBytes t 8 ++ beBytes a 2 ++ beBytes b 2) from ha)
  have HB8 := Lib.hid (HB7.out.trans (hb.mono HB7.out.size))
  clear ha hb
  have hc : w8.cell? ⟨w.heap.size, 2, none⟩ = some (.int .u64 g) := (HT3.out.below HB8.out HT3.out.lt).cell 2
  go_wp2_with fail
  clear hc
  refine (put64_any (some ⟨w7.heap.size, 0, none⟩) 20 20 (iceL ++ beBytes t 8 ++ beBytes a 2 ++ beBytes b 2) (· = w7.heap.size) g _ (HA8.out.rowN 0 (by simp [iceL, beBytes_length]) rfl) (fun b h => by rw [h]; exact HA8.out.lt) (by omega) HIN.out.2.2.2.2.1 HIN.out.2.2.2.2.2.1).mono ?_
  rintro e w9 ⟨rfl, ha, hb⟩
  have HA9 := Lib.hid (show ArrU w9 w8.heap.size (iceL ++ beBytes t 8 ++ beBytes a 2 ++ beBytes b 2 ++ beBytes g 8) from ha)
  have HB9 := Lib.hid (HB8.out.trans (hb.mono HB8.out.size))
  clear ha hb
  have hc : w9.cell? ⟨w.heap.size, 3, none⟩ = some (.int .u64 r) := (HT3.out.below HB9.out HT3.out.lt).cell 3
  go_wp2_with fail
  clear hc
  refine (put64_any (some ⟨w8.heap.size, 0, none⟩) 28 28 (iceL ++ beBytes t 8 ++ beBytes a 2 ++ beBytes b 2 ++ beBytes g 8) (· = w8.heap.size) r _ (HA9.out.rowN 0 (by simp [iceL, beBytes_length]) rfl) (fun b h => by rw [h]; exact HA9.out.lt) (by omega) HIN.out.2.2.2.2.2.2.1 HIN.out.2.2.2.2.2.2.2.1).mono ?_
  rintro e w10 ⟨rfl, ha, hb⟩
  have HA10 := Lib.hid (show ArrU w10 w9.heap.size (iceL ++ beBytes t 8 ++ beBytes a 2 ++ beBytes b 2 ++ beBytes g 8 ++ beBytes r 8) from ha)
  have HB10 := Lib.hid (HB9.out.trans (hb.mono HB9.out.size))
  clear ha hb
  have hc : w10.cell? ⟨w.heap.size, 4, none⟩ = some (.int .u64 v) := (HT3.out.below HB10.out HT3.out.lt).cell 4
  go_wp2_with fail
  clear hc
  refine (put64_any (some ⟨w9.heap.size, 0, none⟩) 36 36 (iceL ++ beBytes t 8 ++ beBytes a 2 ++ beBytes b 2 ++ beBytes g 8 ++ beBytes r 8) (· = w9.heap.size) v _ (HA10.out.rowN 0 (by simp [iceL, beBytes_length]) rfl) (fun b h => by rw [h]; exact HA10.out.lt) (by omega) HIN.out.2.2.2.2.2.2.2.2.1 HIN.out.2.2.2.2.2.2.2.2.2.1).mono ?_
  rintro e w11 ⟨rfl, ha, hb⟩
  have HA11 := Lib.hid (show ArrU w11 w10.heap.size (iceL ++ beBytes t 8 ++ beBytes a 2 ++ beBytes b 2 ++ beBytes g 8 ++ beBytes r 8 ++ beBytes v 8) from ha)
  have HB11 := Lib.hid (HB10.out.trans (hb.mono HB10.out.size))
  clear ha hb
  have hc : w11.cell? ⟨w.heap.size, 5, none⟩ = some (.int .u64 f) := (HT3.out.below HB11.out HT3.out.lt).cell 5
  go_wp2_with fail
  clear hc
  refine (put64_any (some ⟨w10.heap.size, 0, none⟩) 44 44 (iceL ++ beBytes t 8 ++ beBytes a 2 ++ beBytes b 2 ++ beBytes g 8 ++ beBytes r 8 ++ beBytes v 8) (· = w10.heap.size) f _ (HA11.out.rowN 0 (by simp [iceL, beBytes_length]) rfl) (fun b h => by rw [h]; exact HA11.out.lt) (by omega) HIN.out.2.2.2.2.2.2.2.2.2.2.1 HIN.out.2.2.2.2.2.2.2.2.2.2.2).mono ?_
  rintro e w12 ⟨rfl, ha, hb⟩
  have HA12 := Lib.hid (show ArrU w12 w11.heap.size (iceL ++ beBytes t 8 ++ beBytes a 2 ++ beBytes b 2 ++ beBytes g 8 ++ beBytes r 8 ++ beBytes v 8 ++ beBytes f 8) from ha)
  have HB12 := Lib.hid (HB11.out.trans (hb.mono HB11.out.size))
  clear ha hb
  have HBD := Lib.hid (show ArrU w12 w11.heap.size (bodyL a b g r v f t) from HA12.out)
  clear HA12
  have hbl := bodyL_length a b g r v f t
  have hfe : fullL a b g r v f t = bodyL a b g r v f t ++ noughts 4 := rfl
  have hse : supL a b g r v f t = fullL a b g r v f t ++ beBytes (fnv start (fullL a b g r v f t)) 8 := rfl
  have hfb := fullL_bytes a b g r v f t
  have hfl := fullL_length a b g r v f t
  have hsl := supL_length a b g r v f t
  generalize hsupl : supL a b g r v f t = sl at *
  have HSUP := Lib.hid hsupl
  clear hsupl
  generalize bodyL a b g r v f t = bd at *
  generalize hfull : fullL a b g r v f t = fl at *
  have hh0 := (hash_in fl).1
  have hh1 := (hash_in fl).2
  have HSE := Lib.hid hse
  have HFB := Lib.hid hfb
  have HFL := Lib.hid hfl
  have HSL := Lib.hid hsl
  have HV12 := Lib.hid (show ArrB w12 w2.heap.size (noughts 64) from Arr.below HV3.out HB12.out HV3.out.lt)
  have HG12 := Lib.hid (show w12.heap[w2.heap.size]? = some (.cells ((noughts 64).map (Value.int .u8)).toArray 26 (0, 0)) from HV12.out)
  have HBS := Lib.hid (show Below w2.heap.size w3 w12 from HB12.out.mono (Nat.le_of_lt HV3.out.lt))
  have c1 := Lib.hid (show (bd.map (Value.int .u8)).length = Nat.min 52 56 by simp [hbl])
  have c2 := Lib.hid (row_src (HBD.out.rowN 0 hbl (S := fun _ => True) trivial) (by omega))
  have c3 := Lib.hid (show 0 + (bd.map (Value.int .u8)).length ≤ ((noughts 64).map (Value.int .u8)).length by simp [hbl, noughts_length])
  have d1 := Lib.hid (show splice ((noughts 64).map (Value.int .u8)) 0 (bd.map (Value.int .u8)) = (fl ++ noughts 8).map (Value.int .u8) by
    rw [splice_head _ _ 12 (Value.int .u8 0) (by simp [noughts, hbl]), hfe]
    simp [noughts])
  clear hse hfb hfl hsl hfe hbl hfull
  go_wp2_with (first | (refine wpList_copy_splice rfl (.tmp 48) (.tmp 49) 91 91 rfl 5 Try.underlying91 size_u8 _ _ _ _ _ _ rfl rfl w2.heap.size 0 ((noughts 64).map (Value.int .u8)) 26 HG12.out (bd.map (Value.int .u8)) c1.out (fun _ => ⟨rfl, c2.out⟩) c3.out (one_u8 bd) w2.heap.size w3 HBS.out (Nat.le_refl _) ?_; intro w13 hg13 hb13; rw [d1.out] at hg13; have HG13 := Lib.hid hg13; have HB13 := Lib.hid hb13; clear hg13 hb13))
  have HA13 := Lib.hid (show ArrB w13 w2.heap.size (fl ++ noughts 8) from HG13.out.out)
  have HRW := Lib.hid (show Row .u8 w13.drew w13.heap.size (some ⟨w2.heap.size, 0, none⟩) 56 fl by
    have h := (HA13.out.rowN 0 (n := 64) (by simp [HFL.out, noughts_length]) (S := fun b => b < w13.heap.size) HA13.out.lt).take 56 (by omega)
    rw [show (fl ++ noughts 8).take 56 = fl by rw [← HFL.out]; simp] at h
    exact h)
  have HR13 := Lib.hid (show ArrB w13 (w.heap.size + 1) (noughts 64) from Arr.below (HR3.out) HB13.out HZ2.out)
  have HBZ := Lib.hid (show Below w.heap.size w w13 from HB3.out.trans (HB13.out.mono (by have := HZ2.out; omega)))
  have HZ13 := Lib.hid (show w2.heap.size < w13.heap.size from HA13.out.lt)
  have e1 := Lib.hid (show ((beBytes (fnv start fl) 8).map (Value.int .u8)).length = Nat.min 8 8 by simp [beBytes_length])
  have e3 := Lib.hid (show 56 + ((beBytes (fnv start fl) 8).map (Value.int .u8)).length ≤ ((fl ++ noughts 8).map (Value.int .u8)).length by simp [beBytes_length, noughts_length, HFL.out])
  have d2 := Lib.hid (show splice ((fl ++ noughts 8).map (Value.int .u8)) 56 ((beBytes (fnv start fl) 8).map (Value.int .u8)) = sl.map (Value.int .u8) by
    have := splice_at (fl.map (Value.int .u8)) ((fl ++ noughts 8).map (Value.int .u8)) ((beBytes (fnv start fl) 8).map (Value.int .u8)) 8 (.int .u8 0) (by simp [noughts]) (by simp [beBytes_length])
    rw [List.length_map, HFL.out] at this
    rw [this, HSE.out]
    simp [beBytes_length])
  clear c1 c2 c3 d1
  go_region_held3 (fun W => True) (exact trivial)
    (first
      | (go_at_call 102; refine (hash_any (some ⟨w2.heap.size, 0, none⟩) 56 64 fl w13.heap.size _ HRW.out HFB.out (by omega)).mono ?_; rintro e w' ⟨rfl, rfl⟩)
      | (go_at_call 100; refine (put64_any none 0 0 [] (fun _ => False) (fnv start fl) _ (RowG.nil _ _ _ _ _) (fun _ h => h.elim) (by omega) hh0 hh1).mono ?_; rintro e w14 ⟨rfl, ha, hb⟩; have HA14 := Lib.hid (show ArrU w14 w13.heap.size (beBytes (fnv start fl) 8) from ha); have HB14 := Lib.hid (show Below w13.heap.size w13 w14 from (Below.refl _ _).drew.trans hb); have HG14 := Lib.hid (show w14.heap[w2.heap.size]? = some (.cells ((fl ++ noughts 8).map (Value.int .u8)).toArray 26 (0, 0)) from Blk.below HA13.out (w' := w14) (Below.trans (Below.refl _ _).drew hb) HA13.out.lt); have e2 := Lib.hid (row_src (HA14.out.rowN 0 (n := 8) (beBytes_length _ _) (S := fun _ => True) trivial) (by omega)); clear ha hb)
      | (refine step_copy_splice rfl (.tmp 51) (.tmp 54) 91 91 rfl 5 Try.underlying91 size_u8 _ _ _ _ _ _ rfl rfl w2.heap.size 56 ((fl ++ noughts 8).map (Value.int .u8)) 26 HG14.out ((beBytes (fnv start fl) 8).map (Value.int .u8)) e1.out (fun _ => ⟨rfl, e2.out⟩) e3.out (one_u8 _) w2.heap.size w13 (HB14.out.mono (Nat.le_of_lt HZ13.out)) (Nat.le_refl _) ?_; intro w15 hg15 hb15; rw [d2.out] at hg15; have HA15 := Lib.hid (show ArrB w15 w2.heap.size sl from hg15.out); have HB15 := Lib.hid hb15; clear hg15 hb15))
  all_goals
    clear e1 e3 d2
    have HR15 := Lib.hid (show ArrB w15 (w.heap.size + 1) (noughts 64) from Arr.below HR13.out HB15.out HZ2.out)
    go_wp2_with (first
      | (refine wpList_load_blk (.tmp 4) rfl rfl w2.heap.size 0 rfl sl HSL.out HA15.out.range ?_)
      | (refine wpList_store_blk (.tmp 2) (.tmp 56) rfl rfl (w.heap.size + 1) sl rfl rfl 26 (noughts 64) HR15.out (noughts_length 64) HSL.out ?_)
      | (with_reducible refine halt_end ?_))
    exact Halt.ret (results_blk2 (p := 2) (u := 3) rfl _ _ (w.heap.size + 1) 26 sl rfl (HR15.out.setRow sl) HSL.out) rfl ⟨by rw [HSUP.out]; rfl, below_setRow (HBZ.out.trans (HB15.out.mono (by have := HZ2.out; omega))) (by omega) _⟩

end Go.Proofs.Ytkmbbfdjdmkjpaa
