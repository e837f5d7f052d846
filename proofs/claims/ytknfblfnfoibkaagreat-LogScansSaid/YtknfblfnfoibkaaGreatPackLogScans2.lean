/- Texts of LogScans, packed. -/
import Derived.Test.YtknfblfnfoibkaaGreatPackLogScans1
import Derived.IntWalk
set_option linter.unusedVariables false
set_option linter.unusedSimpArgs false
set_option maxRecDepth 100000
set_option maxHeartbeats 16000000
namespace Go.Proofs.YtknfblfnfoibkaaGreat
section
open Go.RowKit
def stamped (xs : List Int) : Bool := decide (1 ≤ genOf xs) && (packL (genOf xs) (posOf xs) (meantOf xs) == xs)
def ReadTold (xs : List Int) (w : World) (e : Ending) (w' : World) : Prop :=
 ∃ A c, e = .returned (.tuple #[.agg #[.int .u64 (genOf xs), .int .u32 (posOf xs), .int .i64 (fillOf xs)], .slice A (meantOf xs).length c, .int .i64 0]) ∧
  RowI .u8 w' (fun b => w.heap.size ≤ b ∧ b < w'.heap.size) A (meantOf xs).length (meantOf xs) ∧ Below w.heap.size w w' ∧ (A = none → c = 0)
def ReadTold2 (xs : List Int) (w : World) (e : Ending) (w' : World) : Prop :=
 ∃ A c, e = .returned (.tuple #[.agg #[.int .u64 (genOf xs), .int .u32 (posOf xs), .int .i64 (fillOf xs)], .slice A (meantOf xs).length c, .int .i64 0]) ∧
  RowI .u8 w' (fun b => w.heap.size ≤ b ∧ b < w'.heap.size) A (meantOf xs).length (meantOf xs) ∧ Below w.heap.size w w' ∧ (A = none → c = 0) ∧ (meantOf xs).length ≤ c
theorem read_ok2 (xs : List Int) (w : World) (hl : xs.length = 64) (hb : Bytes xs) (hst : stamped xs = true) :
 Calls Tryz.prog 151 #[.agg (cells8 xs)] w (ReadTold2 xs w) := by
 have hgb := gen_bounds hb hl
 have hpb := pos_bounds hb hl
 have hml := meant_le xs
 have hpk := packL_length (genOf xs) (posOf xs) (meantOf xs) hml
 have hg1 : 1 ≤ genOf xs := by simp [stamped] at hst; exact hst.1
 have hsame : (packL (genOf xs) (posOf xs) (meantOf xs) == xs) = true := by simp [stamped] at hst; simpa using hst.2
 have HBY := hI hb
 have HL := hI hl
 have HGB := hI hgb
 have HPB := hI hpb
 have HPK := hI hpk
 have HSAME := hI hsame
 have HX0 := hI (show ArrB ((w.alloc (.cells (cells8 xs) 92)).alloc (.cells #[.int .u64 0, .int .u32 0, .int .i64 0] 189)) w.heap.size xs from (Blk.new w _ _).alloc _)
 clear hb hl hst hgb hpb hpk hsame
 go_enter Tryz.func151, Tryz.ntmps151
 go_wp2_with (refine wpList_load_blk (.tmp 1) rfl rfl w.heap.size 0 rfl xs HL.out HX0.out.range ?_)
 generalize hw1 : (w.alloc _).alloc _ = w1 at *
 have HZ1 := hI (show Blk w1 (w.heap.size + 1) 189 #[.int .u64 0, .int .u32 0, .int .i64 0] by rw [← hw1]; have := Blk.new (w.alloc (.cells (cells8 xs) 92)) 189 #[.int .u64 0, .int .u32 0, .int .i64 0]; simpa using this)
 have HB1 := hI (show Below w.heap.size w w1 by rw [← hw1]; exact ((Below.refl _ _).alloc (nR _) _).alloc (by simp) _)
 clear hw1
 refine (said_any2 xs w1 HL.out HBY.out).mono ?_
 rintro e w2 ⟨A, c, rfl, hrow, hb, hnil, hcap⟩
 have HNIL := hI (And.intro hnil hcap)
 clear hnil hcap
 have HR2 := hI hrow
 have HB2 := hI hb
 have HZ2 := hI (HZ1.out.below hb HZ1.out.lt)
 have HX2 := hI (HX0.out.below hb HX0.out.lt)
 clear hrow hb
 go_wp2_with fail
 generalize hw3 : w2.alloc _ = w3 at *
 have hb3 : Below w2.heap.size w2 w3 := by rw [← hw3]; exact (Below.refl _ _).alloc (nR _) _
 have HS3 := hI (show Blk w3 w2.heap.size 189 #[.int .u64 (genOf xs), .int .u32 (posOf xs), .int .i64 (fillOf xs)] by rw [← hw3]; exact Blk.new w2 _ _)
 have HB3 := hI hb3
 have HR3 := hI (HR2.out.below hb3 (fun b h => h.2))
 clear hw3 hb3
 refine (pack_ok (genOf xs) (posOf xs) A (meantOf xs).length c (meantOf xs) _ w3 HR3.out (fun b h => nL h.2 HB3.out.size) hg1 HGB.out.2 HPB.out.1 HPB.out.2 hml).mono ?_
 rintro e w4 ⟨rfl, hb⟩
 have HB4 := hI hb
 have HX4 := hI ((HX2.out.below HB3.out HX2.out.lt).below hb (nL HX2.out.lt HB3.out.size))
 have HZ4 := hI ((HZ2.out.below HB3.out HZ2.out.lt).below hb (nL HZ2.out.lt HB3.out.size))
 have HS4 := hI (HS3.out.below hb HS3.out.lt)
 have HR4 := hI (HR3.out.below hb (fun b h => nL h.2 HB3.out.size))
 obtain ⟨w5, hw5⟩ : ∃ w5, w5 = w4.alloc (.cells (cells8 (packL (genOf xs) (posOf xs) (meantOf xs))) 92) := ⟨_, rfl⟩
 have HX5 := hI (show ArrB w5 w.heap.size xs by rw [hw5]; exact HX4.out.alloc _)
 have HP5 := hI (show ArrB w5 w4.heap.size (packL (genOf xs) (posOf xs) (meantOf xs)) by rw [hw5]; exact Blk.new w4 _ _)
 have HS5 := hI (show Blk w5 w2.heap.size 189 #[.int .u64 (genOf xs), .int .u32 (posOf xs), .int .i64 (fillOf xs)] by rw [hw5]; exact HS4.out.alloc _)
 have HZ5 := hI (show Blk w5 (w.heap.size + 1) 189 #[.int .u64 0, .int .u32 0, .int .i64 0] by rw [hw5]; exact HZ4.out.alloc _)
 have HR5 := hI (HR4.out.below (w' := w5) (B := w4.heap.size) (by rw [hw5]; exact (Below.refl _ _).alloc (nR _) _) (fun b h => nL h.2 (nT HB3.out.size HB4.out.size)))
 have HB5 := hI (show Below w4.heap.size w4 w5 by rw [hw5]; exact (Below.refl _ _).alloc (nR _) _)
 have HW5 := hI hw5
 clear hw5
 have c0 := HS5.out.cell 0
 have c1 := HS5.out.cell 1
 have c2 := HS5.out.cell 2
 have z0 := HZ5.out.cell 0
 have z1 := HZ5.out.cell 1
 have z2 := HZ5.out.cell 2
 have y0 := HZ5.out.frozen 0
 have y1 := HZ5.out.frozen 1
 have y2 := HZ5.out.frozen 2
 simp only [List.getElem?_toArray, List.getElem?_cons_zero, List.getElem?_cons_succ] at c0 c1 c2 z0 z1 z2
 clear hb
 go_wp2_with (first
  | (with_reducible refine halt_end ?_)
  | (refine wpList_alloc_blk rfl rfl ?_)
  | (refine wpList_store_new _ _ rfl rfl w4 (packL (genOf xs) (posOf xs) (meantOf xs)) rfl rfl (noughts 64) rfl (noughts_length 64) HPK.out ?_; rw [← HW5.out])
  | (refine wpList_load_blk (.tmp 7) rfl rfl w4.heap.size 0 rfl _ HPK.out HP5.out.range ?_)
  | (refine wpList_load_blk (.tmp 1) rfl rfl w.heap.size 0 rfl _ HL.out HX5.out.range ?_)
  | (refine wpList_neq_blk (.tmp 26) (.tmp 27) _ rfl rfl _ _ rfl rfl HPK.out HL.out ?_; rw [HSAME.out]))
 have hz := HZ5.out.set3 (.int .u64 (genOf xs)) (.int .u32 (posOf xs)) (.int .i64 (fillOf xs))
 have hs1 := HB1.out.size
 have hs2 := HB2.out.size
 have hs3 := HB3.out.size
 have hs4 := HB4.out.size
 have hs5 := HB5.out.size
 have hz1 := HZ1.out.lt
 refine Halt.ret (results_row3 rfl _ _ (w.heap.size + 1) 189 _ _ rfl hz Tryz.underlying189 rfl size_stamp) rfl ⟨_, _, rfl, ?_, ?_, HNIL.out.1, HNIL.out.2⟩
 ·refine (HR5.out.keep (fun p hp => cell_far3 w5 (w.heap.size + 1) _ _ _ ?_)).more (fun b hb => ⟨?_, ?_⟩)
  ·have := hp.1
   omega
  ·omega
  ·have := hb.2
   simp
   omega
 ·exact below_set3 ((((HB1.out.trans (HB2.out.mono (by omega))).trans (HB3.out.mono (by omega))).trans (HB4.out.mono (by omega))).trans (HB5.out.mono (by omega))) (by omega) _ _ _
theorem read_ok_s5 (xs : List Int) (w : World) (hl : xs.length = 64) (hb : Bytes xs) (hst : stamped xs = true) : Calls Tryz.prog 151 #[.agg (cells8 xs)] w (ReadTold xs w) :=
 (read_ok2 xs w hl hb hst).mono fun _ _ ⟨A, c, h1, h2, h3, h4, _⟩ => ⟨A, c, h1, h2, h3, h4⟩
theorem read_bad (xs : List Int) (w : World) (hl : xs.length = 64) (hb : Bytes xs) (hst : stamped xs = false) :
 Calls Tryz.prog 151 #[.agg (cells8 xs)] w fun e w' => e = .returned (.tuple #[.agg #[.int .u64 0, .int .u32 0, .int .i64 0], .slice none 0 0, .int .i64 150]) ∧ Below w.heap.size w w' := by
 have hgb := gen_bounds hb hl
 have hpb := pos_bounds hb hl
 have hml := meant_le xs
 have hpk := packL_length (genOf xs) (posOf xs) (meantOf xs) hml
 have HBY := hI hb
 have HL := hI hl
 have HGB := hI hgb
 have HPB := hI hpb
 have HPK := hI hpk
 have HST := hI hst
 have HX0 := hI (show ArrB ((w.alloc (.cells (cells8 xs) 92)).alloc (.cells #[.int .u64 0, .int .u32 0, .int .i64 0] 189)) w.heap.size xs from (Blk.new w _ _).alloc _)
 clear hb hl hst hgb hpb hpk
 go_enter Tryz.func151, Tryz.ntmps151
 go_wp2_with (refine wpList_load_blk (.tmp 1) rfl rfl w.heap.size 0 rfl xs HL.out HX0.out.range ?_)
 generalize hw1 : (w.alloc _).alloc _ = w1 at *
 have HZ1 := hI (show Blk w1 (w.heap.size + 1) 189 #[.int .u64 0, .int .u32 0, .int .i64 0] by rw [← hw1]; have := Blk.new (w.alloc (.cells (cells8 xs) 92)) 189 #[.int .u64 0, .int .u32 0, .int .i64 0]; simpa using this)
 have HB1 := hI (show Below w.heap.size w w1 by rw [← hw1]; exact ((Below.refl _ _).alloc (nR _) _).alloc (by simp) _)
 clear hw1
 refine (said_any xs w1 HL.out HBY.out).mono ?_
 rintro e w2 ⟨A, c, rfl, hrow, hb, hnil⟩
 have HNIL := hI hnil
 clear hnil
 have HR2 := hI hrow
 have HB2 := hI hb
 have HZ2 := hI (HZ1.out.below hb HZ1.out.lt)
 have HX2 := hI (HX0.out.below hb HX0.out.lt)
 clear hrow hb
 by_cases hg1 : 1 ≤ genOf xs
 ·have HNE := hI (show (packL (genOf xs) (posOf xs) (meantOf xs) == xs) = false by
   have h := HST.out
   unfold stamped at h
   rw [decide_eq_true hg1, Bool.true_and] at h
   exact h)
  go_wp2_with fail
  generalize hw3 : w2.alloc _ = w3 at *
  have hb3 : Below w2.heap.size w2 w3 := by rw [← hw3]; exact (Below.refl _ _).alloc (nR _) _
  have HB3 := hI hb3
  have HR3 := hI (HR2.out.below hb3 (fun b h => h.2))
  clear hw3 hb3
  refine (pack_ok (genOf xs) (posOf xs) A (meantOf xs).length c (meantOf xs) _ w3 HR3.out (fun b h => nL h.2 HB3.out.size) hg1 HGB.out.2 HPB.out.1 HPB.out.2 hml).mono ?_
  rintro e w4 ⟨rfl, hb⟩
  have HB4 := hI hb
  have HX4 := hI ((HX2.out.below HB3.out HX2.out.lt).below hb (nL HX2.out.lt HB3.out.size))
  have HZ4 := hI ((HZ2.out.below HB3.out HZ2.out.lt).below hb (nL HZ2.out.lt HB3.out.size))
  obtain ⟨w5, hw5⟩ : ∃ w5, w5 = w4.alloc (.cells (cells8 (packL (genOf xs) (posOf xs) (meantOf xs))) 92) := ⟨_, rfl⟩
  have HX5 := hI (show ArrB w5 w.heap.size xs by rw [hw5]; exact HX4.out.alloc _)
  have HP5 := hI (show ArrB w5 w4.heap.size (packL (genOf xs) (posOf xs) (meantOf xs)) by rw [hw5]; exact Blk.new w4 _ _)
  have HZ5 := hI (show Blk w5 (w.heap.size + 1) 189 #[.int .u64 0, .int .u32 0, .int .i64 0] by rw [hw5]; exact HZ4.out.alloc _)
  have HB5 := hI (show Below w4.heap.size w4 w5 by rw [hw5]; exact (Below.refl _ _).alloc (nR _) _)
  have HW5 := hI hw5
  clear hw5
  have z0 := HZ5.out.cell 0
  have z1 := HZ5.out.cell 1
  have z2 := HZ5.out.cell 2
  have y0 := HZ5.out.frozen 0
  have y1 := HZ5.out.frozen 1
  have y2 := HZ5.out.frozen 2
  simp only [List.getElem?_toArray, List.getElem?_cons_zero, List.getElem?_cons_succ] at z0 z1 z2
  clear hb
  go_wp2_with (first
   | (with_reducible refine halt_end ?_)
   | (refine wpList_alloc_blk rfl rfl ?_)
   | (refine wpList_store_new _ _ rfl rfl w4 (packL (genOf xs) (posOf xs) (meantOf xs)) rfl rfl (noughts 64) rfl (noughts_length 64) HPK.out ?_; rw [← HW5.out])
   | (refine wpList_load_blk (.tmp 7) rfl rfl w4.heap.size 0 rfl _ HPK.out HP5.out.range ?_)
   | (refine wpList_load_blk (.tmp 1) rfl rfl w.heap.size 0 rfl _ HL.out HX5.out.range ?_)
   | (refine wpList_neq_blk (.tmp 26) (.tmp 27) _ rfl rfl _ _ rfl rfl HPK.out HL.out ?_; rw [HNE.out]))
  have hz := HZ5.out.set3 (.int .u64 0) (.int .u32 0) (.int .i64 0)
  have hs1 := HB1.out.size
  have hs2 := HB2.out.size
  have hs3 := HB3.out.size
  have hs4 := HB4.out.size
  have hs5 := HB5.out.size
  refine Halt.ret (results_row3 rfl _ _ (w.heap.size + 1) 189 _ _ rfl hz Tryz.underlying189 rfl size_stamp) rfl ⟨rfl, ?_⟩
  exact below_set3 ((((HB1.out.trans (HB2.out.mono (by omega))).trans (HB3.out.mono (by omega))).trans (HB4.out.mono (by omega))).trans (HB5.out.mono (by omega))) (by omega) _ _ _
 ·have HG := hI (show genOf xs = 0 by have := HGB.out; omega)
  go_wp2_with fail
  generalize hw3 : w2.alloc _ = w3 at *
  have hb3 : Below w2.heap.size w2 w3 := by rw [← hw3]; exact (Below.refl _ _).alloc (nR _) _
  have HB3 := hI hb3
  rw [HG.out]
  clear hw3 hb3
  refine (pack_zero (posOf xs) A (meantOf xs).length c w3).mono ?_
  rintro e w4 ⟨rfl, hb⟩
  have HB4 := hI hb
  have HZ4 := hI ((HZ2.out.below HB3.out HZ2.out.lt).below hb (nL HZ2.out.lt HB3.out.size))
  obtain ⟨w5, hw5⟩ : ∃ w5, w5 = w4.alloc (.cells (cells8 (noughts 64)) 92) := ⟨_, rfl⟩
  have HZ5 := hI (show Blk w5 (w.heap.size + 1) 189 #[.int .u64 0, .int .u32 0, .int .i64 0] by rw [hw5]; exact HZ4.out.alloc _)
  have HB5 := hI (show Below w4.heap.size w4 w5 by rw [hw5]; exact (Below.refl _ _).alloc (nR _) _)
  have HW5 := hI hw5
  clear hw5
  have z0 := HZ5.out.cell 0
  have z1 := HZ5.out.cell 1
  have z2 := HZ5.out.cell 2
  have y0 := HZ5.out.frozen 0
  have y1 := HZ5.out.frozen 1
  have y2 := HZ5.out.frozen 2
  simp only [List.getElem?_toArray, List.getElem?_cons_zero, List.getElem?_cons_succ] at z0 z1 z2
  clear hb
  go_wp2_with (first
   | (with_reducible refine halt_end ?_)
   | (refine wpList_alloc_blk rfl rfl ?_)
   | (refine wpList_store_new _ _ rfl rfl w4 (noughts 64) rfl rfl (noughts 64) rfl (noughts_length 64) (noughts_length 64) ?_; rw [← HW5.out]))
  have hz := HZ5.out.set3 (.int .u64 0) (.int .u32 0) (.int .i64 0)
  have hs1 := HB1.out.size
  have hs2 := HB2.out.size
  have hs3 := HB3.out.size
  have hs4 := HB4.out.size
  have hs5 := HB5.out.size
  refine Halt.ret (results_row3 rfl _ _ (w.heap.size + 1) 189 _ _ rfl hz Tryz.underlying189 rfl size_stamp) rfl ⟨rfl, ?_⟩
  exact below_set3 ((((HB1.out.trans (HB2.out.mono (by omega))).trans (HB3.out.mono (by omega))).trans (HB4.out.mono (by omega))).trans (HB5.out.mono (by omega))) (by omega) _ _ _
end
section
open Go.RowKit
theorem five_parts (xs : List Int) (hl : xs.length = 64) : xs = (((xs.take 8 ++ (xs.drop 8).take 4) ++ (xs.drop 12).take 2) ++ (xs.drop 14).take 2) ++ xs.drop 16 := by
 apply getD_ext
 ·simp; omega
 ·intro j hj
  simp only [List.getD, List.getElem?_append, List.getElem?_take, List.getElem?_drop, List.length_append, List.length_take, List.length_drop, hl]
  by_cases h1 : j < 8
  ·simp [h1, show j < 10 by omega, show j < 12 by omega, show j < 14 by omega, show j < 16 by omega]
  ·by_cases h2 : j < 12
   ·simp [h1, h2, show j < 14 by omega, show j < 16 by omega, show j - 8 < 4 by omega, show 8 + (j - 8) = j by omega]
   ·by_cases h3 : j < 14
    ·simp [h1, h2, h3, show j < 16 by omega, show j - 12 < 2 by omega, show 12 + (j - 12) = j by omega]
    ·by_cases h4 : j < 16
     ·simp [h1, h2, h3, h4, show j - 14 < 2 by omega, show 14 + (j - 14) = j by omega]
     ·simp [h1, h2, h3, h4, show 16 + (j - 16) = j by omega]
def Right (xs : List Int) : Prop := 1 ≤ genOf xs ∧ fillOf xs ≤ 48 ∧ xs.getD 14 0 = 0 ∧ xs.getD 15 0 = 0 ∧ ∀ i, 16 + fillOf xs ≤ i → i < 64 → xs.getD i 0 = 0
theorem pack_same (xs : List Int) (hl : xs.length = 64) (hb : Bytes xs) :
 packL (genOf xs) (posOf xs) (meantOf xs) = xs ↔ beBytes (meantOf xs).length 2 = (xs.drop 12).take 2 ∧ beBytes 0 2 = (xs.drop 14).take 2 ∧ meantOf xs ++ noughts (48 - (meantOf xs).length) = xs.drop 16 := by
 have h1 : beBytes (genOf xs) 8 = xs.take 8 := be_num 8 _ (hb.take 8) (by simp; omega)
 have h2 : beBytes (posOf xs) 4 = (xs.drop 8).take 4 := be_num 4 _ (bytes_part hb 8 4) (by simp; omega)
 have h5 := five_parts xs hl
 constructor
 ·intro h
  rw [h5] at h
  conv at h => lhs; rw [← h5]
  unfold packL headL at h
  rw [h1, h2, List.append_assoc] at h
  have a1 := List.append_inj h (by simp [beBytes_length]; omega)
  have a2 := List.append_inj a1.1 (by simp [beBytes_length]; omega)
  have a3 := List.append_inj a2.1 (by simp)
  exact ⟨a3.2, a2.2, a1.2⟩
 ·rintro ⟨e1, e2, e3⟩
  unfold packL headL
  rw [h1, h2, e1, e2, List.append_assoc, e3]
  exact h5.symm
theorem two_parts (xs : List Int) (hl : xs.length = 64) : (xs.drop 14).take 2 = [xs.getD 14 0, xs.getD 15 0] := by
 apply getD_ext
 ·simp; omega
 ·intro j hj
  have hj : j < 2 := by simp at hj; omega
  match j, hj with
  | 0, _ => simp [List.getD]
  | 1, _ => simp [List.getD]
theorem stamped_iff (xs : List Int) (hl : xs.length = 64) (hb : Bytes xs) : stamped xs = true ↔ Right xs := by
 unfold stamped Right
 rw [Bool.and_eq_true, decide_eq_true_eq, beq_iff_eq, pack_same xs hl hb]
 have hz : beBytes 0 2 = [0, 0] := rfl
 rw [hz, two_parts xs hl]
 refine and_congr_right fun hg => ?_
 have hfe := fill_eq hb
 constructor
 ·rintro ⟨e1, e2, e3⟩
  have hm : ((meantOf xs).length : Int) = (fillOf xs : Int) := by
   rw [← hfe, ← e1, num_be 2 _ (by omega) (by have := meant_le xs; simp; omega)]
  have hf : fillOf xs ≤ 48 := by have := meant_le xs; omega
  injection e2 with e20 e21
  injection e21 with e21 _
  refine ⟨hf, e20.symm, e21.symm, fun i h1 h2 => ?_⟩
  have : xs.getD i 0 = (xs.drop 16).getD (i - 16) 0 := by simp [List.getD, List.getElem?_drop, show 16 + (i - 16) = i by omega]
  rw [this, ← e3, List.getD, List.getElem?_append_right (by omega)]
  exact noughts_get _ _
 ·rintro ⟨hf, e14, e15, e5⟩
  have hm : meantOf xs = (xs.drop 16).take (fillOf xs) := if_pos hf
  have hml : (meantOf xs).length = fillOf xs := by rw [hm]; simp; omega
  refine ⟨?_, by rw [e14, e15], ?_⟩
  ·rw [hml, ← hfe]
   exact be_num 2 _ (bytes_part hb 12 2) (by simp; omega)
  ·apply getD_ext
   ·rw [List.length_append, hml, noughts_length]; simp; omega
   ·intro j hj
    rw [List.length_append, hml, noughts_length] at hj
    by_cases h : j < fillOf xs
    ·rw [List.getD, List.getElem?_append_left (by omega), hm]
     simp [List.getD, List.getElem?_take, h]
    ·rw [List.getD, List.getElem?_append_right (by omega)]
     have := e5 (16 + j) (by omega) (by omega)
     rw [show (xs.drop 16).getD j 0 = xs.getD (16 + j) 0 by simp [List.getD, List.getElem?_drop], this]
     exact noughts_get _ _
theorem pack_bytes (g p : Int) (pay : List Int) (hb : Bytes pay) : Bytes (packL g p pay) := by
 have key : ∀ a b : List Int, Bytes a → Bytes b → Bytes (a ++ b) := by
  intro a b ha hb j
  by_cases h : j < a.length
  ·have := ha j; simpa [List.getD, List.getElem?_append_left h] using this
  ·have := hb (j - a.length); simpa [List.getD, List.getElem?_append_right (Nat.le_of_not_lt h)] using this
 exact key _ _ (key _ _ (key _ _ (key _ _ (key _ _ (beBytes_bytes _ _) (beBytes_bytes _ _)) (beBytes_bytes _ _)) (beBytes_bytes _ _)) hb) (noughts_bytes _)
end
section
open Go.RowKit
def cntOf (n : Nat) : Nat := (n - 1) / 48 + 1
theorem cnt_bounds (n : Nat) (h : n ≤ 16384) : 1 ≤ cntOf n ∧ cntOf n ≤ 342 ∧ n ≤ 48 * cntOf n ∧ 48 * (cntOf n - 1) ≤ n := by unfold cntOf; omega
theorem sectors_any (n : Nat) (w : World) (hn : n ≤ 140737488351232) : Calls Tryz.prog 208 #[.int .i64 n] w fun e w' => e = .returned (.int .i64 (cntOf n)) ∧ w = w' := by
 by_cases h : n = 0
 ·subst h
  go_enter Tryz.func208, Tryz.ntmps208
  go_wp2
  go_ret
  exact ⟨rfl, rfl⟩
 ·have h0 : ¬ (n : Int) < 0 := by omega
  have h1 : ((n : Int) == 0) = false := by simp; omega
  have h2 : 1 ≤ (n : Int) := by omega
  have h3 : (n : Int) ≤ 140737488351232 := by omega
  go_enter Tryz.func208, Tryz.ntmps208
  go_wp2
  go_ret
  exact ⟨ret_int (by unfold cntOf; omega), rfl⟩
def partOf (xs : List Int) (k : Nat) : List Int := (xs.drop (48 * k)).take 48
def splitL (gen pos : Int) (xs : List Int) : List (List Int) := (List.range (cntOf xs.length)).map fun (k : Nat) => packL gen (pos + (k : Int)) (partOf xs k)
theorem part_le (xs : List Int) (k : Nat) : (partOf xs k).length ≤ 48 := by simp [partOf]; omega
theorem split_length (gen pos : Int) (xs : List Int) : (splitL gen pos xs).length = cntOf xs.length := by simp [splitL]
theorem split_get (gen pos : Int) (xs : List Int) (k : Nat) (h : k < cntOf xs.length) : (splitL gen pos xs).getD k [] = packL gen (pos + k) (partOf xs k) := by
 simp [splitL, List.getD, List.getElem?_range h]
theorem split_secs (gen pos : Int) (xs : List Int) : Secs (splitL gen pos xs) := by
 intro ys hy
 obtain ⟨k, _, rfl⟩ := List.mem_map.1 hy
 exact packL_length _ _ _ (part_le _ _)
theorem split_snoc (gen pos : Int) (xs : List Int) (k : Nat) (h : k < cntOf xs.length) : flat ((splitL gen pos xs).take (k + 1)) = flat ((splitL gen pos xs).take k) ++ packL gen (pos + k) (partOf xs k) := by
 have hl := split_length gen pos xs
 rw [List.take_succ_eq_append_getElem (by omega), flat_append, flat_one]
 congr 1
 have := split_get gen pos xs k h
 rw [← this]
 simp [List.getD, List.getElem?_eq_getElem (show k < (splitL gen pos xs).length by omega)]
theorem cut_row {w : World} {S : Nat → Prop} {A : Option Addr} {n cap : Nat} {xs : List Int} (hx : RowI .u8 w S A n xs) (hnil : A = none → cap = 0) (hc : n ≤ cap) (l h : Nat) (h1 : l ≤ h) (h2 : h ≤ n) :
 ∃ A' c', (∀ W, (Instr.slice 40 (.slice A n cap) (some (.int .i64 l)) (some (.int .i64 h)) none).run Tryz.prog W = .ok (.slice A' (h - l) c') W) ∧ RowI .u8 w S A' (h - l) ((xs.drop l).take (h - l)) ∧ (A' = none → c' = 0) ∧ h - l ≤ c' := by
 have hu : Tryz.prog.underlying 40 = some (.slice (Tryz.prog.elem 40)) := by kernel_rfl
 have he : Tryz.prog.elem 40 = 5 := by kernel_rfl
 have hl := hx.1
 have run := fun W => run_slice_lh (P := Tryz.prog) W 40 A n cap hu .i64 .i64 l h (by omega) (by omega) (by omega)
 have hrun : ∀ W, (Instr.slice 40 (.slice A n cap) (some (.int .i64 l)) (some (.int .i64 h)) none).run Tryz.prog W = .ok (sliced A l h cap 1) W := fun W => by
  rw [run W, he, Tryz.sizeOf5]
  simp [Result.andThen]
 refine ⟨_, _, hrun, ⟨by simp; omega, fun hpos => ?_⟩, fun hA => ?_, by omega⟩
 ·obtain ⟨b, off, rfl, hb, hcell⟩ := hx.2 (by omega)
  refine ⟨b, off + l, by rw [if_neg (by omega)]; simp [add_plain], hb, fun j hj => ?_⟩
  rw [Nat.add_assoc, hcell (l + j) (by omega)]
  simp [List.getD, List.getElem?_take, List.getElem?_drop, hj]
 ·split at hA
  ·have := hnil hA; omega
  ·have := hnil (by simpa using hA); omega
theorem cut_rowAt {w : World} {S : Nat → Prop} {A : Option Addr} {n cap : Nat} {xs : List Int} (hx : RowI .u8 w S A n xs) (hnil : A = none → cap = 0) (hc : n ≤ cap) (l h : Nat) (h1 : l ≤ h) (h2 : h ≤ n) (L H : Int) (hL : L = l) (hH : H = h) (m : Nat) (hm : m = h - l) :
 ∃ A' c', (∀ W, (Instr.slice 40 (.slice A n cap) (some (.int .i64 L)) (some (.int .i64 H)) none).run Tryz.prog W = .ok (.slice A' m c') W) ∧ RowI .u8 w S A' m ((xs.drop l).take m) ∧ (A' = none → c' = 0) ∧ m ≤ c' := by
 subst hL hH hm
 exact cut_row hx hnil hc l h h1 h2
end
section
open Go.RowKit
theorem set_sector (F ys : List Int) (c k : Nat) (hF : F.length = k * 64) (hk : k < c) : (F ++ noughts ((c - k) * 64)).take (k * 64) ++ ys ++ (F ++ noughts ((c - k) * 64)).drop (k * 64 + 64) = F ++ ys ++ noughts ((c - (k + 1)) * 64) := by
 rw [List.take_left' hF, List.drop_append, List.drop_eq_nil_of_le (by omega), List.nil_append, hF, show k * 64 + 64 - k * 64 = 64 by omega]
 unfold noughts
 rw [List.drop_replicate, show (c - k) * 64 - 64 = (c - (k + 1)) * 64 by omega]
theorem split_ok (gen pos : Int) (A : Option Addr) (n cap : Nat) (xs : List Int) (S : Nat → Prop) (w : World) (hx : RowI .u8 w S A n xs) (hS : ∀ b, S b → b < w.heap.size) (hnil : A = none → cap = 0) (hcap : n ≤ cap) (hn : n ≤ 16384)
 (hg : 1 ≤ gen) (hg2 : gen ≤ 18446744073709551615) (hp : 0 ≤ pos) (hp2 : pos ≤ 4294967295) (h : pos + cntOf n ≤ 4294967296) :
 Calls Tryz.prog 196 #[.int .u64 gen, .int .u32 pos, .slice A n cap] w fun e w' => e = .returned (.tuple #[.slice (some ⟨w.heap.size, 0, none⟩) (cntOf n) (cntOf n), .int .i64 0]) ∧
  ArrB w' w.heap.size (flat (splitL gen pos xs)) ∧ Below w.heap.size w w' := by
 have hc := cnt_bounds n hn
 have hl := hx.1
 have hsl := split_length gen pos xs
 have hsnoc := split_snoc gen pos xs
 rw [hl] at hsl hsnoc
 have h' : ¬ (4294967296 : Int) < pos + (cntOf n : Int) := by omega
 obtain ⟨i0, hi, hz0, hz1, hz2⟩ := info_parts info_blk
 generalize hk : cntOf n = c at *
 have HX := hI hx
 have HL := hI hl
 have HK := hI hk
 have HSL := hI hsl
 have HSN := hI hsnoc
 clear hk h hx hl hsl hsnoc
 go_enter Tryz.func196, Tryz.ntmps196
 go_wp2_with fail
 refine (sectors_any n w (by omega)).mono ?_
 rintro e w' ⟨rfl, rfl⟩
 rw [HK.out]
 go_wp2_with (refine wpList_make_secs _ _ rfl rfl _ _ c rfl rfl rfl rfl (by omega) ?_)
 generalize hw1 : w.alloc _ = w1
 have HA1 := hI (show ArrB w1 w.heap.size (noughts (c * 64)) by rw [← hw1]; exact Blk.new w _ _)
 have HB1 := hI (show Below w.heap.size w w1 by rw [← hw1]; exact (Below.refl _ _).alloc (nR _) _)
 clear hw1
 go_loopw [28] (fun i wr => ∃ k : Nat, k ≤ c ∧ i = .int .i64 k ∧ ArrB wr w.heap.size (flat ((splitL gen pos xs).take k) ++ noughts ((c - k) * 64)) ∧ Below w.heap.size w wr) (fun i _ => c - (intOf i).toNat)
 case atStart => exact ⟨0, by omega, rfl, by simpa [flat] using HA1.out, HB1.out⟩
 case round =>
  obtain ⟨k, hk, rfl, harr, hbel⟩ := hrel
  by_cases hlt : k < c
  ·have hsn := HSN.out k hlt
   have hfl := flat_length ((split_secs gen pos xs).take k)
   rw [List.length_take, HSL.out, Nat.min_eq_left hk] at hfl
   have hpl := packL_length (gen) (pos + k) (partOf xs k) (part_le xs k)
   have hto : ∃ tto : Nat, tto = min (48 * k + 48) n := ⟨_, rfl⟩
   obtain ⟨tto, hto⟩ := hto
   have hk48 : 48 * k ≤ n := by
    have := hc.2.2.2
    have h2 : 48 * k ≤ 48 * (c - 1) := Nat.mul_le_mul_left _ (by omega)
    omega
   obtain ⟨m, hm⟩ : ∃ m, m = tto - 48 * k := ⟨_, rfl⟩
   obtain ⟨A', c', hcut, hrow, hnil', hc'⟩ := cut_rowAt (HX.out.below hbel hS) hnil hcap (48 * k) tto (by omega) (by omega) ((k : Int) * 48) (tto : Int) (by omega) rfl m hm
   have hpe : (xs.drop (48 * k)).take m = partOf xs k := by
    unfold partOf
    apply List.ext_getElem
    ·simp
     have := HL.out
     omega
    ·intro j h1 h2
     simp
   rw [hpe] at hrow
   have hkc : (k : Int) < c := by omega
   have hk342 : (k : Int) ≤ 342 := by omega
   have hpk : pos + (k : Int) ≤ 4294967295 := by omega
   have hml : m ≤ 48 := by omega
   have hset : (flat ((splitL gen pos xs).take k) ++ noughts ((c - k) * 64)).take (k * 64) ++ packL gen (pos + k) (partOf xs k) ++ (flat ((splitL gen pos xs).take k) ++ noughts ((c - k) * 64)).drop (k * 64 + 64) = flat ((splitL gen pos xs).take (k + 1)) ++ noughts ((c - (k + 1)) * 64) := by
    rw [hsn]
    exact set_sector _ _ _ _ hfl hlt
   have HSNK := hI hsn
   have HFL := hI hfl
   have HPL := hI hpl
   have HROW := hI hrow
   have HARR := hI harr
   have HBEL := hI hbel
   have HTO := hI hto
   have HSET := hI hset
   have HM := hI hm
   clear hsn hfl hpl hrow harr hbel hnil' hc' hpe h' hset hm
   by_cases hmin : 48 * k + 48 ≤ n
   ·have ht2 : (tto : Int) = (k : Int) * 48 + 48 := by have := HTO.out; omega
    have hm2 : (k : Int) * 48 + 48 ≤ n := by omega
    rw [ht2] at hcut
    clear ht2 hto
    go_wp2_with fail
    refine (pack_ok gen (pos + k) A' m c' (partOf xs k) S wr HROW.out (fun b h => nL (hS b h) HBEL.out.size) hg hg2 (by omega) hpk hml).mono ?_
    rintro e w2 ⟨rfl, hb⟩
    generalize packL gen (pos + k) (partOf xs k) = ys at *
    obtain ⟨w3, hw3⟩ : ∃ w3, w3 = w2.alloc (.cells (cells8 ys) 92) := ⟨_, rfl⟩
    have hb3 : Below w2.heap.size w2 w3 := by rw [hw3]; exact (Below.refl _ _).alloc (nR _) _
    have HY3 := hI (show ArrB w3 w2.heap.size ys by rw [hw3]; exact Blk.new w2 _ _)
    have HA3 := hI ((HARR.out.below hb HARR.out.lt).below hb3 (nL HARR.out.lt hb.size))
    have HB3 := hI ((HBEL.out.trans (hb.mono HBEL.out.size)).trans (hb3.mono (nT HBEL.out.size hb.size)))
    have HW3 := hI hw3
    have hfit : k * 64 + 64 ≤ (flat ((splitL gen pos xs).take k) ++ noughts ((c - k) * 64)).length := by
     rw [List.length_append, HFL.out, noughts_length]
     omega
    have HFIT := hI hfit
    clear hb hb3 hw3 hfit
    go_wp2_with (first
     | (refine wpList_alloc_blk rfl rfl ?_)
     | (refine wpList_store_new (.tmp 13) (.tmp 49) rfl rfl w2 ys rfl rfl (noughts 64) rfl (noughts_length 64) HPL.out ?_; rw [← HW3.out])
     | (refine wpList_load_blk (.tmp 13) rfl rfl w2.heap.size 0 rfl ys HPL.out HY3.out.range ?_)
     | (refine wpList_store_sec (.tmp 57) (.tmp 56) rfl rfl w.heap.size (k * 64) ys rfl rfl 92 _ HA3.out HPL.out HFIT.out ?_; rw [HSET.out]))
    go_roundw
    case rel =>
     have hst := HA3.out.setRow (flat ((splitL gen pos xs).take (k + 1)) ++ noughts ((c - (k + 1)) * 64))
     rw [List.map_append] at hst
     exact ⟨k + 1, by omega, by go_num, hst, below_setRow HB3.out (nR _) _⟩
    case measure => (simp [intOf] <;> omega)
   ·have ht2 : tto = n := by have := HTO.out; omega
    have hm2 : (n : Int) < (k : Int) * 48 + 48 := by omega
    rw [ht2] at hcut
    clear ht2 hto
    go_wp2_with fail
    refine (pack_ok gen (pos + k) A' m c' (partOf xs k) S wr HROW.out (fun b h => nL (hS b h) HBEL.out.size) hg hg2 (by omega) hpk hml).mono ?_
    rintro e w2 ⟨rfl, hb⟩
    generalize packL gen (pos + k) (partOf xs k) = ys at *
    obtain ⟨w3, hw3⟩ : ∃ w3, w3 = w2.alloc (.cells (cells8 ys) 92) := ⟨_, rfl⟩
    have hb3 : Below w2.heap.size w2 w3 := by rw [hw3]; exact (Below.refl _ _).alloc (nR _) _
    have HY3 := hI (show ArrB w3 w2.heap.size ys by rw [hw3]; exact Blk.new w2 _ _)
    have HA3 := hI ((HARR.out.below hb HARR.out.lt).below hb3 (nL HARR.out.lt hb.size))
    have HB3 := hI ((HBEL.out.trans (hb.mono HBEL.out.size)).trans (hb3.mono (nT HBEL.out.size hb.size)))
    have HW3 := hI hw3
    have hfit : k * 64 + 64 ≤ (flat ((splitL gen pos xs).take k) ++ noughts ((c - k) * 64)).length := by
     rw [List.length_append, HFL.out, noughts_length]
     omega
    have HFIT := hI hfit
    clear hb hb3 hw3 hfit
    go_wp2_with (first
     | (refine wpList_alloc_blk rfl rfl ?_)
     | (refine wpList_store_new (.tmp 13) (.tmp 49) rfl rfl w2 ys rfl rfl (noughts 64) rfl (noughts_length 64) HPL.out ?_; rw [← HW3.out])
     | (refine wpList_load_blk (.tmp 13) rfl rfl w2.heap.size 0 rfl ys HPL.out HY3.out.range ?_)
     | (refine wpList_store_sec (.tmp 57) (.tmp 56) rfl rfl w.heap.size (k * 64) ys rfl rfl 92 _ HA3.out HPL.out HFIT.out ?_; rw [HSET.out]))
    go_roundw
    case rel =>
     have hst := HA3.out.setRow (flat ((splitL gen pos xs).take (k + 1)) ++ noughts ((c - (k + 1)) * 64))
     rw [List.map_append] at hst
     exact ⟨k + 1, by omega, by go_num, hst, below_setRow HB3.out (nR _) _⟩
    case measure => (simp [intOf] <;> omega)
  ·obtain rfl : k = c := by omega
   have he : flat ((splitL gen pos xs).take k) ++ noughts ((k - k) * 64) = flat (splitL gen pos xs) := by
    rw [List.take_of_length_le (by have := HSL.out; omega), Nat.sub_self]
    simp [noughts]
   rw [he] at harr
   have HARR := hI harr
   have HBEL := hI hbel
   clear harr hbel he
   go_wp2
   go_ret2
   exact ⟨rfl, HARR.out, HBEL.out⟩
end
end Go.Proofs.YtknfblfnfoibkaaGreat
