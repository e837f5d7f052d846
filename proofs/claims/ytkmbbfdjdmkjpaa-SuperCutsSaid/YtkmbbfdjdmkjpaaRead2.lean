/- Package disk: Read. -/
import Derived.Test.YtkmbbfdjdmkjpaaPerform
import Derived.Deep.DeepCutAuto
namespace Go.Proofs.Ytkmbbfdjdmkjpaa
open Go.RowKit
set_option linter.unusedVariables false
set_option linter.unusedSimpArgs false

section
variable {w : World} {d H S n : Nat} {v : Value} {m : Nat} {held safe : List Int} {P : List Value} {armed fails : Int} {ops : Int}

def RdR (d H S n : Nat) (v : Value) (m : Nat) (held safe : List Int) (P : List Value) (armed fails : Int) (dead : Bool) (ops : Int) (gb : Nat) (ys : List Int) (w4 w2 : World) : Prop :=
  Dm w2 d H S n v m held safe P armed fails dead ops ∧ ArrB w2 gb ys ∧ Kept (fun b => b < gb ∧ b ≠ d) w4 w2
theorem RdR.laid {gb a : Nat} {ys : List Int} {w4 w2 : World} {dead : Bool} (h : RdR d H S n v m held safe P armed fails dead ops gb ys w4 w2) (hd : d < a) (ha : a + 1 + 1 < gb) (x : Int) :
    RdR d H S n v m held safe P armed fails dead x gb ys w4 (w2.setCell ⟨d, 6, none⟩ (.int .i64 x)) :=
  ⟨h.1.ops_ x, Blk.far h.2.1 (p := ⟨d, 6, none⟩) (by show gb ≠ d; omega) _, h.2.2.setCell (fun h => h.2 rfl) _⟩
theorem read1_kept {w1 w4 : World} (hd1 : Dm w1 d H S n v m held safe P armed fails false ops) (hk1 : Kept (fun b => b ≠ d) w4 w1) (xss : List (List Int)) (hs : Secs xss) (hh : held = flat xss) (hn : xss.length = n) (hn2 : n ≤ 2048) (i : Nat) (hi : i < n) (a gb : Nat)
    (hgd : Blk w4 a 39 #[.pointer (some ⟨d, 0, none⟩)]) (hgi : Blk w4 (a + 1) 3 #[.int .i64 i]) (hgb : ArrB w4 gb (noughts 64)) (hda : d < a) (hag : a + 1 + 1 < gb) (hH : H < gb) (hS : S < gb) (hv : ∀ g, v.ownBlock = some g → g < gb) {zs : List Int} (hzs : xss.getD i [] = zs) :
    Calls Try.prog 79 #[.pointer (some ⟨a, 0, none⟩), .pointer (some ⟨a + 1, 0, none⟩), .pointer (some ⟨gb, 0, none⟩)] w1 fun e w2 => e = .returned (.tuple #[]) ∧ RdR d H S n v m held safe P armed fails false ops gb zs w4 w2 := by
  subst hzs
  refine (read1_any hd1 xss hs hh hn hn2 i hi a (a + 1) gb (noughts 64) (noughts_length 64) (hgd.kept hk1 (by omega)) (hgi.kept hk1 (by omega)) (Arr.kept hgb hk1 (by omega)) (by omega)).mono ?_
  rintro e w2 ⟨rfl, hw2⟩
  have hkk : Kept (fun b => b ≠ gb) w1 w2 := by rw [hw2]; exact ((Kept.refl _ w1).drew).setRow (fun h => h rfl) _
  refine ⟨rfl, hd1.kept hkk (by omega) (by omega) (by omega) (fun g hg => by have := hv g hg; omega), ?_, ?_⟩
  · rw [hw2]
    exact Arr.setRow (Arr.kept (w' := w1.drew) hgb hk1.drew (by omega)) _
  · exact (hk1.mono (S := fun b => b < gb ∧ b ≠ d) (fun b h => h.2)).trans hkk (fun b h => by omega)

set_option maxHeartbeats 1000000 in
theorem read_done (h : Dm w d H S n v m held safe P armed fails false ops) (i : Nat) (hi : i < n) (xss : List (List Int)) (hs : Secs xss) (hh : held = flat xss) (hn : xss.length = n) (hn2 : n ≤ 2048) (hf0 : -9223372036854775808 ≤ fails) (hf1 : fails ≤ 9223372036854775807) (hz : fails ≠ 0) (ha0 : -9223372036854775808 ≤ armed) (ha1 : armed ≤ 9223372036854775807) :
    Calls Try.prog 26 #[.pointer (some ⟨d, 0, none⟩), .int .i64 i] w fun e w' => e = .returned (.tuple #[.agg (cells8 (xss.getD i [])), .int .i64 0]) ∧
      Dm w' d H S n v m held safe P armed (struck fails) false (wrap64 (ops + 1)) ∧ Kept (fun b => b < w.heap.size ∧ b ≠ d) w w' := by
  have hmf : ∀ (fn : Fn) (first cap : Array Value) (w : World), (Instr.makeFunc fn first cap).run Try.prog w = .ok (.func fn first cap) w := fun _ _ _ _ => rfl
  have HM := Lib.hid h
  have HLT := Lib.hid h.blk.lt
  have hgl := hs.get i (by omega)
  generalize hzs : xss.getD i [] = zs at *
  have HZS := Lib.hid hzs
  have HS := Lib.hid hs
  have HH := Lib.hid hh
  have HN := Lib.hid hn
  have HZ := Lib.hid hz
  have HGL := Lib.hid hgl
  clear hs hh hn hz hgl hzs
  clear h
  go_enter Try.func26, Try.ntmps26
  go_upto_region 1 with (refine wpList_alloc_blk rfl rfl ?_)
  have HM3 := Lib.hid (((HM.out.alloc (.cells #[.pointer (some ⟨d, 0, none⟩)] 39)).alloc (.cells #[.int .i64 i] 3)).alloc (.cells (cells8 (noughts 64)) 26))
  have HD3 := Lib.hid (show Blk (((w.alloc (.cells #[.pointer (some ⟨d, 0, none⟩)] 39)).alloc (.cells #[.int .i64 i] 3)).alloc (.cells (cells8 (noughts 64)) 26)) w.heap.size 39 #[.pointer (some ⟨d, 0, none⟩)] from ((Blk.new w _ _).alloc _).alloc _)
  have HI3 := Lib.hid (show Blk (((w.alloc (.cells #[.pointer (some ⟨d, 0, none⟩)] 39)).alloc (.cells #[.int .i64 i] 3)).alloc (.cells (cells8 (noughts 64)) 26)) (w.heap.size + 1) 3 #[.int .i64 i] from (blk_new2 w _ _ _).alloc _)
  have HR3 := Lib.hid (show ArrB (((w.alloc (.cells #[.pointer (some ⟨d, 0, none⟩)] 39)).alloc (.cells #[.int .i64 i] 3)).alloc (.cells (cells8 (noughts 64)) 26)) (w.heap.size + 1 + 1) (noughts 64) from blk_new3 w _ _ _ _)
  have HB3 := Lib.hid (show Below w.heap.size w (((w.alloc (.cells #[.pointer (some ⟨d, 0, none⟩)] 39)).alloc (.cells #[.int .i64 i] 3)).alloc (.cells (cells8 (noughts 64)) 26)) from (((Below.refl _ _).alloc (Nat.le_refl _) _).alloc (by simp) _).alloc (by simp; omega) _)
  generalize hw3 : ((w.alloc (.cells #[.pointer (some ⟨d, 0, none⟩)] 39)).alloc (.cells #[.int .i64 i] 3)).alloc (.cells (cells8 (noughts 64)) 26) = w3 at *
  clear hw3
  go_wp2_with (refine wpList_alloc_blk rfl rfl ?_)
  have HM4 := Lib.hid (HM3.out.alloc (.cells (cells8 (noughts 64)) 26))
  have HD4 := Lib.hid (HD3.out.alloc (.cells (cells8 (noughts 64)) 26))
  have HI4 := Lib.hid (HI3.out.alloc (.cells (cells8 (noughts 64)) 26))
  have HR4 := Lib.hid (Blk.alloc HR3.out (.cells (cells8 (noughts 64)) 26))
  have HV4 := Lib.hid (show ArrB (w3.alloc (.cells (cells8 (noughts 64)) 26)) w3.heap.size (noughts 64) from Blk.new w3 _ _)
  have HB4 := Lib.hid (show Below w.heap.size w (w3.alloc (.cells (cells8 (noughts 64)) 26)) from HB3.out.alloc HB3.out.size _)
  have HZ3 := Lib.hid (show w.heap.size + 1 + 1 < w3.heap.size from HR3.out.lt)
  have HH3 := Lib.hid (show H < w3.heap.size from HM3.out.hh.lt)
  generalize hw4 : w3.alloc (.cells (cells8 (noughts 64)) 26) = w4 at *
  clear hw4
  have cd := HD4.out.cell 0
  have ci := HI4.out.cell 0
  simp only [List.getElem?_toArray, List.getElem?_cons_zero] at cd ci
  go_region_held3 (fun W => W.cell? ⟨w.heap.size, 0, none⟩ = some (.pointer (some ⟨d, 0, none⟩)) ∧ W.cell? ⟨w.heap.size + 1, 0, none⟩ = some (.int .i64 i))
    (first | exact ⟨cd, ci⟩ | exact ⟨ed, ei⟩)
    (first
      | (go_at_call 78; refine (reach_ok HM4.out.drew i hi).mono ?_; rintro e w' ⟨rfl, rfl⟩; simp only [Bool.false_eq_true, if_false, if_true])
      | (go_at_call 77; refine (pread_done HM4.out.drew hf0 hf1 HZ.out ha0 ha1 _ _ _ (RdR d H S n v m held safe P armed (struck fails) false ops w3.heap.size zs w4.drew) (fun w1 hd1 hk1 => read1_kept hd1 hk1 xss HS.out HH.out HN.out hn2 i hi w.heap.size w3.heap.size HD4.out HI4.out HV4.out HLT.out HZ3.out HH3.out HM3.out.ss.lt HM3.out.vlt HZS.out) (fun w2 hr => ⟨hr.1.cell.2.2.2.2.2.2, hr.1.frozen 6⟩)).mono ?_; rintro e w' ⟨rfl, w2, hr, rfl⟩; have HF := Lib.hid (hr.laid HLT.out HZ3.out (wrap64 (ops + 1))); have ed := ((Blk.drew HD4.out).kept HF.out.2.2 ⟨by have := HZ3.out; omega, by have := HLT.out; omega⟩).cell 0; have ei := ((Blk.drew HI4.out).kept HF.out.2.2 ⟨by have := HZ3.out; omega, by have := HLT.out; omega⟩).cell 0; simp only [List.getElem?_toArray, List.getElem?_cons_zero] at ed ei; clear hr))
  all_goals
    generalize hwf : w2.setCell ⟨d, 6, none⟩ (.int .i64 (wrap64 (ops + 1))) = wf at *
    have HRF := Lib.hid (show ArrB wf (w.heap.size + 1 + 1) (noughts 64) from Arr.kept (w := w4.drew) HR4.out HF.out.2.2 ⟨by have := HZ3.out; omega, by have := HLT.out; omega⟩)
    clear ed ei cd ci
    go_wp2_with (first
      | (refine wpList_load_blk (.tmp 6) rfl rfl w3.heap.size 0 rfl zs HGL.out HF.out.2.1.range ?_)
      | (refine wpList_store_blk (.tmp 4) (.tmp 14) rfl rfl (w.heap.size + 1 + 1) zs rfl rfl 26 (noughts 64) HRF.out (noughts_length 64) HGL.out ?_)
      | (with_reducible refine halt_end ?_))
    have hds : d ≠ w.heap.size + 1 + 1 := by have := HLT.out; omega
    refine Halt.ret (results_blk2 (p := 4) (u := 5) rfl _ _ (w.heap.size + 1 + 1) 26 zs rfl (HRF.out.setRow zs) HGL.out) rfl ⟨rfl, ?_, ?_⟩
    · refine HF.out.1.kept ((Kept.refl (fun b => b ≠ w.heap.size + 1 + 1) wf).setRow (fun h => h rfl) _) hds ?_ ?_ ?_
      · have := HM.out.hh.lt; omega
      · have := HM.out.ss.lt; omega
      · intro g hg; have := HM.out.vlt g hg; omega
    · refine Kept.setRow ?_ (fun h => by have := h.1; omega) _
      exact ((Kept.of_below HB4.out (S := fun b => b < w.heap.size ∧ b ≠ d) (fun b h => h.1)).drew).trans HF.out.2.2 (fun b h => ⟨by have := HZ3.out; omega, h.2⟩)

set_option maxHeartbeats 1000000 in
theorem read_io (h : Dm w d H S n v m held safe P armed fails false ops) (i : Nat) (hi : i < n) (hf0 : -9223372036854775808 ≤ fails) (hf1 : fails ≤ 9223372036854775807) (hz : fails = 0) :
    Calls Try.prog 26 #[.pointer (some ⟨d, 0, none⟩), .int .i64 i] w fun e w' => e = .returned (.tuple #[.agg (cells8 (noughts 64)), .int .i64 8]) ∧
      Dm w' d H S n v m held safe P armed (-1) false ops ∧ Kept (fun b => b < w.heap.size ∧ b ≠ d) w w' := by
  have hmf : ∀ (fn : Fn) (first cap : Array Value) (w : World), (Instr.makeFunc fn first cap).run Try.prog w = .ok (.func fn first cap) w := fun _ _ _ _ => rfl
  have HM := Lib.hid h
  have HLT := Lib.hid h.blk.lt
  have HZ := Lib.hid hz
  clear hz
  clear h
  go_enter Try.func26, Try.ntmps26
  go_upto_region 1 with (refine wpList_alloc_blk rfl rfl ?_)
  have HM3 := Lib.hid (((HM.out.alloc (.cells #[.pointer (some ⟨d, 0, none⟩)] 39)).alloc (.cells #[.int .i64 i] 3)).alloc (.cells (cells8 (noughts 64)) 26))
  have HD3 := Lib.hid (show Blk (((w.alloc (.cells #[.pointer (some ⟨d, 0, none⟩)] 39)).alloc (.cells #[.int .i64 i] 3)).alloc (.cells (cells8 (noughts 64)) 26)) w.heap.size 39 #[.pointer (some ⟨d, 0, none⟩)] from ((Blk.new w _ _).alloc _).alloc _)
  have HI3 := Lib.hid (show Blk (((w.alloc (.cells #[.pointer (some ⟨d, 0, none⟩)] 39)).alloc (.cells #[.int .i64 i] 3)).alloc (.cells (cells8 (noughts 64)) 26)) (w.heap.size + 1) 3 #[.int .i64 i] from (blk_new2 w _ _ _).alloc _)
  have HR3 := Lib.hid (show ArrB (((w.alloc (.cells #[.pointer (some ⟨d, 0, none⟩)] 39)).alloc (.cells #[.int .i64 i] 3)).alloc (.cells (cells8 (noughts 64)) 26)) (w.heap.size + 1 + 1) (noughts 64) from blk_new3 w _ _ _ _)
  have HB3 := Lib.hid (show Below w.heap.size w (((w.alloc (.cells #[.pointer (some ⟨d, 0, none⟩)] 39)).alloc (.cells #[.int .i64 i] 3)).alloc (.cells (cells8 (noughts 64)) 26)) from (((Below.refl _ _).alloc (Nat.le_refl _) _).alloc (by simp) _).alloc (by simp; omega) _)
  generalize hw3 : ((w.alloc (.cells #[.pointer (some ⟨d, 0, none⟩)] 39)).alloc (.cells #[.int .i64 i] 3)).alloc (.cells (cells8 (noughts 64)) 26) = w3 at *
  clear hw3
  go_wp2_with (refine wpList_alloc_blk rfl rfl ?_)
  have HM4 := Lib.hid (HM3.out.alloc (.cells (cells8 (noughts 64)) 26))
  have HD4 := Lib.hid (HD3.out.alloc (.cells (cells8 (noughts 64)) 26))
  have HI4 := Lib.hid (HI3.out.alloc (.cells (cells8 (noughts 64)) 26))
  have HR4 := Lib.hid (Blk.alloc HR3.out (.cells (cells8 (noughts 64)) 26))
  have HV4 := Lib.hid (show ArrB (w3.alloc (.cells (cells8 (noughts 64)) 26)) w3.heap.size (noughts 64) from Blk.new w3 _ _)
  have HB4 := Lib.hid (show Below w.heap.size w (w3.alloc (.cells (cells8 (noughts 64)) 26)) from HB3.out.alloc HB3.out.size _)
  have HZ3 := Lib.hid (show w.heap.size + 1 + 1 < w3.heap.size from HR3.out.lt)
  have HH3 := Lib.hid (show H < w3.heap.size from HM3.out.hh.lt)
  generalize hw4 : w3.alloc (.cells (cells8 (noughts 64)) 26) = w4 at *
  clear hw4
  have cd := HD4.out.cell 0
  have ci := HI4.out.cell 0
  simp only [List.getElem?_toArray, List.getElem?_cons_zero] at cd ci
  go_region_held3 (fun W => W.cell? ⟨w.heap.size, 0, none⟩ = some (.pointer (some ⟨d, 0, none⟩)) ∧ W.cell? ⟨w.heap.size + 1, 0, none⟩ = some (.int .i64 i))
    (first | exact ⟨cd, ci⟩ | exact ⟨ed, ei⟩)
    (first
      | (go_at_call 78; refine (reach_ok HM4.out.drew i hi).mono ?_; rintro e w' ⟨rfl, rfl⟩; simp only [Bool.false_eq_true, if_false, if_true])
      | (go_at_call 77; refine (pread_io HM4.out.drew hf0 hf1 HZ.out _).mono ?_; rintro e wf ⟨rfl, hd, hk⟩; have HF := Lib.hid (show RdR d H S n v m held safe P armed (-1) false ops w3.heap.size (noughts 64) w4.drew wf from ⟨hd, Arr.kept (w := w4.drew) HV4.out hk (by show w3.heap.size ≠ d; have := HLT.out; have := HZ3.out; omega), hk.mono (fun b h => h.2)⟩); have ed := ((Blk.drew HD4.out).kept HF.out.2.2 ⟨by have := HZ3.out; omega, by have := HLT.out; omega⟩).cell 0; have ei := ((Blk.drew HI4.out).kept HF.out.2.2 ⟨by have := HZ3.out; omega, by have := HLT.out; omega⟩).cell 0; simp only [List.getElem?_toArray, List.getElem?_cons_zero] at ed ei; clear hk; clear hd))
  all_goals
    have HRF := Lib.hid (show ArrB wf (w.heap.size + 1 + 1) (noughts 64) from Arr.kept (w := w4.drew) HR4.out HF.out.2.2 ⟨by have := HZ3.out; omega, by have := HLT.out; omega⟩)
    clear ed ei cd ci
    go_wp2_with (first
      | (refine wpList_load_blk (.tmp 6) rfl rfl w3.heap.size 0 rfl (noughts 64) (noughts_length 64) HF.out.2.1.range ?_)
      | (refine wpList_store_blk (.tmp 4) (.tmp 14) rfl rfl (w.heap.size + 1 + 1) (noughts 64) rfl rfl 26 (noughts 64) HRF.out (noughts_length 64) (noughts_length 64) ?_)
      | (with_reducible refine halt_end ?_))
    have hds : d ≠ w.heap.size + 1 + 1 := by have := HLT.out; omega
    refine Halt.ret (results_blk2 (p := 4) (u := 5) rfl _ _ (w.heap.size + 1 + 1) 26 (noughts 64) rfl (HRF.out.setRow (noughts 64)) (noughts_length 64)) rfl ⟨rfl, ?_, ?_⟩
    · refine HF.out.1.kept ((Kept.refl (fun b => b ≠ w.heap.size + 1 + 1) wf).setRow (fun h => h rfl) _) hds ?_ ?_ ?_
      · have := HM.out.hh.lt; omega
      · have := HM.out.ss.lt; omega
      · intro g hg; have := HM.out.vlt g hg; omega
    · refine Kept.setRow ?_ (fun h => by have := h.1; omega) _
      exact ((Kept.of_below HB4.out (S := fun b => b < w.heap.size ∧ b ≠ d) (fun b h => h.1)).drew).trans HF.out.2.2 (fun b h => ⟨by have := HZ3.out; omega, h.2⟩)

set_option maxHeartbeats 1000000 in
theorem read_dead (h : Dm w d H S n v m held safe P armed fails true ops) (i : Nat) (hi : i < n) :
    Calls Try.prog 26 #[.pointer (some ⟨d, 0, none⟩), .int .i64 i] w fun e w' => e = .returned (.tuple #[.agg (cells8 (noughts 64)), .int .i64 7]) ∧
      Dm w' d H S n v m held safe P armed fails true ops ∧ Kept (fun b => b < w.heap.size ∧ b ≠ d) w w' := by
  have hmf : ∀ (fn : Fn) (first cap : Array Value) (w : World), (Instr.makeFunc fn first cap).run Try.prog w = .ok (.func fn first cap) w := fun _ _ _ _ => rfl
  have HM := Lib.hid h
  have HLT := Lib.hid h.blk.lt
  clear h
  go_enter Try.func26, Try.ntmps26
  go_upto_region 1 with (refine wpList_alloc_blk rfl rfl ?_)
  have HM3 := Lib.hid (((HM.out.alloc (.cells #[.pointer (some ⟨d, 0, none⟩)] 39)).alloc (.cells #[.int .i64 i] 3)).alloc (.cells (cells8 (noughts 64)) 26))
  have HD3 := Lib.hid (show Blk (((w.alloc (.cells #[.pointer (some ⟨d, 0, none⟩)] 39)).alloc (.cells #[.int .i64 i] 3)).alloc (.cells (cells8 (noughts 64)) 26)) w.heap.size 39 #[.pointer (some ⟨d, 0, none⟩)] from ((Blk.new w _ _).alloc _).alloc _)
  have HI3 := Lib.hid (show Blk (((w.alloc (.cells #[.pointer (some ⟨d, 0, none⟩)] 39)).alloc (.cells #[.int .i64 i] 3)).alloc (.cells (cells8 (noughts 64)) 26)) (w.heap.size + 1) 3 #[.int .i64 i] from (blk_new2 w _ _ _).alloc _)
  have HR3 := Lib.hid (show ArrB (((w.alloc (.cells #[.pointer (some ⟨d, 0, none⟩)] 39)).alloc (.cells #[.int .i64 i] 3)).alloc (.cells (cells8 (noughts 64)) 26)) (w.heap.size + 1 + 1) (noughts 64) from blk_new3 w _ _ _ _)
  have HB3 := Lib.hid (show Below w.heap.size w (((w.alloc (.cells #[.pointer (some ⟨d, 0, none⟩)] 39)).alloc (.cells #[.int .i64 i] 3)).alloc (.cells (cells8 (noughts 64)) 26)) from (((Below.refl _ _).alloc (Nat.le_refl _) _).alloc (by simp) _).alloc (by simp; omega) _)
  generalize hw3 : ((w.alloc (.cells #[.pointer (some ⟨d, 0, none⟩)] 39)).alloc (.cells #[.int .i64 i] 3)).alloc (.cells (cells8 (noughts 64)) 26) = w3 at *
  clear hw3
  go_wp2_with (refine wpList_alloc_blk rfl rfl ?_)
  have HM4 := Lib.hid (HM3.out.alloc (.cells (cells8 (noughts 64)) 26))
  have HD4 := Lib.hid (HD3.out.alloc (.cells (cells8 (noughts 64)) 26))
  have HI4 := Lib.hid (HI3.out.alloc (.cells (cells8 (noughts 64)) 26))
  have HR4 := Lib.hid (Blk.alloc HR3.out (.cells (cells8 (noughts 64)) 26))
  have HV4 := Lib.hid (show ArrB (w3.alloc (.cells (cells8 (noughts 64)) 26)) w3.heap.size (noughts 64) from Blk.new w3 _ _)
  have HB4 := Lib.hid (show Below w.heap.size w (w3.alloc (.cells (cells8 (noughts 64)) 26)) from HB3.out.alloc HB3.out.size _)
  have HZ3 := Lib.hid (show w.heap.size + 1 + 1 < w3.heap.size from HR3.out.lt)
  have HH3 := Lib.hid (show H < w3.heap.size from HM3.out.hh.lt)
  generalize hw4 : w3.alloc (.cells (cells8 (noughts 64)) 26) = w4 at *
  clear hw4
  have cd := HD4.out.cell 0
  have ci := HI4.out.cell 0
  simp only [List.getElem?_toArray, List.getElem?_cons_zero] at cd ci
  go_region_held3 (fun W => W.cell? ⟨w.heap.size, 0, none⟩ = some (.pointer (some ⟨d, 0, none⟩)) ∧ W.cell? ⟨w.heap.size + 1, 0, none⟩ = some (.int .i64 i))
    (first | exact ⟨cd, ci⟩ | exact ⟨ed, ei⟩)
    (first
      | (go_at_call 78; refine (reach_ok HM4.out.drew i hi).mono ?_; rintro e w' ⟨rfl, rfl⟩; simp only [Bool.false_eq_true, if_false, if_true])
      | (go_at_call 77; refine (perform_refused _ d 7 (by decide) false _).mono ?_; rintro e wf ⟨rfl, hww⟩; have hk : Kept (fun b => b ≠ d) w4.drew wf := (by rw [← hww]; exact Kept.refl _ _); have HF := Lib.hid (show RdR d H S n v m held safe P armed fails true ops w3.heap.size (noughts 64) w4.drew wf from ⟨(by rw [← hww]; exact HM4.out.drew), Arr.kept (w := w4.drew) HV4.out hk (by show w3.heap.size ≠ d; have := HLT.out; have := HZ3.out; omega), hk.mono (fun b h => h.2)⟩); have ed := ((Blk.drew HD4.out).kept HF.out.2.2 ⟨by have := HZ3.out; omega, by have := HLT.out; omega⟩).cell 0; have ei := ((Blk.drew HI4.out).kept HF.out.2.2 ⟨by have := HZ3.out; omega, by have := HLT.out; omega⟩).cell 0; simp only [List.getElem?_toArray, List.getElem?_cons_zero] at ed ei; clear hk; clear hww))
  all_goals
    have HRF := Lib.hid (show ArrB wf (w.heap.size + 1 + 1) (noughts 64) from Arr.kept (w := w4.drew) HR4.out HF.out.2.2 ⟨by have := HZ3.out; omega, by have := HLT.out; omega⟩)
    clear ed ei cd ci
    go_wp2_with (first
      | (refine wpList_load_blk (.tmp 6) rfl rfl w3.heap.size 0 rfl (noughts 64) (noughts_length 64) HF.out.2.1.range ?_)
      | (refine wpList_store_blk (.tmp 4) (.tmp 14) rfl rfl (w.heap.size + 1 + 1) (noughts 64) rfl rfl 26 (noughts 64) HRF.out (noughts_length 64) (noughts_length 64) ?_)
      | (with_reducible refine halt_end ?_))
    have hds : d ≠ w.heap.size + 1 + 1 := by have := HLT.out; omega
    refine Halt.ret (results_blk2 (p := 4) (u := 5) rfl _ _ (w.heap.size + 1 + 1) 26 (noughts 64) rfl (HRF.out.setRow (noughts 64)) (noughts_length 64)) rfl ⟨rfl, ?_, ?_⟩
    · refine HF.out.1.kept ((Kept.refl (fun b => b ≠ w.heap.size + 1 + 1) wf).setRow (fun h => h rfl) _) hds ?_ ?_ ?_
      · have := HM.out.hh.lt; omega
      · have := HM.out.ss.lt; omega
      · intro g hg; have := HM.out.vlt g hg; omega
    · refine Kept.setRow ?_ (fun h => by have := h.1; omega) _
      exact ((Kept.of_below HB4.out (S := fun b => b < w.heap.size ∧ b ≠ d) (fun b h => h.1)).drew).trans HF.out.2.2 (fun b h => ⟨by have := HZ3.out; omega, h.2⟩)
end

end Go.Proofs.Ytkmbbfdjdmkjpaa
