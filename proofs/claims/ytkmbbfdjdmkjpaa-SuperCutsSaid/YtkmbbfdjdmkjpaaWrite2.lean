/- Package disk: Write. -/
import Derived.Test.YtkmbbfdjdmkjpaaPerform
import Derived.Deep.DeepCutAuto
namespace Go.Proofs.Ytkmbbfdjdmkjpaa
open Go.RowKit
set_option linter.unusedVariables false
set_option linter.unusedSimpArgs false

section
variable {w : World} {d H S n : Nat} {v : Value} {m : Nat} {held safe : List Int} {P : List Value} {armed fails : Int} {ops : Int}

/-- What a Write has done, as it is told of the world ahead of it. -/
def WrR (d H S n : Nat) (v : Value) (m : Nat) (held safe : List Int) (P : List Value) (armed fails : Int) (dead : Bool) (ops : Int) (w4 w2 : World) : Prop :=
  ∃ v', Dm w2 d H S n v' m held safe P armed fails dead ops ∧ (∀ g, v'.ownBlock = some g → v.ownBlock = some g ∨ w4.heap.size ≤ g) ∧ Kept (fun b => b < w4.heap.size ∧ b ≠ d ∧ b ≠ H ∧ v.ownBlock ≠ some b) w4 w2
theorem WrR.laid {dead : Bool} {w4 w2 : World} (h : WrR d H S n v m held safe P armed fails dead ops w4 w2) (x : Int) : WrR d H S n v m held safe P armed fails dead x w4 (w2.setCell ⟨d, 6, none⟩ (.int .i64 x)) := by
  obtain ⟨v', h1, h2, h3⟩ := h
  exact ⟨v', h1.ops_ x, h2, h3.setCell (fun h => h.2.1 rfl) _⟩
theorem WrR.same {dead : Bool} {w4 w2 : World} (h : Dm w2 d H S n v m held safe P armed fails dead ops) (hk : Kept (fun b => b ≠ d) w4 w2) : WrR d H S n v m held safe P armed fails dead ops w4 w2 :=
  ⟨v, h, fun g hg => .inl hg, hk.mono (fun b h => h.2.1)⟩
theorem WrR.base {dead : Bool} {w4 w2 : World} (h : WrR d H S n v m held safe P armed fails dead ops w4 w2) (hb : Below w.heap.size w w4) : WrR d H S n v m held safe P armed fails dead ops w w2 := by
  obtain ⟨v', h1, h2, h3⟩ := h
  refine ⟨v', h1, fun g hg => ?_, ?_⟩
  · rcases h2 g hg with h | h
    · exact .inl h
    · exact .inr (Nat.le_trans hb.size h)
  · exact (Kept.of_below hb (fun b h => h.1)).trans h3 (fun b h => ⟨Nat.lt_of_lt_of_le h.1 hb.size, h.2⟩)
theorem write1_kept {w1 w4 : World} (hd1 : Dm w1 d H S n v m held safe P armed fails false ops) (hk1 : Kept (fun b => b ≠ d) w4 w1) (xss : List (List Int)) (hs : Secs xss) (hh : held = flat xss) (hn : xss.length = n) (hn2 : n ≤ 2048) (i : Nat) (hi : i < n) (a : Nat) (ys : List Int) (hy : ys.length = 64)
    (hgd : Blk w4 a 39 #[.pointer (some ⟨d, 0, none⟩)]) (hgi : Blk w4 (a + 1) 3 #[.int .i64 i]) (hgb : ArrB w4 (a + 1 + 1) ys) (hda : d < a) (hH : H < a) (hm : m ≤ 1000000) :
    Calls Try.prog 107 #[.pointer (some ⟨a + 1 + 1, 0, none⟩), .pointer (some ⟨a, 0, none⟩), .pointer (some ⟨a + 1, 0, none⟩)] w1 fun e w2 => e = .returned (.tuple #[]) ∧ WrR d H S n v (m + 1) (flat (xss.set i ys)) safe (P ++ wcells (i, ys)) armed fails false ops w4 w2 := by
  refine (write1_any hd1 xss hs hh hn hn2 i hi a (a + 1) (a + 1 + 1) ys hy (hgd.kept hk1 (by omega)) (hgi.kept hk1 (by omega)) (Arr.kept hgb hk1 (by omega)) (by omega) hm).mono ?_
  rintro e w2 ⟨rfl, v', h1, h2, h3⟩
  refine ⟨rfl, v', h1, fun g hg => ?_, ?_⟩
  · rcases h2 g hg with h | h
    · exact .inl h
    · exact .inr (Nat.le_trans hk1.size h)
  · exact (hk1.mono (fun b h => h.2.1)).trans h3 (fun b h => ⟨Nat.lt_of_lt_of_le h.1 hk1.size, h.2⟩)

set_option maxHeartbeats 1000000 in
theorem write_done (h : Dm w d H S n v m held safe P armed fails false ops) (i : Nat) (hi : i < n) (ys : List Int) (hy : ys.length = 64) (xss : List (List Int)) (hs : Secs xss) (hh : held = flat xss) (hn : xss.length = n) (hn2 : n ≤ 2048) (hf0 : -9223372036854775808 ≤ fails) (hf1 : fails ≤ 9223372036854775807) (hz : fails ≠ 0) (ha0 : -9223372036854775808 ≤ armed) (ha1 : armed ≤ 9223372036854775807) (haz : armed ≠ 0) (hm : m ≤ 1000000) :
    Calls Try.prog 72 #[.pointer (some ⟨d, 0, none⟩), .int .i64 i, .agg (cells8 ys)] w fun e w' => e = .returned (.int .i64 0) ∧ WrR d H S n v (m + 1) (flat (xss.set i ys)) safe (P ++ wcells (i, ys)) (struck armed) (struck fails) false (wrap64 (ops + 1)) w w' := by
  have hmf : ∀ (fn : Fn) (first cap : Array Value) (w : World), (Instr.makeFunc fn first cap).run Try.prog w = .ok (.func fn first cap) w := fun _ _ _ _ => rfl
  have HM := Lib.hid h
  have HLT := Lib.hid h.blk.lt
  have HY := Lib.hid hy
  have HS := Lib.hid hs
  have HH := Lib.hid hh
  have HN := Lib.hid hn
  have HZ := Lib.hid hz
  have HAZ := Lib.hid haz
  clear hs hh hn hz haz
  clear h hy
  go_enter Try.func72, Try.ntmps72
  go_upto_region 1 with fail
  have HM3 := Lib.hid (((HM.out.alloc (.cells #[.pointer (some ⟨d, 0, none⟩)] 39)).alloc (.cells #[.int .i64 i] 3)).alloc (.cells (cells8 ys) 26))
  have HD3 := Lib.hid (show Blk (((w.alloc (.cells #[.pointer (some ⟨d, 0, none⟩)] 39)).alloc (.cells #[.int .i64 i] 3)).alloc (.cells (cells8 ys) 26)) w.heap.size 39 #[.pointer (some ⟨d, 0, none⟩)] from ((Blk.new w _ _).alloc _).alloc _)
  have HI3 := Lib.hid (show Blk (((w.alloc (.cells #[.pointer (some ⟨d, 0, none⟩)] 39)).alloc (.cells #[.int .i64 i] 3)).alloc (.cells (cells8 ys) 26)) (w.heap.size + 1) 3 #[.int .i64 i] from (blk_new2 w _ _ _).alloc _)
  have HV3 := Lib.hid (show ArrB (((w.alloc (.cells #[.pointer (some ⟨d, 0, none⟩)] 39)).alloc (.cells #[.int .i64 i] 3)).alloc (.cells (cells8 ys) 26)) (w.heap.size + 1 + 1) ys from blk_new3 w _ _ _ _)
  have HB3 := Lib.hid (show Below w.heap.size w (((w.alloc (.cells #[.pointer (some ⟨d, 0, none⟩)] 39)).alloc (.cells #[.int .i64 i] 3)).alloc (.cells (cells8 ys) 26)) from (((Below.refl _ _).alloc (Nat.le_refl _) _).alloc (by simp) _).alloc (by simp; omega) _)
  generalize hw3 : ((w.alloc (.cells #[.pointer (some ⟨d, 0, none⟩)] 39)).alloc (.cells #[.int .i64 i] 3)).alloc (.cells (cells8 ys) 26) = w4 at *
  have HZ3 := Lib.hid (show w.heap.size + 1 + 1 < w4.heap.size from HV3.out.lt)
  have HHL := Lib.hid (show H < w.heap.size from HM.out.hh.lt)
  have HVL := Lib.hid HM.out.vlt
  clear hw3
  have cd := HD3.out.cell 0
  have ci := HI3.out.cell 0
  simp only [List.getElem?_toArray, List.getElem?_cons_zero] at cd ci
  go_region_held3 (fun W => W.cell? ⟨w.heap.size, 0, none⟩ = some (.pointer (some ⟨d, 0, none⟩)) ∧ W.cell? ⟨w.heap.size + 1, 0, none⟩ = some (.int .i64 i))
    (first | exact ⟨cd, ci⟩ | exact ⟨ed, ei⟩)
    (first
      | (go_at_call 78; refine (reach_ok HM3.out.drew i hi).mono ?_; rintro e w' ⟨rfl, rfl⟩; simp only [Bool.false_eq_true, if_false, if_true])
      | (go_at_call 77; refine (pwrite_done HM3.out.drew hf0 hf1 HZ.out ha0 ha1 HAZ.out _ _ _ (WrR d H S n v (m + 1) (flat (xss.set i ys)) safe (P ++ wcells (i, ys)) (struck armed) (struck fails) false ops w4.drew) (fun w1 hd1 hk1 => write1_kept hd1 hk1 xss HS.out HH.out HN.out hn2 i hi w.heap.size ys HY.out HD3.out HI3.out HV3.out HLT.out HHL.out hm) (fun w2 hr => ⟨hr.choose_spec.1.cell.2.2.2.2.2.2, hr.choose_spec.1.frozen 6⟩)).mono ?_; rintro e wf ⟨rfl, w2, hr, hwf⟩; have hf : WrR d H S n v (m + 1) (flat (xss.set i ys)) safe (P ++ wcells (i, ys)) (struck armed) (struck fails) false (wrap64 (ops + 1)) w4.drew wf := (by rw [hwf]; exact hr.laid _); clear hr hwf; have HF := Lib.hid hf; have ed := ((Blk.drew HD3.out).kept (HF.out.choose_spec.2.2) ⟨by show w.heap.size < w4.heap.size; have := HZ3.out; omega, by have := HLT.out; omega, by have := HHL.out; omega, fun h => by have := HVL.out _ h; omega⟩).cell 0; have ei := ((Blk.drew HI3.out).kept (HF.out.choose_spec.2.2) ⟨by show w.heap.size + 1 < w4.heap.size; have := HZ3.out; omega, by have := HLT.out; omega, by have := HHL.out; omega, fun h => by have := HVL.out _ h; omega⟩).cell 0; simp only [List.getElem?_toArray, List.getElem?_cons_zero] at ed ei; clear hf))
  all_goals
    clear ed ei cd ci
    go_wp2
    go_ret
    exact ⟨rfl, HF.out.base HB3.out.drew⟩

set_option maxHeartbeats 1000000 in
theorem write_io (h : Dm w d H S n v m held safe P armed fails false ops) (i : Nat) (hi : i < n) (ys : List Int) (hy : ys.length = 64) (hf0 : -9223372036854775808 ≤ fails) (hf1 : fails ≤ 9223372036854775807) (hz : fails = 0) :
    Calls Try.prog 72 #[.pointer (some ⟨d, 0, none⟩), .int .i64 i, .agg (cells8 ys)] w fun e w' => e = .returned (.int .i64 8) ∧ WrR d H S n v m held safe P armed (-1) false ops w w' := by
  have hmf : ∀ (fn : Fn) (first cap : Array Value) (w : World), (Instr.makeFunc fn first cap).run Try.prog w = .ok (.func fn first cap) w := fun _ _ _ _ => rfl
  have HM := Lib.hid h
  have HLT := Lib.hid h.blk.lt
  have HY := Lib.hid hy
  have HZ := Lib.hid hz
  clear hz
  clear h hy
  go_enter Try.func72, Try.ntmps72
  go_upto_region 1 with fail
  have HM3 := Lib.hid (((HM.out.alloc (.cells #[.pointer (some ⟨d, 0, none⟩)] 39)).alloc (.cells #[.int .i64 i] 3)).alloc (.cells (cells8 ys) 26))
  have HD3 := Lib.hid (show Blk (((w.alloc (.cells #[.pointer (some ⟨d, 0, none⟩)] 39)).alloc (.cells #[.int .i64 i] 3)).alloc (.cells (cells8 ys) 26)) w.heap.size 39 #[.pointer (some ⟨d, 0, none⟩)] from ((Blk.new w _ _).alloc _).alloc _)
  have HI3 := Lib.hid (show Blk (((w.alloc (.cells #[.pointer (some ⟨d, 0, none⟩)] 39)).alloc (.cells #[.int .i64 i] 3)).alloc (.cells (cells8 ys) 26)) (w.heap.size + 1) 3 #[.int .i64 i] from (blk_new2 w _ _ _).alloc _)
  have HV3 := Lib.hid (show ArrB (((w.alloc (.cells #[.pointer (some ⟨d, 0, none⟩)] 39)).alloc (.cells #[.int .i64 i] 3)).alloc (.cells (cells8 ys) 26)) (w.heap.size + 1 + 1) ys from blk_new3 w _ _ _ _)
  have HB3 := Lib.hid (show Below w.heap.size w (((w.alloc (.cells #[.pointer (some ⟨d, 0, none⟩)] 39)).alloc (.cells #[.int .i64 i] 3)).alloc (.cells (cells8 ys) 26)) from (((Below.refl _ _).alloc (Nat.le_refl _) _).alloc (by simp) _).alloc (by simp; omega) _)
  generalize hw3 : ((w.alloc (.cells #[.pointer (some ⟨d, 0, none⟩)] 39)).alloc (.cells #[.int .i64 i] 3)).alloc (.cells (cells8 ys) 26) = w4 at *
  have HZ3 := Lib.hid (show w.heap.size + 1 + 1 < w4.heap.size from HV3.out.lt)
  have HHL := Lib.hid (show H < w.heap.size from HM.out.hh.lt)
  have HVL := Lib.hid HM.out.vlt
  clear hw3
  have cd := HD3.out.cell 0
  have ci := HI3.out.cell 0
  simp only [List.getElem?_toArray, List.getElem?_cons_zero] at cd ci
  go_region_held3 (fun W => W.cell? ⟨w.heap.size, 0, none⟩ = some (.pointer (some ⟨d, 0, none⟩)) ∧ W.cell? ⟨w.heap.size + 1, 0, none⟩ = some (.int .i64 i))
    (first | exact ⟨cd, ci⟩ | exact ⟨ed, ei⟩)
    (first
      | (go_at_call 78; refine (reach_ok HM3.out.drew i hi).mono ?_; rintro e w' ⟨rfl, rfl⟩; simp only [Bool.false_eq_true, if_false, if_true])
      | (go_at_call 77; refine (pwrite_io HM3.out.drew hf0 hf1 HZ.out _).mono ?_; rintro e wf ⟨rfl, hd, hk⟩; have hf := WrR.same hd hk; clear hd hk; have HF := Lib.hid hf; have ed := ((Blk.drew HD3.out).kept (HF.out.choose_spec.2.2) ⟨by show w.heap.size < w4.heap.size; have := HZ3.out; omega, by have := HLT.out; omega, by have := HHL.out; omega, fun h => by have := HVL.out _ h; omega⟩).cell 0; have ei := ((Blk.drew HI3.out).kept (HF.out.choose_spec.2.2) ⟨by show w.heap.size + 1 < w4.heap.size; have := HZ3.out; omega, by have := HLT.out; omega, by have := HHL.out; omega, fun h => by have := HVL.out _ h; omega⟩).cell 0; simp only [List.getElem?_toArray, List.getElem?_cons_zero] at ed ei; clear hf))
  all_goals
    clear ed ei cd ci
    go_wp2
    go_ret
    exact ⟨rfl, HF.out.base HB3.out.drew⟩

set_option maxHeartbeats 1000000 in
theorem write_off (h : Dm w d H S n v m held safe P armed fails false ops) (i : Nat) (hi : i < n) (ys : List Int) (hy : ys.length = 64) (hf0 : -9223372036854775808 ≤ fails) (hf1 : fails ≤ 9223372036854775807) (hz : fails ≠ 0) (ha0 : -9223372036854775808 ≤ armed) (ha1 : armed ≤ 9223372036854775807) (haz : armed = 0) :
    Calls Try.prog 72 #[.pointer (some ⟨d, 0, none⟩), .int .i64 i, .agg (cells8 ys)] w fun e w' => e = .returned (.int .i64 7) ∧ WrR d H S n v m held safe P (-1) (struck fails) true ops w w' := by
  have hmf : ∀ (fn : Fn) (first cap : Array Value) (w : World), (Instr.makeFunc fn first cap).run Try.prog w = .ok (.func fn first cap) w := fun _ _ _ _ => rfl
  have HM := Lib.hid h
  have HLT := Lib.hid h.blk.lt
  have HY := Lib.hid hy
  have HZ := Lib.hid hz
  have HAZ := Lib.hid haz
  clear hz haz
  clear h hy
  go_enter Try.func72, Try.ntmps72
  go_upto_region 1 with fail
  have HM3 := Lib.hid (((HM.out.alloc (.cells #[.pointer (some ⟨d, 0, none⟩)] 39)).alloc (.cells #[.int .i64 i] 3)).alloc (.cells (cells8 ys) 26))
  have HD3 := Lib.hid (show Blk (((w.alloc (.cells #[.pointer (some ⟨d, 0, none⟩)] 39)).alloc (.cells #[.int .i64 i] 3)).alloc (.cells (cells8 ys) 26)) w.heap.size 39 #[.pointer (some ⟨d, 0, none⟩)] from ((Blk.new w _ _).alloc _).alloc _)
  have HI3 := Lib.hid (show Blk (((w.alloc (.cells #[.pointer (some ⟨d, 0, none⟩)] 39)).alloc (.cells #[.int .i64 i] 3)).alloc (.cells (cells8 ys) 26)) (w.heap.size + 1) 3 #[.int .i64 i] from (blk_new2 w _ _ _).alloc _)
  have HV3 := Lib.hid (show ArrB (((w.alloc (.cells #[.pointer (some ⟨d, 0, none⟩)] 39)).alloc (.cells #[.int .i64 i] 3)).alloc (.cells (cells8 ys) 26)) (w.heap.size + 1 + 1) ys from blk_new3 w _ _ _ _)
  have HB3 := Lib.hid (show Below w.heap.size w (((w.alloc (.cells #[.pointer (some ⟨d, 0, none⟩)] 39)).alloc (.cells #[.int .i64 i] 3)).alloc (.cells (cells8 ys) 26)) from (((Below.refl _ _).alloc (Nat.le_refl _) _).alloc (by simp) _).alloc (by simp; omega) _)
  generalize hw3 : ((w.alloc (.cells #[.pointer (some ⟨d, 0, none⟩)] 39)).alloc (.cells #[.int .i64 i] 3)).alloc (.cells (cells8 ys) 26) = w4 at *
  have HZ3 := Lib.hid (show w.heap.size + 1 + 1 < w4.heap.size from HV3.out.lt)
  have HHL := Lib.hid (show H < w.heap.size from HM.out.hh.lt)
  have HVL := Lib.hid HM.out.vlt
  clear hw3
  have cd := HD3.out.cell 0
  have ci := HI3.out.cell 0
  simp only [List.getElem?_toArray, List.getElem?_cons_zero] at cd ci
  go_region_held3 (fun W => W.cell? ⟨w.heap.size, 0, none⟩ = some (.pointer (some ⟨d, 0, none⟩)) ∧ W.cell? ⟨w.heap.size + 1, 0, none⟩ = some (.int .i64 i))
    (first | exact ⟨cd, ci⟩ | exact ⟨ed, ei⟩)
    (first
      | (go_at_call 78; refine (reach_ok HM3.out.drew i hi).mono ?_; rintro e w' ⟨rfl, rfl⟩; simp only [Bool.false_eq_true, if_false, if_true])
      | (go_at_call 77; refine (pwrite_dead HM3.out.drew hf0 hf1 HZ.out ha0 ha1 HAZ.out _).mono ?_; rintro e wf ⟨rfl, hd, hk⟩; have hf := WrR.same hd hk; clear hd hk; have HF := Lib.hid hf; have ed := ((Blk.drew HD3.out).kept (HF.out.choose_spec.2.2) ⟨by show w.heap.size < w4.heap.size; have := HZ3.out; omega, by have := HLT.out; omega, by have := HHL.out; omega, fun h => by have := HVL.out _ h; omega⟩).cell 0; have ei := ((Blk.drew HI3.out).kept (HF.out.choose_spec.2.2) ⟨by show w.heap.size + 1 < w4.heap.size; have := HZ3.out; omega, by have := HLT.out; omega, by have := HHL.out; omega, fun h => by have := HVL.out _ h; omega⟩).cell 0; simp only [List.getElem?_toArray, List.getElem?_cons_zero] at ed ei; clear hf))
  all_goals
    clear ed ei cd ci
    go_wp2
    go_ret
    exact ⟨rfl, HF.out.base HB3.out.drew⟩

set_option maxHeartbeats 1000000 in
theorem write_dead (h : Dm w d H S n v m held safe P armed fails true ops) (i : Nat) (hi : i < n) (ys : List Int) (hy : ys.length = 64) :
    Calls Try.prog 72 #[.pointer (some ⟨d, 0, none⟩), .int .i64 i, .agg (cells8 ys)] w fun e w' => e = .returned (.int .i64 7) ∧ WrR d H S n v m held safe P armed fails true ops w w' := by
  have hmf : ∀ (fn : Fn) (first cap : Array Value) (w : World), (Instr.makeFunc fn first cap).run Try.prog w = .ok (.func fn first cap) w := fun _ _ _ _ => rfl
  have HM := Lib.hid h
  have HLT := Lib.hid h.blk.lt
  have HY := Lib.hid hy
  clear h hy
  go_enter Try.func72, Try.ntmps72
  go_upto_region 1 with fail
  have HM3 := Lib.hid (((HM.out.alloc (.cells #[.pointer (some ⟨d, 0, none⟩)] 39)).alloc (.cells #[.int .i64 i] 3)).alloc (.cells (cells8 ys) 26))
  have HD3 := Lib.hid (show Blk (((w.alloc (.cells #[.pointer (some ⟨d, 0, none⟩)] 39)).alloc (.cells #[.int .i64 i] 3)).alloc (.cells (cells8 ys) 26)) w.heap.size 39 #[.pointer (some ⟨d, 0, none⟩)] from ((Blk.new w _ _).alloc _).alloc _)
  have HI3 := Lib.hid (show Blk (((w.alloc (.cells #[.pointer (some ⟨d, 0, none⟩)] 39)).alloc (.cells #[.int .i64 i] 3)).alloc (.cells (cells8 ys) 26)) (w.heap.size + 1) 3 #[.int .i64 i] from (blk_new2 w _ _ _).alloc _)
  have HV3 := Lib.hid (show ArrB (((w.alloc (.cells #[.pointer (some ⟨d, 0, none⟩)] 39)).alloc (.cells #[.int .i64 i] 3)).alloc (.cells (cells8 ys) 26)) (w.heap.size + 1 + 1) ys from blk_new3 w _ _ _ _)
  have HB3 := Lib.hid (show Below w.heap.size w (((w.alloc (.cells #[.pointer (some ⟨d, 0, none⟩)] 39)).alloc (.cells #[.int .i64 i] 3)).alloc (.cells (cells8 ys) 26)) from (((Below.refl _ _).alloc (Nat.le_refl _) _).alloc (by simp) _).alloc (by simp; omega) _)
  generalize hw3 : ((w.alloc (.cells #[.pointer (some ⟨d, 0, none⟩)] 39)).alloc (.cells #[.int .i64 i] 3)).alloc (.cells (cells8 ys) 26) = w4 at *
  have HZ3 := Lib.hid (show w.heap.size + 1 + 1 < w4.heap.size from HV3.out.lt)
  have HHL := Lib.hid (show H < w.heap.size from HM.out.hh.lt)
  have HVL := Lib.hid HM.out.vlt
  clear hw3
  have cd := HD3.out.cell 0
  have ci := HI3.out.cell 0
  simp only [List.getElem?_toArray, List.getElem?_cons_zero] at cd ci
  go_region_held3 (fun W => W.cell? ⟨w.heap.size, 0, none⟩ = some (.pointer (some ⟨d, 0, none⟩)) ∧ W.cell? ⟨w.heap.size + 1, 0, none⟩ = some (.int .i64 i))
    (first | exact ⟨cd, ci⟩ | exact ⟨ed, ei⟩)
    (first
      | (go_at_call 78; refine (reach_ok HM3.out.drew i hi).mono ?_; rintro e w' ⟨rfl, rfl⟩; simp only [Bool.false_eq_true, if_false, if_true])
      | (go_at_call 77; refine (perform_refused _ d 7 (by decide) true _).mono ?_; rintro e wf ⟨rfl, hww⟩; have hf := WrR.same (w4 := w4.drew) (w2 := wf) (by rw [← hww]; exact HM3.out.drew) (by rw [← hww]; exact Kept.refl _ _); clear hww; have HF := Lib.hid hf; have ed := ((Blk.drew HD3.out).kept (HF.out.choose_spec.2.2) ⟨by show w.heap.size < w4.heap.size; have := HZ3.out; omega, by have := HLT.out; omega, by have := HHL.out; omega, fun h => by have := HVL.out _ h; omega⟩).cell 0; have ei := ((Blk.drew HI3.out).kept (HF.out.choose_spec.2.2) ⟨by show w.heap.size + 1 < w4.heap.size; have := HZ3.out; omega, by have := HLT.out; omega, by have := HHL.out; omega, fun h => by have := HVL.out _ h; omega⟩).cell 0; simp only [List.getElem?_toArray, List.getElem?_cons_zero] at ed ei; clear hf))
  all_goals
    clear ed ei cd ci
    go_wp2
    go_ret
    exact ⟨rfl, HF.out.base HB3.out.drew⟩
end

end Go.Proofs.Ytkmbbfdjdmkjpaa
