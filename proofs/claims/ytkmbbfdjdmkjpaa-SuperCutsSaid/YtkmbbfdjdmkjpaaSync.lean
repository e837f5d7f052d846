/- Package disk: Sync. -/
import Derived.Test.YtkmbbfdjdmkjpaaWrite2
namespace Go.Proofs.Ytkmbbfdjdmkjpaa
open Go.RowKit
set_option linter.unusedVariables false
set_option linter.unusedSimpArgs false

section
variable {w : World} {d H S n : Nat} {v : Value} {m : Nat} {held safe : List Int} {P : List Value} {armed fails : Int} {ops : Int}

/-- What an operation has done, as it is told of the world ahead of it. -/
def SyR (d H S n : Nat) (v : Value) (m : Nat) (held safe : List Int) (P : List Value) (armed fails : Int) (dead : Bool) (ops : Int) (w4 w2 : World) : Prop :=
  ∃ v', Dm w2 d H S n v' m held safe P armed fails dead ops ∧ (∀ g, v'.ownBlock = some g → v.ownBlock = some g ∨ w4.heap.size ≤ g) ∧ Kept (fun b => b < w4.heap.size ∧ b ≠ d ∧ b ≠ H ∧ b ≠ S ∧ v.ownBlock ≠ some b) w4 w2
theorem WrR.sy {dead : Bool} {w4 w2 : World} (h : WrR d H S n v m held safe P armed fails dead ops w4 w2) : SyR d H S n v m held safe P armed fails dead ops w4 w2 := by
  obtain ⟨v', h1, h2, h3⟩ := h
  exact ⟨v', h1, h2, h3.mono (fun b h => ⟨h.1, h.2.1, h.2.2.1, h.2.2.2.2⟩)⟩
theorem SyR.laid {dead : Bool} {w4 w2 : World} (h : SyR d H S n v m held safe P armed fails dead ops w4 w2) (x : Int) : SyR d H S n v m held safe P armed fails dead x w4 (w2.setCell ⟨d, 6, none⟩ (.int .i64 x)) := by
  obtain ⟨v', h1, h2, h3⟩ := h
  exact ⟨v', h1.ops_ x, h2, h3.setCell (fun h => h.2.1 rfl) _⟩
theorem SyR.base {dead : Bool} {w4 w2 : World} (h : SyR d H S n v m held safe P armed fails dead ops w4 w2) (hb : Below w.heap.size w w4) : SyR d H S n v m held safe P armed fails dead ops w w2 := by
  obtain ⟨v', h1, h2, h3⟩ := h
  refine ⟨v', h1, fun g hg => ?_, ?_⟩
  · rcases h2 g hg with h | h
    · exact .inl h
    · exact .inr (Nat.le_trans hb.size h)
  · exact (Kept.of_below hb (fun b h => h.1)).trans h3 (fun b h => ⟨Nat.lt_of_lt_of_le h.1 hb.size, h.2⟩)

theorem sync1_any {dead : Bool} {held safe : List (List Int)} {pend : List (Nat × List Int)} (h : Dm w d H S n v m (flat held) (flat safe) (flatP pend) armed fails dead ops) (hs : Secs safe) (hheld : held = over safe pend) (hn : safe.length = n) (hn2 : n ≤ 2048) (hf : Fits n pend)
    (g : Nat) (hg : w.cell? ⟨g, 0, none⟩ = some (.pointer (some ⟨d, 0, none⟩))) :
    Calls Try.prog 108 #[.pointer (some ⟨g, 0, none⟩)] w fun e w' => e = .returned (.tuple #[]) ∧
      Dm w' d H S n (.slice none 0 0) 0 (flat (over safe pend)) (flat (over safe pend)) [] armed fails dead ops ∧ Kept (fun b => b < w.heap.size ∧ b ≠ d ∧ b ≠ H ∧ b ≠ S) w w' := by
  have hlen := own_len h.own (fun p hp => (hf p hp).2.1)
  have HL := Lib.hid (show lived (fun _ => true) pend m = pend by rw [lived_all]; exact List.take_of_length_le (by omega))
  have HC := Lib.hid (fun (u : Unit) => settle_all h hs hheld hn hn2 hf)
  clear h hs hheld hn hf hlen
  go_enter Try.func108, Try.ntmps108
  go_wp2_with (go_at_call 83; refine (HC.out ()).mono ?_; rintro e w' ⟨rfl, hdm, hk⟩; rw [HL.out] at hdm; have HD := Lib.hid hdm; have HK := Lib.hid hk; clear hdm hk)
  go_end0
  exact ⟨rfl, HD.out, HK.out⟩

theorem sync1_kept {held safe : List (List Int)} {pend : List (Nat × List Int)} {w1 w4 : World} (hd1 : Dm w1 d H S n v m (flat held) (flat safe) (flatP pend) armed fails false ops) (hk1 : Kept (fun b => b ≠ d) w4 w1) (hs : Secs safe) (hheld : held = over safe pend) (hn : safe.length = n) (hn2 : n ≤ 2048) (hf : Fits n pend)
    (g : Nat) (hg : Blk w4 g 39 #[.pointer (some ⟨d, 0, none⟩)]) (hdg : d < g) :
    Calls Try.prog 108 #[.pointer (some ⟨g, 0, none⟩)] w1 fun e w2 => e = .returned (.tuple #[]) ∧ SyR d H S n v 0 (flat (over safe pend)) (flat (over safe pend)) [] armed fails false ops w4 w2 := by
  refine (sync1_any hd1 hs hheld hn hn2 hf g ((hg.kept hk1 (by omega)).cell 0)).mono ?_
  rintro e w2 ⟨rfl, h1, h2⟩
  refine ⟨rfl, _, h1, fun g hg => (by simp [Value.ownBlock] at hg), ?_⟩
  exact (hk1.mono (fun b h => h.2.1)).trans h2 (fun b h => ⟨Nat.lt_of_lt_of_le h.1 hk1.size, h.2.1, h.2.2.1, h.2.2.2.1⟩)

set_option maxHeartbeats 1000000 in
theorem sync_done {held safe : List (List Int)} {pend : List (Nat × List Int)} (h : Dm w d H S n v m (flat held) (flat safe) (flatP pend) armed fails false ops) (hs : Secs safe) (hheld : held = over safe pend) (hn : safe.length = n) (hn2 : n ≤ 2048) (hf : Fits n pend) (hf0 : -9223372036854775808 ≤ fails) (hf1 : fails ≤ 9223372036854775807) (hz : fails ≠ 0) (ha0 : -9223372036854775808 ≤ armed) (ha1 : armed ≤ 9223372036854775807) (haz : armed ≠ 0) :
    Calls Try.prog 75 #[.pointer (some ⟨d, 0, none⟩)] w fun e w' => e = .returned (.int .i64 0) ∧ SyR d H S n v 0 (flat (over safe pend)) (flat (over safe pend)) [] (struck armed) (struck fails) false (wrap64 (ops + 1)) w w' := by
  have hmf : ∀ (fn : Fn) (first cap : Array Value) (w : World), (Instr.makeFunc fn first cap).run Try.prog w = .ok (.func fn first cap) w := fun _ _ _ _ => rfl
  have HM := Lib.hid h
  have HLT := Lib.hid h.blk.lt
  have HS := Lib.hid hs
  have HH := Lib.hid hheld
  have HN := Lib.hid hn
  have HZ := Lib.hid hz
  have HAZ := Lib.hid haz
  have HFT := Lib.hid hf
  clear hs hheld hn hz haz hf
  clear h
  go_enter Try.func75, Try.ntmps75
  go_upto_region 1 with fail
  have HM3 := Lib.hid (HM.out.alloc (.cells #[.pointer (some ⟨d, 0, none⟩)] 39))
  have HD3 := Lib.hid (show Blk (w.alloc (.cells #[.pointer (some ⟨d, 0, none⟩)] 39)) w.heap.size 39 #[.pointer (some ⟨d, 0, none⟩)] from Blk.new w _ _)
  have HB3 := Lib.hid (show Below w.heap.size w (w.alloc (.cells #[.pointer (some ⟨d, 0, none⟩)] 39)) from (Below.refl _ _).alloc (Nat.le_refl _) _)
  generalize hw3 : w.alloc (.cells #[.pointer (some ⟨d, 0, none⟩)] 39) = w4 at *
  have HZ3 := Lib.hid (show w.heap.size < w4.heap.size from HD3.out.lt)
  have HHL := Lib.hid (show H < w.heap.size from HM.out.hh.lt)
  have HSL := Lib.hid (show S < w.heap.size from HM.out.ss.lt)
  have HVL := Lib.hid HM.out.vlt
  clear hw3
  have cd := HD3.out.cell 0
  simp only [List.getElem?_toArray, List.getElem?_cons_zero] at cd
  go_region_held3 (fun W => W.cell? ⟨w.heap.size, 0, none⟩ = some (.pointer (some ⟨d, 0, none⟩)))
    (first | exact cd | exact ed)
    (first
      | (go_at_call 82; refine (power_any HM3.out.drew).mono ?_; rintro e w' ⟨rfl, rfl⟩; simp only [Bool.false_eq_true, if_false, if_true])
      | (go_at_call 77; refine (psync_done HM3.out.drew hf0 hf1 HZ.out ha0 ha1 HAZ.out _ (SyR d H S n v 0 (flat (over safe pend)) (flat (over safe pend)) [] (struck armed) (struck fails) false ops w4.drew) (fun w1 hd1 hk1 => sync1_kept hd1 hk1 HS.out HH.out HN.out hn2 HFT.out w.heap.size HD3.out HLT.out) (fun w2 hr => ⟨hr.choose_spec.1.cell.2.2.2.2.2.2, hr.choose_spec.1.frozen 6⟩)).mono ?_; rintro e wf ⟨rfl, w2, hr, hwf⟩; have hf : SyR d H S n v 0 (flat (over safe pend)) (flat (over safe pend)) [] (struck armed) (struck fails) false (wrap64 (ops + 1)) w4.drew wf := (by rw [hwf]; exact hr.laid _); clear hr hwf; have HF := Lib.hid hf; have ed := ((Blk.drew HD3.out).kept (HF.out.choose_spec.2.2) ⟨by show w.heap.size < w4.heap.size; have := HZ3.out; omega, by have := HLT.out; omega, by have := HHL.out; omega, by have := HSL.out; omega, fun h => by have := HVL.out _ h; omega⟩).cell 0; simp only [List.getElem?_toArray, List.getElem?_cons_zero] at ed; clear hf))
  all_goals
    clear ed cd
    go_wp2
    go_ret
    exact ⟨rfl, HF.out.base HB3.out.drew⟩

set_option maxHeartbeats 1000000 in
theorem sync_io (h : Dm w d H S n v m held safe P armed fails false ops) (hf0 : -9223372036854775808 ≤ fails) (hf1 : fails ≤ 9223372036854775807) (hz : fails = 0) :
    Calls Try.prog 75 #[.pointer (some ⟨d, 0, none⟩)] w fun e w' => e = .returned (.int .i64 8) ∧ SyR d H S n v m held safe P armed (-1) false ops w w' := by
  have hmf : ∀ (fn : Fn) (first cap : Array Value) (w : World), (Instr.makeFunc fn first cap).run Try.prog w = .ok (.func fn first cap) w := fun _ _ _ _ => rfl
  have HM := Lib.hid h
  have HLT := Lib.hid h.blk.lt
  have HZ := Lib.hid hz
  clear hz
  clear h
  go_enter Try.func75, Try.ntmps75
  go_upto_region 1 with fail
  have HM3 := Lib.hid (HM.out.alloc (.cells #[.pointer (some ⟨d, 0, none⟩)] 39))
  have HD3 := Lib.hid (show Blk (w.alloc (.cells #[.pointer (some ⟨d, 0, none⟩)] 39)) w.heap.size 39 #[.pointer (some ⟨d, 0, none⟩)] from Blk.new w _ _)
  have HB3 := Lib.hid (show Below w.heap.size w (w.alloc (.cells #[.pointer (some ⟨d, 0, none⟩)] 39)) from (Below.refl _ _).alloc (Nat.le_refl _) _)
  generalize hw3 : w.alloc (.cells #[.pointer (some ⟨d, 0, none⟩)] 39) = w4 at *
  have HZ3 := Lib.hid (show w.heap.size < w4.heap.size from HD3.out.lt)
  have HHL := Lib.hid (show H < w.heap.size from HM.out.hh.lt)
  have HSL := Lib.hid (show S < w.heap.size from HM.out.ss.lt)
  have HVL := Lib.hid HM.out.vlt
  clear hw3
  have cd := HD3.out.cell 0
  simp only [List.getElem?_toArray, List.getElem?_cons_zero] at cd
  go_region_held3 (fun W => W.cell? ⟨w.heap.size, 0, none⟩ = some (.pointer (some ⟨d, 0, none⟩)))
    (first | exact cd | exact ed)
    (first
      | (go_at_call 82; refine (power_any HM3.out.drew).mono ?_; rintro e w' ⟨rfl, rfl⟩; simp only [Bool.false_eq_true, if_false, if_true])
      | (go_at_call 77; refine (pwrite_io HM3.out.drew hf0 hf1 HZ.out _).mono ?_; rintro e wf ⟨rfl, hd, hk⟩; have hf := (WrR.same (v := v) hd hk).sy; clear hd hk; have HF := Lib.hid hf; have ed := ((Blk.drew HD3.out).kept (HF.out.choose_spec.2.2) ⟨by show w.heap.size < w4.heap.size; have := HZ3.out; omega, by have := HLT.out; omega, by have := HHL.out; omega, by have := HSL.out; omega, fun h => by have := HVL.out _ h; omega⟩).cell 0; simp only [List.getElem?_toArray, List.getElem?_cons_zero] at ed; clear hf))
  all_goals
    clear ed cd
    go_wp2
    go_ret
    exact ⟨rfl, HF.out.base HB3.out.drew⟩

set_option maxHeartbeats 1000000 in
theorem sync_off (h : Dm w d H S n v m held safe P armed fails false ops) (hf0 : -9223372036854775808 ≤ fails) (hf1 : fails ≤ 9223372036854775807) (hz : fails ≠ 0) (ha0 : -9223372036854775808 ≤ armed) (ha1 : armed ≤ 9223372036854775807) (haz : armed = 0) :
    Calls Try.prog 75 #[.pointer (some ⟨d, 0, none⟩)] w fun e w' => e = .returned (.int .i64 7) ∧ SyR d H S n v m held safe P (-1) (struck fails) true ops w w' := by
  have hmf : ∀ (fn : Fn) (first cap : Array Value) (w : World), (Instr.makeFunc fn first cap).run Try.prog w = .ok (.func fn first cap) w := fun _ _ _ _ => rfl
  have HM := Lib.hid h
  have HLT := Lib.hid h.blk.lt
  have HZ := Lib.hid hz
  have HAZ := Lib.hid haz
  clear hz haz
  clear h
  go_enter Try.func75, Try.ntmps75
  go_upto_region 1 with fail
  have HM3 := Lib.hid (HM.out.alloc (.cells #[.pointer (some ⟨d, 0, none⟩)] 39))
  have HD3 := Lib.hid (show Blk (w.alloc (.cells #[.pointer (some ⟨d, 0, none⟩)] 39)) w.heap.size 39 #[.pointer (some ⟨d, 0, none⟩)] from Blk.new w _ _)
  have HB3 := Lib.hid (show Below w.heap.size w (w.alloc (.cells #[.pointer (some ⟨d, 0, none⟩)] 39)) from (Below.refl _ _).alloc (Nat.le_refl _) _)
  generalize hw3 : w.alloc (.cells #[.pointer (some ⟨d, 0, none⟩)] 39) = w4 at *
  have HZ3 := Lib.hid (show w.heap.size < w4.heap.size from HD3.out.lt)
  have HHL := Lib.hid (show H < w.heap.size from HM.out.hh.lt)
  have HSL := Lib.hid (show S < w.heap.size from HM.out.ss.lt)
  have HVL := Lib.hid HM.out.vlt
  clear hw3
  have cd := HD3.out.cell 0
  simp only [List.getElem?_toArray, List.getElem?_cons_zero] at cd
  go_region_held3 (fun W => W.cell? ⟨w.heap.size, 0, none⟩ = some (.pointer (some ⟨d, 0, none⟩)))
    (first | exact cd | exact ed)
    (first
      | (go_at_call 82; refine (power_any HM3.out.drew).mono ?_; rintro e w' ⟨rfl, rfl⟩; simp only [Bool.false_eq_true, if_false, if_true])
      | (go_at_call 77; refine (pwrite_dead HM3.out.drew hf0 hf1 HZ.out ha0 ha1 HAZ.out _).mono ?_; rintro e wf ⟨rfl, hd, hk⟩; have hf := (WrR.same (v := v) hd hk).sy; clear hd hk; have HF := Lib.hid hf; have ed := ((Blk.drew HD3.out).kept (HF.out.choose_spec.2.2) ⟨by show w.heap.size < w4.heap.size; have := HZ3.out; omega, by have := HLT.out; omega, by have := HHL.out; omega, by have := HSL.out; omega, fun h => by have := HVL.out _ h; omega⟩).cell 0; simp only [List.getElem?_toArray, List.getElem?_cons_zero] at ed; clear hf))
  all_goals
    clear ed cd
    go_wp2
    go_ret
    exact ⟨rfl, HF.out.base HB3.out.drew⟩

set_option maxHeartbeats 1000000 in
theorem sync_dead (h : Dm w d H S n v m held safe P armed fails true ops) :
    Calls Try.prog 75 #[.pointer (some ⟨d, 0, none⟩)] w fun e w' => e = .returned (.int .i64 7) ∧ SyR d H S n v m held safe P armed fails true ops w w' := by
  have hmf : ∀ (fn : Fn) (first cap : Array Value) (w : World), (Instr.makeFunc fn first cap).run Try.prog w = .ok (.func fn first cap) w := fun _ _ _ _ => rfl
  have HM := Lib.hid h
  have HLT := Lib.hid h.blk.lt
  clear h
  go_enter Try.func75, Try.ntmps75
  go_upto_region 1 with fail
  have HM3 := Lib.hid (HM.out.alloc (.cells #[.pointer (some ⟨d, 0, none⟩)] 39))
  have HD3 := Lib.hid (show Blk (w.alloc (.cells #[.pointer (some ⟨d, 0, none⟩)] 39)) w.heap.size 39 #[.pointer (some ⟨d, 0, none⟩)] from Blk.new w _ _)
  have HB3 := Lib.hid (show Below w.heap.size w (w.alloc (.cells #[.pointer (some ⟨d, 0, none⟩)] 39)) from (Below.refl _ _).alloc (Nat.le_refl _) _)
  generalize hw3 : w.alloc (.cells #[.pointer (some ⟨d, 0, none⟩)] 39) = w4 at *
  have HZ3 := Lib.hid (show w.heap.size < w4.heap.size from HD3.out.lt)
  have HHL := Lib.hid (show H < w.heap.size from HM.out.hh.lt)
  have HSL := Lib.hid (show S < w.heap.size from HM.out.ss.lt)
  have HVL := Lib.hid HM.out.vlt
  clear hw3
  have cd := HD3.out.cell 0
  simp only [List.getElem?_toArray, List.getElem?_cons_zero] at cd
  go_region_held3 (fun W => W.cell? ⟨w.heap.size, 0, none⟩ = some (.pointer (some ⟨d, 0, none⟩)))
    (first | exact cd | exact ed)
    (first
      | (go_at_call 82; refine (power_any HM3.out.drew).mono ?_; rintro e w' ⟨rfl, rfl⟩; simp only [Bool.false_eq_true, if_false, if_true])
      | (go_at_call 77; refine (perform_refused _ d 7 (by decide) true _).mono ?_; rintro e wf ⟨rfl, hww⟩; have hf := (WrR.same (v := v) (w4 := w4.drew) (w2 := wf) (by rw [← hww]; exact HM3.out.drew) (by rw [← hww]; exact Kept.refl _ _)).sy; clear hww; have HF := Lib.hid hf; have ed := ((Blk.drew HD3.out).kept (HF.out.choose_spec.2.2) ⟨by show w.heap.size < w4.heap.size; have := HZ3.out; omega, by have := HLT.out; omega, by have := HHL.out; omega, by have := HSL.out; omega, fun h => by have := HVL.out _ h; omega⟩).cell 0; simp only [List.getElem?_toArray, List.getElem?_cons_zero] at ed; clear hf))
  all_goals
    clear ed cd
    go_wp2
    go_ret
    exact ⟨rfl, HF.out.base HB3.out.drew⟩
end

end Go.Proofs.Ytkmbbfdjdmkjpaa
