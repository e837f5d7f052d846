/- The document's answers of layer 5 (icehouseref05): Read. -/
import Derived.Test.YtikeiloeeklkeaaStamp
import Derived.Test.YtikeiloeeklkeaaNum1
import Derived.Test.YtikeiloeeklkeaaBoth
import Derived.IntWalk
import Derived.Deep.DeepCutAuto
namespace Go.Proofs.Ytikeiloeeklkeaa
open Go.RowKit
set_option linter.unusedVariables false

theorem Arr.part {w : World} {g : Nat} {t : TypeId} {xs : List Int} (h : Arr (Value.int .u8) w g t xs) (off n : Nat) (hn : off + n ≤ xs.length) {S : Nat → Prop} (hs : S g) : RowI .u8 w S (some ⟨g, off, none⟩) n ((xs.drop off).take n) :=
  ⟨by simp; omega, fun _ => ⟨g, off, rfl, hs, fun j hj => by
    rw [h.cell (i := off + j) (by omega) 0]
    simp [List.getD, List.getElem?_take, List.getElem?_drop, hj]⟩⟩

def RReadTold (xs : List Int) (w : World) (e : Ending) (w' : World) : Prop :=
  ∃ A c, e = .returned (.tuple #[.agg #[.int .u64 (genOf xs), .int .u32 (posOf xs), .int .i64 (fillOf xs)], .slice A (meantOf xs).length c, .bool true]) ∧
    RowI .u8 w' (fun b => w.heap.size ≤ b ∧ b < w'.heap.size) A (meantOf xs).length (meantOf xs) ∧ Below w.heap.size w w'

/-- The sector and the nought stamp lie there. -/
structure Half0 (xs : List Int) (w W : World) : Prop where
  len : xs.length = 64
  arr : ArrB W w.heap.size xs
  zero : Blk W (w.heap.size + 1) 34 #[.int .u64 0, .int .u32 0, .int .i64 0]
  bel : Below w.heap.size w W
theorem Half0.drew {xs : List Int} {w W : World} (h : Half0 xs w W) : Half0 xs w W.drew := ⟨h.len, h.arr, h.zero, h.bel.drew⟩
theorem Half0.alloc {xs : List Int} {w W : World} (h : Half0 xs w W) (o : Obj) : Half0 xs w (W.alloc o) := ⟨h.len, h.arr.alloc o, h.zero.alloc o, h.bel.alloc h.bel.size o⟩
theorem Half0.r8 {xs : List Int} {w W : World} (h : Half0 xs w W) : RowI .u8 W (fun _ => True) (some ⟨w.heap.size, 0, none⟩) 8 ((xs.drop 0).take 8) := h.arr.part 0 8 (by have := h.len; omega) trivial
theorem Half0.r4 {xs : List Int} {w W : World} (h : Half0 xs w W) : RowI .u8 W (fun _ => True) (some ⟨w.heap.size, 8, none⟩) 4 ((xs.drop 8).take 4) := h.arr.part 8 4 (by have := h.len; omega) trivial
theorem Half0.r2 {xs : List Int} {w W : World} (h : Half0 xs w W) : RowI .u8 W (fun _ => True) (some ⟨w.heap.size, 12, none⟩) 2 ((xs.drop 12).take 2) := h.arr.part 12 2 (by have := h.len; omega) trivial
theorem Half0.new (xs : List Int) (w : World) (hl : xs.length = 64) : Half0 xs w ((w.alloc (.cells (cells8 xs) 27)).alloc (.cells #[.int .u64 0, .int .u32 0, .int .i64 0] 34)) :=
  ⟨hl, (Blk.new w _ _).alloc _, by have := Blk.new (w.alloc (.cells (cells8 xs) 27)) 34 #[.int .u64 0, .int .u32 0, .int .i64 0]; simpa using this, ((Below.refl _ _).alloc (Nat.le_refl _) _).alloc (by simp) _⟩

/-- .. and the stamp that was read. -/
def Half1 (xs : List Int) (w W : World) (s : Value) : Prop :=
  ∃ g, s = .pointer (some ⟨g, 0, none⟩) ∧ w.heap.size + 1 < g ∧ Blk W g 34 #[.int .u64 (genOf xs), .int .u32 (posOf xs), .int .i64 (fillOf xs)] ∧ Half0 xs w W

def RReadAny (xs : List Int) (w : World) (e : Ending) (w' : World) : Prop :=
  (stamped xs = true → RReadTold xs w e w') ∧ (stamped xs = false → e = .returned (.tuple #[.agg #[.int .u64 0, .int .u32 0, .int .i64 0], .slice none 0 0, .bool false]) ∧ Below w.heap.size w w')

theorem rread_no {xs : List Int} (hl : xs.length = 64) (hb : Bytes xs) (h : ¬ Right xs) {w w' : World} (hbel : Below w.heap.size w w') : RReadAny xs w (.returned (.tuple #[.agg #[.int .u64 0, .int .u32 0, .int .i64 0], .slice none 0 0, .bool false])) w' :=
  ⟨fun hs => absurd ((stamped_iff xs hl hb).1 hs) h, fun _ => ⟨rfl, hbel⟩⟩

theorem half_cells {xs : List Int} {w W W' : World} (h : Half0 xs w W) (hk : Below W.heap.size W W') : Half0 xs w W' := ⟨h.len, h.arr.below hk h.arr.lt, h.zero.below hk h.zero.lt, h.bel.trans (hk.mono h.bel.size)⟩

/-- A cut out of a sector's variable. -/
theorem run_cut_blk (g : Nat) (l h : Nat) (hlo : l ≤ h) (hh : h ≤ 64) (h0 : l < 64) (W : World) :
    (Instr.sliceAt 27 (.pointer (some ⟨g, 0, none⟩)) (some (.int .i64 l)) (some (.int .i64 h)) none).run Try.prog W = .ok (.slice (some ⟨g, l, none⟩) (h - l) (64 - l)) W := by
  have hu : Try.prog.underlying 27 = some (.array (Try.prog.arrayLen 27) (Try.prog.elem 27)) := by kernel_rfl
  have hn : Try.prog.arrayLen 27 = 64 := by kernel_rfl
  have he : Try.prog.elem 27 = 5 := by kernel_rfl
  have := run_sliceAt_array_lh (P := Try.prog) W 27 ⟨g, 0, none⟩ hu .i64 .i64 l h (by omega) (by omega) (by rw [hn]; omega)
  rw [this, he, Try.sizeOf5, hn]
  have hne : ¬ 64 = l := by omega
  simp [slicedAt, hne, add_plain, Result.andThen]

theorem meant_right {xs : List Int} (hl : xs.length = 64) (hf : fillOf xs ≤ 48) : meantOf xs = (xs.drop 16).take (fillOf xs) ∧ (meantOf xs).length = fillOf xs := by
  have hm : meantOf xs = (xs.drop 16).take (fillOf xs) := if_pos hf
  exact ⟨hm, by rw [hm]; simp; omega⟩

set_option maxHeartbeats 4000000 in
theorem rread_any (xs : List Int) (w : World) (hl : xs.length = 64) (hb : Bytes xs) :
    Calls Try.prog 13 #[.agg (cells8 xs)] w (RReadAny xs w) := by
  have hgb := gen_bounds hb hl
  have hpb := pos_bounds hb hl
  have hfe := fill_eq hb
  have hfl := fill_lt hb
  have HBY := Lib.hid hb
  have HL := Lib.hid hl
  have HFE := Lib.hid hfe
  have HH := Lib.hid (Half0.new xs w hl)
  have hpu : IntKind.u32.wrap (posOf xs) = posOf xs := by rw [IntKind.wrap_u32]; omega
  have hfu : IntKind.i64.wrap (fillOf xs : Int) = (fillOf xs : Int) := by rw [IntKind.wrap_i64]; omega
  have HPU := Lib.hid hpu
  have HFU := Lib.hid hfu
  have hp4 : numOf ((xs.drop 8).take 4) = posOf xs := rfl
  have HP4 := Lib.hid hp4
  clear hb hl hpb hfe hpu hfu hp4
  go_enter Try.func13, Try.ntmps13
  go_upto_region 1 with fail
  generalize hw1 : (w.alloc _).alloc _ = w1 at *
  clear hw1
  go_cut [5] (fun s wx => Half1 xs w wx s)
  case first =>
    go_region_held3 (fun W => Half0 xs w W) (first | exact HH.out | exact HH.out.drew | exact (HH.out.alloc _).drew | exact HH.out.drew.alloc _)
      ((go_at_call 29; refine (num_any _ _ _ _ (fun _ => True) _ (by first | with_reducible exact Half0.r8 (by assumption) | with_reducible exact Half0.r4 (by assumption) | with_reducible exact Half0.r2 (by assumption)) (by first | exact bytes_part HBY.out 0 8 | exact bytes_part HBY.out 8 4 | exact bytes_part HBY.out 12 2) (by omega)).mono ?_; (first | rw [HFE.out] | rw [HP4.out] | skip); rintro e w' ⟨rfl, rfl⟩))
    all_goals
      rw [HPU.out, HFU.out]
      go_wp2_with fail
      go_meet
      exact ⟨w1.heap.size, rfl, HH.out.zero.lt, Blk.new w1 _ _, (HH.out.alloc _).drew⟩
  case rest =>
    obtain ⟨g, rfl, hgl, hst, hh⟩ := hcut
    have c0 := hst.cell 0
    have c2 := hst.cell 2
    have c14 := hh.arr.cell (i := 14) (by rw [HL.out]; omega) 0
    have c15 := hh.arr.cell (i := 15) (by rw [HL.out]; omega) 0
    have z0 := hh.zero.cell 0
    have z1 := hh.zero.cell 1
    have z2 := hh.zero.cell 2
    have y0 := hh.zero.frozen 0
    have y1 := hh.zero.frozen 1
    have y2 := hh.zero.frozen 2
    simp only [List.getElem?_toArray, List.getElem?_cons_zero, List.getElem?_cons_succ] at c0 c2 z0 z1 z2
    have HST := Lib.hid hst
    have HC := Lib.hid hh
    have HGL := Lib.hid hgl
    generalize h14 : xs.getD 14 0 = v14 at *
    generalize h15 : xs.getD 15 0 = v15 at *
    have H14 := Lib.hid h14
    have H15 := Lib.hid h15
    clear hst hh hgl h14 h15
    by_cases d0 : genOf xs = 0
    · have hno := Lib.hid (show ¬ Right xs from fun h => by have := h.1; omega)
      have e0 : (genOf xs == 0) = true := by simpa using d0
      have HD := Lib.hid d0
      clear d0
      go_wp2_with (with_reducible refine halt_end ?_)
      exact Halt.ret (results_row3 (p := 2) (u := 3) (v := 4) rfl _ _ (w.heap.size + 1) 34 _ _ rfl (HC.out.zero.set3 _ _ _) Try.underlying34 rfl size_stamp) rfl (rread_no HL.out HBY.out hno.out (below_set3 (g := w.heap.size + 1) HC.out.bel (by omega) _ _ _))
    by_cases d1 : 48 < fillOf xs
    · have hno := Lib.hid (show ¬ Right xs from fun h => by have := h.2.1; omega)
      have e0 : (genOf xs == 0) = false := by simpa using d0
      have e1 : decide ((48 : Int) < (fillOf xs : Int)) = true := by simp; omega
      have HD := Lib.hid d0
      clear d0
      go_wp2_with (with_reducible refine halt_end ?_)
      exact Halt.ret (results_row3 (p := 2) (u := 3) (v := 4) rfl _ _ (w.heap.size + 1) 34 _ _ rfl (HC.out.zero.set3 _ _ _) Try.underlying34 rfl size_stamp) rfl (rread_no HL.out HBY.out hno.out (below_set3 (g := w.heap.size + 1) HC.out.bel (by omega) _ _ _))
    by_cases d2 : v14 = 0
    case neg =>
      have hno := Lib.hid (show ¬ Right xs from fun h => d2 (by rw [← H14.out]; exact h.2.2.1))
      have e0 : (genOf xs == 0) = false := by simpa using d0
      have e1 : decide ((48 : Int) < (fillOf xs : Int)) = false := by simp; omega
      have e2 : (v14 != 0) = true := by simpa using d2
      have HD := Lib.hid d0
      clear d0 d2
      go_wp2_with (with_reducible refine halt_end ?_)
      exact Halt.ret (results_row3 (p := 2) (u := 3) (v := 4) rfl _ _ (w.heap.size + 1) 34 _ _ rfl (HC.out.zero.set3 _ _ _) Try.underlying34 rfl size_stamp) rfl (rread_no HL.out HBY.out hno.out (below_set3 (g := w.heap.size + 1) HC.out.bel (by omega) _ _ _))
    by_cases d3 : v15 = 0
    case neg =>
      have hno := Lib.hid (show ¬ Right xs from fun h => d3 (by rw [← H15.out]; exact h.2.2.2.1))
      have e0 : (genOf xs == 0) = false := by simpa using d0
      have e1 : decide ((48 : Int) < (fillOf xs : Int)) = false := by simp; omega
      have e3 : (v15 != 0) = true := by simpa using d3
      have e2 : (v14 != 0) = false := by simpa using d2
      have HD := Lib.hid d0
      clear d0 d3 d2
      go_wp2_with (with_reducible refine halt_end ?_)
      exact Halt.ret (results_row3 (p := 2) (u := 3) (v := 4) rfl _ _ (w.heap.size + 1) 34 _ _ rfl (HC.out.zero.set3 _ _ _) Try.underlying34 rfl size_stamp) rfl (rread_no HL.out HBY.out hno.out (below_set3 (g := w.heap.size + 1) HC.out.bel (by omega) _ _ _))
    have e0 : (genOf xs == 0) = false := by simpa using d0
    have e1 : decide ((48 : Int) < (fillOf xs : Int)) = false := by simp; omega
    have e2 : (v14 != 0) = false := by simpa using d2
    have e3 : (v15 != 0) = false := by simpa using d3
    have HD := Lib.hid d0
    have HD1 := Lib.hid d1
    have HD2 := Lib.hid d2
    have HD3 := Lib.hid d3
    have hf48 : fillOf xs ≤ 48 := by omega
    clear d0 d1 d2 d3
    go_wp2_with (with_reducible refine halt_end ?_)
    go_loop [6] (fun i => ∃ k : Nat, 16 + fillOf xs ≤ k ∧ k ≤ 64 ∧ i = .int .i64 k ∧ ∀ j, 16 + fillOf xs ≤ j → j < k → xs.getD j 0 = 0) (fun i => 64 - (intOf i).toNat)
    case atStart => exact ⟨16 + fillOf xs, by omega, by omega, by go_num, fun j h1 h2 => by omega⟩
    case round =>
      obtain ⟨k, hk1, hk2, rfl, hall⟩ := hrel
      by_cases hlt : k < 64
      · have hcell := HC.out.arr.cell (i := k) (by rw [HL.out]; omega) 0
        generalize hv : xs.getD k 0 = v at *
        have HV := Lib.hid hv
        have HALL := Lib.hid hall
        clear hv hall
        by_cases dv : v = 0
        · have ev : (v != 0) = false := by simpa using dv
          have HDV := Lib.hid dv
          clear dv
          go_wp2
          go_round
          case rel => exact ⟨k + 1, by omega, by omega, by go_num, fun j h1 h2 => by
            by_cases e : j = k
            · subst e; rw [HV.out]; exact HDV.out
            · exact HALL.out j h1 (by omega)⟩
          case measure => (simp [intOf] <;> omega)
        · have ev : (v != 0) = true := by simpa using dv
          have hno := Lib.hid (show ¬ Right xs from fun h => dv (by rw [← HV.out]; exact h.2.2.2.2 k hk1 hlt))
          clear dv
          go_wp2_with (with_reducible refine halt_end ?_)
          exact Halt.ret (results_row3 (p := 2) (u := 3) (v := 4) rfl _ _ (w.heap.size + 1) 34 _ _ rfl (HC.out.zero.set3 _ _ _) Try.underlying34 rfl size_stamp) rfl (rread_no HL.out HBY.out hno.out (below_set3 (g := w.heap.size + 1) HC.out.bel (by omega) _ _ _))
      · obtain rfl : k = 64 := by omega
        have hyes := Lib.hid (show Right xs from ⟨by have := HD.out; omega, hf48, by rw [H14.out]; exact HD2.out, by rw [H15.out]; exact HD3.out, hall⟩)
        clear hall
        obtain ⟨hm, hml⟩ := meant_right HL.out hf48
        have c1 := HST.out.cell 1
        simp only [List.getElem?_toArray, List.getElem?_cons_zero, List.getElem?_cons_succ] at c1
        have HM := Lib.hid (show RowI .u8 wc.drew (fun b => b < wc.drew.heap.size) (some ⟨w.heap.size, 16, none⟩) (fillOf xs) (meantOf xs) by
          rw [hm]
          exact HC.out.drew.arr.part 16 (fillOf xs) (by rw [HL.out]; omega) HC.out.arr.lt)
        have HML := Lib.hid hml
        have q1 : IntKind.i64.wrap (16 + (fillOf xs : Int)) = 16 + (fillOf xs : Int) := IntWalk.i64_in _ ⟨by omega, by omega⟩
        have q2 : 0 ≤ 16 + (fillOf xs : Int) := by omega
        have q3 : (16 + (fillOf xs : Int)).toNat = 16 + fillOf xs := by omega
        have hsl : ∀ W, (Instr.sliceAt 27 (.pointer (some ⟨w.heap.size, 0, none⟩)) (some (.int .i64 16)) (some (.int .i64 (16 + (fillOf xs : Int)))) none).run Try.prog W = .ok (.slice (some ⟨w.heap.size, 16, none⟩) (fillOf xs) 48) W := fun W => by
          have h := run_cut_blk w.heap.size 16 (16 + fillOf xs) (by omega) (by omega) (by omega) W
          rw [show 16 + fillOf xs - 16 = fillOf xs by omega, show ((16 + fillOf xs : Nat) : Int) = 16 + (fillOf xs : Int) by omega] at h
          exact h
        clear hm hml q3
        go_wp2_with fail
        go_region_held3 (fun W => W.cell? ⟨g, 0, none⟩ = some (.int .u64 (genOf xs)) ∧ W.cell? ⟨g, 1, none⟩ = some (.int .u32 (posOf xs)) ∧ W.cell? ⟨g, 2, none⟩ = some (.int .i64 (fillOf xs)))
          (first | exact ⟨c0, c1, c2⟩ | exact ⟨d0, d1, d2⟩ | exact ⟨f0, f1, f2⟩)
          ((go_at_call 26; refine (both_any (some ⟨w.heap.size, 16, none⟩) none (fillOf xs) 48 0 0 (meantOf xs) [] (fun b => b < wc.drew.heap.size) wc.drew HM.out (RowG.nil _ _ _ _ _) (fun b h => h) (by omega)).mono ?_; rintro e w7 ⟨A7, c7, rfl, _, _, hr7, hb7⟩; rw [List.append_nil] at *; have HR7 := Lib.hid hr7; have HB7 := Lib.hid hb7; have HC7 := Lib.hid (half_cells HC.out.drew hb7); have hs7 := (Blk.drew HST.out).below hb7 HST.out.lt; have d0 := hs7.cell 0; have d1 := hs7.cell 1; have d2 := hs7.cell 2; clear hr7 hb7 hs7; have x0 := HC7.out.zero.cell 0; have x1 := HC7.out.zero.cell 1; have x2 := HC7.out.zero.cell 2; have v0 := HC7.out.zero.frozen 0; have v1 := HC7.out.zero.frozen 1; have v2 := HC7.out.zero.frozen 2;
            have f0 := (cell_far3 w7 (w.heap.size + 1) (.int .u64 (genOf xs)) (.int .u32 (posOf xs)) (.int .i64 (fillOf xs)) (p := ⟨g, 0, none⟩) (show g ≠ w.heap.size + 1 by have := HGL.out; omega)).trans d0; have f1 := (cell_far3 w7 (w.heap.size + 1) (.int .u64 (genOf xs)) (.int .u32 (posOf xs)) (.int .i64 (fillOf xs)) (p := ⟨g, 1, none⟩) (show g ≠ w.heap.size + 1 by have := HGL.out; omega)).trans d1; have f2 := (cell_far3 w7 (w.heap.size + 1) (.int .u64 (genOf xs)) (.int .u32 (posOf xs)) (.int .i64 (fillOf xs)) (p := ⟨g, 2, none⟩) (show g ≠ w.heap.size + 1 by have := HGL.out; omega)).trans d2;
            simp only [List.getElem?_toArray, List.getElem?_cons_zero, List.getElem?_cons_succ] at d0 d1 d2 x0 x1 x2 f0 f1 f2))
        clear c0 c1 c2 c14 c15 z0 z1 z2 y0 y1 y2 d0 d1 d2 x0 x1 x2 v0 v1 v2 f0 f1 f2
        go_wp2_with (with_reducible refine halt_end ?_)
        have hz := HC7.out.zero.set3 (.int .u64 (genOf xs)) (.int .u32 (posOf xs)) (.int .i64 (fillOf xs))
        refine Halt.ret (results_row3 (p := 2) (u := 3) (v := 4) rfl _ _ (w.heap.size + 1) 34 _ _ rfl hz Try.underlying34 rfl size_stamp) rfl
          ⟨fun _ => ⟨_, _, rfl, ?_, below_set3 (g := w.heap.size + 1) HC7.out.bel (by omega) _ _ _⟩, fun h => absurd ((stamped_iff xs HL.out HBY.out).2 hyes.out) (by rw [h]; simp)⟩
        have hl1 := HC.out.zero.lt
        have h6 : wc.drew.heap.size = wc.heap.size := rfl
        refine (HR7.out.keep (fun p hp => cell_far3 w7 (w.heap.size + 1) _ _ _ ?_)).more (fun b hb => ⟨?_, ?_⟩)
        · have := hp.1
          omega
        · have := hb.1
          omega
        · simpa using hb.2

end Go.Proofs.Ytikeiloeeklkeaa
