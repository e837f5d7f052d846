/- The document's answers of layer 6: Need. -/
import Derived.Test.YtehldhdpeefljaaSrc
import Derived.Test.YtehldhdpeefljaaRRight
namespace Go.Proofs.Ytehldhdpeefljaa
open Go.RowKit
set_option linter.unusedVariables false

theorem rneed_short (A : Option Addr) (n c : Nat) (w : World) (hn : n < 21) :
    Calls Try.prog 23 #[.slice A n c] w fun e w' => e = .returned (.tuple #[.int .i64 0, .int .i64 9]) ∧ Below w.heap.size w w' := by
  go_enter Try.func23, Try.ntmps23
  go_wp2_with fail
  go_ret2
  exact ⟨rfl, Below.refl _ _⟩

def RNeedTold (xs : List Int) (w : World) (e : Ending) (w' : World) : Prop :=
  (MayB xs → e = .returned (.tuple #[.int .i64 ((needOf xs : Nat) : Int), .int .i64 0])) ∧ (¬ MayB xs → e = .returned (.tuple #[.int .i64 0, .int .i64 160])) ∧ Below w.heap.size w w'

set_option maxHeartbeats 4000000 in
theorem rneed_any (A : Option Addr) (n c : Nat) (xs : List Int) (S : Nat → Prop) (w : World) (hx : RowI .u8 w S A n xs) (hS : ∀ b, S b → b < w.heap.size) (hb : Bytes xs) (hn : 21 ≤ n) (hc : n ≤ c) :
    Calls Try.prog 23 #[.slice A n c] w (RNeedTold xs w) := by
  obtain ⟨b0, o0, rfl, hsrc⟩ := src_of hx hS (by omega)
  have hl := hx.1
  have hf := flags_bounds hb
  have hx' := exp_bounds hb
  have hkl := klen_lt hb
  have hvl := vlen_lt hb
  have hk0 : 0 ≤ kindOf xs ∧ kindOf xs ≤ 255 := by rw [kind_first (by omega)]; exact hb 0
  have HS0 := Lib.hid hsrc
  have HBY := Lib.hid hb
  have HKF := Lib.hid (kind_first (xs := xs) (by omega))
  have cell0 : w.cell? ⟨b0, o0, none⟩ = some (.int .u8 (kindOf xs)) := by rw [HKF.out]; exact hsrc.cell 0 (by omega)
  have h1 : ¬ ((n : Int) < 21) := by omega
  have hc21 : (21 : Int) ≤ c := by omega
  have kw : IntKind.i64.wrap (kindOf xs) = kindOf xs := by rw [IntKind.wrap_i64]; omega
  have fw : IntKind.u32.wrap (flagsOf xs) = flagsOf xs := by rw [IntKind.wrap_u32]; omega
  have xw : IntKind.u32.wrap (expOf xs) = expOf xs := by rw [IntKind.wrap_u32]; omega
  have HNF := Lib.hid (show numOf ((xs.drop 1).take 4) = flagsOf xs from rfl)
  have HNX := Lib.hid (show numOf ((xs.drop 5).take 4) = expOf xs from rfl)
  have HNS := Lib.hid (show numOf ((xs.drop 9).take 8) = seqOf xs from rfl)
  have HNK := Lib.hid (klen_eq hb)
  have HNV := Lib.hid (vlen_eq hb)
  clear hx hb hsrc
  have HSD := Lib.hid HS0.out.drew
  have c0 : w.drew.cell? ⟨b0, o0, none⟩ = some (.int .u8 (kindOf xs)) := cell0
  have hn0 : 0 < n := by omega
  have hs1 : ∀ W, (Instr.sliceAt 24 (.slice (some ⟨b0, o0, none⟩) n c) (some (.int .i64 1)) (some (.int .i64 5)) none).run Try.prog W = .ok (.slice (some ⟨b0, o0 + 1, none⟩) 4 (c - 1)) W := slice_lh b0 o0 n c 1 5 (by omega) (by omega) (by omega)
  have hs5 : ∀ W, (Instr.sliceAt 24 (.slice (some ⟨b0, o0, none⟩) n c) (some (.int .i64 5)) (some (.int .i64 9)) none).run Try.prog W = .ok (.slice (some ⟨b0, o0 + 5, none⟩) 4 (c - 5)) W := slice_lh b0 o0 n c 5 9 (by omega) (by omega) (by omega)
  have hs9 : ∀ W, (Instr.sliceAt 24 (.slice (some ⟨b0, o0, none⟩) n c) (some (.int .i64 9)) (some (.int .i64 17)) none).run Try.prog W = .ok (.slice (some ⟨b0, o0 + 9, none⟩) 8 (c - 9)) W := slice_lh b0 o0 n c 9 17 (by omega) (by omega) (by omega)
  have hs17 : ∀ W, (Instr.sliceAt 24 (.slice (some ⟨b0, o0, none⟩) n c) (some (.int .i64 17)) (some (.int .i64 19)) none).run Try.prog W = .ok (.slice (some ⟨b0, o0 + 17, none⟩) 2 (c - 17)) W := slice_lh b0 o0 n c 17 19 (by omega) (by omega) (by omega)
  have hs19 : ∀ W, (Instr.sliceAt 24 (.slice (some ⟨b0, o0, none⟩) n c) (some (.int .i64 19)) (some (.int .i64 21)) none).run Try.prog W = .ok (.slice (some ⟨b0, o0 + 19, none⟩) 2 (c - 19)) W := slice_lh b0 o0 n c 19 21 (by omega) (by omega) (by omega)
  go_enter Try.func23, Try.ntmps23
  go_upto_region 3 with fail
  go_cut [4] (fun s wx => ∃ g, s = .pointer (some ⟨g, 0, none⟩) ∧ w.heap.size ≤ g ∧ Blk wx g 26 (recC (kindOf xs) (flagsOf xs) (expOf xs) (seqOf xs) none 0 0 none 0 0) ∧ Src xs b0 o0 n w wx)
  case first =>
    go_region_held3 (fun W => W.cell? ⟨b0, o0, none⟩ = some (.int .u8 (kindOf xs)) ∧ Src xs b0 o0 n w W) (first | with_reducible exact ⟨c0, HSD.out⟩ | exact ⟨c0, HSD.out⟩ | exact ⟨(World.cell?_alloc_lt _ _ _ HSD.out.lt).trans c0, HSD.out.alloc _⟩)
      ((go_at_call 34; refine (rnum_any _ _ _ _ (fun _ => True) _ (by first | with_reducible exact Src.part (And.right (by assumption)) 1 4 (by omega) | with_reducible exact Src.part (And.right (by assumption)) 5 4 (by omega) | with_reducible exact Src.part (And.right (by assumption)) 9 8 (by omega)) (by first | exact bytes_part HBY.out 1 4 | exact bytes_part HBY.out 5 4 | exact bytes_part HBY.out 9 8) (by omega)).mono ?_; (first | rw [HNF.out] | rw [HNX.out] | rw [HNS.out]); rintro e w' ⟨rfl, rfl⟩))
    all_goals
      go_wp2_with fail
      go_meet
      exact ⟨w.heap.size, rfl, Nat.le_refl _, Blk.new w _ _, (HS0.out.alloc _).drew⟩
  case rest =>
    obtain ⟨g, rfl, hg, hblk, hsrc⟩ := hcut
    have HG := Lib.hid hg
    have HBK := Lib.hid hblk
    have HSR := Lib.hid hsrc
    clear hg hblk hsrc cell0 c0 HSD hs1 hs5 hs9
    have hmk := fun u : World => run_make_row' (P := Try.prog) 24 5 (.int .u8 0) 1 Try.underlying24 info_u8 rfl .u64 .u64 (klenOf xs) (by omega) (by omega) u
    have hmv := fun u : World => run_make_row' (P := Try.prog) 24 5 (.int .u8 0) 1 Try.underlying24 info_u8 rfl .u64 .u64 (vlenOf xs) (by omega) (by omega) u
    go_wp2_with fail
    refine (rnum_any _ 2 _ _ (fun _ => True) _ (HSR.out.part 17 2 (by omega)) (bytes_part HBY.out 17 2) (by omega)).mono ?_
    rintro e w' ⟨rfl, rfl⟩
    rw [HNK.out]
    have hb1 := HBK.out.alloc (.cells (madeCells #[.int .u8 0] (klenOf xs)) 5)
    have q0 := hb1.cell 4
    have q1 := hb1.frozen 4
    simp only [List.getElem?_toArray, List.getElem?_cons_zero, List.getElem?_cons_succ] at q0
    have HBK1 := Lib.hid (show Blk _ g 26 (recC (kindOf xs) (flagsOf xs) (expOf xs) (seqOf xs) (some ⟨wc.heap.size, 0, none⟩) (klenOf xs) (klenOf xs) none 0 0) from hb1.set_ 4 (.slice (some ⟨wc.heap.size, 0, none⟩) (klenOf xs) (klenOf xs)))
    have HSR1 := Lib.hid ((HSR.out.alloc (.cells (madeCells #[.int .u8 0] (klenOf xs)) 5)).setCell (p := ⟨g, 4, none⟩) HG.out (.slice (some ⟨wc.heap.size, 0, none⟩) (klenOf xs) (klenOf xs)))
    clear hb1
    go_wp2_with fail
    clear q0 q1
    generalize hw1 : World.setCell _ _ _ = w1 at *
    clear hw1
    refine (rnum_any _ 2 _ _ (fun _ => True) _ (HSR1.out.part 19 2 (by omega)) (bytes_part HBY.out 19 2) (by omega)).mono ?_
    rintro e w' ⟨rfl, rfl⟩
    rw [HNV.out]
    have hb2 := HBK1.out.alloc (.cells (madeCells #[.int .u8 0] (vlenOf xs)) 5)
    have q0 := hb2.cell 5
    have q1 := hb2.frozen 5
    simp only [List.getElem?_toArray, List.getElem?_cons_zero, List.getElem?_cons_succ] at q0
    have HBK2 := Lib.hid (show Blk _ g 26 (recC (kindOf xs) (flagsOf xs) (expOf xs) (seqOf xs) (some ⟨wc.heap.size, 0, none⟩) (klenOf xs) (klenOf xs) (some ⟨w1.heap.size, 0, none⟩) (vlenOf xs) (vlenOf xs)) from hb2.set_ 5 (.slice (some ⟨w1.heap.size, 0, none⟩) (vlenOf xs) (vlenOf xs)))
    have HSR2 := Lib.hid ((HSR1.out.alloc (.cells (madeCells #[.int .u8 0] (vlenOf xs)) 5)).setCell (p := ⟨g, 5, none⟩) HG.out (.slice (some ⟨w1.heap.size, 0, none⟩) (vlenOf xs) (vlenOf xs)))
    clear hb2
    go_wp2_with (refine wpList_load_rowB (.tmp 4) 26 rfl rfl g rfl 26 [.int .i64 (kindOf xs), .int .u32 (flagsOf xs), .int .u32 (expOf xs), .int .u64 (seqOf xs), .slice (some ⟨wc.heap.size, 0, none⟩) (klenOf xs) (klenOf xs), .slice (some ⟨w1.heap.size, 0, none⟩) (vlenOf xs) (vlenOf xs)] _ Try.underlying26 rfl size_rec HBK2.out ?_)
    clear q0 q1
    generalize hw2 : World.setCell _ _ _ = w2 at *
    clear hw2
    by_cases hm : MayB xs
    · have HM := Lib.hid hm
      refine (rright_yes _ _ _ _ _ _ _ _ _ _ w2 hm).mono ?_
      rintro e w3 ⟨rfl, hb⟩
      have HB3 := Lib.hid (HSR2.out.bel.trans (hb.mono HSR2.out.bel.size))
      have hb3 := HBK2.out.below hb HBK2.out.lt
      have q0 := hb3.cell 4
      have q1 := hb3.cell 5
      simp only [List.getElem?_toArray, List.getElem?_cons_zero, List.getElem?_cons_succ] at q0 q1
      clear hb hb3 hm hmk hmv
      go_wp2_with fail
      go_ret2
      refine ⟨fun _ => ?_, fun h => absurd HM.out h, HB3.out⟩
      show Ending.returned (.tuple #[.int .i64 _, .int .i64 0]) = _
      have e : (21 + (klenOf xs : Int) + vlenOf xs) = ((needOf xs : Nat) : Int) := by unfold needOf; omega
      rw [← e]
    · have HM := Lib.hid hm
      refine (rright_no _ _ _ _ _ _ _ _ _ _ w2 hm).mono ?_
      rintro e w3 ⟨rfl, hb⟩
      have HB3 := Lib.hid (HSR2.out.bel.trans (hb.mono HSR2.out.bel.size))
      clear hb hm hmk hmv
      go_wp2_with fail
      go_ret2
      exact ⟨fun h => absurd h HM.out, fun _ => rfl, HB3.out⟩

end Go.Proofs.Ytehldhdpeefljaa
