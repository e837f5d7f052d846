/- Texts of LogOpens, packed. -/
import Derived.Test.YtodcohkblgjfeaaGreatPackLogOpens3
import Derived.Deep.RegionHeld3
import Derived.Deep.DeepCutAuto
import Derived.Great.FillDense
set_option linter.unusedVariables false
set_option linter.unusedSimpArgs false
namespace Go.Proofs.YtodcohkblgjfeaaGreat
set_option maxRecDepth 100000
open Go.RowKit
set_option linter.unusedVariables false
theorem rneed_short (A : Option Addr) (n c : Nat) (w : World) (hn : n < 21) :
    Calls Tryz.prog 116 #[.slice A n c] w fun e w' => e = .returned (.tuple #[.int .i64 0, .int .i64 9]) ∧ Below w.heap.size w w' := by
  go_enter Tryz.func116, Tryz.ntmps116
  go_wp2_with fail
  go_ret2
  exact ⟨rfl, Below.refl _ _⟩
def RNeedTold (xs : List Int) (w : World) (e : Ending) (w' : World) : Prop :=
  (MayB xs → e = .returned (.tuple #[.int .i64 ((needOf xs : Nat) : Int), .int .i64 0])) ∧ (¬ MayB xs → e = .returned (.tuple #[.int .i64 0, .int .i64 160])) ∧ Below w.heap.size w w'
set_option maxHeartbeats 4000000 in
theorem rneed_any (A : Option Addr) (n c : Nat) (xs : List Int) (S : Nat → Prop) (w : World) (hx : RowI .u8 w S A n xs) (hS : ∀ b, S b → b < w.heap.size) (hb : Bytes xs) (hn : 21 ≤ n) (hc : n ≤ c) :
    Calls Tryz.prog 116 #[.slice A n c] w (RNeedTold xs w) := by
  obtain ⟨b0, o0, rfl, hsrc⟩ := src_of hx hS (by omega)
  have hl := hx.1
  have hf := flags_bounds hb
  have hx' := exp_bounds hb
  have hkl := klen_lt hb
  have hvl := vlen_lt hb
  have hk0 : 0 ≤ kindOf xs ∧ kindOf xs ≤ 255 := by rw [kind_first (by omega)]; exact hb 0
  have HS0 := Lib.hid hsrc
  have HBY := Lib.hid hb
  have HKF := Lib.hid (kind_first (xs := xs) (by omega))
  have cell0 : w.cell? ⟨b0, o0, none⟩ = some (.int .u8 (kindOf xs)) := by rw [HKF.out]; exact hsrc.cell 0 (by omega)
  have h1 : ¬ ((n : Int) < 21) := by omega
  have hc21 : (21 : Int) ≤ c := by omega
  have kw : IntKind.i64.wrap (kindOf xs) = kindOf xs := by rw [IntKind.wrap_i64]; omega
  have fw : IntKind.u32.wrap (flagsOf xs) = flagsOf xs := by rw [IntKind.wrap_u32]; omega
  have xw : IntKind.u32.wrap (expOf xs) = expOf xs := by rw [IntKind.wrap_u32]; omega
  have HNF := Lib.hid (show numOf ((xs.drop 1).take 4) = flagsOf xs from rfl)
  have HNX := Lib.hid (show numOf ((xs.drop 5).take 4) = expOf xs from rfl)
  have HNS := Lib.hid (show numOf ((xs.drop 9).take 8) = seqOf xs from rfl)
  have HNK := Lib.hid (klen_eq hb)
  have HNV := Lib.hid (vlen_eq hb)
  clear hx hb hsrc
  have HSD := Lib.hid HS0.out.drew
  have c0 : w.drew.cell? ⟨b0, o0, none⟩ = some (.int .u8 (kindOf xs)) := cell0
  have hn0 : 0 < n := by omega
  have hs1 : ∀ W, (Instr.sliceAt 42 (.slice (some ⟨b0, o0, none⟩) n c) (some (.int .i64 1)) (some (.int .i64 5)) none).run Tryz.prog W = .ok (.slice (some ⟨b0, o0 + 1, none⟩) 4 (c - 1)) W := slice_lh b0 o0 n c 1 5 (by omega) (by omega) (by omega)
  have hs5 : ∀ W, (Instr.sliceAt 42 (.slice (some ⟨b0, o0, none⟩) n c) (some (.int .i64 5)) (some (.int .i64 9)) none).run Tryz.prog W = .ok (.slice (some ⟨b0, o0 + 5, none⟩) 4 (c - 5)) W := slice_lh b0 o0 n c 5 9 (by omega) (by omega) (by omega)
  have hs9 : ∀ W, (Instr.sliceAt 42 (.slice (some ⟨b0, o0, none⟩) n c) (some (.int .i64 9)) (some (.int .i64 17)) none).run Tryz.prog W = .ok (.slice (some ⟨b0, o0 + 9, none⟩) 8 (c - 9)) W := slice_lh b0 o0 n c 9 17 (by omega) (by omega) (by omega)
  have hs17 : ∀ W, (Instr.sliceAt 42 (.slice (some ⟨b0, o0, none⟩) n c) (some (.int .i64 17)) (some (.int .i64 19)) none).run Tryz.prog W = .ok (.slice (some ⟨b0, o0 + 17, none⟩) 2 (c - 17)) W := slice_lh b0 o0 n c 17 19 (by omega) (by omega) (by omega)
  have hs19 : ∀ W, (Instr.sliceAt 42 (.slice (some ⟨b0, o0, none⟩) n c) (some (.int .i64 19)) (some (.int .i64 21)) none).run Tryz.prog W = .ok (.slice (some ⟨b0, o0 + 19, none⟩) 2 (c - 19)) W := slice_lh b0 o0 n c 19 21 (by omega) (by omega) (by omega)
  go_enter Tryz.func116, Tryz.ntmps116
  go_upto_region 3 with fail
  go_cut [4] (fun s wx => ∃ g, s = .pointer (some ⟨g, 0, none⟩) ∧ w.heap.size ≤ g ∧ Blk wx g 44 (recC (kindOf xs) (flagsOf xs) (expOf xs) (seqOf xs) none 0 0 none 0 0) ∧ Src xs b0 o0 n w wx)
  case first =>
    go_region_held3 (fun W => W.cell? ⟨b0, o0, none⟩ = some (.int .u8 (kindOf xs)) ∧ Src xs b0 o0 n w W) (first | with_reducible exact ⟨c0, HSD.out⟩ | exact ⟨c0, HSD.out⟩ | exact ⟨(World.cell?_alloc_lt _ _ _ HSD.out.lt).trans c0, HSD.out.alloc _⟩)
      ((go_at_call 152; refine (rnum_any _ _ _ _ (fun _ => True) _ (by first | with_reducible exact Src.part (And.right (by assumption)) 1 4 (by omega) | with_reducible exact Src.part (And.right (by assumption)) 5 4 (by omega) | with_reducible exact Src.part (And.right (by assumption)) 9 8 (by omega)) (by first | exact bytes_part HBY.out 1 4 | exact bytes_part HBY.out 5 4 | exact bytes_part HBY.out 9 8) (by omega)).mono ?_; (first | rw [HNF.out] | rw [HNX.out] | rw [HNS.out]); rintro e w' ⟨rfl, rfl⟩))
    all_goals
      go_wp2_with fail
      go_meet
      exact ⟨w.heap.size, rfl, Nat.le_refl _, Blk.new w _ _, (HS0.out.alloc _).drew⟩
  case rest =>
    obtain ⟨g, rfl, hg, hblk, hsrc⟩ := hcut
    have HG := Lib.hid hg
    have HBK := Lib.hid hblk
    have HSR := Lib.hid hsrc
    clear hg hblk hsrc cell0 c0 HSD hs1 hs5 hs9
    have hmk := fun u : World => run_make_row' (P := Tryz.prog) 42 5 (.int .u8 0) 1 Tryz.underlying42 info_u8 rfl .u64 .u64 (klenOf xs) (by omega) (by omega) u
    have hmv := fun u : World => run_make_row' (P := Tryz.prog) 42 5 (.int .u8 0) 1 Tryz.underlying42 info_u8 rfl .u64 .u64 (vlenOf xs) (by omega) (by omega) u
    go_wp2_with fail
    refine (rnum_any _ 2 _ _ (fun _ => True) _ (HSR.out.part 17 2 (by omega)) (bytes_part HBY.out 17 2) (by omega)).mono ?_
    rintro e w' ⟨rfl, rfl⟩
    rw [HNK.out]
    have hb1 := HBK.out.alloc (.cells (madeCells #[.int .u8 0] (klenOf xs)) 5)
    have q0 := hb1.cell 4
    have q1 := hb1.frozen 4
    simp only [List.getElem?_toArray, List.getElem?_cons_zero, List.getElem?_cons_succ] at q0
    have HBK1 := Lib.hid (show Blk _ g 44 (recC (kindOf xs) (flagsOf xs) (expOf xs) (seqOf xs) (some ⟨wc.heap.size, 0, none⟩) (klenOf xs) (klenOf xs) none 0 0) from hb1.set_ 4 (.slice (some ⟨wc.heap.size, 0, none⟩) (klenOf xs) (klenOf xs)))
    have HSR1 := Lib.hid ((HSR.out.alloc (.cells (madeCells #[.int .u8 0] (klenOf xs)) 5)).setCell (p := ⟨g, 4, none⟩) HG.out (.slice (some ⟨wc.heap.size, 0, none⟩) (klenOf xs) (klenOf xs)))
    clear hb1
    go_wp2_with fail
    clear q0 q1
    generalize hw1 : World.setCell _ _ _ = w1 at *
    clear hw1
    refine (rnum_any _ 2 _ _ (fun _ => True) _ (HSR1.out.part 19 2 (by omega)) (bytes_part HBY.out 19 2) (by omega)).mono ?_
    rintro e w' ⟨rfl, rfl⟩
    rw [HNV.out]
    have hb2 := HBK1.out.alloc (.cells (madeCells #[.int .u8 0] (vlenOf xs)) 5)
    have q0 := hb2.cell 5
    have q1 := hb2.frozen 5
    simp only [List.getElem?_toArray, List.getElem?_cons_zero, List.getElem?_cons_succ] at q0
    have HBK2 := Lib.hid (show Blk _ g 44 (recC (kindOf xs) (flagsOf xs) (expOf xs) (seqOf xs) (some ⟨wc.heap.size, 0, none⟩) (klenOf xs) (klenOf xs) (some ⟨w1.heap.size, 0, none⟩) (vlenOf xs) (vlenOf xs)) from hb2.set_ 5 (.slice (some ⟨w1.heap.size, 0, none⟩) (vlenOf xs) (vlenOf xs)))
    have HSR2 := Lib.hid ((HSR1.out.alloc (.cells (madeCells #[.int .u8 0] (vlenOf xs)) 5)).setCell (p := ⟨g, 5, none⟩) HG.out (.slice (some ⟨w1.heap.size, 0, none⟩) (vlenOf xs) (vlenOf xs)))
    clear hb2
    go_wp2_with (refine wpList_load_rowB (.tmp 4) 44 rfl rfl g rfl 44 [.int .i64 (kindOf xs), .int .u32 (flagsOf xs), .int .u32 (expOf xs), .int .u64 (seqOf xs), .slice (some ⟨wc.heap.size, 0, none⟩) (klenOf xs) (klenOf xs), .slice (some ⟨w1.heap.size, 0, none⟩) (vlenOf xs) (vlenOf xs)] _ Tryz.underlying44 rfl size_rec HBK2.out ?_)
    clear q0 q1
    generalize hw2 : World.setCell _ _ _ = w2 at *
    clear hw2
    by_cases hm : MayB xs
    · have HM := Lib.hid hm
      refine (rright_yes _ _ _ _ _ _ _ _ _ _ w2 hm).mono ?_
      rintro e w3 ⟨rfl, hb⟩
      have HB3 := Lib.hid (HSR2.out.bel.trans (hb.mono HSR2.out.bel.size))
      have hb3 := HBK2.out.below hb HBK2.out.lt
      have q0 := hb3.cell 4
      have q1 := hb3.cell 5
      simp only [List.getElem?_toArray, List.getElem?_cons_zero, List.getElem?_cons_succ] at q0 q1
      clear hb hb3 hm hmk hmv
      go_wp2_with fail
      go_ret2
      refine ⟨fun _ => ?_, fun h => absurd HM.out h, HB3.out⟩
      show Ending.returned (.tuple #[.int .i64 _, .int .i64 0]) = _
      have e : (21 + (klenOf xs : Int) + vlenOf xs) = ((needOf xs : Nat) : Int) := by unfold needOf; omega
      rw [← e]
    · have HM := Lib.hid hm
      refine (rright_no _ _ _ _ _ _ _ _ _ _ w2 hm).mono ?_
      rintro e w3 ⟨rfl, hb⟩
      have HB3 := Lib.hid (HSR2.out.bel.trans (hb.mono HSR2.out.bel.size))
      clear hb hm hmk hmv
      go_wp2_with fail
      go_ret2
      exact ⟨fun h => absurd h HM.out, fun _ => rfl, HB3.out⟩
end Go.Proofs.YtodcohkblgjfeaaGreat

namespace Go.Proofs.YtodcohkblgjfeaaGreat
set_option maxRecDepth 100000
open Go.RowKit
set_option linter.unusedVariables false
abbrev emptyO : Obj := .cells #[] 5
theorem own_e1 (w : World) (base : Nat) (h : base ≤ w.heap.size) : (w.alloc (.cells #[] 5)).ownsRow base 5 1 (.slice (some ⟨w.heap.size, 0, none⟩) 0 0) 0 [] :=
  World.ownsRow_made w #[] 0 h (by unfold maxLen; omega) (by simp)
theorem own_e2 (w : World) (o : Obj) (base : Nat) (h : base ≤ w.heap.size) : ((w.alloc o).alloc (.cells #[] 5)).ownsRow base 5 1 (.slice (some ⟨w.heap.size + 1, 0, none⟩) 0 0) 0 [] := by
  have := own_e1 (w.alloc o) base (by simp; omega)
  rw [show (w.alloc o).heap.size = w.heap.size + 1 by simp] at this
  exact this
def Held (xs : List Int) (b0 o0 n : Nat) (w W : World) : Prop := W.cell? ⟨b0, o0, none⟩ = some (.int .u8 (kindOf xs)) ∧ Src xs b0 o0 n w W
section
variable {xs : List Int} {b0 o0 n : Nat} {w W W' : World}
theorem held_below (h : W.cell? ⟨b0, o0, none⟩ = some (.int .u8 (kindOf xs)) ∧ Src xs b0 o0 n w W) (hb : Below W.heap.size W W') : W'.cell? ⟨b0, o0, none⟩ = some (.int .u8 (kindOf xs)) ∧ Src xs b0 o0 n w W' :=
  ⟨(hb.cell (Nat.lt_of_lt_of_le h.2.lt h.2.bel.size)).trans h.1, h.2.below hb⟩
theorem held_alloc (h : W.cell? ⟨b0, o0, none⟩ = some (.int .u8 (kindOf xs)) ∧ Src xs b0 o0 n w W) (o : Obj) : (W.alloc o).cell? ⟨b0, o0, none⟩ = some (.int .u8 (kindOf xs)) ∧ Src xs b0 o0 n w (W.alloc o) := held_below h ((Below.refl _ _).alloc (Nat.le_refl _) _)
theorem held_drew (h : W.cell? ⟨b0, o0, none⟩ = some (.int .u8 (kindOf xs)) ∧ Src xs b0 o0 n w W) : W.drew.cell? ⟨b0, o0, none⟩ = some (.int .u8 (kindOf xs)) ∧ Src xs b0 o0 n w W.drew := ⟨h.1, h.2.drew⟩
theorem held_set6 (h : W.cell? ⟨b0, o0, none⟩ = some (.int .u8 (kindOf xs)) ∧ Src xs b0 o0 n w W) (u0 u1 u2 u3 u4 u5 : Value) :
    ((((((W.setCell ⟨w.heap.size, 0, none⟩ u0).setCell ⟨w.heap.size, 1, none⟩ u1).setCell ⟨w.heap.size, 2, none⟩ u2).setCell ⟨w.heap.size, 3, none⟩ u3).setCell ⟨w.heap.size, 4, none⟩ u4).setCell ⟨w.heap.size, 5, none⟩ u5).cell? ⟨b0, o0, none⟩ = some (.int .u8 (kindOf xs)) ∧
      Src xs b0 o0 n w ((((((W.setCell ⟨w.heap.size, 0, none⟩ u0).setCell ⟨w.heap.size, 1, none⟩ u1).setCell ⟨w.heap.size, 2, none⟩ u2).setCell ⟨w.heap.size, 3, none⟩ u3).setCell ⟨w.heap.size, 4, none⟩ u4).setCell ⟨w.heap.size, 5, none⟩ u5) :=
  ⟨(cell_far6 W w.heap.size u0 u1 u2 u3 u4 u5 (p := ⟨b0, o0, none⟩) (Nat.ne_of_lt h.2.lt)).trans h.1,
    (((((h.2.setCell (p := ⟨w.heap.size, 0, none⟩) (Nat.le_refl _) u0).setCell (p := ⟨w.heap.size, 1, none⟩) (Nat.le_refl _) u1).setCell (p := ⟨w.heap.size, 2, none⟩) (Nat.le_refl _) u2).setCell (p := ⟨w.heap.size, 3, none⟩) (Nat.le_refl _) u3).setCell (p := ⟨w.heap.size, 4, none⟩) (Nat.le_refl _) u4).setCell (p := ⟨w.heap.size, 5, none⟩) (Nat.le_refl _) u5⟩
end
theorem rdec_short (A : Option Addr) (n c : Nat) (w : World) (hn : n < 21) :
    Calls Tryz.prog 118 #[.slice A n c] w fun e w' => e = .returned (.tuple #[.agg #[.int .i64 0, .int .u32 0, .int .u32 0, .int .u64 0, .slice none 0 0, .slice none 0 0], .int .i64 0, .int .i64 9]) ∧ Below w.heap.size w w' := by
  go_enter Tryz.func118, Tryz.ntmps118
  go_wp2_with fail
  refine (rneed_short A n c _ hn).mono ?_
  rintro e w1 ⟨rfl, hb⟩
  have HB1 := Lib.hid (((Below.refl w.heap.size w).alloc (Nat.le_refl _) _).trans (hb.mono (by simp)))
  have hres := (Blk.new w 44 zeroC).below hb (by simp)
  have HRES := Lib.hid hres
  clear hb hres
  go_wp2_with (first
    | (refine wpList_store_rowB (.tmp 2) (.tmp 15) 44 rfl rfl w.heap.size zeroC rfl rfl 44 _ HRES.out size_rec rfl one_zero ?_)
    | (with_reducible refine halt_end ?_))
  exact Halt.ret (results_row3 (p := 2) (u := 3) (v := 4) rfl _ _ w.heap.size 44 zeroC _ rfl (setRow_heap _ _ _ zeroC _ _ HRES.out) Tryz.underlying44 rfl size_rec) rfl ⟨rfl, below_setRow HB1.out (Nat.le_refl _) _⟩
theorem rdec_bad (A : Option Addr) (n c : Nat) (xs : List Int) (S : Nat → Prop) (w : World) (hx : RowI .u8 w S A n xs) (hS : ∀ b, S b → b < w.heap.size) (hb : Bytes xs) (hn : 21 ≤ n) (hc : n ≤ c) (hm : ¬ MayB xs) :
    Calls Tryz.prog 118 #[.slice A n c] w fun e w' => e = .returned (.tuple #[.agg #[.int .i64 0, .int .u32 0, .int .u32 0, .int .u64 0, .slice none 0 0, .slice none 0 0], .int .i64 0, .int .i64 160]) ∧ Below w.heap.size w w' := by
  have HX := Lib.hid (hx.keep (w' := w.alloc (.cells zeroC 44)) fun p hp => World.cell?_alloc_lt w _ p (hS _ hp))
  clear hx
  go_enter Tryz.func118, Tryz.ntmps118
  go_wp2_with fail
  refine (rneed_any A n c xs S _ HX.out (fun b h => by have := hS b h; simp; omega) hb hn hc).mono ?_
  rintro e w1 ⟨_, he, hb⟩
  obtain rfl := he hm
  clear he
  have HB1 := Lib.hid (((Below.refl w.heap.size w).alloc (Nat.le_refl _) _).trans (hb.mono (by simp)))
  have hres := (Blk.new w 44 zeroC).below hb (by simp)
  have HRES := Lib.hid hres
  clear hb hres
  go_wp2_with (first
    | (refine wpList_store_rowB (.tmp 2) (.tmp 15) 44 rfl rfl w.heap.size zeroC rfl rfl 44 _ HRES.out size_rec rfl one_zero ?_)
    | (with_reducible refine halt_end ?_))
  exact Halt.ret (results_row3 (p := 2) (u := 3) (v := 4) rfl _ _ w.heap.size 44 zeroC _ rfl (setRow_heap _ _ _ zeroC _ _ HRES.out) Tryz.underlying44 rfl size_rec) rfl ⟨rfl, below_setRow HB1.out (Nat.le_refl _) _⟩
theorem rdec_cut (A : Option Addr) (n c : Nat) (xs : List Int) (S : Nat → Prop) (w : World) (hx : RowI .u8 w S A n xs) (hS : ∀ b, S b → b < w.heap.size) (hb : Bytes xs) (hn : 21 ≤ n) (hc : n ≤ c) (hm : MayB xs) (hlt : n < needOf xs) :
    Calls Tryz.prog 118 #[.slice A n c] w fun e w' => e = .returned (.tuple #[.agg #[.int .i64 0, .int .u32 0, .int .u32 0, .int .u64 0, .slice none 0 0, .slice none 0 0], .int .i64 0, .int .i64 9]) ∧ Below w.heap.size w w' := by
  have HX := Lib.hid (hx.keep (w' := w.alloc (.cells zeroC 44)) fun p hp => World.cell?_alloc_lt w _ p (hS _ hp))
  clear hx
  go_enter Tryz.func118, Tryz.ntmps118
  go_wp2_with fail
  refine (rneed_any A n c xs S _ HX.out (fun b h => by have := hS b h; simp; omega) hb hn hc).mono ?_
  rintro e w1 ⟨he, _, hb⟩
  obtain rfl := he hm
  clear he
  have HB1 := Lib.hid (((Below.refl w.heap.size w).alloc (Nat.le_refl _) _).trans (hb.mono (by simp)))
  have hres := (Blk.new w 44 zeroC).below hb (by simp)
  have HRES := Lib.hid hres
  have hlt' : decide ((n : Int) < (needOf xs : Int)) = true := by simp; omega
  generalize needOf xs = nd at *
  clear hb hres
  go_wp2_with (first
    | (refine wpList_store_rowB (.tmp 2) (.tmp 21) 44 rfl rfl w.heap.size zeroC rfl rfl 44 _ HRES.out size_rec rfl one_zero ?_)
    | (with_reducible refine halt_end ?_))
  exact Halt.ret (results_row3 (p := 2) (u := 3) (v := 4) rfl _ _ w.heap.size 44 zeroC _ rfl (setRow_heap _ _ _ zeroC _ _ HRES.out) Tryz.underlying44 rfl size_rec) rfl ⟨rfl, below_setRow HB1.out (Nat.le_refl _) _⟩
end Go.Proofs.YtodcohkblgjfeaaGreat

namespace Go.Proofs.YtodcohkblgjfeaaGreat
set_option maxRecDepth 100000
open Go.RowKit
set_option linter.unusedVariables false
def needK (xs : List Int) (n : Nat) : Nat := if 21 ≤ n ∧ MayB xs then needOf xs else 0
def needE (xs : List Int) (n : Nat) : Int := if 21 ≤ n ∧ MayB xs then 0 else errOf xs n
theorem need_all (A : Option Addr) (n c : Nat) (xs : List Int) (S : Nat → Prop) (w : World) (hx : RowI .u8 w S A n xs) (hS : ∀ b, S b → b < w.heap.size) (hb : Bytes xs) (hc : n ≤ c) :
    Calls Tryz.prog 147 #[.slice A n c] w fun e w' => e = .returned (.tuple #[.int .i64 ((needK xs n : Nat) : Int), .int .i64 (needE xs n)]) ∧ Below w.heap.size w w' := by
  by_cases h1 : n < 21
  · rw [show needK xs n = 0 from if_neg (by omega), show needE xs n = errOf xs n from if_neg (by omega), errOf_short h1]
    exact need_short A n c w h1
  by_cases h2 : MayB xs
  · rw [show needK xs n = needOf xs from if_pos ⟨by omega, h2⟩, show needE xs n = 0 from if_pos ⟨by omega, h2⟩]
    exact need_ok A n c xs S w hx hS hb (by omega) hc h2
  · rw [show needK xs n = 0 from if_neg fun h => h2 h.2, show needE xs n = errOf xs n from if_neg fun h => h2 h.2, errOf_bad (by omega) h2]
    exact need_bad A n c xs S w hx hS hb (by omega) hc h2
theorem rneed_all (A : Option Addr) (n c : Nat) (xs : List Int) (S : Nat → Prop) (w : World) (hx : RowI .u8 w S A n xs) (hS : ∀ b, S b → b < w.heap.size) (hb : Bytes xs) (hc : n ≤ c) :
    Calls Tryz.prog 116 #[.slice A n c] w fun e w' => e = .returned (.tuple #[.int .i64 ((needK xs n : Nat) : Int), .int .i64 (needE xs n)]) ∧ Below w.heap.size w w' := by
  by_cases h1 : n < 21
  · rw [show needK xs n = 0 from if_neg (by omega), show needE xs n = errOf xs n from if_neg (by omega), errOf_short h1]
    exact rneed_short A n c w h1
  by_cases h2 : MayB xs
  · rw [show needK xs n = needOf xs from if_pos ⟨by omega, h2⟩, show needE xs n = 0 from if_pos ⟨by omega, h2⟩]
    exact (rneed_any A n c xs S w hx hS hb (by omega) hc).mono fun e w' h => ⟨h.1 h2, h.2.2⟩
  · rw [show needK xs n = 0 from if_neg fun h => h2 h.2, show needE xs n = errOf xs n from if_neg fun h => h2 h.2, errOf_bad (by omega) h2]
    exact (rneed_any A n c xs S w hx hS hb (by omega) hc).mono fun e w' h => ⟨h.2.1 h2, h.2.2⟩
theorem rdec_no (A : Option Addr) (n c : Nat) (xs : List Int) (S : Nat → Prop) (w : World) (hx : RowI .u8 w S A n xs) (hS : ∀ b, S b → b < w.heap.size) (hb : Bytes xs) (hc : n ≤ c) (h : ¬ DecOk xs n) :
    Calls Tryz.prog 118 #[.slice A n c] w fun e w' => e = .returned (.tuple #[.agg #[.int .i64 0, .int .u32 0, .int .u32 0, .int .u64 0, .slice none 0 0, .slice none 0 0], .int .i64 0, .int .i64 (errOf xs n)]) ∧ Below w.heap.size w w' := by
  by_cases h1 : n < 21
  · rw [errOf_short h1]
    exact rdec_short A n c w h1
  by_cases h2 : MayB xs
  · rw [errOf_cut h2]
    exact rdec_cut A n c xs S w hx hS hb (by omega) hc h2 (by rcases Nat.lt_or_ge n (needOf xs) with h3 | h3; exact h3; exact absurd ⟨by omega, h2, h3⟩ h)
  · rw [errOf_bad (by omega) h2]
    exact rdec_bad A n c xs S w hx hS hb (by omega) hc h2
end Go.Proofs.YtodcohkblgjfeaaGreat

namespace Go.Proofs.YtodcohkblgjfeaaGreat
set_option maxRecDepth 100000
open Go.RowKit
set_option linter.unusedVariables false
abbrev supC (a b g r v f : Int) : Array Value := #[.int .i64 a, .int .i64 b, .int .u64 g, .int .u64 r, .int .u64 v, .int .u64 f]
abbrev turC (a b g r v f t : Int) : Array Value := #[.int .i64 a, .int .i64 b, .int .u64 g, .int .u64 r, .int .u64 v, .int .u64 f, .int .u64 t]
theorem size_sup : (Tryz.prog.info? 32).map (·.size) = some 6 := by kernel_rfl
theorem size_tur : (Tryz.prog.info? 151).map (·.size) = some 7 := by kernel_rfl
def MayS (a b g r : Int) : Prop := 4 ≤ a ∧ a ≤ 16 ∧ 24 ≤ b ∧ b ≤ 64 ∧ r ≤ g
instance aI7May0 (a b g r : Int) : Decidable (MayS a b g r) := by unfold MayS; infer_instance
theorem may_any (a b g r v f : Int) (w : World) :
    Calls Tryz.prog 135 #[.agg (supC a b g r v f)] w fun e w' => e = .returned (.bool (decide (MayS a b g r))) ∧ Below w.heap.size w w' := by
  by_cases h0 : (4 : Int) ≤ a
  case neg =>
    have hno : decide (MayS a b g r) = false := decide_eq_false (fun h => h0 h.1)
    rw [hno]
    have e0 : decide ((4 : Int) ≤ a) = false := decide_eq_false h0
    go_enter Tryz.func135, Tryz.ntmps135
    go_wp2
    go_ret
    exact ⟨rfl, (Below.refl _ _).alloc (Nat.le_refl _) _⟩
  have e0 : decide ((4 : Int) ≤ a) = true := decide_eq_true h0
  by_cases h1 : a ≤ (16 : Int)
  case neg =>
    have hno : decide (MayS a b g r) = false := decide_eq_false (fun h => h1 h.2.1)
    rw [hno]
    have e1 : decide (a ≤ (16 : Int)) = false := decide_eq_false h1
    go_enter Tryz.func135, Tryz.ntmps135
    go_wp2
    go_ret
    exact ⟨rfl, (Below.refl _ _).alloc (Nat.le_refl _) _⟩
  have e1 : decide (a ≤ (16 : Int)) = true := decide_eq_true h1
  by_cases h2 : (24 : Int) ≤ b
  case neg =>
    have hno : decide (MayS a b g r) = false := decide_eq_false (fun h => h2 h.2.2.1)
    rw [hno]
    have e2 : decide ((24 : Int) ≤ b) = false := decide_eq_false h2
    go_enter Tryz.func135, Tryz.ntmps135
    go_wp2
    go_ret
    exact ⟨rfl, (Below.refl _ _).alloc (Nat.le_refl _) _⟩
  have e2 : decide ((24 : Int) ≤ b) = true := decide_eq_true h2
  by_cases h3 : b ≤ (64 : Int)
  case neg =>
    have hno : decide (MayS a b g r) = false := decide_eq_false (fun h => h3 h.2.2.2.1)
    rw [hno]
    have e3 : decide (b ≤ (64 : Int)) = false := decide_eq_false h3
    go_enter Tryz.func135, Tryz.ntmps135
    go_wp2
    go_ret
    exact ⟨rfl, (Below.refl _ _).alloc (Nat.le_refl _) _⟩
  have e3 : decide (b ≤ (64 : Int)) = true := decide_eq_true h3
  by_cases h4 : r ≤ g
  case neg =>
    have hno : decide (MayS a b g r) = false := decide_eq_false (fun h => h4 h.2.2.2.2)
    rw [hno]
    have e4 : decide (r ≤ g) = false := decide_eq_false h4
    go_enter Tryz.func135, Tryz.ntmps135
    go_wp2
    go_ret
    exact ⟨rfl, (Below.refl _ _).alloc (Nat.le_refl _) _⟩
  have e4 : decide (r ≤ g) = true := decide_eq_true h4
  have hyes : decide (MayS a b g r) = true := decide_eq_true ⟨h0, h1, h2, h3, h4⟩
  rw [hyes]
  go_enter Tryz.func135, Tryz.ntmps135
  go_wp2
  go_ret
  exact ⟨rfl, (Below.refl _ _).alloc (Nat.le_refl _) _⟩
end Go.Proofs.YtodcohkblgjfeaaGreat

namespace Go.Proofs.YtodcohkblgjfeaaGreat
set_option maxRecDepth 100000
open Go.RowKit
set_option linter.unusedVariables false
set_option linter.unusedSimpArgs false
def iceL : List Int := [105, 99, 101, 104, 111, 117, 115, 101]
def bodyL (a b g r v f t : Int) : List Int := (((((((iceL ++ beBytes t 8) ++ beBytes a 2) ++ beBytes b 2) ++ beBytes g 8) ++ beBytes r 8) ++ beBytes v 8) ++ beBytes f 8)
def fullL (a b g r v f t : Int) : List Int := bodyL a b g r v f t ++ noughts 4
def supL (a b g r v f t : Int) : List Int := fullL a b g r v f t ++ beBytes (fnv start (fullL a b g r v f t)) 8
theorem bodyL_length (a b g r v f t : Int) : (bodyL a b g r v f t).length = 52 := by simp [bodyL, iceL, beBytes_length]
theorem fullL_length (a b g r v f t : Int) : (fullL a b g r v f t).length = 56 := by simp [fullL, bodyL_length, noughts_length]
theorem supL_length (a b g r v f t : Int) : (supL a b g r v f t).length = 64 := by simp [supL, fullL_length, beBytes_length]
theorem iceL_bytes : Bytes iceL := by
  intro j
  match j with
  | 0 | 1 | 2 | 3 | 4 | 5 | 6 | 7 => simp [iceL]
  | (n + 8) => simp [iceL]
theorem bodyL_bytes (a b g r v f t : Int) : Bytes (bodyL a b g r v f t) :=
  bytes_append (bytes_append (bytes_append (bytes_append (bytes_append (bytes_append (bytes_append iceL_bytes (beBytes_bytes _ _)) (beBytes_bytes _ _)) (beBytes_bytes _ _)) (beBytes_bytes _ _)) (beBytes_bytes _ _)) (beBytes_bytes _ _)) (beBytes_bytes _ _)
theorem fullL_bytes (a b g r v f t : Int) : Bytes (fullL a b g r v f t) := bytes_append (bodyL_bytes a b g r v f t) (noughts_bytes 4)
theorem supL_bytes (a b g r v f t : Int) : Bytes (supL a b g r v f t) := bytes_append (fullL_bytes a b g r v f t) (beBytes_bytes _ _)
theorem hash_in (l : List Int) : 0 ≤ fnv start l ∧ fnv start l ≤ 18446744073709551615 := by
  have := fnv_bounds start l ⟨by unfold start; omega, by unfold start; omega⟩
  omega
def InS (a b g r v f : Int) : Prop := -9223372036854775808 ≤ a ∧ a ≤ 9223372036854775807 ∧ -9223372036854775808 ≤ b ∧ b ≤ 9223372036854775807 ∧ 0 ≤ g ∧ g ≤ 18446744073709551615 ∧ 0 ≤ r ∧ r ≤ 18446744073709551615 ∧ 0 ≤ v ∧ v ≤ 18446744073709551615 ∧ 0 ≤ f ∧ f ≤ 18446744073709551615
def numAt (xs : List Int) (k n : Nat) : Int := numOf ((xs.drop k).take n)
theorem drop_at {α : Type} (p q : List α) (k : Nat) (h : p.length = k) : (p ++ q).drop k = q := by rw [← h]; simp
theorem take_at {α : Type} (p q : List α) (k : Nat) (h : p.length = k) : (p ++ q).take k = p := by rw [← h]; simp
theorem sup_nums (a b g r v f t : Int) (h : InS a b g r v f) (ha : 0 ≤ a ∧ a ≤ 65535) (hb : 0 ≤ b ∧ b ≤ 65535) (ht : 0 ≤ t ∧ t ≤ 18446744073709551615) :
    numAt (supL a b g r v f t) 8 8 = t ∧ numAt (supL a b g r v f t) 16 2 = a ∧ numAt (supL a b g r v f t) 18 2 = b ∧ numAt (supL a b g r v f t) 20 8 = g ∧ numAt (supL a b g r v f t) 28 8 = r ∧ numAt (supL a b g r v f t) 36 8 = v ∧ numAt (supL a b g r v f t) 44 8 = f := by
  obtain ⟨_, _, _, _, g0, g1, r0, r1, v0, v1, f0, f1⟩ := h
  unfold supL fullL bodyL
  generalize beBytes (fnv start _) 8 = hs
  have e8 : ((256 ^ 8 : Nat) : Int) = 18446744073709551616 := by decide
  have e2 : ((256 ^ 2 : Nat) : Int) = 65536 := by decide
  have n8 : ∀ x : Int, 0 ≤ x → x ≤ 18446744073709551615 → numOf (beBytes x 8) = x := fun x h0 h1 => num_be 8 x h0 (by rw [e8]; omega)
  have n2 : ∀ x : Int, 0 ≤ x → x ≤ 65535 → numOf (beBytes x 2) = x := fun x h0 h1 => num_be 2 x h0 (by rw [e2]; omega)
  have key : ∀ (p m q : List Int) (k n : Nat), p.length = k → m.length = n → ((p ++ m ++ q).drop k).take n = m := fun p m q k n hp hm => by
    rw [List.append_assoc, drop_at p _ k hp, take_at m q n hm]
  have hl8 := fun x => beBytes_length x 8
  have hl2 := fun x => beBytes_length x 2
  have hi : iceL.length = 8 := rfl
  unfold numAt
  refine ⟨?_, ?_, ?_, ?_, ?_, ?_, ?_⟩
  · rw [show iceL ++ beBytes t 8 ++ beBytes a 2 ++ beBytes b 2 ++ beBytes g 8 ++ beBytes r 8 ++ beBytes v 8 ++ beBytes f 8 ++ noughts 4 ++ hs = iceL ++ beBytes t 8 ++ (beBytes a 2 ++ beBytes b 2 ++ beBytes g 8 ++ beBytes r 8 ++ beBytes v 8 ++ beBytes f 8 ++ noughts 4 ++ hs) by simp [List.append_assoc],
      key iceL _ _ 8 8 hi (hl8 t), n8 t ht.1 ht.2]
  · rw [show iceL ++ beBytes t 8 ++ beBytes a 2 ++ beBytes b 2 ++ beBytes g 8 ++ beBytes r 8 ++ beBytes v 8 ++ beBytes f 8 ++ noughts 4 ++ hs = (iceL ++ beBytes t 8) ++ beBytes a 2 ++ (beBytes b 2 ++ beBytes g 8 ++ beBytes r 8 ++ beBytes v 8 ++ beBytes f 8 ++ noughts 4 ++ hs) by simp [List.append_assoc],
      key (iceL ++ beBytes t 8) _ _ 16 2 (by simp [hi, hl8]) (hl2 a), n2 a ha.1 ha.2]
  · rw [show iceL ++ beBytes t 8 ++ beBytes a 2 ++ beBytes b 2 ++ beBytes g 8 ++ beBytes r 8 ++ beBytes v 8 ++ beBytes f 8 ++ noughts 4 ++ hs = (iceL ++ beBytes t 8 ++ beBytes a 2) ++ beBytes b 2 ++ (beBytes g 8 ++ beBytes r 8 ++ beBytes v 8 ++ beBytes f 8 ++ noughts 4 ++ hs) by simp [List.append_assoc],
      key (iceL ++ beBytes t 8 ++ beBytes a 2) _ _ 18 2 (by simp [hi, hl8, hl2]) (hl2 b), n2 b hb.1 hb.2]
  · rw [show iceL ++ beBytes t 8 ++ beBytes a 2 ++ beBytes b 2 ++ beBytes g 8 ++ beBytes r 8 ++ beBytes v 8 ++ beBytes f 8 ++ noughts 4 ++ hs = (iceL ++ beBytes t 8 ++ beBytes a 2 ++ beBytes b 2) ++ beBytes g 8 ++ (beBytes r 8 ++ beBytes v 8 ++ beBytes f 8 ++ noughts 4 ++ hs) by simp [List.append_assoc],
      key (iceL ++ beBytes t 8 ++ beBytes a 2 ++ beBytes b 2) _ _ 20 8 (by simp [hi, hl8, hl2]) (hl8 g), n8 g g0 g1]
  · rw [show iceL ++ beBytes t 8 ++ beBytes a 2 ++ beBytes b 2 ++ beBytes g 8 ++ beBytes r 8 ++ beBytes v 8 ++ beBytes f 8 ++ noughts 4 ++ hs = (iceL ++ beBytes t 8 ++ beBytes a 2 ++ beBytes b 2 ++ beBytes g 8) ++ beBytes r 8 ++ (beBytes v 8 ++ beBytes f 8 ++ noughts 4 ++ hs) by simp [List.append_assoc],
      key (iceL ++ beBytes t 8 ++ beBytes a 2 ++ beBytes b 2 ++ beBytes g 8) _ _ 28 8 (by simp [hi, hl8, hl2]) (hl8 r), n8 r r0 r1]
  · rw [show iceL ++ beBytes t 8 ++ beBytes a 2 ++ beBytes b 2 ++ beBytes g 8 ++ beBytes r 8 ++ beBytes v 8 ++ beBytes f 8 ++ noughts 4 ++ hs = (iceL ++ beBytes t 8 ++ beBytes a 2 ++ beBytes b 2 ++ beBytes g 8 ++ beBytes r 8) ++ beBytes v 8 ++ (beBytes f 8 ++ noughts 4 ++ hs) by simp [List.append_assoc],
      key (iceL ++ beBytes t 8 ++ beBytes a 2 ++ beBytes b 2 ++ beBytes g 8 ++ beBytes r 8) _ _ 36 8 (by simp [hi, hl8, hl2]) (hl8 v), n8 v v0 v1]
  · rw [show iceL ++ beBytes t 8 ++ beBytes a 2 ++ beBytes b 2 ++ beBytes g 8 ++ beBytes r 8 ++ beBytes v 8 ++ beBytes f 8 ++ noughts 4 ++ hs = (iceL ++ beBytes t 8 ++ beBytes a 2 ++ beBytes b 2 ++ beBytes g 8 ++ beBytes r 8 ++ beBytes v 8) ++ beBytes f 8 ++ (noughts 4 ++ hs) by simp [List.append_assoc],
      key (iceL ++ beBytes t 8 ++ beBytes a 2 ++ beBytes b 2 ++ beBytes g 8 ++ beBytes r 8 ++ beBytes v 8) _ _ 44 8 (by simp [hi, hl8, hl2]) (hl8 f), n8 f f0 f1]
end Go.Proofs.YtodcohkblgjfeaaGreat

namespace Go.Proofs.YtodcohkblgjfeaaGreat
set_option maxRecDepth 100000
open Go.RowKit
set_option linter.unusedVariables false
set_option linter.unusedSimpArgs false
theorem run_store_part {P : Program} {w : World} {g off n : Nat} {t ty : TypeId} (hsz : ∀ w, (sizeOf ty).run P w = .ok n w) (F cs : List Value) (hg : Blk w g t F.toArray) (hl : cs.length = n) (hone : ∀ v ∈ cs, v.oneCell' = true) (hfit : off + n ≤ F.length) :
    (Instr.storeAt ty (.pointer (some ⟨g, off, none⟩)) (.agg cs.toArray)).run P w = .ok () (w.setRow g (F.take off ++ cs ++ F.drop (off + n)).toArray) := by
  have hs := run_storeCells_at P g off t cs 0 F.toArray w hg (by simp [hl]; omega) hone
  have he : (List.take (off + 0) F.toArray.toList ++ cs ++ List.drop (off + 0 + cs.length) F.toArray.toList).toArray = (F.take off ++ cs ++ F.drop (off + n)).toArray := by simp [hl]
  rw [he] at hs
  simp only [Instr.storeAt, Instr.sureAddr, Sem.run_bind, Sem.run_pure, Result.andThen_ok, storeVar, hsz, Value.cells]
  simpa [hl] using hs
section
variable {P : Program} {w : World} {ops : Array Oper} {rest : List Oper} {o : Oper} {a : Act} {Q : Exit → Act → World → Prop} {K : Act → World → Prop} {E : Prop}
theorem wpList_store_part (x y : Operand) (ty : TypeId) (ho : o.op = .store ty x y) (hgd : Region.wanted o (yielded ops a.tmps) = true) {n : Nat} (hsz : ∀ w, (sizeOf ty).run P w = .ok n w) (g off : Nat) (cs : List Value)
    (hx : a.eval x = .pointer (some ⟨g, off, none⟩)) (hy : a.eval y = .agg cs.toArray) (t : TypeId) (F : List Value) (hg : Blk w g t F.toArray) (hl : cs.length = n) (hone : ∀ v ∈ cs, v.oneCell' = true) (hfit : off + n ≤ F.length)
    (h : wpList P ops Q rest (a.put o.dst undef) (w.setRow g (F.take off ++ cs ++ F.drop (off + n)).toArray)) : wpList P ops Q (o :: rest) a w := by
  refine wpList_step fun K hK => ?_
  rw [if_pos hgd]
  unfold Oper.wp execOp
  simp only [ho, hx, hy, run_store_part hsz F cs hg hl hone hfit, Sem.run_bind, Result.andThen_ok]
  exact hK _ _ h
theorem step_store_part (x y : Operand) (ty : TypeId) (ho : o.op = .store ty x y) (hgd : Region.wanted o (yielded ops a.tmps) = true) {n : Nat} (hsz : ∀ w, (sizeOf ty).run P w = .ok n w) (g off : Nat) (cs : List Value)
    (hx : a.eval x = .pointer (some ⟨g, off, none⟩)) (hy : a.eval y = .agg cs.toArray) (t : TypeId) (F : List Value) (hg : Blk w g t F.toArray) (hl : cs.length = n) (hone : ∀ v ∈ cs, v.oneCell' = true) (hfit : off + n ≤ F.length)
    (h : K (a.put o.dst undef) (w.setRow g (F.take off ++ cs ++ F.drop (off + n)).toArray)) : if Region.wanted o (yielded ops a.tmps) = true then Oper.wp P o a w K Q else E := by
  rw [if_pos hgd]
  unfold Oper.wp execOp
  simp only [ho, hx, hy, run_store_part hsz F cs hg hl hone hfit, Sem.run_bind, Result.andThen_ok]
  exact h
end
theorem far_row {w : World} {g : Nat} (cs : Array Value) {b off : Nat} {v : Value} (hc : w.cell? ⟨b, off, none⟩ = some v) (h : b ≠ g) : (w.setRow g cs).cell? ⟨b, off, none⟩ = some v :=
  (((Kept.refl (fun b => b ≠ g) w).setRow (fun h => h rfl) cs).cell (p := ⟨b, off, none⟩) h).trans hc
theorem far_range {w : World} {g b off : Nat} {cs : Array Value} {xs : List Value} (hr : w.rangeAt b off xs) (h : b ≠ g) : (w.setRow g cs).rangeAt b off xs :=
  fun j v hv => far_row cs (hr j v hv) h
theorem far_cells {w : World} {g o : Nat} (cs : List Value) {b off : Nat} {v : Value} (hc : w.cell? ⟨b, off, none⟩ = some v) (h : b ≠ g) : (w.setCells g o cs).cell? ⟨b, off, none⟩ = some v :=
  (World.cell?_setCells_out g cs o w ⟨b, off, none⟩ (fun e _ => absurd e h)).trans hc
theorem far_cells_range {w : World} {g o b off : Nat} {cs : List Value} {xs : List Value} (hr : w.rangeAt b off xs) (h : b ≠ g) : (w.setCells g o cs).rangeAt b off xs :=
  fun j v hv => far_cells cs (hr j v hv) h
theorem Blk.there {w : World} {g : Nat} {t : TypeId} {F : List Value} (h : Blk w g t F.toArray) {o n : Nat} (hn : o + n ≤ F.length) : w.there g o n := fun j hj => by
  refine ⟨?_, h.frozen _⟩
  rw [h.cell (o + j)]
  simp [List.getElem?_eq_getElem (show o + j < F.length by omega)]
theorem setCells_row {P : Program} {w : World} {g : Nat} {t : TypeId} {F : List Value} (h : Blk w g t F.toArray) (o : Nat) (cs : List Value) (hone : ∀ v ∈ cs, v.oneCell' = true) (hfit : o + cs.length ≤ F.length) :
    w.setCells g o cs = w.setRow g (F.take o ++ cs ++ F.drop (o + cs.length)).toArray := by
  have h1 := run_storeCells_cells (P := P) g o cs 0 w (fun j hj => (h.there hfit j hj).1) (fun j hj => (h.there hfit j hj).2) hone
  have h2 := run_storeCells_at P g o t cs 0 F.toArray w h (by simpa using hfit) hone
  have he : (List.take (o + 0) F.toArray.toList ++ cs ++ List.drop (o + 0 + cs.length) F.toArray.toList).toArray = (F.take o ++ cs ++ F.drop (o + cs.length)).toArray := by simp
  rw [he] at h2
  rw [h1] at h2
  injection h2
theorem ones8 (xs : List Int) : ∀ v ∈ xs.map (Value.int .u8), v.oneCell' = true := by
  intro v hv
  obtain ⟨x, _, rfl⟩ := List.mem_map.1 hv
  rfl
def wcells (p : Nat × List Int) : List Value := .int .i64 p.1 :: p.2.map (Value.int .u8)
def flatP (l : List (Nat × List Int)) : List Value := l.flatMap wcells
theorem flatP_append (l m : List (Nat × List Int)) : flatP (l ++ m) = flatP l ++ flatP m := by simp [flatP]
theorem flatP_one (p : Nat × List Int) : flatP [p] = wcells p := by simp [flatP]
theorem wcells_length (p : Nat × List Int) (h : p.2.length = 64) : (wcells p).length = 65 := by simp [wcells, h]
theorem flatP_length {l : List (Nat × List Int)} (h : ∀ p ∈ l, p.2.length = 64) : (flatP l).length = l.length * 65 := by
  induction l with
  | nil => rfl
  | cons p r ih =>
    have h1 := wcells_length p (h p (List.mem_cons_self ..))
    have h2 := ih (fun q hq => h q (List.mem_cons_of_mem _ hq))
    simp only [flatP, List.flatMap_cons, List.length_append, List.length_cons] at *
    omega
theorem flatP_part {l : List (Nat × List Int)} (h : ∀ p ∈ l, p.2.length = 64) (i : Nat) (hi : i < l.length) (j : Nat) (hj : j < 65) : (flatP l)[i * 65 + j]? = (wcells l[i])[j]? := by
  have hc : l = l.take i ++ (l[i] :: l.drop (i + 1)) := by rw [← List.drop_eq_getElem_cons hi, List.take_append_drop]
  have hw := wcells_length l[i] (h _ (List.getElem_mem hi))
  have ht := flatP_length (l := l.take i) (fun p hp => h p (List.mem_of_mem_take hp))
  rw [List.length_take, Nat.min_eq_left (by omega)] at ht
  have e : flatP l = flatP (l.take i) ++ (wcells l[i] ++ flatP (l.drop (i + 1))) := by
    conv => lhs; rw [hc]
    rw [flatP_append]
    congr 1
  rw [e, List.getElem?_append_right (by omega), List.getElem?_append_left (by omega), ht]
  congr 1
  omega
theorem wcells_one (p : Nat × List Int) : ∀ v ∈ wcells p, v.oneCell' = true := by
  intro v hv
  rcases List.mem_cons.1 hv with rfl | hv
  · rfl
  · obtain ⟨x, _, rfl⟩ := List.mem_map.1 hv
    rfl
structure Dm (w : World) (d H S n : Nat) (v : Value) (m : Nat) (held safe : List Int) (P : List Value) (armed fails : Int) (dead : Bool) (ops : Int) : Prop where
  blk : Blk w d 158 #[.slice (some ⟨H, 0, none⟩) n n, .slice (some ⟨S, 0, none⟩) n n, v, .int .i64 armed, .int .i64 fails, .bool dead, .int .i64 ops]
  hh : ArrB w H held
  ss : ArrB w S safe
  own : w.ownsRow 0 160 65 v m P
  ne : H ≠ S
theorem own_set {w : World} {base size n : Nat} {e : TypeId} {v : Value} {xs : List Value} (h : w.ownsRow base e size v n xs) {g : Nat} (hg : v.ownBlock ≠ some g) (i : Nat) (u : Value) :
    (w.setCell ⟨g, i, none⟩ u).ownsRow base e size v n xs :=
  h.kept (row := some g) ⟨rfl, rfl, rfl, by simp [World.setCell], fun k _ hne => Below.heap_setCell _ _ _ _ (fun e => hne (by rw [e]))⟩ (.inr hg)
theorem own_kept {w w' : World} {base size n : Nat} {e : TypeId} {v : Value} {xs : List Value} (h : w.ownsRow base e size v n xs) {X : Nat → Prop} (hk : Kept X w w') (hv : ∀ g, v.ownBlock = some g → X g) : w'.ownsRow base e size v n xs := by
  refine ⟨h.1, ?_⟩
  rcases h.2 with h0 | ⟨g, cap, cur, rfl, h2, h3, h4⟩
  · exact .inl h0
  · exact .inr ⟨g, cap, cur, rfl, h2, (hk.block g (hv g (by simp [Value.ownBlock]))).trans h3, h4⟩
theorem own_more {w : World} {base base' size n : Nat} {e : TypeId} {v : Value} {xs : List Value} (h : w.ownsRow base e size v n xs) (hb : ∀ g, v.ownBlock = some g → base' ≤ g) : w.ownsRow base' e size v n xs := by
  refine ⟨h.1, ?_⟩
  rcases h.2 with h0 | ⟨g, cap, cur, rfl, h2, h3⟩
  · exact .inl h0
  · exact .inr ⟨g, cap, cur, rfl, hb g (by simp [Value.ownBlock]), h3⟩
section
variable {w w' : World} {d H S n : Nat} {v : Value} {m : Nat} {held safe : List Int} {P : List Value} {armed fails : Int} {dead : Bool} {ops : Int}
theorem Dm.cell (h : Dm w d H S n v m held safe P armed fails dead ops) : w.cell? ⟨d, 0, none⟩ = some (.slice (some ⟨H, 0, none⟩) n n) ∧ w.cell? ⟨d, 1, none⟩ = some (.slice (some ⟨S, 0, none⟩) n n) ∧ w.cell? ⟨d, 2, none⟩ = some v ∧
    w.cell? ⟨d, 3, none⟩ = some (.int .i64 armed) ∧ w.cell? ⟨d, 4, none⟩ = some (.int .i64 fails) ∧ w.cell? ⟨d, 5, none⟩ = some (.bool dead) ∧ w.cell? ⟨d, 6, none⟩ = some (.int .i64 ops) :=
  ⟨h.blk.cell 0, h.blk.cell 1, h.blk.cell 2, h.blk.cell 3, h.blk.cell 4, h.blk.cell 5, h.blk.cell 6⟩
theorem Dm.frozen (h : Dm w d H S n v m held safe P armed fails dead ops) (i : Nat) : w.frozen? ⟨d, i, none⟩ = false := h.blk.frozen i
theorem Dm.dH (h : Dm w d H S n v m held safe P armed fails dead ops) : d ≠ H := h.blk.ne_ h.hh (by decide)
theorem Dm.dS (h : Dm w d H S n v m held safe P armed fails dead ops) : d ≠ S := h.blk.ne_ h.ss (by decide)
theorem Dm.vd (h : Dm w d H S n v m held safe P armed fails dead ops) : v.ownBlock ≠ some d := own_blk_ne h.own h.blk (by decide)
theorem Dm.vH (h : Dm w d H S n v m held safe P armed fails dead ops) : v.ownBlock ≠ some H := own_blk_ne h.own h.hh (by decide)
theorem Dm.vS (h : Dm w d H S n v m held safe P armed fails dead ops) : v.ownBlock ≠ some S := own_blk_ne h.own h.ss (by decide)
theorem Dm.vlt (h : Dm w d H S n v m held safe P armed fails dead ops) : ∀ g, v.ownBlock = some g → g < w.heap.size := fun g hg => (h.own.lt g hg).2
theorem Dm.kept (h : Dm w d H S n v m held safe P armed fails dead ops) {X : Nat → Prop} (hk : Kept X w w') (hd : X d) (hH : X H) (hS : X S) (hv : ∀ g, v.ownBlock = some g → X g) : Dm w' d H S n v m held safe P armed fails dead ops :=
  ⟨h.blk.kept hk hd, Arr.kept h.hh hk hH, Arr.kept h.ss hk hS, own_kept h.own hk hv, h.ne⟩
theorem Dm.below (h : Dm w d H S n v m held safe P armed fails dead ops) (hk : Below w.heap.size w w') : Dm w' d H S n v m held safe P armed fails dead ops :=
  ⟨h.blk.below hk h.blk.lt, Arr.below h.hh hk h.hh.lt, Arr.below h.ss hk h.ss.lt, own_below h.own hk, h.ne⟩
theorem Dm.drew (h : Dm w d H S n v m held safe P armed fails dead ops) : Dm w.drew d H S n v m held safe P armed fails dead ops := ⟨h.blk, h.hh, h.ss, h.own, h.ne⟩
theorem Dm.drewN (h : Dm w d H S n v m held safe P armed fails dead ops) (k : Nat) : Dm (w.drewN k) d H S n v m held safe P armed fails dead ops := ⟨h.blk, h.hh, h.ss, h.own, h.ne⟩
theorem Dm.alloc (h : Dm w d H S n v m held safe P armed fails dead ops) (o : Obj) : Dm (w.alloc o) d H S n v m held safe P armed fails dead ops := h.below ((Below.refl _ _).alloc (Nat.le_refl _) o)
theorem Dm.armed_ (h : Dm w d H S n v m held safe P armed fails dead ops) (x : Int) : Dm (w.setCell ⟨d, 3, none⟩ (.int .i64 x)) d H S n v m held safe P x fails dead ops :=
  ⟨h.blk.set_ 3 _, Blk.far h.hh (p := ⟨d, 3, none⟩) h.dH.symm _, Blk.far h.ss (p := ⟨d, 3, none⟩) h.dS.symm _, own_set h.own h.vd _ _, h.ne⟩
theorem Dm.fails_ (h : Dm w d H S n v m held safe P armed fails dead ops) (x : Int) : Dm (w.setCell ⟨d, 4, none⟩ (.int .i64 x)) d H S n v m held safe P armed x dead ops :=
  ⟨h.blk.set_ 4 _, Blk.far h.hh (p := ⟨d, 4, none⟩) h.dH.symm _, Blk.far h.ss (p := ⟨d, 4, none⟩) h.dS.symm _, own_set h.own h.vd _ _, h.ne⟩
theorem Dm.dead_ (h : Dm w d H S n v m held safe P armed fails dead ops) (x : Bool) : Dm (w.setCell ⟨d, 5, none⟩ (.bool x)) d H S n v m held safe P armed fails x ops :=
  ⟨h.blk.set_ 5 _, Blk.far h.hh (p := ⟨d, 5, none⟩) h.dH.symm _, Blk.far h.ss (p := ⟨d, 5, none⟩) h.dS.symm _, own_set h.own h.vd _ _, h.ne⟩
theorem Dm.ops_ (h : Dm w d H S n v m held safe P armed fails dead ops) (x : Int) : Dm (w.setCell ⟨d, 6, none⟩ (.int .i64 x)) d H S n v m held safe P armed fails dead x :=
  ⟨h.blk.set_ 6 _, Blk.far h.hh (p := ⟨d, 6, none⟩) h.dH.symm _, Blk.far h.ss (p := ⟨d, 6, none⟩) h.dS.symm _, own_set h.own h.vd _ _, h.ne⟩
theorem Dm.held_ (h : Dm w d H S n v m held safe P armed fails dead ops) (F : List Int) : Dm (w.setRow H (cells8 F)) d H S n v m F safe P armed fails dead ops := by
  have hk : Kept (fun b => b ≠ H) w (w.setRow H (cells8 F)) := (Kept.refl _ w).setRow (fun h => h rfl) _
  exact ⟨h.blk.kept hk h.dH, h.hh.setRow F, Arr.kept h.ss hk h.ne.symm, own_kept h.own hk (fun g hg e => h.vH (by rw [hg, e])), h.ne⟩
theorem Dm.safe_ (h : Dm w d H S n v m held safe P armed fails dead ops) (F : List Int) : Dm (w.setRow S (cells8 F)) d H S n v m held F P armed fails dead ops := by
  have hk : Kept (fun b => b ≠ S) w (w.setRow S (cells8 F)) := (Kept.refl _ w).setRow (fun h => h rfl) _
  exact ⟨h.blk.kept hk h.dS, Arr.kept h.hh hk h.ne, h.ss.setRow F, own_kept h.own hk (fun g hg e => h.vS (by rw [hg, e])), h.ne⟩
theorem Dm.pend_ (h : Dm w d H S n v m held safe P armed fails dead ops) {v' : Value} {m' : Nat} {P' : List Value} (ho : w.ownsRow 0 160 65 v' m' P') : Dm (w.setCell ⟨d, 2, none⟩ v') d H S n v' m' held safe P' armed fails dead ops :=
  ⟨h.blk.set_ 2 _, Blk.far h.hh (p := ⟨d, 2, none⟩) h.dH.symm _, Blk.far h.ss (p := ⟨d, 2, none⟩) h.dS.symm _, own_set ho (own_blk_ne ho h.blk (by decide)) _ _, h.ne⟩
theorem Dm.regrow (h : Dm w d H S n v m held safe P armed fails dead ops) {v' : Value} {m' : Nat} {P' : List Value} (hg : w.grownBy w' v.ownBlock) (ho : w'.ownsRow 0 160 65 v' m' P') : Dm (w'.setCell ⟨d, 2, none⟩ v') d H S n v' m' held safe P' armed fails dead ops := by
  have h1 := h.blk.grown hg (fun e => h.vd e.symm)
  have h2 := Blk.grown h.hh hg (fun e => h.vH e.symm)
  have h3 := Blk.grown h.ss hg (fun e => h.vS e.symm)
  exact ⟨h1.set_ 2 _, Blk.far h2 (p := ⟨d, 2, none⟩) h.dH.symm _, Blk.far h3 (p := ⟨d, 2, none⟩) h.dS.symm _, own_set ho (own_blk_ne ho h1 (by decide)) _ _, h.ne⟩
end
theorem cell_same {w w' : World} {b off : Nat} (h : w'.heap[b]? = w.heap[b]?) : w'.cell? ⟨b, off, none⟩ = w.cell? ⟨b, off, none⟩ := by
  unfold World.cell?
  rw [h]
theorem cell_blk_lt {w : World} {b off : Nat} {v : Value} (h : w.cell? ⟨b, off, none⟩ = some v) : b < w.heap.size := by
  rcases Nat.lt_or_ge b w.heap.size with hlt | hge
  · exact hlt
  · simp [World.cell?, Array.getElem?_eq_none hge] at h
theorem cell_alloc {w : World} (o : Obj) {b off : Nat} {v : Value} (h : w.cell? ⟨b, off, none⟩ = some v) : (w.alloc o).cell? ⟨b, off, none⟩ = some v :=
  (World.cell?_alloc_lt w o ⟨b, off, none⟩ (cell_blk_lt h)).trans h
theorem range_alloc {w : World} (o : Obj) {b off : Nat} {cs : List Value} (h : w.rangeAt b off cs) : (w.alloc o).rangeAt b off cs := fun j v hv => cell_alloc o (h j v hv)
theorem cell_grown {w w' : World} {row : Option Nat} (hg : w.grownBy w' row) {b off : Nat} {v : Value} (h : w.cell? ⟨b, off, none⟩ = some v) (hr : row ≠ some b) : w'.cell? ⟨b, off, none⟩ = some v :=
  (cell_same (hg.block b (cell_blk_lt h) (fun e => hr e.symm))).trans h
theorem range_grown {w w' : World} {row : Option Nat} (hg : w.grownBy w' row) {b off : Nat} {cs : List Value} (h : w.rangeAt b off cs) (hr : row ≠ some b) : w'.rangeAt b off cs := fun j v hv => cell_grown hg (h j v hv) hr
end Go.Proofs.YtodcohkblgjfeaaGreat

namespace Go.Proofs.YtodcohkblgjfeaaGreat
set_option maxRecDepth 100000
open Go.RowKit
set_option linter.unusedVariables false
set_option linter.unusedSimpArgs false
theorem splice_at_s7 {α : Type} (H zs cs : List α) (k : Nat) (z : α) (h : zs = H ++ List.replicate k z) (hk : cs.length ≤ k) : splice zs H.length cs = H ++ cs ++ List.replicate (k - cs.length) z := by
  subst h
  unfold splice
  rw [List.take_left, List.drop_append, List.drop_eq_nil_of_le (by omega), List.nil_append, List.drop_replicate, show k - (H.length + cs.length - H.length) = k - cs.length by omega, List.append_assoc]
theorem block_bad (a b g r v f t : Int) (w : World) (h : ¬ MayS a b g r) :
    Calls Tryz.prog 93 #[.agg (turC a b g r v f t)] w fun e w' => e = .returned (.tuple #[.agg (cells8 (noughts 64)), .int .i64 2]) ∧ Below w.heap.size w w' := by
  have HNO := Lib.hid (show decide (MayS a b g r) = false from decide_eq_false h)
  clear h
  go_enter Tryz.func93, Tryz.ntmps93
  go_upto_region 1 with (refine wpList_alloc_blk rfl rfl ?_)
  have HT2 := Lib.hid (show Blk ((w.alloc (.cells (turC a b g r v f t) 151)).alloc (.cells (cells8 (noughts 64)) 84)) w.heap.size 151 (turC a b g r v f t) from (Blk.new w _ _).alloc _)
  have HR2 := Lib.hid (show ArrB ((w.alloc (.cells (turC a b g r v f t) 151)).alloc (.cells (cells8 (noughts 64)) 84)) (w.heap.size + 1) (noughts 64) from blk_new2 w _ _ _)
  have HB2 := Lib.hid (show Below w.heap.size w ((w.alloc (.cells (turC a b g r v f t) 151)).alloc (.cells (cells8 (noughts 64)) 84)) from ((Below.refl _ _).alloc (Nat.le_refl _) _).alloc (by simp) _)
  generalize hw2 : ((w.alloc (.cells (turC a b g r v f t) 151)).alloc (.cells (cells8 (noughts 64)) 84)) = w2 at *
  clear hw2
  have HT3 := Lib.hid (HT2.out.alloc (.cells (cells8 (noughts 64)) 84))
  have HR3 := Lib.hid (Blk.alloc HR2.out (.cells (cells8 (noughts 64)) 84))
  have HV3 := Lib.hid (show ArrB (w2.alloc (.cells (cells8 (noughts 64)) 84)) w2.heap.size (noughts 64) from Blk.new w2 _ _)
  have HB3 := Lib.hid (HB2.out.alloc HB2.out.size (.cells (cells8 (noughts 64)) 84))
  have HZ2 := Lib.hid (show w.heap.size + 1 < w2.heap.size from HR2.out.lt)
  obtain ⟨c0, c1, c2, c3, c4, c5, c6⟩ : _ ∧ _ ∧ _ ∧ _ ∧ _ ∧ _ ∧ _ := ⟨HT3.out.cell 0, HT3.out.cell 1, HT3.out.cell 2, HT3.out.cell 3, HT3.out.cell 4, HT3.out.cell 5, HT3.out.cell 6⟩
  simp only [List.getElem?_toArray, List.getElem?_cons_zero, List.getElem?_cons_succ] at c0 c1 c2 c3 c4 c5 c6
  go_wp2_with (first
    | (refine wpList_alloc_blk rfl rfl ?_)
    | (go_at_call 135; refine (may_any a b g r v f _).mono ?_; rintro e w4 ⟨rfl, hb⟩; rw [HNO.out]; have HR4 := Lib.hid (show ArrB w4 (w.heap.size + 1) (noughts 64) from Arr.below HR3.out hb HR3.out.lt); have HV4 := Lib.hid (show ArrB w4 w2.heap.size (noughts 64) from Arr.below HV3.out hb HV3.out.lt); have HB4 := Lib.hid (HB3.out.trans (hb.mono HB3.out.size)); clear hb)
    | (refine wpList_load_blk (.tmp 4) rfl rfl w2.heap.size 0 rfl (noughts 64) (noughts_length 64) HV4.out.range ?_)
    | (refine wpList_store_blk (.tmp 2) (.tmp 10) rfl rfl (w.heap.size + 1) (noughts 64) rfl rfl 84 (noughts 64) HR4.out (noughts_length 64) (noughts_length 64) ?_)
    | (with_reducible refine halt_end ?_))
  exact Halt.ret (results_blk2 (p := 2) (u := 3) rfl _ _ (w.heap.size + 1) 84 (noughts 64) rfl (HR4.out.setRow (noughts 64)) (noughts_length 64)) rfl ⟨rfl, below_setRow HB4.out (by omega) _⟩
set_option maxHeartbeats 2000000 in
set_option maxRecDepth 100000 in
theorem block_ok (a b g r v f t : Int) (w : World) (h : MayS a b g r) (hin : InS a b g r v f) (ht : 0 ≤ t ∧ t ≤ 18446744073709551615) :
    Calls Tryz.prog 93 #[.agg (turC a b g r v f t)] w fun e w' => e = .returned (.tuple #[.agg (cells8 (supL a b g r v f t)), .int .i64 0]) ∧ Below w.heap.size w w' := by
  have HYES := Lib.hid (show decide (MayS a b g r) = true from decide_eq_true h)
  have hwa : IntKind.u16.wrap a = a := by rw [IntKind.wrap_u16]; have := h.1; have := h.2.1; omega
  have hwb : IntKind.u16.wrap b = b := by rw [IntKind.wrap_u16]; have := h.2.2.1; have := h.2.2.2.1; omega
  have HMAY := Lib.hid h
  have HIN := Lib.hid hin
  have HTT := Lib.hid ht
  clear h hin ht
  go_enter Tryz.func93, Tryz.ntmps93
  go_upto_region 1 with (refine wpList_alloc_blk rfl rfl ?_)
  have HT2 := Lib.hid (show Blk ((w.alloc (.cells (turC a b g r v f t) 151)).alloc (.cells (cells8 (noughts 64)) 84)) w.heap.size 151 (turC a b g r v f t) from (Blk.new w _ _).alloc _)
  have HR2 := Lib.hid (show ArrB ((w.alloc (.cells (turC a b g r v f t) 151)).alloc (.cells (cells8 (noughts 64)) 84)) (w.heap.size + 1) (noughts 64) from blk_new2 w _ _ _)
  have HB2 := Lib.hid (show Below w.heap.size w ((w.alloc (.cells (turC a b g r v f t) 151)).alloc (.cells (cells8 (noughts 64)) 84)) from ((Below.refl _ _).alloc (Nat.le_refl _) _).alloc (by simp) _)
  generalize hw2 : ((w.alloc (.cells (turC a b g r v f t) 151)).alloc (.cells (cells8 (noughts 64)) 84)) = w2 at *
  clear hw2
  go_upto_region 2 with (refine wpList_alloc_blk rfl rfl ?_)
  have HT3 := Lib.hid (HT2.out.alloc (.cells (cells8 (noughts 64)) 84))
  have HR3 := Lib.hid (show ArrB _ (w.heap.size + 1) (noughts 64) from Blk.alloc HR2.out (.cells (cells8 (noughts 64)) 84))
  have HV3 := Lib.hid (show ArrB (w2.alloc (.cells (cells8 (noughts 64)) 84)) w2.heap.size (noughts 64) from Blk.new w2 _ _)
  have HB3 := Lib.hid (HB2.out.alloc HB2.out.size (.cells (cells8 (noughts 64)) 84))
  have HZ2 := Lib.hid (show w.heap.size + 1 < w2.heap.size from HR2.out.lt)
  generalize hw3 : w2.alloc (.cells (cells8 (noughts 64)) 84) = w3 at *
  clear hw3
  obtain ⟨c0, c1, c2, c3, c4, c5, c6⟩ : _ ∧ _ ∧ _ ∧ _ ∧ _ ∧ _ ∧ _ := ⟨HT3.out.cell 0, HT3.out.cell 1, HT3.out.cell 2, HT3.out.cell 3, HT3.out.cell 4, HT3.out.cell 5, HT3.out.cell 6⟩
  simp only [List.getElem?_toArray, List.getElem?_cons_zero, List.getElem?_cons_succ] at c0 c1 c2 c3 c4 c5 c6
  go_wp2_with fail
  refine (may_any a b g r v f _).mono ?_
  rintro e w4 ⟨rfl, hb⟩
  rw [HYES.out]
  have HB4 := Lib.hid (show Below w3.heap.size w3 w4 from hb)
  clear hb c0 c1 c2 c3 c4 c5 c6
  have hc1 := Go.Lib.run_convert_bytes_const (P := Tryz.prog) w4 42 5 #[.int .u8 105, .int .u8 99, .int .u8 101, .int .u8 104, .int .u8 111, .int .u8 117, .int .u8 115, .int .u8 101] 8 8 Tryz.underlying42 Tryz.underlying5
  simp only [List.size_toArray, List.length_cons, List.length_nil, Nat.zero_add, Nat.reduceAdd] at hc1
  have ht6 : (w4.alloc (.cells #[.int .u8 105, .int .u8 99, .int .u8 101, .int .u8 104, .int .u8 111, .int .u8 117, .int .u8 115, .int .u8 101] 5 (8, 9))).cell? ⟨w.heap.size, 6, none⟩ = some (.int .u64 t) := cell_alloc _ ((HT3.out.below HB4.out HT3.out.lt).cell 6)
  go_wp2_with fail
  clear hc1 ht6
  have HI5 := Lib.hid (show RowI .u8 (w4.alloc (.cells #[.int .u8 105, .int .u8 99, .int .u8 101, .int .u8 104, .int .u8 111, .int .u8 117, .int .u8 115, .int .u8 101] 5 (8, 9))) (· = w4.heap.size) (some ⟨w4.heap.size, 0, none⟩) 8 iceL from row_marked w4 iceL (8, 9) 8 rfl rfl)
  have HB5 := Lib.hid (show Below w3.heap.size w3 (w4.alloc (.cells #[.int .u8 105, .int .u8 99, .int .u8 101, .int .u8 104, .int .u8 111, .int .u8 117, .int .u8 115, .int .u8 101] 5 (8, 9))) from HB4.out.alloc HB4.out.size _)
  have HZ5 := Lib.hid (show w4.heap.size < (w4.alloc (.cells #[.int .u8 105, .int .u8 99, .int .u8 101, .int .u8 104, .int .u8 111, .int .u8 117, .int .u8 115, .int .u8 101] 5 (8, 9))).heap.size by simp)
  generalize hw5 : w4.alloc (.cells #[.int .u8 105, .int .u8 99, .int .u8 101, .int .u8 104, .int .u8 111, .int .u8 117, .int .u8 115, .int .u8 101] 5 (8, 9)) = w5 at *
  clear hw5
  refine (put64_any (some ⟨w4.heap.size, 0, none⟩) 8 8 (iceL) (· = w4.heap.size) t _ HI5.out (fun b h => by rw [h]; exact HZ5.out) (by omega) HTT.out.1 HTT.out.2).mono ?_
  rintro e w6 ⟨rfl, ha, hb⟩
  have HA6 := Lib.hid (show ArrU w6 w5.heap.size (iceL ++ beBytes t 8) from ha)
  have HB6 := Lib.hid (HB5.out.trans (hb.mono HB5.out.size))
  clear ha hb
  have hc : w6.cell? ⟨w.heap.size, 0, none⟩ = some (.int .i64 a) := (HT3.out.below HB6.out HT3.out.lt).cell 0
  go_wp2_with fail
  clear hc
  refine (put16_any (some ⟨w5.heap.size, 0, none⟩) 16 16 (iceL ++ beBytes t 8) (· = w5.heap.size) a _ (HA6.out.rowN 0 (by simp [iceL, beBytes_length]) rfl) (fun b h => by rw [h]; exact HA6.out.lt) (by omega) (by have := HMAY.out.1; omega) (by have := HMAY.out.2.1; omega)).mono ?_
  rintro e w7 ⟨rfl, ha, hb⟩
  have HA7 := Lib.hid (show ArrU w7 w6.heap.size (iceL ++ beBytes t 8 ++ beBytes a 2) from ha)
  have HB7 := Lib.hid (HB6.out.trans (hb.mono HB6.out.size))
  clear ha hb
  have hc : w7.cell? ⟨w.heap.size, 1, none⟩ = some (.int .i64 b) := (HT3.out.below HB7.out HT3.out.lt).cell 1
  go_wp2_with fail
  clear hc
  refine (put16_any (some ⟨w6.heap.size, 0, none⟩) 18 18 (iceL ++ beBytes t 8 ++ beBytes a 2) (· = w6.heap.size) b _ (HA7.out.rowN 0 (by simp [iceL, beBytes_length]) rfl) (fun b h => by rw [h]; exact HA7.out.lt) (by omega) (by have := HMAY.out.2.2.1; omega) (by have := HMAY.out.2.2.2.1; omega)).mono ?_
  rintro e w8 ⟨rfl, ha, hb⟩
  have HA8 := Lib.hid (show ArrU w8 w7.heap.size (iceL ++ beBytes t 8 ++ beBytes a 2 ++ beBytes b 2) from ha)
  have HB8 := Lib.hid (HB7.out.trans (hb.mono HB7.out.size))
  clear ha hb
  have hc : w8.cell? ⟨w.heap.size, 2, none⟩ = some (.int .u64 g) := (HT3.out.below HB8.out HT3.out.lt).cell 2
  go_wp2_with fail
  clear hc
  refine (put64_any (some ⟨w7.heap.size, 0, none⟩) 20 20 (iceL ++ beBytes t 8 ++ beBytes a 2 ++ beBytes b 2) (· = w7.heap.size) g _ (HA8.out.rowN 0 (by simp [iceL, beBytes_length]) rfl) (fun b h => by rw [h]; exact HA8.out.lt) (by omega) HIN.out.2.2.2.2.1 HIN.out.2.2.2.2.2.1).mono ?_
  rintro e w9 ⟨rfl, ha, hb⟩
  have HA9 := Lib.hid (show ArrU w9 w8.heap.size (iceL ++ beBytes t 8 ++ beBytes a 2 ++ beBytes b 2 ++ beBytes g 8) from ha)
  have HB9 := Lib.hid (HB8.out.trans (hb.mono HB8.out.size))
  clear ha hb
  have hc : w9.cell? ⟨w.heap.size, 3, none⟩ = some (.int .u64 r) := (HT3.out.below HB9.out HT3.out.lt).cell 3
  go_wp2_with fail
  clear hc
  refine (put64_any (some ⟨w8.heap.size, 0, none⟩) 28 28 (iceL ++ beBytes t 8 ++ beBytes a 2 ++ beBytes b 2 ++ beBytes g 8) (· = w8.heap.size) r _ (HA9.out.rowN 0 (by simp [iceL, beBytes_length]) rfl) (fun b h => by rw [h]; exact HA9.out.lt) (by omega) HIN.out.2.2.2.2.2.2.1 HIN.out.2.2.2.2.2.2.2.1).mono ?_
  rintro e w10 ⟨rfl, ha, hb⟩
  have HA10 := Lib.hid (show ArrU w10 w9.heap.size (iceL ++ beBytes t 8 ++ beBytes a 2 ++ beBytes b 2 ++ beBytes g 8 ++ beBytes r 8) from ha)
  have HB10 := Lib.hid (HB9.out.trans (hb.mono HB9.out.size))
  clear ha hb
  have hc : w10.cell? ⟨w.heap.size, 4, none⟩ = some (.int .u64 v) := (HT3.out.below HB10.out HT3.out.lt).cell 4
  go_wp2_with fail
  clear hc
  refine (put64_any (some ⟨w9.heap.size, 0, none⟩) 36 36 (iceL ++ beBytes t 8 ++ beBytes a 2 ++ beBytes b 2 ++ beBytes g 8 ++ beBytes r 8) (· = w9.heap.size) v _ (HA10.out.rowN 0 (by simp [iceL, beBytes_length]) rfl) (fun b h => by rw [h]; exact HA10.out.lt) (by omega) HIN.out.2.2.2.2.2.2.2.2.1 HIN.out.2.2.2.2.2.2.2.2.2.1).mono ?_
  rintro e w11 ⟨rfl, ha, hb⟩
  have HA11 := Lib.hid (show ArrU w11 w10.heap.size (iceL ++ beBytes t 8 ++ beBytes a 2 ++ beBytes b 2 ++ beBytes g 8 ++ beBytes r 8 ++ beBytes v 8) from ha)
  have HB11 := Lib.hid (HB10.out.trans (hb.mono HB10.out.size))
  clear ha hb
  have hc : w11.cell? ⟨w.heap.size, 5, none⟩ = some (.int .u64 f) := (HT3.out.below HB11.out HT3.out.lt).cell 5
  go_wp2_with fail
  clear hc
  refine (put64_any (some ⟨w10.heap.size, 0, none⟩) 44 44 (iceL ++ beBytes t 8 ++ beBytes a 2 ++ beBytes b 2 ++ beBytes g 8 ++ beBytes r 8 ++ beBytes v 8) (· = w10.heap.size) f _ (HA11.out.rowN 0 (by simp [iceL, beBytes_length]) rfl) (fun b h => by rw [h]; exact HA11.out.lt) (by omega) HIN.out.2.2.2.2.2.2.2.2.2.2.1 HIN.out.2.2.2.2.2.2.2.2.2.2.2).mono ?_
  rintro e w12 ⟨rfl, ha, hb⟩
  have HA12 := Lib.hid (show ArrU w12 w11.heap.size (iceL ++ beBytes t 8 ++ beBytes a 2 ++ beBytes b 2 ++ beBytes g 8 ++ beBytes r 8 ++ beBytes v 8 ++ beBytes f 8) from ha)
  have HB12 := Lib.hid (HB11.out.trans (hb.mono HB11.out.size))
  clear ha hb
  have HBD := Lib.hid (show ArrU w12 w11.heap.size (bodyL a b g r v f t) from HA12.out)
  clear HA12
  have hbl := bodyL_length a b g r v f t
  have hfe : fullL a b g r v f t = bodyL a b g r v f t ++ noughts 4 := rfl
  have hse : supL a b g r v f t = fullL a b g r v f t ++ beBytes (fnv start (fullL a b g r v f t)) 8 := rfl
  have hfb := fullL_bytes a b g r v f t
  have hfl := fullL_length a b g r v f t
  have hsl := supL_length a b g r v f t
  generalize hsupl : supL a b g r v f t = sl at *
  have HSUP := Lib.hid hsupl
  clear hsupl
  generalize bodyL a b g r v f t = bd at *
  generalize hfull : fullL a b g r v f t = fl at *
  have hh0 := (hash_in fl).1
  have hh1 := (hash_in fl).2
  have HSE := Lib.hid hse
  have HFB := Lib.hid hfb
  have HFL := Lib.hid hfl
  have HSL := Lib.hid hsl
  have HV12 := Lib.hid (show ArrB w12 w2.heap.size (noughts 64) from Arr.below HV3.out HB12.out HV3.out.lt)
  have HG12 := Lib.hid (show w12.heap[w2.heap.size]? = some (.cells ((noughts 64).map (Value.int .u8)).toArray 84 (0, 0)) from HV12.out)
  have HBS := Lib.hid (show Below w2.heap.size w3 w12 from HB12.out.mono (Nat.le_of_lt HV3.out.lt))
  have c1 := Lib.hid (show (bd.map (Value.int .u8)).length = Nat.min 52 56 by simp [hbl])
  have c2 := Lib.hid (row_src (HBD.out.rowN 0 hbl (S := fun _ => True) trivial) (by omega))
  have c3 := Lib.hid (show 0 + (bd.map (Value.int .u8)).length ≤ ((noughts 64).map (Value.int .u8)).length by simp [hbl, noughts_length])
  have d1 := Lib.hid (show splice ((noughts 64).map (Value.int .u8)) 0 (bd.map (Value.int .u8)) = (fl ++ noughts 8).map (Value.int .u8) by
    rw [splice_head _ _ 12 (Value.int .u8 0) (by simp [noughts, hbl]), hfe]
    simp [noughts])
  clear hse hfb hfl hsl hfe hbl hfull
  go_wp2_with (first | (refine wpList_copy_splice rfl (.tmp 48) (.tmp 49) 42 42 rfl 5 Tryz.underlying42 size_u8 _ _ _ _ _ _ rfl rfl w2.heap.size 0 ((noughts 64).map (Value.int .u8)) 84 HG12.out (bd.map (Value.int .u8)) c1.out (fun _ => ⟨rfl, c2.out⟩) c3.out (one_u8 bd) w2.heap.size w3 HBS.out (Nat.le_refl _) ?_; intro w13 hg13 hb13; rw [d1.out] at hg13; have HG13 := Lib.hid hg13; have HB13 := Lib.hid hb13; clear hg13 hb13))
  have HA13 := Lib.hid (show ArrB w13 w2.heap.size (fl ++ noughts 8) from HG13.out.out)
  have HRW := Lib.hid (show Row .u8 w13.drew w13.heap.size (some ⟨w2.heap.size, 0, none⟩) 56 fl by
    have h := (HA13.out.rowN 0 (n := 64) (by simp [HFL.out, noughts_length]) (S := fun b => b < w13.heap.size) HA13.out.lt).take 56 (by omega)
    rw [show (fl ++ noughts 8).take 56 = fl by rw [← HFL.out]; simp] at h
    exact h)
  have HR13 := Lib.hid (show ArrB w13 (w.heap.size + 1) (noughts 64) from Arr.below (HR3.out) HB13.out HZ2.out)
  have HBZ := Lib.hid (show Below w.heap.size w w13 from HB3.out.trans (HB13.out.mono (by have := HZ2.out; omega)))
  have HZ13 := Lib.hid (show w2.heap.size < w13.heap.size from HA13.out.lt)
  have e1 := Lib.hid (show ((beBytes (fnv start fl) 8).map (Value.int .u8)).length = Nat.min 8 8 by simp [beBytes_length])
  have e3 := Lib.hid (show 56 + ((beBytes (fnv start fl) 8).map (Value.int .u8)).length ≤ ((fl ++ noughts 8).map (Value.int .u8)).length by simp [beBytes_length, noughts_length, HFL.out])
  have d2 := Lib.hid (show splice ((fl ++ noughts 8).map (Value.int .u8)) 56 ((beBytes (fnv start fl) 8).map (Value.int .u8)) = sl.map (Value.int .u8) by
    have := splice_at_s7 (fl.map (Value.int .u8)) ((fl ++ noughts 8).map (Value.int .u8)) ((beBytes (fnv start fl) 8).map (Value.int .u8)) 8 (.int .u8 0) (by simp [noughts]) (by simp [beBytes_length])
    rw [List.length_map, HFL.out] at this
    rw [this, HSE.out]
    simp [beBytes_length])
  clear c1 c2 c3 d1
  go_region_held3 (fun W => True) (exact trivial)
    (first
      | (go_at_call 138; refine (hash_any (some ⟨w2.heap.size, 0, none⟩) 56 64 fl w13.heap.size _ HRW.out HFB.out (by omega)).mono ?_; rintro e w' ⟨rfl, rfl⟩)
      | (go_at_call 136; refine (put64_any none 0 0 [] (fun _ => False) (fnv start fl) _ (RowG.nil _ _ _ _ _) (fun _ h => h.elim) (by omega) hh0 hh1).mono ?_; rintro e w14 ⟨rfl, ha, hb⟩; have HA14 := Lib.hid (show ArrU w14 w13.heap.size (beBytes (fnv start fl) 8) from ha); have HB14 := Lib.hid (show Below w13.heap.size w13 w14 from (Below.refl _ _).drew.trans hb); have HG14 := Lib.hid (show w14.heap[w2.heap.size]? = some (.cells ((fl ++ noughts 8).map (Value.int .u8)).toArray 84 (0, 0)) from Blk.below HA13.out (w' := w14) (Below.trans (Below.refl _ _).drew hb) HA13.out.lt); have e2 := Lib.hid (row_src (HA14.out.rowN 0 (n := 8) (beBytes_length _ _) (S := fun _ => True) trivial) (by omega)); clear ha hb)
      | (refine step_copy_splice rfl (.tmp 51) (.tmp 54) 42 42 rfl 5 Tryz.underlying42 size_u8 _ _ _ _ _ _ rfl rfl w2.heap.size 56 ((fl ++ noughts 8).map (Value.int .u8)) 84 HG14.out ((beBytes (fnv start fl) 8).map (Value.int .u8)) e1.out (fun _ => ⟨rfl, e2.out⟩) e3.out (one_u8 _) w2.heap.size w13 (HB14.out.mono (Nat.le_of_lt HZ13.out)) (Nat.le_refl _) ?_; intro w15 hg15 hb15; rw [d2.out] at hg15; have HA15 := Lib.hid (show ArrB w15 w2.heap.size sl from hg15.out); have HB15 := Lib.hid hb15; clear hg15 hb15))
  all_goals
    clear e1 e3 d2
    have HR15 := Lib.hid (show ArrB w15 (w.heap.size + 1) (noughts 64) from Arr.below HR13.out HB15.out HZ2.out)
    go_wp2_with (first
      | (refine wpList_load_blk (.tmp 4) rfl rfl w2.heap.size 0 rfl sl HSL.out HA15.out.range ?_)
      | (refine wpList_store_blk (.tmp 2) (.tmp 56) rfl rfl (w.heap.size + 1) sl rfl rfl 84 (noughts 64) HR15.out (noughts_length 64) HSL.out ?_)
      | (with_reducible refine halt_end ?_))
    exact Halt.ret (results_blk2 (p := 2) (u := 3) rfl _ _ (w.heap.size + 1) 84 sl rfl (HR15.out.setRow sl) HSL.out) rfl ⟨by rw [HSUP.out]; rfl, below_setRow (HBZ.out.trans (HB15.out.mono (by have := HZ2.out; omega))) (by omega) _⟩
end Go.Proofs.YtodcohkblgjfeaaGreat

namespace Go.Proofs.YtodcohkblgjfeaaGreat
set_option maxRecDepth 100000
open Go.RowKit
set_option linter.unusedVariables false
set_option linter.unusedSimpArgs false
section
variable {w : World} {d H S n : Nat} {v : Value} {m : Nat} {held safe : List Int} {P : List Value} {armed fails : Int} {dead : Bool} {ops : Int}
theorem power_any (h : Dm w d H S n v m held safe P armed fails dead ops) :
    Calls Tryz.prog 84 #[.pointer (some ⟨d, 0, none⟩)] w fun e w' => e = .returned (.int .i64 (if dead then 7 else 0)) ∧ w = w' := by
  obtain ⟨c0, c1, c2, c3, c4, c5, c6⟩ := h.cell
  clear h
  cases dead
  all_goals
    go_enter Tryz.func84, Tryz.ntmps84
    go_wp2
    go_ret
    exact ⟨rfl, rfl⟩
theorem len_any (h : Dm w d H S n v m held safe P armed fails dead ops) :
    Calls Tryz.prog 87 #[.pointer (some ⟨d, 0, none⟩)] w fun e w' => e = .returned (.int .i64 n) ∧ w = w' := by
  obtain ⟨c0, c1, c2, c3, c4, c5, c6⟩ := h.cell
  clear h
  go_enter Tryz.func87, Tryz.ntmps87
  go_wp2
  go_ret
  exact ⟨rfl, rfl⟩
theorem reach_ok (h : Dm w d H S n v m held safe P armed fails dead ops) (i : Nat) (hi : i < n) :
    Calls Tryz.prog 79 #[.pointer (some ⟨d, 0, none⟩), .int .i64 i] w fun e w' => e = .returned (.int .i64 (if dead then 7 else 0)) ∧ w = w' := by
  have HH := Lib.hid h
  obtain ⟨c0, c1, c2, c3, c4, c5, c6⟩ := h.cell
  clear h
  have h1 : decide ((i : Int) < 0) = false := by simp
  have h2 : decide ((n : Int) ≤ (i : Int)) = false := by simp; omega
  cases dead
  all_goals
    go_enter Tryz.func79, Tryz.ntmps79
    go_wp2_with (go_at_call 84; refine (power_any HH.out).mono ?_; rintro e w' ⟨rfl, rfl⟩; simp only [Bool.false_eq_true, if_false, if_true])
    go_ret
    exact ⟨rfl, rfl⟩
def struck (c : Int) : Int := if c < 0 then c else c - 1
theorem strikes_any (w : World) (g i : Nat) (c : Int) (h0 : -9223372036854775808 ≤ c) (h1 : c ≤ 9223372036854775807) (hc : w.cell? ⟨g, i, none⟩ = some (.int .i64 c)) (hf : w.frozen? ⟨g, i, none⟩ = false) :
    Calls Tryz.prog 129 #[.pointer (some ⟨g, i, none⟩)] w fun e w' => e = .returned (.bool (decide (c = 0))) ∧ (w' = if c < 0 then w else w.setCell ⟨g, i, none⟩ (.int .i64 (c - 1))) := by
  by_cases hneg : c < 0
  · go_enter Tryz.func129, Tryz.ntmps129
    go_wp2
    go_ret
    refine ⟨ret_bool (by simp; omega), rfl⟩
  · have e1 : IntKind.i64.wrap (c - 1) = c - 1 := IntWalk.i64_in _ ⟨by omega, by omega⟩
    have hcell2 : (w.setCell ⟨g, i, none⟩ (.int .i64 (c - 1))).cell? ⟨g, i, none⟩ = some (.int .i64 (c - 1)) := World.cell?_setCell_same _ _ _ hc
    go_enter Tryz.func129, Tryz.ntmps129
    go_wp2
    go_ret
    refine ⟨ret_bool (by simp; omega), rfl⟩
theorem fails_any (h : Dm w d H S n v m held safe P armed fails dead ops) (h0 : -9223372036854775808 ≤ fails) (h1 : fails ≤ 9223372036854775807) :
    Calls Tryz.prog 129 #[.pointer (some ⟨d, 4, none⟩)] w fun e w' => e = .returned (.bool (decide (fails = 0))) ∧ Dm w' d H S n v m held safe P armed (struck fails) dead ops ∧ Kept (fun b => b ≠ d) w w' := by
  refine (strikes_any w d 4 fails h0 h1 h.cell.2.2.2.2.1 (h.frozen 4)).mono ?_
  rintro e w' ⟨rfl, rfl⟩
  unfold struck
  split
  · exact ⟨rfl, h, Kept.refl _ _⟩
  · exact ⟨rfl, h.fails_ _, (Kept.refl _ _).setCell (fun h => h rfl) _⟩
theorem armed_any (h : Dm w d H S n v m held safe P armed fails dead ops) (h0 : -9223372036854775808 ≤ armed) (h1 : armed ≤ 9223372036854775807) :
    Calls Tryz.prog 129 #[.pointer (some ⟨d, 3, none⟩)] w fun e w' => e = .returned (.bool (decide (armed = 0))) ∧ Dm w' d H S n v m held safe P (struck armed) fails dead ops ∧ Kept (fun b => b ≠ d) w w' := by
  refine (strikes_any w d 3 armed h0 h1 h.cell.2.2.2.1 (h.frozen 3)).mono ?_
  rintro e w' ⟨rfl, rfl⟩
  unfold struck
  split
  · exact ⟨rfl, h, Kept.refl _ _⟩
  · exact ⟨rfl, h.armed_ _, (Kept.refl _ _).setCell (fun h => h rfl) _⟩
end
end Go.Proofs.YtodcohkblgjfeaaGreat

namespace Go.Proofs.YtodcohkblgjfeaaGreat
set_option maxRecDepth 100000
open Go.RowKit
set_option linter.unusedVariables false
set_option linter.unusedSimpArgs false
theorem fill_one (pl : Nat → Option (Nat × Nat)) (i off n : Nat) (hp : pl i = some (off, n)) (v : Value) (hv : v.cells.size = n) (cells : Array Value) (hfit : off + n ≤ cells.size) (rest : List (Nat × Value)) :
    ∃ r, Instr.fill pl cells ((i, v) :: rest) = Instr.fill pl r rest ∧ r.size = cells.size ∧ ∀ k, r[k]? = if off ≤ k ∧ k < off + n then v.cells[k - off]? else cells[k]? := by
  have g := Great.foldl_set off v.cells.toList 0 cells
  refine ⟨(v.cells.toList.zipIdx 0).foldl (fun cs (x : Value × Nat) => cs.setIfInBounds (off + x.2) x.1) cells, ?_, g.1, fun k => ?_⟩
  · conv => lhs; unfold Instr.fill
    simp only [hp, hv]
    have hno : (decide (n ≠ n) || decide (off + n > cells.size)) = false := by simp; omega
    simp only [ne_eq, not_true_eq_false, decide_false, Bool.false_or, decide_eq_true_eq]
    rw [if_neg (by omega)]
    congr 1
    rw [← Array.foldl_toList, Array.toList_zipIdx]
  · rw [g.2 k]
    simp only [Nat.add_zero, Array.length_toList, hv]
    by_cases h : off ≤ k ∧ k < off + n
    · rw [if_pos ⟨h.1, h.2, by omega⟩, if_pos h]
      simp
    · rw [if_neg (by omega), if_neg h]
theorem fill_two (x : Value) (hx : x.cells = #[x]) (n : Nat) (z : Value) (zs : Array Value) (hz : zs.size = n) (cs : List Value) (hl : cs.length = n) :
    Instr.fill ((#[(0, 1), (1, n)] : Array (Nat × Nat))[·]?) (#[z] ++ zs) [(0, x), (1, .agg cs.toArray)] = some (x :: cs).toArray := by
  obtain ⟨r, h1, h2, h3⟩ := fill_one ((#[(0, 1), (1, n)] : Array (Nat × Nat))[·]?) 0 0 1 rfl x (by rw [hx]; rfl) (#[z] ++ zs) (by simp) [(1, .agg cs.toArray)]
  obtain ⟨q, k1, k2, k3⟩ := fill_one ((#[(0, 1), (1, n)] : Array (Nat × Nat))[·]?) 1 1 n rfl (.agg cs.toArray) (by simp [Value.cells, hl]) r (by rw [h2]; simp; omega) []
  rw [h1, k1]
  conv => lhs; unfold Instr.fill
  congr 1
  apply Array.ext_getElem?
  intro k
  rw [k3 k, h3 k]
  rw [show (Value.agg cs.toArray).cells = cs.toArray from rfl, hx]
  simp only [List.getElem?_toArray]
  rcases Nat.eq_zero_or_pos k with rfl | hk
  · simp
  · obtain ⟨j, rfl⟩ : ∃ j, k = j + 1 := ⟨k - 1, by omega⟩
    rw [if_neg (show ¬ (0 ≤ j + 1 ∧ j + 1 < 0 + 1) by omega), List.getElem?_cons_succ]
    by_cases hj : j < n
    · rw [if_pos (by omega)]
      simp
    · rw [if_neg (by omega), Array.getElem?_eq_none (by simp; omega), List.getElem?_eq_none (by omega)]
theorem built_at : Tryz.prog.built 160 = fun parts => Instr.fill ((#[(0, 1), (1, 64)] : Array (Nat × Nat))[·]?) (#[.int .i64 0] ++ cells8 (noughts 64)) parts := by kernel_rfl
theorem built_write (p : Nat × List Int) (hl : p.2.length = 64) : Tryz.prog.built 160 [(0, .int .i64 p.1), (1, .agg (p.2.map (Value.int .u8)).toArray)] = some (wcells p).toArray := by
  rw [built_at]
  exact fill_two (.int .i64 p.1) rfl 64 (.int .i64 0) (cells8 (noughts 64)) (by simp [cells8_size, noughts_length]) (p.2.map (Value.int .u8)) (by simp [hl])
theorem info_write : (Tryz.prog.info? 160).map (fun i => (i.zero, i.size, i.bytes)) = some (some (.agg (#[.int .i64 0] ++ cells8 (noughts 64))), 65, 72) := by kernel_rfl
theorem fill_lit (cs : List Value) (hl : cs.length = 65) (z : Array Value) (hz : z.size = 65) :
    Instr.fill (fun i => some (i * 65, 65)) ((Array.range (1 * 65)).map (z[· % z.size]!)) [(0, .agg cs.toArray)] = some cs.toArray := by
  obtain ⟨r, h1, h2, h3⟩ := fill_one (fun i => some (i * 65, 65)) 0 0 65 rfl (.agg cs.toArray) (by simp [Value.cells, hl]) ((Array.range (1 * 65)).map (z[· % z.size]!)) (by simp) []
  rw [h1]
  conv => lhs; unfold Instr.fill
  congr 1
  apply Array.ext_getElem?
  intro k
  rw [h3 k]
  by_cases hk : k < 65
  · rw [if_pos (by omega)]; simp [Value.cells]
  · rw [if_neg (by omega), Array.getElem?_eq_none (by simp; omega), Array.getElem?_eq_none (by simp; omega)]
end Go.Proofs.YtodcohkblgjfeaaGreat

namespace Go.Proofs.YtodcohkblgjfeaaGreat
set_option maxRecDepth 100000
open Go.RowKit
set_option linter.unusedVariables false
set_option linter.unusedSimpArgs false
section
variable {w : World} {ops : Array Oper} {rest : List Oper} {o : Oper} {a : Act} {Q : Exit → Act → World → Prop} {K : Act → World → Prop} {E : Prop}
theorem step_lit_write (x : Operand) (ho : o.op = .buildSlice 155 1 #[(0, x)]) (hgd : Region.wanted o (yielded ops a.tmps) = true) (cs : List Value) (hx : a.eval x = .agg cs.toArray) (hl : cs.length = 65)
    (h : K (a.put o.dst (.slice (some ⟨w.heap.size, 0, none⟩) 1 1)) (w.alloc (.cells cs.toArray 160))) : if Region.wanted o (yielded ops a.tmps) = true then Oper.wp Tryz.prog o a w K Q else E := by
  rw [if_pos hgd]
  obtain ⟨i0, hi, hz0, hz1, hz2⟩ := info_parts info_write
  refine wp_buildSlice 155 160 1 #[(0, x)] ho cs.toArray i0 _ Tryz.underlying155 hi hz0 (by rw [hz1]; decide) (by rw [hz1]; decide) ?_ h
  rw [hz1]
  have e : (Array.map (fun (p : Nat × Operand) => (p.1, a.eval p.2)) #[(0, x)]).toList = [(0, .agg cs.toArray)] := by simp [hx]
  exact (congrArg _ e).trans (fill_lit cs hl _ (by simp [Value.cells, cells8_size, noughts_length]))
theorem step_append_write (s x : Operand) (ho : o.op = .call { callee := .builtin .append, args := #[s, x], argTypes := #[155, 155] }) (hgd : Region.wanted o (yielded ops a.tmps) = true)
    (base : Nat) (v : Value) (m : Nat) (P : List Value) (hs : a.eval s = v) (hown : w.ownsRow base 160 65 v m P) (g : Nat) (cs : List Value) (hx : a.eval x = .slice (some ⟨g, 0, none⟩) 1 1) (hg : Blk w g 160 cs.toArray) (hl : cs.length = 65) (hone : ∀ v ∈ cs, v.oneCell' = true)
    (hm : m ≤ 1000000) (hbase : base ≤ w.heap.size)
    (h : ∀ v' w', w'.ownsRow base 160 65 v' (m + 1) (P ++ cs) → w.grownBy w' v.ownBlock → (v'.ownBlock = v.ownBlock ∨ v'.ownBlock = some w.heap.size) → K (a.put o.dst v') w') :
    if Region.wanted o (yielded ops a.tmps) = true then Oper.wp Tryz.prog o a w K Q else E := by
  obtain ⟨i0, hi, hz0, hz1, hz2⟩ := info_parts info_write
  obtain ⟨v', w', hrun, h2, h3, _, h4⟩ := run_append_own_at (P := Tryz.prog) w base 155 o.type 160 i0 _ 65 72 Tryz.underlying155 hi hz0 hz1 hz2 (by simp [Value.cells, cells8_size, noughts_length]) (by omega) v m P hown ⟨g, 0, none⟩ 1 1 cs (by rw [hl])
    (fun j u hu => by rw [add_plain, Nat.zero_add, hg.cell j]; simpa using hu) hone (by unfold maxLen; omega) (by omega) hbase
  rw [if_pos hgd]
  unfold Oper.wp execOp
  simp only [ho, resolve, invoke, builtin, Sem.run_bind, Sem.run_pure, Result.andThen_ok, List.map_toArray, List.map_cons, List.map_nil, hs, hx, hrun]
  exact h v' w' h2 h3 h4
end
theorem flat_set_s7 {L : List (List Int)} (h : Secs L) (k : Nat) (hk : k < L.length) (ys : List Int) (hy : ys.length = 64) : (flat L).take (k * 64) ++ ys ++ (flat L).drop (k * 64 + 64) = flat (L.set k ys) := by
  have hc := list_cut k hk
  have hl := flat_length (h.take k)
  have hg := h.get k hk
  rw [List.length_take, Nat.min_eq_left (by omega)] at hl
  have e : L.set k ys = L.take k ++ [ys] ++ L.drop (k + 1) := by
    rw [List.set_eq_take_append_cons_drop, if_pos hk, List.append_assoc, List.singleton_append]
  rw [e]
  conv => lhs; rw [hc]
  rw [flat_append, flat_append, flat_one, flat_append, flat_append, flat_one]
  generalize L.getD k [] = zs at *
  generalize flat (L.take k) = us at *
  generalize flat (L.drop (k + 1)) = vs at *
  rw [List.append_assoc us zs vs, List.take_append, List.take_of_length_le (by omega), List.drop_append, hl]
  simp [show k * 64 + 64 - k * 64 = 64 by omega, hl, hg, List.drop_append]
theorem sector_set {P : Program} {w : World} {g : Nat} {t : TypeId} {L : List (List Int)} (h : Arr (Value.int .u8) w g t (flat L)) (hs : Secs L) (k : Nat) (hk : k < L.length) {ys : List Int} (hy : ys.length = 64) :
    w.setCells g (k * 64) (ys.map (Value.int .u8)) = w.setRow g (cells8 (flat (L.set k ys))) := by
  have hf := flat_length hs
  have e := setCells_row (P := P) (w := w) (F := (flat L).map (Value.int .u8)) h (k * 64) (ys.map (Value.int .u8)) (ones8 ys) (by simp [hy, hf]; omega)
  rw [e, ← flat_set_s7 hs k hk ys hy]
  simp [cells8, hy, List.map_take, List.map_drop]
abbrev wr0 : Oper := { dst := some 10, op := Go.Op.load 27 (Go.Operand.tmp 1), type := 27, pos := "disk.go:75", after := #[], guard := none }
abbrev wr1 : Oper := { dst := some 11, op := Go.Op.load 27 (Go.Operand.tmp 1), type := 27, pos := "disk.go:75", after := #[], guard := none }
abbrev wr2 : Oper := { dst := some 12, op := Go.Op.nilCheck (Go.Operand.tmp 11), type := 0, pos := "disk.go:75", after := #[{ on := 1, ground := Go.Ground.data }], guard := none }
abbrev wr3 : Oper := { dst := some 13, op := Go.Op.fieldAddr 158 (Go.Operand.tmp 12) 2, type := 0, pos := "disk.go:75", after := #[{ on := 2, ground := Go.Ground.data }], guard := none }
abbrev wr4 : Oper := { dst := some 14, op := Go.Op.load 155 (Go.Operand.tmp 13), type := 155, pos := "disk.go:75", after := #[{ on := 3, ground := Go.Ground.data }], guard := none }
abbrev wr5 : Oper := { dst := some 15, op := Go.Op.load 3 (Go.Operand.tmp 2), type := 3, pos := "disk.go:75", after := #[], guard := none }
abbrev wr6 : Oper := { dst := some 16, op := Go.Op.load 84 (Go.Operand.tmp 0), type := 84, pos := "disk.go:75", after := #[], guard := none }
abbrev wr7 : Oper := { dst := some 17, op := Go.Op.build 160 #[(0, Go.Operand.tmp 15), (1, Go.Operand.tmp 16)], type := 160, pos := "disk.go:75", after := #[{ on := 5, ground := Go.Ground.data }, { on := 6, ground := Go.Ground.data }], guard := none }
abbrev wr8 : Oper := { dst := some 18, op := Go.Op.buildSlice 155 1 #[(0, Go.Operand.tmp 17)], type := 155, pos := "disk.go:75", after := #[{ on := 7, ground := Go.Ground.data }], guard := none }
abbrev wr9 : Oper := { dst := some 19, op := Go.Op.call { callee := Go.Callee.builtin Go.Builtin.append, args := #[Go.Operand.tmp 14, Go.Operand.tmp 18], argTypes := #[155, 155] }, type := 155, pos := "disk.go:75", after := #[{ on := 4, ground := Go.Ground.data }, { on := 8, ground := Go.Ground.data }], guard := none }
abbrev wr10 : Oper := { dst := some 20, op := Go.Op.nilCheck (Go.Operand.tmp 10), type := 0, pos := "disk.go:75", after := #[{ on := 0, ground := Go.Ground.data }, { on := 0, ground := Go.Ground.phase }, { on := 1, ground := Go.Ground.phase }, { on := 2, ground := Go.Ground.phase }, { on := 3, ground := Go.Ground.phase }, { on := 4, ground := Go.Ground.phase }, { on := 5, ground := Go.Ground.phase }, { on := 6, ground := Go.Ground.phase }, { on := 7, ground := Go.Ground.phase }, { on := 8, ground := Go.Ground.phase }, { on := 9, ground := Go.Ground.phase }], guard := none }
abbrev wr11 : Oper := { dst := some 21, op := Go.Op.fieldAddr 158 (Go.Operand.tmp 20) 2, type := 0, pos := "disk.go:75", after := #[{ on := 10, ground := Go.Ground.data }, { on := 0, ground := Go.Ground.phase }, { on := 1, ground := Go.Ground.phase }, { on := 2, ground := Go.Ground.phase }, { on := 3, ground := Go.Ground.phase }, { on := 4, ground := Go.Ground.phase }, { on := 5, ground := Go.Ground.phase }, { on := 6, ground := Go.Ground.phase }, { on := 7, ground := Go.Ground.phase }, { on := 8, ground := Go.Ground.phase }, { on := 9, ground := Go.Ground.phase }], guard := none }
abbrev wr12 : Oper := { dst := none, op := Go.Op.store 155 (Go.Operand.tmp 21) (Go.Operand.tmp 19), type := 0, pos := "disk.go:75", after := #[{ on := 11, ground := Go.Ground.data }, { on := 9, ground := Go.Ground.data }, { on := 9, ground := Go.Ground.chain }, { on := 0, ground := Go.Ground.phase }, { on := 1, ground := Go.Ground.phase }, { on := 2, ground := Go.Ground.phase }, { on := 3, ground := Go.Ground.phase }, { on := 4, ground := Go.Ground.phase }, { on := 5, ground := Go.Ground.phase }, { on := 6, ground := Go.Ground.phase }, { on := 7, ground := Go.Ground.phase }, { on := 8, ground := Go.Ground.phase }, { on := 9, ground := Go.Ground.phase }], guard := none }
section
variable {w : World} {d H S n : Nat} {v : Value} {m : Nat} {held safe : List Int} {P : List Value} {armed fails : Int} {dead : Bool} {ops : Int}
def WroteTo (w : World) (d H S n : Nat) (v : Value) (m : Nat) (held safe : List Int) (P : List Value) (armed fails : Int) (dead : Bool) (ops : Int) (w' : World) : Prop :=
  ∃ v', Dm w' d H S n v' m held safe P armed fails dead ops ∧ (∀ g, v'.ownBlock = some g → v.ownBlock = some g ∨ w.heap.size ≤ g) ∧ Kept (fun b => b < w.heap.size ∧ b ≠ d ∧ b ≠ H ∧ v.ownBlock ≠ some b) w w'
set_option maxHeartbeats 1000000 in
set_option maxRecDepth 100000 in
theorem write1_any (h : Dm w d H S n v m held safe P armed fails dead ops) (xss : List (List Int)) (hs : Secs xss) (hh : held = flat xss) (hn : xss.length = n) (hn2 : n ≤ 2048) (i : Nat) (hi : i < n) (gd gi gb : Nat) (ys : List Int) (hy : ys.length = 64)
    (hgd : Blk w gd 27 #[.pointer (some ⟨d, 0, none⟩)]) (hgi : Blk w gi 3 #[.int .i64 i]) (hgb : ArrB w gb ys) (hne : gb ≠ H) (hm : m ≤ 1000000) :
    Calls Tryz.prog 80 #[.pointer (some ⟨gb, 0, none⟩), .pointer (some ⟨gd, 0, none⟩), .pointer (some ⟨gi, 0, none⟩)] w fun e w' => e = .returned (.tuple #[]) ∧
      WroteTo w d H S n v (m + 1) (flat (xss.set i ys)) safe (P ++ wcells (i, ys)) armed fails dead ops w' := by
  subst hh
  have c0 := h.cell.1
  have cd := hgd.cell 0
  have ci := hgi.cell 0
  simp only [List.getElem?_toArray, List.getElem?_cons_zero] at cd ci
  have hu := Tryz.underlying84
  have hr := hgb.range
  have hsz : (Tryz.prog.info? 84).map (·.size) = some (ys.map (Value.int .u8)).length := by rw [size_blk, List.length_map, hy]
  have hi0 : (0 : Int) ≤ (i : Int) := by omega
  have hi1 : (i : Int) < (n : Int) := by omega
  have n1 : gd ≠ H := hgd.ne_ h.hh (by decide)
  have n2 : gi ≠ H := hgi.ne_ h.hh (by decide)
  have n3 : d ≠ H := h.dH
  have kd := fun cs => far_cells (w := w.drew) (g := H) (o := i * 64) cs cd n1
  have ki := fun cs => far_cells (w := w.drew) (g := H) (o := i * 64) cs ci n2
  have k0 := fun cs => far_cells (w := w.drew) (g := H) (o := i * 64) cs c0 n3
  have kr := fun cs => far_cells_range (w := w.drew) (g := H) (o := i * 64) (cs := cs) hr hne
  have hone := ones8 ys
  have hfl := flat_length hs
  have hth : w.drew.there H (i * 64) (ys.map (Value.int .u8)).length := Blk.there (w := w.drew) h.hh (by simp [hfl, hy]; omega)
  have hrow := sector_set (P := Tryz.prog) (w := w.drew) (L := xss) h.hh hs i (by omega) hy
  have HROW := Lib.hid hrow
  have HM := Lib.hid h
  have HGD := Lib.hid hgd
  have HGI := Lib.hid hgi
  have HGB := Lib.hid hgb
  have HY := Lib.hid hy
  have HNE := Lib.hid hne
  clear h hgd hgi hgb hrow hfl hne
  go_enter Tryz.func80, Tryz.ntmps80
  go_wp2
  go_region_held3 (fun W => W.cell? ⟨gd, 0, none⟩ = some (.pointer (some ⟨d, 0, none⟩)) ∧ W.cell? ⟨gi, 0, none⟩ = some (.int .i64 i) ∧ W.cell? ⟨d, 0, none⟩ = some (.slice (some ⟨H, 0, none⟩) n n) ∧ W.rangeAt gb 0 (ys.map (Value.int .u8)))
    (first | exact ⟨cd, ci, c0, hr⟩ | exact ⟨kd _, ki _, k0 _, kr _⟩)
    (fail)
  clear kd ki k0 kr c0 cd ci hr hth
  rw [HROW.out]
  have hk1 : Kept (fun b => b ≠ H) w (w.drew.setRow H (cells8 (flat (xss.set i ys)))) := (Kept.refl _ w).drew.setRow (fun h => h rfl) _
  have HM1 := Lib.hid (HM.out.drew.held_ (flat (xss.set i ys)))
  generalize hw1 : w.drew.setRow H (cells8 (flat (xss.set i ys))) = w1 at *
  have hgd1 := HGD.out.kept hk1 n1
  have hgi1 := HGI.out.kept hk1 n2
  have hgb1 := Arr.kept HGB.out hk1 HNE.out
  have HS1 := Lib.hid (show w.heap.size = w1.heap.size by rw [← hw1]; simp [World.setRow])
  clear hw1
  have c2 := HM1.out.cell.2.2.1
  have cd := hgd1.cell 0
  have ci := hgi1.cell 0
  simp only [List.getElem?_toArray, List.getElem?_cons_zero] at cd ci
  have hr := hgb1.range
  have hf2 := HM1.out.frozen 2
  have HB := Lib.hid (built_write (i, ys) HY.out)
  go_wp2
  refine wp_region_noPanic ?_
  refine Tillst.region (fun W => W.cell? ⟨gd, 0, none⟩ = some (.pointer (some ⟨d, 0, none⟩)) ∧ W.cell? ⟨gi, 0, none⟩ = some (.int .i64 i) ∧ W.cell? ⟨d, 2, none⟩ = some v ∧ W.rangeAt gb 0 (ys.map (Value.int .u8))) [12] (by kernel_rfl) ⟨cd, ci, c2, hr⟩ (fun hHeld => ?_)
  have HMd := Lib.hid HM1.out.drew
  have HSd := Lib.hid (show w.heap.size = w1.drew.heap.size from HS1.out)
  have hkd : Kept (fun b => b ≠ H) w w1.drew := hk1.drew
  have HKD := Lib.hid hkd
  generalize w1.drew = u at *
  refine Tillst.take (i := 0) (oi := wr0) (v := ?_) rfl (by kernel_rfl) (by kernel_rfl) (by kernel_rfl) (by kernel_rfl) (fun _ _ _ h => h) (by rfl) ?_ hHeld ?_
  rotate_left
  · intro W hSW; (try dsimp only at hSW); unfold wr0; go_simp; with_reducible rfl
  simp only [wr0, Act.put, List.setIfInBounds_toArray, List.set_cons_zero, List.set_cons_succ]
  refine Tillst.take (i := 1) (oi := wr1) (v := ?_) rfl (by kernel_rfl) (by kernel_rfl) (by kernel_rfl) (by kernel_rfl) (fun _ _ _ h => h) (by rfl) ?_ hHeld ?_
  rotate_left
  · intro W hSW; (try dsimp only at hSW); unfold wr1; go_simp; with_reducible rfl
  simp only [wr1, Act.put, List.setIfInBounds_toArray, List.set_cons_zero, List.set_cons_succ]
  refine Tillst.take (i := 2) (oi := wr2) (v := ?_) rfl (by kernel_rfl) (by kernel_rfl) (by kernel_rfl) (by kernel_rfl) (fun _ _ _ h => h) (by rfl) ?_ hHeld ?_
  rotate_left
  · intro W hSW; (try dsimp only at hSW); unfold wr2; go_simp; with_reducible rfl
  simp only [wr2, Act.put, List.setIfInBounds_toArray, List.set_cons_zero, List.set_cons_succ]
  refine Tillst.take (i := 3) (oi := wr3) (v := ?_) rfl (by kernel_rfl) (by kernel_rfl) (by kernel_rfl) (by kernel_rfl) (fun _ _ _ h => h) (by rfl) ?_ hHeld ?_
  rotate_left
  · intro W hSW; (try dsimp only at hSW); unfold wr3; go_simp; with_reducible rfl
  simp only [wr3, Act.put, List.setIfInBounds_toArray, List.set_cons_zero, List.set_cons_succ]
  refine Tillst.take (i := 4) (oi := wr4) (v := ?_) rfl (by kernel_rfl) (by kernel_rfl) (by kernel_rfl) (by kernel_rfl) (fun _ _ _ h => h) (by rfl) ?_ hHeld ?_
  rotate_left
  · intro W hSW; (try dsimp only at hSW); unfold wr4; go_simp; with_reducible rfl
  simp only [wr4, Act.put, List.setIfInBounds_toArray, List.set_cons_zero, List.set_cons_succ]
  refine Tillst.take (i := 5) (oi := wr5) (v := ?_) rfl (by kernel_rfl) (by kernel_rfl) (by kernel_rfl) (by kernel_rfl) (fun _ _ _ h => h) (by rfl) ?_ hHeld ?_
  rotate_left
  · intro W hSW; (try dsimp only at hSW); unfold wr5; go_simp; with_reducible rfl
  simp only [wr5, Act.put, List.setIfInBounds_toArray, List.set_cons_zero, List.set_cons_succ]
  refine Tillst.take (i := 6) (oi := wr6) (v := ?_) rfl (by kernel_rfl) (by kernel_rfl) (by kernel_rfl) (by kernel_rfl) (fun _ _ _ h => h) (by rfl) ?_ hHeld ?_
  rotate_left
  · intro W hSW; refine exec_load_row (.tmp 0) 84 ?_ gb 0 ?_ (ys.map (Value.int .u8)) _ hu rfl hsz hSW.2.2.2 <;> rfl
  simp only [wr6, Act.put, List.setIfInBounds_toArray, List.set_cons_zero, List.set_cons_succ]
  refine Tillst.take (i := 7) (oi := wr7) (v := ?_) rfl (by kernel_rfl) (by kernel_rfl) (by kernel_rfl) (by kernel_rfl) (fun _ _ _ h => h) (by rfl) ?_ hHeld ?_
  rotate_left
  · intro W hSW; refine exec_build 160 #[(0, .tmp 15), (1, .tmp 16)] ?_ [(0, .int .i64 i), (1, .agg (ys.map (Value.int .u8)).toArray)] ?_ _ HB.out <;> first | rfl | simp [Act.eval]
  simp only [wr7, Act.put, List.setIfInBounds_toArray, List.set_cons_zero, List.set_cons_succ]
  refine Tillst.one (i := 8) (o := wr8) (by kernel_rfl) rfl ?_
  intro K hK
  refine step_lit_write (.tmp 17) rfl rfl (wcells (i, ys)) rfl (wcells_length _ HY.out) ?_
  simp only [wr8, Act.put, List.setIfInBounds_toArray, List.set_cons_zero, List.set_cons_succ]
  have HMe := Lib.hid (HMd.out.alloc (.cells (wcells (i, ys)).toArray 160))
  have HNB := Lib.hid (Blk.new u 160 (wcells (i, ys)).toArray)
  have hHeld1 : (u.alloc (.cells (wcells (i, ys)).toArray 160)).cell? ⟨gd, 0, none⟩ = some (.pointer (some ⟨d, 0, none⟩)) ∧ (u.alloc (.cells (wcells (i, ys)).toArray 160)).cell? ⟨gi, 0, none⟩ = some (.int .i64 i) ∧
      (u.alloc (.cells (wcells (i, ys)).toArray 160)).cell? ⟨d, 2, none⟩ = some v ∧ (u.alloc (.cells (wcells (i, ys)).toArray 160)).rangeAt gb 0 (ys.map (Value.int .u8)) :=
    ⟨cell_alloc _ hHeld.1, cell_alloc _ hHeld.2.1, cell_alloc _ hHeld.2.2.1, range_alloc _ hHeld.2.2.2⟩
  have HSe := Lib.hid (show w.heap.size + 1 = (u.alloc (.cells (wcells (i, ys)).toArray 160)).heap.size by have := HSd.out; simp; omega)
  have HKE := Lib.hid (show Kept (fun b => b < w.heap.size ∧ b ≠ H) w (u.alloc (.cells (wcells (i, ys)).toArray 160)) from Kept.alloc (HKD.out.mono (S := fun b => b < w.heap.size ∧ b ≠ H) (fun b h => h.2)) (fun b h => by have := HSd.out; have := h.1; omega) _)
  have HGDe := Lib.hid (Blk.alloc (HGD.out.kept HKD.out n1) (.cells (wcells (i, ys)).toArray 160))
  have HGIe := Lib.hid (Blk.alloc (HGI.out.kept HKD.out n2) (.cells (wcells (i, ys)).toArray 160))
  have HGBe := Lib.hid (Blk.alloc (Arr.kept HGB.out HKD.out HNE.out) (.cells (wcells (i, ys)).toArray 160))
  have HZ := Lib.hid (show u.heap.size = w.heap.size from HSd.out.symm)
  generalize hu1 : u.alloc (.cells (wcells (i, ys)).toArray 160) = u1 at *
  refine hK.out _ _ (fun _ => hHeld1) (fun hHeld => ?_)
  replace hHeld := hHeld (by decide)
  clear hK K hHeld1 hu1
  refine Tillst.one (i := 9) (o := wr9) (by kernel_rfl) rfl ?_
  intro K hK
  refine step_append_write (.tmp 14) (.tmp 18) rfl rfl 0 v m P rfl HMe.out.own u.heap.size (wcells (i, ys)) rfl HNB.out (wcells_length _ HY.out) (wcells_one _) hm (Nat.zero_le _) ?_
  intro v' u2 hown hgrow hblk
  simp only [wr9, Act.put, List.setIfInBounds_toArray, List.set_cons_zero, List.set_cons_succ]
  have HMF := Lib.hid (HMe.out.regrow hgrow hown)
  have hHeld2 := And.intro (cell_grown hgrow hHeld.1 (own_blk_ne HMe.out.own HGDe.out (by decide))) (And.intro (cell_grown hgrow hHeld.2.1 (own_blk_ne HMe.out.own HGIe.out (by decide))) (And.intro (cell_grown hgrow hHeld.2.2.1 HMe.out.vd) (range_grown hgrow hHeld.2.2.2 (own_blk_ne HMe.out.own HGBe.out (by decide)))))
  have hfz := (HMe.out.blk.grown hgrow (fun e => HMe.out.vd e.symm)).frozen 2
  have hvb : ∀ g, v'.ownBlock = some g → v.ownBlock = some g ∨ w.heap.size ≤ g := by
    intro g hg
    rcases hblk with e | e
    · exact .inl (by rw [← e]; exact hg)
    · rw [e] at hg
      injection hg with hg
      have := HSe.out
      exact .inr (by omega)
  have HVB := Lib.hid hvb
  have HKF := Lib.hid (show Kept (fun b => b < w.heap.size ∧ b ≠ d ∧ b ≠ H ∧ v.ownBlock ≠ some b) w (u2.setCell ⟨d, 2, none⟩ v') from
    ((HKE.out.mono (S := fun b => b < w.heap.size ∧ b ≠ d ∧ b ≠ H ∧ v.ownBlock ≠ some b) (fun b h => ⟨h.1, h.2.2.1⟩)).grown hgrow (fun b h => by have := HSe.out; omega) (fun g hg h => h.2.2.2 hg)).setCell (fun h => h.2.1 rfl) _)
  obtain ⟨g', cap', rfl, _, _, _⟩ : ∃ g cap, v' = .slice (some ⟨g, 0, none⟩) (m + 1) cap ∧ 0 ≤ g ∧ g < u2.heap.size ∧ m + 1 ≤ cap := by
    have hlt := hown.lt
    rcases hown.2 with ⟨_, h0⟩ | ⟨g, cap, cur, rfl, hg, hh, hnc, hc⟩
    · omega
    · exact ⟨g, cap, rfl, hg, (hlt g rfl).2, hnc⟩
  refine hK.out _ _ (fun _ => hHeld2) (fun hHeld => ?_)
  replace hHeld := hHeld (by decide)
  clear hK K hHeld2 hown hgrow hblk hvb
  refine Tillst.one (i := 10) (o := wr10) (by kernel_rfl) rfl ?_
  intro K hK
  refine step_value ?_ rfl ?_ ?_
  rotate_left
  · unfold wr10; go_simp; with_reducible rfl
  simp only [wr10, Act.put, List.setIfInBounds_toArray, List.set_cons_zero, List.set_cons_succ]
  refine hK.out _ _ (fun _ => hHeld) (fun hHeld => ?_)
  replace hHeld := hHeld (by decide)
  clear hK K
  refine Tillst.one (i := 11) (o := wr11) (by kernel_rfl) rfl ?_
  intro K hK
  refine step_value ?_ rfl ?_ ?_
  rotate_left
  · unfold wr11; go_simp; with_reducible rfl
  simp only [wr11, Act.put, List.setIfInBounds_toArray, List.set_cons_zero, List.set_cons_succ]
  refine hK.out _ _ (fun _ => hHeld) (fun hHeld => ?_)
  replace hHeld := hHeld (by decide)
  clear hK K
  refine Tillst.one (i := 12) (o := wr12) (by kernel_rfl) rfl ?_
  intro K hK
  have hst : (Instr.storeAt 155 (.pointer (some ⟨d, 2, none⟩)) (.slice (some ⟨g', 0, none⟩) (m + 1) cap')).run Tryz.prog u2 = .ok () (u2.setCell ⟨d, 2, none⟩ (.slice (some ⟨g', 0, none⟩) (m + 1) cap')) := by
    have hc := hHeld.2.2.1
    go_simp
  refine step_store_cell (.tmp 21) (.tmp 19) 155 rfl rfl ⟨d, 2, none⟩ _ rfl rfl hst ?_
  simp only [wr12, Act.put, List.setIfInBounds_toArray, List.set_cons_zero, List.set_cons_succ]
  refine hK.out _ _ (fun h => by cases h) (fun _ => Tillst.done (by kernel_rfl) ?_ _)
  refine NoPanic.normal ?_
  go_wp2
  go_end0
  exact ⟨rfl, _, HMF.out, HVB.out, HKF.out⟩
end
end Go.Proofs.YtodcohkblgjfeaaGreat

namespace Go.Proofs.YtodcohkblgjfeaaGreat
set_option maxRecDepth 100000
open Go.RowKit
set_option linter.unusedVariables false
set_option linter.unusedSimpArgs false
def over (s : List (List Int)) (l : List (Nat × List Int)) : List (List Int) := l.foldl (fun s p => s.set p.1 p.2) s
theorem over_snoc (s : List (List Int)) (l : List (Nat × List Int)) (p : Nat × List Int) : over s (l ++ [p]) = (over s l).set p.1 p.2 := by simp [over]
theorem over_nil (s : List (List Int)) : over s [] = s := rfl
theorem over_length (s : List (List Int)) (l : List (Nat × List Int)) : (over s l).length = s.length := by
  induction l generalizing s with
  | nil => rfl
  | cons p r ih => simp only [over, List.foldl_cons] at *; rw [ih]; simp
def lived (L : Nat → Bool) (l : List (Nat × List Int)) : Nat → List (Nat × List Int)
  | 0 => []
  | k + 1 => if L k then lived L l k ++ (l.drop k).take 1 else lived L l k
theorem lived_all (l : List (Nat × List Int)) : ∀ k, lived (fun _ => true) l k = l.take k
  | 0 => by simp [lived]
  | k + 1 => by
    simp only [lived, if_true, lived_all l k]
    rw [List.take_add]
theorem lived_none (l : List (Nat × List Int)) : ∀ k, lived (fun _ => false) l k = []
  | 0 => rfl
  | k + 1 => by simp [lived, lived_none l k]
theorem lived_mem {L : Nat → Bool} {l : List (Nat × List Int)} : ∀ {k : Nat} {p : Nat × List Int}, p ∈ lived L l k → p ∈ l
  | 0, p, h => by simp [lived] at h
  | k + 1, p, h => by
    unfold lived at h
    split at h
    · rcases List.mem_append.1 h with h | h
      · exact lived_mem h
      · exact List.mem_of_mem_drop (List.mem_of_mem_take h)
    · exact lived_mem h
theorem lived_step (L : Nat → Bool) (l : List (Nat × List Int)) (k : Nat) (hk : k < l.length) (hL : L k = true) : lived L l (k + 1) = lived L l k ++ [l[k]] := by
  rw [lived, if_pos hL, List.drop_eq_getElem_cons hk]
  rfl
theorem lived_skip (L : Nat → Bool) (l : List (Nat × List Int)) (k : Nat) (hL : L k = false) : lived L l (k + 1) = lived L l k := by
  rw [lived, hL]
  rfl
def back (s h : List (List Int)) (l : List (Nat × List Int)) : List (List Int) := l.foldl (fun h p => h.set p.1 (s.getD p.1 [])) h
theorem back_snoc (s h : List (List Int)) (l : List (Nat × List Int)) (p : Nat × List Int) : back s h (l ++ [p]) = (back s h l).set p.1 (s.getD p.1 []) := by simp [back]
theorem back_length (s h : List (List Int)) (l : List (Nat × List Int)) : (back s h l).length = h.length := by
  induction l generalizing h with
  | nil => rfl
  | cons p r ih => simp only [back, List.foldl_cons] at *; rw [ih]; simp
theorem set_get_same (xs : List (List Int)) (i j : Nat) (y : List Int) : (xs.set i y)[j]? = if i = j ∧ j < xs.length then some y else xs[j]? := by
  rw [List.getElem?_set]
  by_cases h : i = j
  · subst h
    by_cases h2 : i < xs.length <;> simp [h2]
  · simp [h]
theorem over_get (s : List (List Int)) (l : List (Nat × List Int)) (j : Nat) (hj : ∀ p ∈ l, p.1 ≠ j) : (over s l)[j]? = s[j]? := by
  induction l generalizing s with
  | nil => rfl
  | cons p r ih =>
    have h1 := ih (s.set p.1 p.2) (fun q hq => hj q (List.mem_cons_of_mem _ hq))
    have h2 := hj p (List.mem_cons_self ..)
    simp only [over, List.foldl_cons] at *
    rw [h1, set_get_same, if_neg (by omega)]
theorem back_get (s h : List (List Int)) (hl : s.length = h.length) (l : List (Nat × List Int)) (j : Nat) : (back s h l)[j]? = if (∃ p ∈ l, p.1 = j) then s[j]? else h[j]? := by
  induction l generalizing h with
  | nil => simp [back]
  | cons p r ih =>
    have h1 := ih (h.set p.1 (s.getD p.1 [])) (by simpa using hl)
    simp only [back, List.foldl_cons] at *
    rw [h1, set_get_same]
    by_cases hp : p.1 = j
    · rw [if_pos (show ∃ q ∈ p :: r, q.1 = j from ⟨p, List.mem_cons_self .., hp⟩)]
      split
      · rfl
      · by_cases hlt : j < h.length
        · rw [if_pos ⟨hp, hlt⟩, hp]
          simp [List.getD, List.getElem?_eq_getElem (show j < s.length by omega)]
        · rw [if_neg (by omega), List.getElem?_eq_none (by omega), List.getElem?_eq_none (by omega)]
    · rw [if_neg (show ¬ (p.1 = j ∧ j < h.length) from fun h => hp h.1)]
      by_cases hr : ∃ q ∈ r, q.1 = j
      · obtain ⟨q, hq, e⟩ := hr
        rw [if_pos ⟨q, hq, e⟩, if_pos ⟨q, List.mem_cons_of_mem _ hq, e⟩]
      · rw [if_neg hr, if_neg]
        rintro ⟨q, hq, e⟩
        rcases List.mem_cons.1 hq with rfl | hq
        · exact hp e
        · exact hr ⟨q, hq, e⟩
theorem back_over (s : List (List Int)) (l : List (Nat × List Int)) (L : Nat → Bool) (k : Nat) : back (over s (lived L l k)) (over s l) l = over s (lived L l k) := by
  apply List.ext_getElem?
  intro j
  rw [back_get _ _ (by rw [over_length, over_length])]
  split
  · rfl
  · rename_i hno
    rw [over_get s l j (fun p hp e => hno ⟨p, hp, e⟩), over_get s _ j (fun p hp e => hno ⟨p, lived_mem hp, e⟩)]
def Fits (n : Nat) (l : List (Nat × List Int)) : Prop := ∀ p ∈ l, p.1 < n ∧ p.2.length = 64 ∧ Bytes p.2
theorem over_secs {s : List (List Int)} {l : List (Nat × List Int)} (hs : Secs s) (hl : ∀ p ∈ l, p.2.length = 64) : Secs (over s l) := by
  induction l generalizing s with
  | nil => exact hs
  | cons p r ih => exact ih (hs.set_ p.1 (hl p (List.mem_cons_self ..))) (fun q hq => hl q (List.mem_cons_of_mem _ hq))
theorem back_secs {s h : List (List Int)} {l : List (Nat × List Int)} (hs : Secs s) (hh : Secs h) (hl : ∀ p ∈ l, p.1 < s.length) : Secs (back s h l) := by
  induction l generalizing h with
  | nil => exact hh
  | cons p r ih => exact ih (hh.set_ p.1 (hs.get p.1 (hl p (List.mem_cons_self ..)))) (fun q hq => hl q (List.mem_cons_of_mem _ hq))
theorem wpList_alloc_row_s7 {P : Program} {w : World} {ops : Array Oper} {rest : List Oper} {o : Oper} {a : Act} {Q : Exit → Act → World → Prop} (ty : TypeId) (ho : o.op = .alloc ty) (hgd : o.guard = none) (zs : Array Value) (hz : ∀ w, (zeroValue ty).run P w = .ok (.agg zs) w)
    (h : wpList P ops Q rest (a.put o.dst (.pointer (some ⟨w.heap.size, 0, none⟩))) (w.alloc (.cells zs ty))) : wpList P ops Q (o :: rest) a w := by
  refine wpList_plain hgd fun K hK => ?_
  unfold Oper.wp execOp
  simp only [ho, Instr.alloc, Sem.run_bind, hz, Result.andThen_ok]
  exact hK _ _ h
theorem wpList_store_fresh_s7 {P : Program} {w : World} {ops : Array Oper} {rest : List Oper} {o : Oper} {a : Act} {Q : Exit → Act → World → Prop} (x y : Operand) (ty : TypeId) (ho : o.op = .store ty x y) (hgd : o.guard = none) (w0 : World) (zs cs : Array Value)
    (hx : a.eval x = .pointer (some ⟨w0.heap.size, 0, none⟩)) (hy : a.eval y = .agg cs) (t : TypeId) (hw : w = w0.alloc (.cells zs t)) (hi : (P.info? ty).map (·.size) = some cs.size) (hl : zs.size = cs.size) (hone : cs.all (·.oneCell') = true)
    (h : wpList P ops Q rest (a.put o.dst undef) (w0.alloc (.cells cs t))) : wpList P ops Q (o :: rest) a w := by
  subst hw
  refine wpList_store_row hgd ty x y ho w0.heap.size cs hx hy t zs (heap_alloc_last w0 _) hi hl hone ?_
  rw [World.setRow_alloc_new]
  exact h
theorem own_slice {w : World} {base m : Nat} {v : Value} {l : List (Nat × List Int)} (h : w.ownsRow base 160 65 v m (flatP l)) :
    ∃ A cap, v = .slice A m cap ∧ m ≤ cap ∧ (0 < m → ∃ g, A = some ⟨g, 0, none⟩) := by
  rcases h.2 with ⟨rfl, rfl⟩ | ⟨g, cap, cur, rfl, hg, hh, hnc, hc⟩
  · exact ⟨none, 0, rfl, by omega, fun h => absurd h (by omega)⟩
  · exact ⟨_, cap, rfl, hnc, fun _ => ⟨g, rfl⟩⟩
theorem own_write {w : World} {base m g cap : Nat} {l : List (Nat × List Int)} (h : w.ownsRow base 160 65 (.slice (some ⟨g, 0, none⟩) m cap) m (flatP l)) (hl : ∀ p ∈ l, p.2.length = 64) (k : Nat) (hk : k < l.length) : w.rangeAt g (k * 65) (wcells l[k]) := by
  intro j v hv
  have hj : j < 65 := by
    rcases Nat.lt_or_ge j 65 with h0 | h0
    · exact h0
    · rw [List.getElem?_eq_none (by rw [wcells_length _ (hl _ (List.getElem_mem hk))]; omega)] at hv
      cases hv
  have h1 := h.cells (g := g) rfl (k * 65 + j) v (by rw [flatP_part hl k hk j hj]; exact hv)
  rw [add_plain, Nat.zero_add] at h1
  exact h1
theorem own_len {w : World} {base m : Nat} {v : Value} {l : List (Nat × List Int)} (h : w.ownsRow base 160 65 v m (flatP l)) (hl : ∀ p ∈ l, p.2.length = 64) : l.length = m := by
  have := h.1
  rw [flatP_length hl] at this
  omega
end Go.Proofs.YtodcohkblgjfeaaGreat
