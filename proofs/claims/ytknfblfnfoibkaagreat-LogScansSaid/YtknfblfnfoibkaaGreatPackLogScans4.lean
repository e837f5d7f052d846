/- Texts of LogScans, packed. -/
import Derived.Test.YtknfblfnfoibkaaGreatPackLogScans3
import Derived.Deep.RegionHeld3
import Derived.Deep.DeepCutAuto
set_option linter.unusedVariables false
set_option linter.unusedSimpArgs false
set_option maxRecDepth 100000
set_option maxHeartbeats 16000000
namespace Go.Proofs.YtknfblfnfoibkaaGreat
section
open Go.RowKit
theorem rright_yes (k f x s : Int) (A A' : Option Addr) (n c n' c' : Nat) (w : World) (h : May k f x s n n') :
 Calls Tryz.prog 73 #[.agg #[.int .i64 k, .int .u32 f, .int .u32 x, .int .u64 s, .slice A n c, .slice A' n' c']] w fun e w' => e = .returned (.bool true) ∧ Below w.heap.size w w' := by
 obtain ⟨h1, h2, h3, h4, h5⟩ := h
 have d1 : (s == 0) = false := by simpa using h1
 have d2 : decide ((n : Int) < 1) = false := by simp; omega
 have d3 : decide ((250 : Int) < n) = false := by simp; omega
 have d4 : decide ((512 : Int) < n') = false := by simp; omega
 rcases h5 with rfl | ⟨rfl, rfl, rfl, rfl⟩
 ·go_enter Tryz.func73, Tryz.ntmps73
  go_wp2
  go_ret
  exact ⟨rfl, (Below.refl _ _).alloc (nR _) _⟩
 ·go_enter Tryz.func73, Tryz.ntmps73
  go_wp2
  go_ret
  exact ⟨rfl, (Below.refl _ _).alloc (nR _) _⟩
theorem rright_no (k f x s : Int) (A A' : Option Addr) (n c m c' : Nat) (w : World) (h : ¬ May k f x s n m) :
 Calls Tryz.prog 73 #[.agg #[.int .i64 k, .int .u32 f, .int .u32 x, .int .u64 s, .slice A n c, .slice A' m c']] w fun e w' => e = .returned (.bool false) ∧ Below w.heap.size w w' := by
 unfold May at h
 by_cases h1 : s = 0
 ·subst h1
  clear h
  go_enter Tryz.func73, Tryz.ntmps73
  go_wp2
  go_ret
  exact ⟨rfl, (Below.refl _ _).alloc (nR _) _⟩
 have d1 : (s == 0) = false := by simpa using h1
 by_cases h2 : 1 ≤ n
 case neg =>
  have d2 : decide ((n : Int) < 1) = true := by simp; omega
  clear h h2
  go_enter Tryz.func73, Tryz.ntmps73
  go_wp2
  go_ret
  exact ⟨rfl, (Below.refl _ _).alloc (nR _) _⟩
 have d2 : decide ((n : Int) < 1) = false := by simp; omega
 by_cases h3 : n ≤ 250
 case neg =>
  have d3 : decide ((250 : Int) < n) = true := by simp; omega
  clear h h3
  go_enter Tryz.func73, Tryz.ntmps73
  go_wp2
  go_ret
  exact ⟨rfl, (Below.refl _ _).alloc (nR _) _⟩
 have d3 : decide ((250 : Int) < n) = false := by simp; omega
 by_cases h4 : m ≤ 512
 case neg =>
  have d4 : decide ((512 : Int) < m) = true := by simp; omega
  clear h h4
  go_enter Tryz.func73, Tryz.ntmps73
  go_wp2
  go_ret
  exact ⟨rfl, (Below.refl _ _).alloc (nR _) _⟩
 have d4 : decide ((512 : Int) < m) = false := by simp; omega
 have h5 : k ≠ 1 := fun e => h ⟨h1, h2, h3, h4, .inl e⟩
 have d5 : (k == 1) = false := by simpa using h5
 by_cases h6 : k = 2
 case neg =>
  have d6 : (k == 2) = false := by simpa using h6
  clear h h6 h5 h1
  go_enter Tryz.func73, Tryz.ntmps73
  go_wp2
  go_ret
  exact ⟨rfl, (Below.refl _ _).alloc (nR _) _⟩
 subst h6
 clear d5 h5
 by_cases h7 : f = 0
 case neg =>
  have d7 : (f == 0) = false := by simpa using h7
  clear h h7 h1
  go_enter Tryz.func73, Tryz.ntmps73
  go_wp2
  go_ret
  exact ⟨rfl, (Below.refl _ _).alloc (nR _) _⟩
 subst h7
 by_cases h8 : x = 0
 case neg =>
  have d8 : (x == 0) = false := by simpa using h8
  clear h h8 h1
  go_enter Tryz.func73, Tryz.ntmps73
  go_wp2
  go_ret
  exact ⟨rfl, (Below.refl _ _).alloc (nR _) _⟩
 subst h8
 have h9 : m ≠ 0 := fun e => h ⟨h1, h2, h3, h4, .inr ⟨rfl, rfl, rfl, e⟩⟩
 have d9 : ((m : Int) == 0) = false := by simp; omega
 clear h h9 h1
 go_enter Tryz.func73, Tryz.ntmps73
 go_wp2
 go_ret
 exact ⟨rfl, (Below.refl _ _).alloc (nR _) _⟩
end
section
open Go.RowKit
theorem rneed_short (A : Option Addr) (n c : Nat) (w : World) (hn : n < 21) :
 Calls Tryz.prog 172 #[.slice A n c] w fun e w' => e = .returned (.tuple #[.int .i64 0, .int .i64 9]) ∧ Below w.heap.size w w' := by
 go_enter Tryz.func172, Tryz.ntmps172
 go_wp2_with fail
 go_ret2
 exact ⟨rfl, Below.refl _ _⟩
def RNeedTold (xs : List Int) (w : World) (e : Ending) (w' : World) : Prop :=
 (MayB xs → e = .returned (.tuple #[.int .i64 ((needOf xs : Nat) : Int), .int .i64 0])) ∧ (¬ MayB xs → e = .returned (.tuple #[.int .i64 0, .int .i64 160])) ∧ Below w.heap.size w w'
theorem rneed_any (A : Option Addr) (n c : Nat) (xs : List Int) (S : Nat → Prop) (w : World) (hx : RowI .u8 w S A n xs) (hS : ∀ b, S b → b < w.heap.size) (hb : Bytes xs) (hn : 21 ≤ n) (hc : n ≤ c) :
 Calls Tryz.prog 172 #[.slice A n c] w (RNeedTold xs w) := by
 obtain ⟨b0, o0, rfl, hsrc⟩ := src_of hx hS (by omega)
 have hl := hx.1
 have hf := flags_bounds hb
 have hx' := exp_bounds hb
 have hkl := klen_lt hb
 have hvl := vlen_lt hb
 have hk0 : 0 ≤ kindOf xs ∧ kindOf xs ≤ 255 := by rw [kind_first (by omega)]; exact hb 0
 have HS0 := hI hsrc
 have HBY := hI hb
 have HKF := hI (kind_first (xs := xs) (by omega))
 have cell0 : w.cell? ⟨b0, o0, none⟩ = some (.int .u8 (kindOf xs)) := by rw [HKF.out]; exact hsrc.cell 0 (by omega)
 have h1 : ¬ ((n : Int) < 21) := by omega
 have hc21 : (21 : Int) ≤ c := by omega
 have kw : IntKind.i64.wrap (kindOf xs) = kindOf xs := by rw [IntKind.wrap_i64]; omega
 have fw : IntKind.u32.wrap (flagsOf xs) = flagsOf xs := by rw [IntKind.wrap_u32]; omega
 have xw : IntKind.u32.wrap (expOf xs) = expOf xs := by rw [IntKind.wrap_u32]; omega
 have HNF := hI (show numOf ((xs.drop 1).take 4) = flagsOf xs from rfl)
 have HNX := hI (show numOf ((xs.drop 5).take 4) = expOf xs from rfl)
 have HNS := hI (show numOf ((xs.drop 9).take 8) = seqOf xs from rfl)
 have HNK := hI (klen_eq hb)
 have HNV := hI (vlen_eq hb)
 clear hx hb hsrc
 have HSD := hI HS0.out.drew
 have c0 : w.drew.cell? ⟨b0, o0, none⟩ = some (.int .u8 (kindOf xs)) := cell0
 have hn0 : 0 < n := by omega
 have hs1 : ∀ W, (Instr.sliceAt 40 (.slice (some ⟨b0, o0, none⟩) n c) (some (.int .i64 1)) (some (.int .i64 5)) none).run Tryz.prog W = .ok (.slice (some ⟨b0, o0 + 1, none⟩) 4 (c - 1)) W := slice_lh b0 o0 n c 1 5 (by omega) (by omega) (by omega)
 have hs5 : ∀ W, (Instr.sliceAt 40 (.slice (some ⟨b0, o0, none⟩) n c) (some (.int .i64 5)) (some (.int .i64 9)) none).run Tryz.prog W = .ok (.slice (some ⟨b0, o0 + 5, none⟩) 4 (c - 5)) W := slice_lh b0 o0 n c 5 9 (by omega) (by omega) (by omega)
 have hs9 : ∀ W, (Instr.sliceAt 40 (.slice (some ⟨b0, o0, none⟩) n c) (some (.int .i64 9)) (some (.int .i64 17)) none).run Tryz.prog W = .ok (.slice (some ⟨b0, o0 + 9, none⟩) 8 (c - 9)) W := slice_lh b0 o0 n c 9 17 (by omega) (by omega) (by omega)
 have hs17 : ∀ W, (Instr.sliceAt 40 (.slice (some ⟨b0, o0, none⟩) n c) (some (.int .i64 17)) (some (.int .i64 19)) none).run Tryz.prog W = .ok (.slice (some ⟨b0, o0 + 17, none⟩) 2 (c - 17)) W := slice_lh b0 o0 n c 17 19 (by omega) (by omega) (by omega)
 have hs19 : ∀ W, (Instr.sliceAt 40 (.slice (some ⟨b0, o0, none⟩) n c) (some (.int .i64 19)) (some (.int .i64 21)) none).run Tryz.prog W = .ok (.slice (some ⟨b0, o0 + 19, none⟩) 2 (c - 19)) W := slice_lh b0 o0 n c 19 21 (by omega) (by omega) (by omega)
 go_enter Tryz.func172, Tryz.ntmps172
 go_upto_region 3 with fail
 go_cut [4] (fun s wx => ∃ g, s = .pointer (some ⟨g, 0, none⟩) ∧ w.heap.size ≤ g ∧ Blk wx g 69 (recC (kindOf xs) (flagsOf xs) (expOf xs) (seqOf xs) none 0 0 none 0 0) ∧ Src xs b0 o0 n w wx)
 case first =>
  go_region_held3 (fun W => W.cell? ⟨b0, o0, none⟩ = some (.int .u8 (kindOf xs)) ∧ Src xs b0 o0 n w W) (first | with_reducible exact ⟨c0, HSD.out⟩ | exact ⟨c0, HSD.out⟩ | exact ⟨(World.cell?_alloc_lt _ _ _ HSD.out.lt).trans c0, HSD.out.alloc _⟩)
   ((go_at_call 219; refine (rnum_any _ _ _ _ (fun _ => True) _ (by first | with_reducible exact Src.part (And.right (by assumption)) 1 4 (by omega) | with_reducible exact Src.part (And.right (by assumption)) 5 4 (by omega) | with_reducible exact Src.part (And.right (by assumption)) 9 8 (by omega)) (by first | exact bytes_part HBY.out 1 4 | exact bytes_part HBY.out 5 4 | exact bytes_part HBY.out 9 8) (by omega)).mono ?_; (first | rw [HNF.out] | rw [HNX.out] | rw [HNS.out]); rintro e w' ⟨rfl, rfl⟩))
  all_goals
   go_wp2_with fail
   go_meet
   exact ⟨w.heap.size, rfl, nR _, Blk.new w _ _, (HS0.out.alloc _).drew⟩
 case rest =>
  obtain ⟨g, rfl, hg, hblk, hsrc⟩ := hcut
  have HG := hI hg
  have HBK := hI hblk
  have HSR := hI hsrc
  clear hg hblk hsrc cell0 c0 HSD hs1 hs5 hs9
  have hmk := fun u : World => run_make_row' (P := Tryz.prog) 40 5 (.int .u8 0) 1 Tryz.underlying40 info_u8 rfl .u64 .u64 (klenOf xs) (by omega) (by omega) u
  have hmv := fun u : World => run_make_row' (P := Tryz.prog) 40 5 (.int .u8 0) 1 Tryz.underlying40 info_u8 rfl .u64 .u64 (vlenOf xs) (by omega) (by omega) u
  go_wp2_with fail
  refine (rnum_any _ 2 _ _ (fun _ => True) _ (HSR.out.part 17 2 (by omega)) (bytes_part HBY.out 17 2) (by omega)).mono ?_
  rintro e w' ⟨rfl, rfl⟩
  rw [HNK.out]
  have hb1 := HBK.out.alloc (.cells (madeCells #[.int .u8 0] (klenOf xs)) 5)
  have q0 := hb1.cell 4
  have q1 := hb1.frozen 4
  simp only [List.getElem?_toArray, List.getElem?_cons_zero, List.getElem?_cons_succ] at q0
  have HBK1 := hI (show Blk _ g 69 (recC (kindOf xs) (flagsOf xs) (expOf xs) (seqOf xs) (some ⟨wc.heap.size, 0, none⟩) (klenOf xs) (klenOf xs) none 0 0) from hb1.set_ 4 (.slice (some ⟨wc.heap.size, 0, none⟩) (klenOf xs) (klenOf xs)))
  have HSR1 := hI ((HSR.out.alloc (.cells (madeCells #[.int .u8 0] (klenOf xs)) 5)).setCell (p := ⟨g, 4, none⟩) HG.out (.slice (some ⟨wc.heap.size, 0, none⟩) (klenOf xs) (klenOf xs)))
  clear hb1
  go_wp2_with fail
  clear q0 q1
  generalize hw1 : World.setCell _ _ _ = w1 at *
  clear hw1
  refine (rnum_any _ 2 _ _ (fun _ => True) _ (HSR1.out.part 19 2 (by omega)) (bytes_part HBY.out 19 2) (by omega)).mono ?_
  rintro e w' ⟨rfl, rfl⟩
  rw [HNV.out]
  have hb2 := HBK1.out.alloc (.cells (madeCells #[.int .u8 0] (vlenOf xs)) 5)
  have q0 := hb2.cell 5
  have q1 := hb2.frozen 5
  simp only [List.getElem?_toArray, List.getElem?_cons_zero, List.getElem?_cons_succ] at q0
  have HBK2 := hI (show Blk _ g 69 (recC (kindOf xs) (flagsOf xs) (expOf xs) (seqOf xs) (some ⟨wc.heap.size, 0, none⟩) (klenOf xs) (klenOf xs) (some ⟨w1.heap.size, 0, none⟩) (vlenOf xs) (vlenOf xs)) from hb2.set_ 5 (.slice (some ⟨w1.heap.size, 0, none⟩) (vlenOf xs) (vlenOf xs)))
  have HSR2 := hI ((HSR1.out.alloc (.cells (madeCells #[.int .u8 0] (vlenOf xs)) 5)).setCell (p := ⟨g, 5, none⟩) HG.out (.slice (some ⟨w1.heap.size, 0, none⟩) (vlenOf xs) (vlenOf xs)))
  clear hb2
  go_wp2_with (refine wpList_load_rowB (.tmp 4) 69 rfl rfl g rfl 69 [.int .i64 (kindOf xs), .int .u32 (flagsOf xs), .int .u32 (expOf xs), .int .u64 (seqOf xs), .slice (some ⟨wc.heap.size, 0, none⟩) (klenOf xs) (klenOf xs), .slice (some ⟨w1.heap.size, 0, none⟩) (vlenOf xs) (vlenOf xs)] _ Tryz.underlying69 rfl size_rec HBK2.out ?_)
  clear q0 q1
  generalize hw2 : World.setCell _ _ _ = w2 at *
  clear hw2
  by_cases hm : MayB xs
  ·have HM := hI hm
   refine (rright_yes _ _ _ _ _ _ _ _ _ _ w2 hm).mono ?_
   rintro e w3 ⟨rfl, hb⟩
   have HB3 := hI (HSR2.out.bel.trans (hb.mono HSR2.out.bel.size))
   have hb3 := HBK2.out.below hb HBK2.out.lt
   have q0 := hb3.cell 4
   have q1 := hb3.cell 5
   simp only [List.getElem?_toArray, List.getElem?_cons_zero, List.getElem?_cons_succ] at q0 q1
   clear hb hb3 hm hmk hmv
   go_wp2_with fail
   go_ret2
   refine ⟨fun _ => ?_, fun h => absurd HM.out h, HB3.out⟩
   show Ending.returned (.tuple #[.int .i64 _, .int .i64 0]) = _
   have e : (21 + (klenOf xs : Int) + vlenOf xs) = ((needOf xs : Nat) : Int) := by unfold needOf; omega
   rw [← e]
  ·have HM := hI hm
   refine (rright_no _ _ _ _ _ _ _ _ _ _ w2 hm).mono ?_
   rintro e w3 ⟨rfl, hb⟩
   have HB3 := hI (HSR2.out.bel.trans (hb.mono HSR2.out.bel.size))
   clear hb hm hmk hmv
   go_wp2_with fail
   go_ret2
   exact ⟨fun h => absurd h HM.out, fun _ => rfl, HB3.out⟩
end
section
open Go.RowKit
section
variable {xs : List Int} {b0 o0 n : Nat} {w W W' : World}
theorem held_below (h : W.cell? ⟨b0, o0, none⟩ = some (.int .u8 (kindOf xs)) ∧ Src xs b0 o0 n w W) (hb : Below W.heap.size W W') : W'.cell? ⟨b0, o0, none⟩ = some (.int .u8 (kindOf xs)) ∧ Src xs b0 o0 n w W' :=
 ⟨(hb.cell (nL h.2.lt h.2.bel.size)).trans h.1, h.2.below hb⟩
end
theorem rdec_short (A : Option Addr) (n c : Nat) (w : World) (hn : n < 21) :
 Calls Tryz.prog 175 #[.slice A n c] w fun e w' => e = .returned (.tuple #[.agg #[.int .i64 0, .int .u32 0, .int .u32 0, .int .u64 0, .slice none 0 0, .slice none 0 0], .int .i64 0, .int .i64 9]) ∧ Below w.heap.size w w' := by
 go_enter Tryz.func175, Tryz.ntmps175
 go_wp2_with fail
 refine (rneed_short A n c _ hn).mono ?_
 rintro e w1 ⟨rfl, hb⟩
 have HB1 := hI (((Below.refl w.heap.size w).alloc (nR _) _).trans (hb.mono (by simp)))
 have hres := (Blk.new w 69 zeroC).below hb (by simp)
 have HRES := hI hres
 clear hb hres
 go_wp2_with (first
  | (refine wpList_store_rowB (.tmp 2) (.tmp 15) 69 rfl rfl w.heap.size zeroC rfl rfl 69 _ HRES.out size_rec rfl one_zero ?_)
  | (with_reducible refine halt_end ?_))
 exact Halt.ret (results_row3 (p := 2) (u := 3) (v := 4) rfl _ _ w.heap.size 69 zeroC _ rfl (setRow_heap _ _ _ zeroC _ _ HRES.out) Tryz.underlying69 rfl size_rec) rfl ⟨rfl, below_setRow HB1.out (nR _) _⟩
theorem rdec_bad (A : Option Addr) (n c : Nat) (xs : List Int) (S : Nat → Prop) (w : World) (hx : RowI .u8 w S A n xs) (hS : ∀ b, S b → b < w.heap.size) (hb : Bytes xs) (hn : 21 ≤ n) (hc : n ≤ c) (hm : ¬ MayB xs) :
 Calls Tryz.prog 175 #[.slice A n c] w fun e w' => e = .returned (.tuple #[.agg #[.int .i64 0, .int .u32 0, .int .u32 0, .int .u64 0, .slice none 0 0, .slice none 0 0], .int .i64 0, .int .i64 160]) ∧ Below w.heap.size w w' := by
 have HX := hI (hx.keep (w' := w.alloc (.cells zeroC 69)) fun p hp => World.cell?_alloc_lt w _ p (hS _ hp))
 clear hx
 go_enter Tryz.func175, Tryz.ntmps175
 go_wp2_with fail
 refine (rneed_any A n c xs S _ HX.out (fun b h => by have := hS b h; simp; omega) hb hn hc).mono ?_
 rintro e w1 ⟨_, he, hb⟩
 obtain rfl := he hm
 clear he
 have HB1 := hI (((Below.refl w.heap.size w).alloc (nR _) _).trans (hb.mono (by simp)))
 have hres := (Blk.new w 69 zeroC).below hb (by simp)
 have HRES := hI hres
 clear hb hres
 go_wp2_with (first
  | (refine wpList_store_rowB (.tmp 2) (.tmp 15) 69 rfl rfl w.heap.size zeroC rfl rfl 69 _ HRES.out size_rec rfl one_zero ?_)
  | (with_reducible refine halt_end ?_))
 exact Halt.ret (results_row3 (p := 2) (u := 3) (v := 4) rfl _ _ w.heap.size 69 zeroC _ rfl (setRow_heap _ _ _ zeroC _ _ HRES.out) Tryz.underlying69 rfl size_rec) rfl ⟨rfl, below_setRow HB1.out (nR _) _⟩
theorem rdec_cut (A : Option Addr) (n c : Nat) (xs : List Int) (S : Nat → Prop) (w : World) (hx : RowI .u8 w S A n xs) (hS : ∀ b, S b → b < w.heap.size) (hb : Bytes xs) (hn : 21 ≤ n) (hc : n ≤ c) (hm : MayB xs) (hlt : n < needOf xs) :
 Calls Tryz.prog 175 #[.slice A n c] w fun e w' => e = .returned (.tuple #[.agg #[.int .i64 0, .int .u32 0, .int .u32 0, .int .u64 0, .slice none 0 0, .slice none 0 0], .int .i64 0, .int .i64 9]) ∧ Below w.heap.size w w' := by
 have HX := hI (hx.keep (w' := w.alloc (.cells zeroC 69)) fun p hp => World.cell?_alloc_lt w _ p (hS _ hp))
 clear hx
 go_enter Tryz.func175, Tryz.ntmps175
 go_wp2_with fail
 refine (rneed_any A n c xs S _ HX.out (fun b h => by have := hS b h; simp; omega) hb hn hc).mono ?_
 rintro e w1 ⟨he, _, hb⟩
 obtain rfl := he hm
 clear he
 have HB1 := hI (((Below.refl w.heap.size w).alloc (nR _) _).trans (hb.mono (by simp)))
 have hres := (Blk.new w 69 zeroC).below hb (by simp)
 have HRES := hI hres
 have hlt' : decide ((n : Int) < (needOf xs : Int)) = true := by simp; omega
 generalize needOf xs = nd at *
 clear hb hres
 go_wp2_with (first
  | (refine wpList_store_rowB (.tmp 2) (.tmp 21) 69 rfl rfl w.heap.size zeroC rfl rfl 69 _ HRES.out size_rec rfl one_zero ?_)
  | (with_reducible refine halt_end ?_))
 exact Halt.ret (results_row3 (p := 2) (u := 3) (v := 4) rfl _ _ w.heap.size 69 zeroC _ rfl (setRow_heap _ _ _ zeroC _ _ HRES.out) Tryz.underlying69 rfl size_rec) rfl ⟨rfl, below_setRow HB1.out (nR _) _⟩
end
section
open Go.RowKit
def needK (xs : List Int) (n : Nat) : Nat := if 21 ≤ n ∧ MayB xs then needOf xs else 0
def needE (xs : List Int) (n : Nat) : Int := if 21 ≤ n ∧ MayB xs then 0 else errOf xs n
theorem need_all (A : Option Addr) (n c : Nat) (xs : List Int) (S : Nat → Prop) (w : World) (hx : RowI .u8 w S A n xs) (hS : ∀ b, S b → b < w.heap.size) (hb : Bytes xs) (hc : n ≤ c) :
 Calls Tryz.prog 207 #[.slice A n c] w fun e w' => e = .returned (.tuple #[.int .i64 ((needK xs n : Nat) : Int), .int .i64 (needE xs n)]) ∧ Below w.heap.size w w' := by
 by_cases h1 : n < 21
 ·rw [show needK xs n = 0 from if_neg (by omega), show needE xs n = errOf xs n from if_neg (by omega), errOf_short h1]
  exact need_short A n c w h1
 by_cases h2 : MayB xs
 ·rw [show needK xs n = needOf xs from if_pos ⟨by omega, h2⟩, show needE xs n = 0 from if_pos ⟨by omega, h2⟩]
  exact need_ok A n c xs S w hx hS hb (by omega) hc h2
 ·rw [show needK xs n = 0 from if_neg fun h => h2 h.2, show needE xs n = errOf xs n from if_neg fun h => h2 h.2, errOf_bad (by omega) h2]
  exact need_bad A n c xs S w hx hS hb (by omega) hc h2
theorem rneed_all (A : Option Addr) (n c : Nat) (xs : List Int) (S : Nat → Prop) (w : World) (hx : RowI .u8 w S A n xs) (hS : ∀ b, S b → b < w.heap.size) (hb : Bytes xs) (hc : n ≤ c) :
 Calls Tryz.prog 172 #[.slice A n c] w fun e w' => e = .returned (.tuple #[.int .i64 ((needK xs n : Nat) : Int), .int .i64 (needE xs n)]) ∧ Below w.heap.size w w' := by
 by_cases h1 : n < 21
 ·rw [show needK xs n = 0 from if_neg (by omega), show needE xs n = errOf xs n from if_neg (by omega), errOf_short h1]
  exact rneed_short A n c w h1
 by_cases h2 : MayB xs
 ·rw [show needK xs n = needOf xs from if_pos ⟨by omega, h2⟩, show needE xs n = 0 from if_pos ⟨by omega, h2⟩]
  exact (rneed_any A n c xs S w hx hS hb (by omega) hc).mono fun e w' h => ⟨h.1 h2, h.2.2⟩
 ·rw [show needK xs n = 0 from if_neg fun h => h2 h.2, show needE xs n = errOf xs n from if_neg fun h => h2 h.2, errOf_bad (by omega) h2]
  exact (rneed_any A n c xs S w hx hS hb (by omega) hc).mono fun e w' h => ⟨h.2.1 h2, h.2.2⟩
theorem rdec_no (A : Option Addr) (n c : Nat) (xs : List Int) (S : Nat → Prop) (w : World) (hx : RowI .u8 w S A n xs) (hS : ∀ b, S b → b < w.heap.size) (hb : Bytes xs) (hc : n ≤ c) (h : ¬ DecOk xs n) :
 Calls Tryz.prog 175 #[.slice A n c] w fun e w' => e = .returned (.tuple #[.agg #[.int .i64 0, .int .u32 0, .int .u32 0, .int .u64 0, .slice none 0 0, .slice none 0 0], .int .i64 0, .int .i64 (errOf xs n)]) ∧ Below w.heap.size w w' := by
 by_cases h1 : n < 21
 ·rw [errOf_short h1]
  exact rdec_short A n c w h1
 by_cases h2 : MayB xs
 ·rw [errOf_cut h2]
  exact rdec_cut A n c xs S w hx hS hb (by omega) hc h2 (by rcases Nat.lt_or_ge n (needOf xs) with h3 | h3; exact h3; exact absurd ⟨by omega, h2, h3⟩ h)
 ·rw [errOf_bad (by omega) h2]
  exact rdec_bad A n c xs S w hx hS hb (by omega) hc h2
end
section
open Go.RowKit
structure Rng (f x s : Int) : Prop where
 f0 : 0 ≤ f
 f1 : f ≤ 4294967295
 x0 : 0 ≤ x
 x1 : x ≤ 4294967295
 s0 : 0 ≤ s
 s1 : s ≤ 18446744073709551615
def headB (k f x s n m : Int) : List Int := [k] ++ beBytes f 4 ++ beBytes x 4 ++ beBytes s 8 ++ beBytes n 2 ++ beBytes m 2
theorem headB_length (k f x s n m : Int) : (headB k f x s n m).length = 21 := by simp [headB, beBytes_length]
theorem head_bytes (k f x s : Int) (n m : Nat) (w : World) (hk : k = 1 ∨ k = 2) (hr : Rng f x s) (hn : n ≤ 250) (hm : m ≤ 512) :
 Calls Tryz.prog 192 #[.agg #[.int .i64 k, .int .u32 f, .int .u32 x, .int .u64 s, .int .i64 n, .int .i64 m]] w fun e w' => ∃ g, e = .returned (.slice (some ⟨g, 0, none⟩) 21 21) ∧ w.heap.size ≤ g ∧ ArrU w' g (headB k f x s n m) ∧ Below w.heap.size w w' := by
 have HR := hI hr
 have hk0 : 0 ≤ k ∧ k ≤ 255 := by omega
 clear hr hk
 go_enter Tryz.func192, Tryz.ntmps192
 go_wp2_with fail
 generalize hw1 : (w.alloc _).alloc _ = w1
 have HG1 := hI (show Blk w1 w.heap.size 216 (headC k f x s n m) by rw [← hw1]; exact (Blk.new w _ _).alloc _)
 have HA1 := hI (show ArrU w1 (w.heap.size + 1) [k] by rw [← hw1]; exact blk_new2 w _ 5 #[.int .u8 k])
 have HB1 := hI (show Below w.heap.size w w1 by rw [← hw1]; exact ((Below.refl _ _).alloc (nR _) _).alloc (by simp) _)
 have HS1 := hI (show w1.heap.size = w.heap.size + 2 by rw [← hw1]; simp)
 clear hw1
 refine (put32_any (some ⟨w.heap.size + 1, 0, none⟩) 1 1 ([k]) (· = w.heap.size + 1) f w1 (HA1.out.rowN 0 (by simp [beBytes_length]) rfl) (fun b h => by subst h; exact HA1.out.lt) (by omega) HR.out.f0 HR.out.f1).mono ?_
 rintro e w2 ⟨rfl, ha, hb⟩
 have HA2 := hI ha
 have HG2 := hI (HG1.out.below hb HG1.out.lt)
 have HB2 := hI (HB1.out.trans (hb.mono HB1.out.size))
 have hcell := HG2.out.cell 2
 simp only [List.getElem?_toArray, List.getElem?_cons_zero, List.getElem?_cons_succ] at hcell
 clear ha hb
 go_wp2_with fail
 clear hcell
 refine (put32_any (some ⟨w1.heap.size, 0, none⟩) 5 5 ([k] ++ beBytes f 4) (· = w1.heap.size) x w2 (HA2.out.rowN 0 (by simp [beBytes_length]) rfl) (fun b h => by subst h; exact HA2.out.lt) (by omega) HR.out.x0 HR.out.x1).mono ?_
 rintro e w3 ⟨rfl, ha, hb⟩
 have HA3 := hI ha
 have HG3 := hI (HG2.out.below hb HG2.out.lt)
 have HB3 := hI (HB2.out.trans (hb.mono HB2.out.size))
 have hcell := HG3.out.cell 3
 simp only [List.getElem?_toArray, List.getElem?_cons_zero, List.getElem?_cons_succ] at hcell
 clear ha hb
 go_wp2_with fail
 clear hcell
 refine (put64_any (some ⟨w2.heap.size, 0, none⟩) 9 9 ([k] ++ beBytes f 4 ++ beBytes x 4) (· = w2.heap.size) s w3 (HA3.out.rowN 0 (by simp [beBytes_length]) rfl) (fun b h => by subst h; exact HA3.out.lt) (by omega) HR.out.s0 HR.out.s1).mono ?_
 rintro e w4 ⟨rfl, ha, hb⟩
 have HA4 := hI ha
 have HG4 := hI (HG3.out.below hb HG3.out.lt)
 have HB4 := hI (HB3.out.trans (hb.mono HB3.out.size))
 have hcell := HG4.out.cell 4
 simp only [List.getElem?_toArray, List.getElem?_cons_zero, List.getElem?_cons_succ] at hcell
 clear ha hb
 go_wp2_with fail
 clear hcell
 refine (put16_any (some ⟨w3.heap.size, 0, none⟩) 17 17 ([k] ++ beBytes f 4 ++ beBytes x 4 ++ beBytes s 8) (· = w3.heap.size) n w4 (HA4.out.rowN 0 (by simp [beBytes_length]) rfl) (fun b h => by subst h; exact HA4.out.lt) (by omega) (by omega) (by omega)).mono ?_
 rintro e w5 ⟨rfl, ha, hb⟩
 have HA5 := hI ha
 have HG5 := hI (HG4.out.below hb HG4.out.lt)
 have HB5 := hI (HB4.out.trans (hb.mono HB4.out.size))
 have hcell := HG5.out.cell 5
 simp only [List.getElem?_toArray, List.getElem?_cons_zero, List.getElem?_cons_succ] at hcell
 clear ha hb
 go_wp2_with fail
 clear hcell
 refine (put16_any (some ⟨w4.heap.size, 0, none⟩) 19 19 ([k] ++ beBytes f 4 ++ beBytes x 4 ++ beBytes s 8 ++ beBytes n 2) (· = w4.heap.size) m w5 (HA5.out.rowN 0 (by simp [beBytes_length]) rfl) (fun b h => by subst h; exact HA5.out.lt) (by omega) (by omega) (by omega)).mono ?_
 rintro e w6 ⟨rfl, ha, hb⟩
 have HA6 := hI ha
 have HG6 := hI (HG5.out.below hb HG5.out.lt)
 have HB6 := hI (HB5.out.trans (hb.mono HB5.out.size))
 clear ha hb
 go_wp2_with fail
 go_ret
 exact ⟨w5.heap.size, rfl, HB5.out.size, HA6.out, HB6.out⟩
end
section
open Go.RowKit
theorem size_yes (k f x s : Int) (A A' : Option Addr) (n c n' c' : Nat) (w : World) (h : May k f x s n n') :
 Calls Tryz.prog 193 #[.agg #[.int .i64 k, .int .u32 f, .int .u32 x, .int .u64 s, .slice A n c, .slice A' n' c']] w fun e w' => e = .returned (.int .i64 ((21 + n + n' : Nat) : Int)) ∧ Below w.heap.size w w' := by
 have HM := hI h
 clear h
 go_enter Tryz.func193, Tryz.ntmps193
 go_wp2_with fail
 refine (headOf_any k f x s A A' n c n' c' _).mono ?_
 rintro e w1 ⟨rfl, hb⟩
 have HB1 := hI (((Below.refl w.heap.size w).alloc (nR _) _).trans (hb.mono (by simp)))
 clear hb
 go_wp2_with fail
 refine (may_yes k f x s n n' _ HM.out).mono ?_
 rintro e w2 ⟨rfl, hb⟩
 have hg : Blk w2 w1.heap.size 216 (headC k f x s n n') := (Blk.new w1 _ _).below hb (by simp)
 have HB2 := hI ((HB1.out.alloc HB1.out.size _).trans (hb.mono (by have := HB1.out.size; simp; omega)))
 have c0 := hg.cell 0
 have c1 := hg.cell 1
 have c2 := hg.cell 2
 have c3 := hg.cell 3
 have c4 := hg.cell 4
 have c5 := hg.cell 5
 simp only [List.getElem?_toArray, List.getElem?_cons_zero, List.getElem?_cons_succ] at c0 c1 c2 c3 c4 c5
 clear hb hg
 go_wp2_with fail
 refine (size_any k f x s n n' _ HM.out.2.2.1 HM.out.2.2.2.1).mono ?_
 rintro e w3 ⟨rfl, hb⟩
 have HB3 := hI (HB2.out.trans (hb.mono HB2.out.size))
 clear hb
 clear c0 c1 c2 c3 c4 c5
 go_wp2_with fail
 go_ret
 exact ⟨rfl, HB3.out⟩
end
section
open Go.RowKit
def recB (k f x s : Int) (xs ys : List Int) : List Int := headB k f x s xs.length ys.length ++ xs ++ ys
theorem recB_length (k f x s : Int) (xs ys : List Int) : (recB k f x s xs ys).length = 21 + xs.length + ys.length := by simp [recB, headB_length]; omega
def EncTold (ys : List Int) (w : World) (e : Ending) (w' : World) : Prop :=
 ∃ v, e = .returned (.tuple #[v, .int .i64 0]) ∧ w'.ownsRow w.heap.size 5 1 v ys.length (ys.map (Value.int .u8)) ∧ Below w.heap.size w w'
theorem encode_yes (k f x s : Int) (A A' : Option Addr) (n c n' c' : Nat) (xs ys : List Int) (S : Nat → Prop) (w : World) (h : May k f x s n n') (hr : Rng f x s)
 (hx : RowI .u8 w S A n xs) (hy : RowI .u8 w S A' n' ys) (hS : ∀ b, S b → b < w.heap.size) (hnA : A = none → c = 0) (hnA' : A' = none → c' = 0) :
 Calls Tryz.prog 131 #[.agg #[.int .i64 k, .int .u32 f, .int .u32 x, .int .u64 s, .slice A n c, .slice A' n' c']] w (EncTold (recB k f x s xs ys) w) := by
 obtain ⟨i0, hi, hz0, hz1, hz2⟩ := info_parts info_u8
 have HM := hI h
 have HR := hI hr
 have HX := hI hx
 have HY := hI hy
 have hn := h.2.2.1
 have hm := h.2.2.2.1
 clear h hr hx hy
 go_enter Tryz.func131, Tryz.ntmps131
 go_wp2_with fail
 refine (headOf_any k f x s A A' n c n' c' _).mono ?_
 rintro e w1 ⟨rfl, hb⟩
 have HG1 := hI (show Blk w1 w.heap.size 69 (recC k f x s A n c A' n' c') from (Blk.new w _ _).below hb (by simp))
 have HB1 := hI (((Below.refl w.heap.size w).alloc (nR _) _).trans (hb.mono (by simp)))
 clear hb
 go_wp2_with fail
 refine (may_yes k f x s n n' _ HM.out).mono ?_
 rintro e w2 ⟨rfl, hb⟩
 have hg : Blk w2 w1.heap.size 216 (headC k f x s n n') := (Blk.new w1 _ _).below hb (by simp)
 have HG2 := hI (show Blk w2 w.heap.size 69 (recC k f x s A n c A' n' c') from (HG1.out.alloc _).below hb (by have := HG1.out.lt; simp; omega))
 have HB2 := hI ((HB1.out.alloc HB1.out.size _).trans (hb.mono (by have := HB1.out.size; simp; omega)))
 have c0 := hg.cell 0
 have c1 := hg.cell 1
 have c2 := hg.cell 2
 have c3 := hg.cell 3
 have c4 := hg.cell 4
 have c5 := hg.cell 5
 simp only [List.getElem?_toArray, List.getElem?_cons_zero, List.getElem?_cons_succ] at c0 c1 c2 c3 c4 c5
 clear hb hg
 go_wp2_with fail
 refine (head_bytes k f x s n n' _ (by have := HM.out.2.2.2.2; omega) HR.out hn hm).mono ?_
 rintro e w3 ⟨g, rfl, hg, ha, hb⟩
 have HG3 := hI (HG2.out.below hb HG2.out.lt)
 have HB3 := hI (HB2.out.trans (hb.mono HB2.out.size))
 have HO3 := hI (ha.owns hg (headB_length _ _ _ _ _ _) rfl (by unfold maxLen; omega))
 have HX3 := hI (HX.out.below HB3.out hS)
 have HS3 := hI hb.size
 have hcell := HG3.out.cell 4
 simp only [List.getElem?_toArray, List.getElem?_cons_zero, List.getElem?_cons_succ] at hcell
 clear hb ha hg c0 c1 c2 c3 c4 c5
 go_wp2_with (first
  | (at_builtin; refine wpList_append_rowG rfl (.tmp 13) (.tmp 15) 40 rfl w2.heap.size 5 i0 (.int .u8 0) 1 Tryz.underlying40 hi hz0 hz1 hz2 rfl (fun _ => rfl) _ 21 _ rfl HO3.out S A n c xs rfl HX3.out hnA (by unfold maxLen; omega) (by omega) HS3.out ?_; intro v4 w4 hown4 hgrow4 hblk4; have HO4 := hI hown4; have HB4 := hI ((Below.refl w2.heap.size w3).grown hgrow4 HS3.out (fun k hk => (HO3.out.lt k hk).1)); have hcell4 := (HG3.out.grown hgrow4 (fun e => by have := (HO3.out.lt _ e.symm).1; have := HG2.out.lt; omega)).cell 5; have HX4 := hI (HY.out.below (HB3.out.trans (HB4.out.mono HB2.out.size)) hS); simp only [List.getElem?_toArray, List.getElem?_cons_zero, List.getElem?_cons_succ] at hcell4; clear hown4 hgrow4 hblk4)
  | (at_builtin; refine wpList_append_rowG rfl (.tmp 17) (.tmp 19) 40 rfl w2.heap.size 5 i0 (.int .u8 0) 1 Tryz.underlying40 hi hz0 hz1 hz2 rfl (fun _ => rfl) _ (21 + n) _ rfl HO4.out S A' n' c' ys rfl HX4.out hnA' (by unfold maxLen; omega) (by omega) (nT HS3.out HB4.out.size) ?_; intro v5 w5 hown5 hgrow5 hblk5; have HO5 := hI hown5; have HB5 := hI (HB4.out.grown hgrow5 (nT HS3.out HB4.out.size) (fun k hk => (HO4.out.lt k hk).1)); clear hown5 hgrow5 hblk5))
 go_ret2
 refine ⟨v5, rfl, ?_, HB3.out.trans (HB5.out.mono HB2.out.size)⟩
 have h5 := own_base HO5.out HB2.out.size
 rw [← List.map_append, ← List.map_append] at h5
 rw [recB_length, HX.out.1, HY.out.1]
 unfold recB
 rw [HX.out.1, HY.out.1]
 exact h5
end
section
open Go.RowKit
def Room (w : World) (base g n cap : Nat) (xs : List Int) : Prop := w.ownsRow base 5 1 (.slice (some ⟨g, 0, none⟩) (n + 1) cap) (n + 1) ((xs ++ [7]).map (Value.int .u8)) ∧ xs.length = n
section
variable {w w' : World} {base g n cap : Nat} {xs : List Int}
theorem Room.below (h : Room w base g n cap xs) (hb : Below w.heap.size w w') : Room w' base g n cap xs := ⟨own_below h.1 hb, h.2⟩
theorem Room.lt (h : Room w base g n cap xs) : base ≤ g ∧ g < w.heap.size := h.1.lt g (by simp [Value.ownBlock])
theorem Room.cell (h : Room w base g n cap xs) (j : Nat) (hj : j < n) : w.cell? ⟨g, j, none⟩ = some (.int .u8 (xs.getD j 0)) := by
 rw [h.1.cellAt j (by omega)]
 have hl := h.2
 rw [List.map_append, List.getElem?_append_left (by simp; omega)]
 simp [List.getD, List.getElem?_eq_getElem (show j < xs.length by omega)]
theorem Room.frozen (h : Room w base g n cap xs) (j : Nat) : w.frozen? ⟨g, j, none⟩ = false := h.1.frozenAt j
theorem Room.row (h : Room w base g n cap xs) {S : Nat → Prop} (hS : S g) : RowI .u8 w S (some ⟨g, 0, none⟩) n xs :=
 ⟨h.2, fun _ => ⟨g, 0, rfl, hS, fun j hj => by rw [Nat.zero_add]; exact h.cell j hj⟩⟩
end
end
section
open Go.RowKit
theorem grown_alloc (w : World) (o : Obj) : w.grownBy (w.alloc o) none := ⟨rfl, rfl, rfl, by simp, fun k hk _ => Below.heap_alloc _ _ _ hk⟩
section
variable {P : Program} {w : World} {ops : Array Oper} {o : Oper} {a : Act} {Q : Exit → Act → World → Prop} {K : Act → World → Prop} {E : Prop}
theorem step_by (hgd : Region.wanted o (yielded ops a.tmps) = true) (v : Value) (w' : World) (hrun : (execOp a.eval o).run P w = .ok (.value v) w') (h : K (a.put o.dst v) w') :
 if Region.wanted o (yielded ops a.tmps) = true then Oper.wp P o a w K Q else E := by
 rw [if_pos hgd]
 unfold Oper.wp
 rw [hrun]
 exact h
end
theorem own_none {w w' : World} {base size n : Nat} {e : TypeId} {v : Value} {xs : List Value} (h : w.ownsRow base e size v n xs) (hg : w.grownBy w' none) : w'.ownsRow base e size v n xs := h.kept hg (by cases v.ownBlock <;> simp)
end
section
open Go.RowKit
section
variable {ops : Array Oper} {o : Oper} {a : Act} {Q : Exit → Act → World → Prop} {K : Act → World → Prop} {E : Prop} {w : World}
theorem step_empty (ho : o.op = .buildSlice 40 0 #[]) (hgd : Region.wanted o (yielded ops a.tmps) = true) (base : Nat) (hb : base ≤ w.heap.size)
 (h : ∀ g w', (base ≤ g ∧ g < w'.heap.size) ∧ w.heap.size ≤ g → w'.ownsRow base 5 1 (.slice (some ⟨g, 0, none⟩) 0 0) 0 [] → w.grownBy w' none → K (a.put o.dst (.slice (some ⟨g, 0, none⟩) 0 0)) w') :
 if Region.wanted o (yielded ops a.tmps) = true then Oper.wp Tryz.prog o a w K Q else E := by
 refine step_by hgd (.slice (some ⟨w.heap.size, 0, none⟩) 0 0) (w.alloc (.cells #[] 5)) ?_ (h _ _ ⟨⟨hb, by simp⟩, nR _⟩ (World.ownsRow_made w #[] 0 hb (by unfold maxLen; omega) (by simp)) (grown_alloc w _))
 unfold execOp
 simp [go_sem, ho, Act.eval]
end
end
section
open Go.RowKit
section
variable {P : Program} {w : World} {ops : Array Oper} {o : Oper} {a : Act} {Q : Exit → Act → World → Prop} {K : Act → World → Prop} {E : Prop}
theorem step_store_row (x y : Operand) (ty : TypeId) (ho : o.op = .store ty x y) (hgd : Region.wanted o (yielded ops a.tmps) = true) (g : Nat) (cs : Array Value) (hx : a.eval x = .pointer (some ⟨g, 0, none⟩)) (hy : a.eval y = .agg cs)
 (t : TypeId) (cs0 : Array Value) (hg : Blk w g t cs0) (hi : (P.info? ty).map (·.size) = some cs.size) (hl : cs0.size = cs.size) (hone : cs.all (·.oneCell') = true)
 (h : K (a.put o.dst undef) (w.setRow g cs)) : if Region.wanted o (yielded ops a.tmps) = true then Oper.wp P o a w K Q else E := by
 rw [if_pos hgd]
 exact wp_store_row ty x y ho g cs hx hy t cs0 hg hi hl hone h
end
end
end Go.Proofs.YtknfblfnfoibkaaGreat
