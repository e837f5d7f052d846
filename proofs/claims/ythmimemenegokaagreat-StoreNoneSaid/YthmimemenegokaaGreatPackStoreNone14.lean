/- Texts of StoreNone, packed. -/
import Derived.Test.YthmimemenegokaaGreatPackStoreNone13
import Derived.Lib.SlBytesConst
import Derived.Shelf.Bits.Mul64
import Derived.Lib.MakeNoZero
import Derived.Laws.CopyOwn
import Derived.Laws.CopyRow
import Derived.Laws.Externs
import Derived.Great.BuildSlice
set_option linter.unusedVariables false
set_option linter.unusedSimpArgs false
set_option maxRecDepth 100000
set_option maxHeartbeats 16000000
namespace Go.Proofs.YthmimemenegokaaGreat
section
open Go.RowKit
attribute [local go_sem] Oper.semAt_some
theorem wakes14 (w : World) : Calls Tryz.prog 44 #[] w fun e w' => e = .returned (.bool true) ∧ Below w.heap.size w w' := by
  go_enter Tryz.func44, Tryz.ntmps44
  go_wp2_with fail
  refine (logs_any w).mono ?_
  rintro e w1 ⟨l, p, d, rfl, hl, hb1⟩
  have HL1 := hI hl
  have HB1 := hI hb1
  clear hl hb1
  go_wp2_with fail
  refine (new_s14 (slots := 2) HL1.out (fun b h => Nat.lt_of_lt_of_le h HB1.out.size) (by omega) (by omega)).mono ?_
  rintro e w2 ⟨q, x, F, c, fs, rfl, hm, hb2⟩
  obtain ⟨B, hB⟩ : ∃ B : StB, (⟨l, p, d, 98, q, x, F, c, 0, logK, 0, fs⟩ : StB) = B := ⟨_, rfl⟩
  rw [hB] at hm
  have HBQ := hI (show B.q = q ∧ B.pe = 0 ∧ B.k = logK by rw [← hB]; exact ⟨rfl, rfl, rfl⟩)
  have HM2 := hI hm
  have HB2 := hI (HB1.out.trans (hb2.mono HB1.out.size))
  clear hm hb2 hB
  go_wp2_with fail
  refine (key_any 0 w2).mono ?_
  rintro e w3 ⟨g3, rfl, hg3, hr3, hb3⟩
  rw [key0] at hr3
  have HR3 := hI hr3
  have HG3 := hI (show w2.heap.size ≤ g3 ∧ g3 < w3.heap.size from ⟨hg3, Blk.lt hr3⟩)
  have HB3 := hI hb3
  clear hr3 hb3 hg3
  have hc1 := Go.Lib.run_convert_bytes_const (P := Tryz.prog) w3 42 5 #[.int .u8 120] 1 1 Tryz.underlying42 Tryz.underlying5
  go_wp2_with fail
  clear hc1
  obtain ⟨w4, hw4⟩ : ∃ w4, w4 = w3.alloc (.cells #[.int .u8 120] 5 (1, 2)) := ⟨_, rfl⟩
  have hb4 : Below w3.heap.size w3 w4 := by rw [hw4]; exact (Below.refl _ _).alloc (Nat.le_refl _) _
  have hz4 : w4.heap.size = w3.heap.size + 1 := by rw [hw4]; simp
  have hV : RowI .u8 w4 (fun b => b = w3.heap.size) (some ⟨w3.heap.size, 0, none⟩) 1 [120] := by rw [hw4]; exact row_marked w3 [120] (1, 2) 1 rfl (S := fun b => b = w3.heap.size) rfl
  have hKr : RowI .u8 w4 (fun b => b = g3) (some ⟨g3, 0, none⟩) 2 [107, 97] := Arr.rowN (S := fun b => b = g3) (Blk.below HR3.out hb4 HG3.out.2) 0 rfl rfl
  have HM4 := hI (HM2.out.grow (HB3.out.trans (hb4.mono HB3.out.size)))
  have hg3 := HG3.out
  have hs3 := HB3.out.size
  have HPUT := hI (put_s14 (dy := false) (f0 := 0) (x0 := 0) (q0 := 1) HM4.out (hKr.more (fun b h => .inr ⟨by omega, by omega⟩)) (hV.more (fun b h => .inr ⟨by omega, by omega⟩)) (by intro j; match j with | 0 => simp | 1 => simp | (j + 2) => simp) (by intro j; match j with | 0 => simp | (j + 1) => simp) (fun h => by cases h) (fun h => by cases h) (c := 2) (c2 := 1) (by unfold May; omega) ⟨by omega, by omega, by omega, by omega, by omega, by omega⟩ (by rw [HBQ.out.2.1]; omega) (by decide))
  rw [HBQ.out.1, show recB 1 0 0 1 [107, 97] [120] = wb1 by unfold wb1; rfl] at HPUT
  have HB4 := hI (HB2.out.trans ((HB3.out.trans (hb4.mono HB3.out.size)).mono HB2.out.size))
  rw [← hw4]
  clear hw4 hb4 hz4 hV hKr hg3 hs3
  refine HPUT.out.mono ?_
  rintro e w5 ⟨hk5, h5⟩
  rw [wb1_cnt, wb1_key] at h5
  rcases h5 with ⟨hf, _⟩ | ⟨_, hno, _⟩ | ⟨_, i, s1, xs1, t1, k1, hsome, hs1, rfl, hm5⟩
  · rw [none_full] at hf; cases hf
  · rw [wk_app1] at hno; cases hno
  rw [wk_app1] at hsome
  have hs9 := Option.some.inj hsome
  obtain ⟨ei, e2⟩ := Prod.mk.inj hs9
  obtain ⟨es, ex⟩ := Prod.mk.inj e2
  subst ei es ex
  clear hs9 e2
  rw [none_out, List.nil_append] at hm5
  have HM5 := hI hm5
  have HB5 := hI (HB4.out.trans (hk5.to_below (B := w.heap.size) (fun b hb => .inl hb)))
  clear hk5 hm5 HPUT hs1 hsome
  go_wp2_with fail
  refine (key_any 0 w5).mono ?_
  rintro e w6 ⟨g6, rfl, hg6, hr6, hb6⟩
  rw [key0] at hr6
  have HM6 := hI (HM5.out.grow hb6)
  have HGT := hI (get_s (c := 2) HM6.out ((Arr.rowN (S := fun b => b = g6) hr6 0 (n := 2) rfl rfl).more (fun b h => .inr ⟨by omega, by have := Blk.lt hr6; omega⟩)) (by intro j; match j with | 0 => simp | 1 => simp | (j + 2) => simp) (by omega) 0)
  have HB6 := hI (HB5.out.trans (hb6.mono HB5.out.size))
  clear hg6 hr6 hb6
  have hq6 : ({ B with t := t1, k := k1, pe := B.pe + 17 } : StB).q = q := HBQ.out.1
  rw [hq6] at HGT
  clear hq6
  go_wp2_with fail
  refine HGT.out.mono ?_
  rintro e w7 ⟨⟨k7, hm7, hk7⟩, hkp7, h7⟩
  rcases h7 with ⟨hno, _⟩ | ⟨bs, b1, b2, hyes, rfl, _, _, _, _, hv7⟩
  · rw [show (genS wkS).f = 0 from rfl, one_get] at hno; cases hno
  rw [show (genS wkS).f = 0 from rfl, one_get] at hyes
  injection hyes with hyes
  subst hyes
  rw [wb1_val] at hv7
  have HV7 := hI hv7
  have HM7 := hI (hm7.less (X := fun x => x < w.heap.size) (fun b h => .inl (.inl h)))
  have HB7 := hI (HB6.out.trans (hkp7.to_below (B := w.heap.size) (fun b hb => .inl (.inl hb))))
  clear hm7 hk7 hkp7 hv7 HGT
  obtain ⟨w8, hw8⟩ : ∃ w8, w8 = w7.alloc (.cells (itmC wb1 b1 b2) 117) := ⟨_, rfl⟩
  have hb8 : Below w7.heap.size w7 w8 := by rw [hw8]; exact (Below.refl _ _).alloc (Nat.le_refl _) _
  have HI8 := hI (show Blk w8 w7.heap.size 117 (itmC wb1 b1 b2) by rw [hw8]; exact Blk.new w7 _ _)
  have HM8 := hI (HM7.out.below hb8)
  have HB8 := hI (HB7.out.trans (hb8.mono HB7.out.size))
  have HV8 := hI (Blk.below HV7.out hb8 (Blk.lt HV7.out))
  have HW8 := hI hw8
  clear hb8 hw8
  go_upto_region 6 with fail
  rw [← HW8.out]
  obtain ⟨tt, ht, hnt⟩ := conv_string (P := Tryz.prog) w8 42 9 5 Tryz.underlying42 Tryz.underlying5 Tryz.underlying9 1 (Arr.rowN (S := fun b => b < w8.heap.size) (show ArrU w8 b2 [120] from HV8.out) 0 (n := 1) rfl (Blk.lt HV8.out)).toRow (by intro j; match j with | 0 => simp | (j + 1) => simp)
  obtain rfl : tt = ⟨#[120]⟩ := nums_inj (hnt.trans rfl)
  have i1 : w8.cell? ⟨w7.heap.size, 1, none⟩ = some (.slice (some ⟨b2, 0, none⟩) 1 1) := by
    have h9 := HI8.out.cell 1
    rw [show (itmC wb1 b1 b2)[1]? = some (.slice (some ⟨b2, 0, none⟩) (vlenOf wb1) (vlenOf wb1)) from rfl, wb1_vlen] at h9
    exact h9
  clear hnt
  go_wp2_with fail
  clear ht i1
  refine (key_any 0 w8).mono ?_
  rintro e w9 ⟨g9, rfl, hg9, hr9, hb9⟩
  rw [key0] at hr9
  have HM9 := hI (HM8.out.below hb9)
  have HB9 := hI (HB8.out.trans (hb9.mono HB8.out.size))
  have HMY := hI (may_s14 (c := 2) HM9.out (by unfold addB; rw [List.length_set, List.length_replicate]; decide) (Arr.rowN (S := fun b => b < w9.heap.size) hr9 0 (n := 2) rfl (Blk.lt hr9)) (by intro j; match j with | 0 => simp | 1 => simp | (j + 2) => simp) (by omega))
  rw [show (List.replicate wkX.length (List.replicate 128 (0 : Int))) = List.replicate 4 (List.replicate 128 0) from rfl, wk_may] at HMY
  replace HMY := hI (show Calls Tryz.prog 61 #[.pointer (some ⟨q, 0, none⟩), .slice (some ⟨g9, 0, none⟩) 2 2] w9 (fun e w' => e = .returned (.bool true) ∧ Below w9.heap.size w9 w') from HMY.out)
  clear hr9 hb9 hg9
  go_wp2_with fail
  refine HMY.out.mono ?_
  rintro e w10 ⟨rfl, hb10⟩
  have HM10 := hI (HM9.out.below hb10)
  have HB10 := hI (HB9.out.trans (hb10.mono HB9.out.size))
  have HLN := hI (show Calls Tryz.prog 66 #[.pointer (some ⟨q, 0, none⟩)] w10 (fun e w' => e = .returned (.int .i64 1) ∧ w' = w10) from len_s HM10.out)
  clear hb10 HMY
  go_wp2_with fail
  refine HLN.out.mono ?_
  rintro e w11 ⟨rfl, rfl⟩
  clear HLN
  go_wp2_with fail
  refine (key_any 0 w11).mono ?_
  rintro e w12 ⟨g12, rfl, hg12, hr12, hb12⟩
  rw [key0] at hr12
  have HM12 := hI (HM10.out.grow hb12)
  have HB12 := hI (HB10.out.trans (hb12.mono HB10.out.size))
  have HKL := hI (kill_s14 (c := 2) (q0 := 2) HM12.out ((Arr.rowN (S := fun b => b = g12) hr12 0 (n := 2) rfl rfl).more (fun b h => .inr ⟨by omega, by have := Blk.lt hr12; omega⟩)) (by intro j; match j with | 0 => simp | 1 => simp | (j + 2) => simp) (by unfold May; omega) ⟨by omega, by omega, by omega, by omega, by omega, by omega⟩ (show B.pe + 17 ≤ 900000 by rw [HBQ.out.2.1]; omega) (by decide))
  rw [show recB 2 0 0 2 [107, 97] [] = wb2 by unfold wb2; rfl] at HKL
  replace HKL := hI (show Calls Tryz.prog 58 #[.pointer (some ⟨q, 0, none⟩), .slice (some ⟨g12, 0, none⟩) 2 2, .int .u64 2] w12 _ from HKL.out)
  clear hg12 hr12 hb12
  go_wp2_with fail
  refine HKL.out.mono ?_
  rintro e w13 ⟨hk13, h13⟩
  rw [wb2_cnt, one_out] at h13
  rcases h13 with ⟨hno, _⟩ | ⟨i2, s2, xs2, t2, k2, _, _, rfl, hm13⟩
  · obtain ⟨r, hr⟩ := wk_app2
    rw [hr] at hno; cases hno
  have HB13 := hI (HB12.out.trans (hk13.to_below (B := w.heap.size) (fun b hb => .inl hb)))
  have HLN := hI (show Calls Tryz.prog 66 #[.pointer (some ⟨q, 0, none⟩)] w13 (fun e w' => e = .returned (.int .i64 0) ∧ w' = w13) from len_s hm13)
  clear hk13 hm13 HKL
  go_wp2_with fail
  refine HLN.out.mono ?_
  rintro e w14 ⟨rfl, rfl⟩
  clear HLN
  go_wp2_with fail
  go_ret
  exact ⟨rfl, HB13.out⟩
end
section
open Go.RowKit
attribute [local go_sem] Oper.semAt_some
theorem new_nil14 (n : Int) (v : Value) (w : World) : Calls Tryz.prog 46 #[.pointer none, .int .i64 n, v] w fun e w' => e = .returned (.tuple #[.pointer none, .int .i64 1]) ∧ w' = w := by
  go_enter Tryz.func46, Tryz.ntmps46
  go_wp2
  (first | go_ret | go_ret2)
  exact ⟨rfl, rfl⟩
theorem degraded_nil14 (w : World) : Calls Tryz.prog 65 #[.pointer none] w fun e w' => e = .returned (.bool false) ∧ w' = w := by
  go_enter Tryz.func65, Tryz.ntmps65
  go_wp2
  (first | go_ret | go_ret2)
  exact ⟨rfl, rfl⟩
theorem len_nil14 (w : World) : Calls Tryz.prog 66 #[.pointer none] w fun e w' => e = .returned (.int .i64 0) ∧ w' = w := by
  go_enter Tryz.func66, Tryz.ntmps66
  go_wp2
  (first | go_ret | go_ret2)
  exact ⟨rfl, rfl⟩
theorem left_nil14 (w : World) : Calls Tryz.prog 67 #[.pointer none] w fun e w' => e = .returned (.int .i64 0) ∧ w' = w := by
  go_enter Tryz.func67, Tryz.ntmps67
  go_wp2
  (first | go_ret | go_ret2)
  exact ⟨rfl, rfl⟩
theorem log_nil14 (w : World) : Calls Tryz.prog 68 #[.pointer none] w fun e w' => e = .returned (.pointer none) ∧ w' = w := by
  go_enter Tryz.func68, Tryz.ntmps68
  go_wp2
  (first | go_ret | go_ret2)
  exact ⟨rfl, rfl⟩
theorem sync_nil14 (w : World) : Calls Tryz.prog 60 #[.pointer none] w fun e w' => e = .returned (.int .i64 1) ∧ w' = w := by
  go_enter Tryz.func60, Tryz.ntmps60
  go_wp2
  (first | go_ret | go_ret2)
  exact ⟨rfl, rfl⟩
theorem may_nil14 (v : Value) (w : World) : Calls Tryz.prog 61 #[.pointer none, v] w fun e w' => e = .returned (.bool false) ∧ w' = w := by
  go_enter Tryz.func61, Tryz.ntmps61
  go_wp2
  (first | go_ret | go_ret2)
  exact ⟨rfl, rfl⟩
theorem live_nil14 (cs : Array Value) (hc : cs.all (·.oneCell') = true) (hn : cs.size = 9) (w : World) : Calls Tryz.prog 62 #[.pointer none, .agg cs] w fun e w' => e = .returned (.bool false) ∧ Below w.heap.size w w' := by
  go_enter Tryz.func62, Tryz.ntmps62
  go_wp2
  (first | go_ret | go_ret2)
  exact ⟨rfl, (Below.refl _ w).alloc (Nat.le_refl _) _⟩
theorem get_nil14 (v : Value) (now : Int) (w : World) : Calls Tryz.prog 51 #[.pointer none, v, .int .u32 now] w fun e w' => e = .returned (.tuple #[.agg itm0C, .int .i64 1]) ∧ Below w.heap.size w w' := by
  have HR := hI (Blk.new w 117 itm0C)
  have HB := hI ((Below.refl w.heap.size w).alloc (Nat.le_refl _) (.cells itm0C 117))
  go_enter Tryz.func51, Tryz.ntmps51
  go_wp2_with (first | (with_reducible refine halt_end ?_) | (refine wpList_store_rowB (.tmp 6) (.tmp 13) 117 rfl rfl w.heap.size itm0C rfl rfl 117 _ HR.out size_itm rfl one_itm0 ?_))
  exact Halt.ret (results_row2 (p := 6) (u := 7) rfl _ _ w.heap.size 117 itm0C _ rfl (setRow_heap _ _ _ _ _ _ HR.out) Tryz.underlying117 rfl size_itm) rfl ⟨rfl, below_setRow HB.out (Nat.le_refl _) _⟩
end
section
open Go.RowKit
attribute [local go_sem] Oper.semAt_some
theorem flush_nil14 (q : Int) (w : World) : Calls Tryz.prog 59 #[.pointer none, .int .u64 q] w fun e w' => e = .returned (.int .i64 1) ∧ Below w.heap.size w w' := by
  obtain ⟨w1, hw1⟩ : ∃ w1, w1 = (w.alloc (.cells #[.pointer none] 105)).alloc (.cells #[.int .i64 0] 49) := ⟨_, rfl⟩
  have hb1 : Below w.heap.size w w1 := by rw [hw1]; exact ((Below.refl _ w).alloc (Nat.le_refl _) _).alloc (by simp) _
  have HS1 := hI (show Blk w1 w.heap.size 105 #[.pointer none] by rw [hw1]; exact (Blk.new w _ _).alloc _)
  have HE1 := hI (show Blk w1 (w.heap.size + 1) 49 #[.int .i64 0] by rw [hw1]; exact blk_new2 w _ _ _)
  have HB1 := hI hb1
  have HW1 := hI hw1
  clear hb1 hw1
  go_enter_defers Tryz.func59, Tryz.ntmps59
  go_upto_region 1 with fail
  rw [← HW1.out]
  have s0 : w1.cell? ⟨w.heap.size, 0, none⟩ = some (.pointer none) := HS1.out.cell 0
  have e0 : w1.cell? ⟨w.heap.size + 1, 0, none⟩ = some (.int .i64 0) := HE1.out.cell 0
  have e9 := HE1.out.frozen 0
  go_wp2_with fail
  have c6 : (w1.setCell ⟨w.heap.size + 1, 0, none⟩ (.int .i64 1)).cell? ⟨w.heap.size + 1, 0, none⟩ = some (.int .i64 1) := (HE1.out.set_ 0 (.int .i64 1)).cell 0
  refine ⟨.int .i64 1, ?_, rfl, HB1.out.setCell (p := ⟨w.heap.size + 1, 0, none⟩) (by show w.heap.size ≤ w.heap.size + 1; omega) _⟩
  simp [results, Tryz.f59, go_sem, c6]
theorem retire_nil14 (q : Int) (w : World) : Calls Tryz.prog 64 #[.pointer none, .int .i64 q] w fun e w' => e = .returned (.int .i64 1) ∧ Below w.heap.size w w' := by
  obtain ⟨w1, hw1⟩ : ∃ w1, w1 = ((w.alloc (.cells #[.pointer none] 105)).alloc (.cells #[.int .i64 q] 3)).alloc (.cells #[.int .i64 0] 49) := ⟨_, rfl⟩
  have hb1 : Below w.heap.size w w1 := by rw [hw1]; exact (((Below.refl _ w).alloc (Nat.le_refl _) _).alloc (by simp) _).alloc (by simp; omega) _
  have HS1 := hI (show Blk w1 w.heap.size 105 #[.pointer none] by rw [hw1]; exact ((Blk.new w _ _).alloc _).alloc _)
  have HE1 := hI (show Blk w1 (w.heap.size + 1 + 1) 49 #[.int .i64 0] by rw [hw1]; exact blk_new3 w _ _ _ _)
  have HB1 := hI hb1
  have HW1 := hI hw1
  clear hb1 hw1
  go_enter_defers Tryz.func64, Tryz.ntmps64
  go_upto_region 1 with fail
  rw [← HW1.out]
  have s0 : w1.cell? ⟨w.heap.size, 0, none⟩ = some (.pointer none) := HS1.out.cell 0
  have e0 : w1.cell? ⟨w.heap.size + 1 + 1, 0, none⟩ = some (.int .i64 0) := HE1.out.cell 0
  have e9 := HE1.out.frozen 0
  go_wp2_with fail
  have c6 : (w1.setCell ⟨w.heap.size + 1 + 1, 0, none⟩ (.int .i64 1)).cell? ⟨w.heap.size + 1 + 1, 0, none⟩ = some (.int .i64 1) := (HE1.out.set_ 0 (.int .i64 1)).cell 0
  refine ⟨.int .i64 1, ?_, rfl, HB1.out.setCell (p := ⟨w.heap.size + 1 + 1, 0, none⟩) (by show w.heap.size ≤ w.heap.size + 1 + 1; omega) _⟩
  simp [results, Tryz.f64, go_sem, c6]
theorem kill_nil14 (A : Option Addr) (n c : Nat) (q : Int) (w : World) : Calls Tryz.prog 58 #[.pointer none, .slice A n c, .int .u64 q] w fun e w' => e = .returned (.int .i64 1) ∧ Below w.heap.size w w' := by
  obtain ⟨w1, hw1⟩ : ∃ w1, w1 = ((w.alloc (.cells #[.pointer none] 105)).alloc (.cells #[.slice A n c] 42)).alloc (.cells #[.int .i64 0] 49) := ⟨_, rfl⟩
  have hb1 : Below w.heap.size w w1 := by rw [hw1]; exact (((Below.refl _ w).alloc (Nat.le_refl _) _).alloc (by simp) _).alloc (by simp; omega) _
  have HS1 := hI (show Blk w1 w.heap.size 105 #[.pointer none] by rw [hw1]; exact ((Blk.new w _ _).alloc _).alloc _)
  have HE1 := hI (show Blk w1 (w.heap.size + 1 + 1) 49 #[.int .i64 0] by rw [hw1]; exact blk_new3 w _ _ _ _)
  have HB1 := hI hb1
  have HW1 := hI hw1
  clear hb1 hw1
  go_enter_defers Tryz.func58, Tryz.ntmps58
  go_upto_region 1 with fail
  rw [← HW1.out]
  have s0 : w1.cell? ⟨w.heap.size, 0, none⟩ = some (.pointer none) := HS1.out.cell 0
  have e0 : w1.cell? ⟨w.heap.size + 1 + 1, 0, none⟩ = some (.int .i64 0) := HE1.out.cell 0
  have e9 := HE1.out.frozen 0
  go_wp2_with fail
  have c6 : (w1.setCell ⟨w.heap.size + 1 + 1, 0, none⟩ (.int .i64 1)).cell? ⟨w.heap.size + 1 + 1, 0, none⟩ = some (.int .i64 1) := (HE1.out.set_ 0 (.int .i64 1)).cell 0
  refine ⟨.int .i64 1, ?_, rfl, HB1.out.setCell (p := ⟨w.heap.size + 1 + 1, 0, none⟩) (by show w.heap.size ≤ w.heap.size + 1 + 1; omega) _⟩
  simp [results, Tryz.f58, go_sem, c6]
theorem move_nil14 (cs : Array Value) (hc : cs.all (·.oneCell') = true) (hn : cs.size = 9) (w : World) : Calls Tryz.prog 63 #[.pointer none, .agg cs] w fun e w' => e = .returned (.int .i64 1) ∧ Below w.heap.size w w' := by
  obtain ⟨w1, hw1⟩ : ∃ w1, w1 = ((w.alloc (.cells #[.pointer none] 105)).alloc (.cells cs 94)).alloc (.cells #[.int .i64 0] 49) := ⟨_, rfl⟩
  have hb1 : Below w.heap.size w w1 := by rw [hw1]; exact (((Below.refl _ w).alloc (Nat.le_refl _) _).alloc (by simp) _).alloc (by simp; omega) _
  have HS1 := hI (show Blk w1 w.heap.size 105 #[.pointer none] by rw [hw1]; exact ((Blk.new w _ _).alloc _).alloc _)
  have HE1 := hI (show Blk w1 (w.heap.size + 1 + 1) 49 #[.int .i64 0] by rw [hw1]; exact blk_new3 w _ _ _ _)
  have HB1 := hI hb1
  have HW1 := hI hw1
  clear hb1 hw1
  go_enter_defers Tryz.func63, Tryz.ntmps63
  go_upto_region 1 with fail
  rw [← HW1.out]
  have s0 : w1.cell? ⟨w.heap.size, 0, none⟩ = some (.pointer none) := HS1.out.cell 0
  have e0 : w1.cell? ⟨w.heap.size + 1 + 1, 0, none⟩ = some (.int .i64 0) := HE1.out.cell 0
  have e9 := HE1.out.frozen 0
  go_wp2_with fail
  have c6 : (w1.setCell ⟨w.heap.size + 1 + 1, 0, none⟩ (.int .i64 1)).cell? ⟨w.heap.size + 1 + 1, 0, none⟩ = some (.int .i64 1) := (HE1.out.set_ 0 (.int .i64 1)).cell 0
  refine ⟨.int .i64 1, ?_, rfl, HB1.out.setCell (p := ⟨w.heap.size + 1 + 1, 0, none⟩) (by show w.heap.size ≤ w.heap.size + 1 + 1; omega) _⟩
  simp [results, Tryz.f63, go_sem, c6]
theorem put_nil14 (A : Option Addr) (m c : Nat) (A2 : Option Addr) (n2 c2 : Nat) (f0 x0 q0 : Int) (dy : Bool) (w : World) : Calls Tryz.prog 56 #[.pointer none, itmV A m c A2 n2 c2 f0 x0 q0 dy] w fun e w' => e = .returned (.int .i64 1) ∧ Below w.heap.size w w' := by
  obtain ⟨w1, hw1⟩ : ∃ w1, w1 = ((w.alloc (.cells #[.pointer none] 105)).alloc (.cells #[.slice A m c, .slice A2 n2 c2, .int .u32 f0, .int .u32 x0, .int .u64 q0, .bool dy] 117)).alloc (.cells #[.int .i64 0] 49) := ⟨_, rfl⟩
  have hb1 : Below w.heap.size w w1 := by rw [hw1]; exact (((Below.refl _ w).alloc (Nat.le_refl _) _).alloc (by simp) _).alloc (by simp; omega) _
  have HS1 := hI (show Blk w1 w.heap.size 105 #[.pointer none] by rw [hw1]; exact ((Blk.new w _ _).alloc _).alloc _)
  have HI1 := hI (show Blk w1 (w.heap.size + 1) 117 #[.slice A m c, .slice A2 n2 c2, .int .u32 f0, .int .u32 x0, .int .u64 q0, .bool dy] by rw [hw1]; exact (blk_new2 w _ _ _).alloc _)
  have HE1 := hI (show Blk w1 (w.heap.size + 1 + 1) 49 #[.int .i64 0] by rw [hw1]; exact blk_new3 w _ _ _ _)
  have HB1 := hI hb1
  have HW1 := hI hw1
  clear hb1 hw1
  go_enter_defers Tryz.func56, Tryz.ntmps56
  go_upto_region 1 with fail
  rw [← HW1.out]
  have i0 : w1.cell? ⟨w.heap.size + 1, 0, none⟩ = some (.slice A m c) := HI1.out.cell 0
  have i1 : w1.cell? ⟨w.heap.size + 1, 1, none⟩ = some (.slice A2 n2 c2) := HI1.out.cell 1
  have i2 : w1.cell? ⟨w.heap.size + 1, 2, none⟩ = some (.int .u32 f0) := HI1.out.cell 2
  have i3 : w1.cell? ⟨w.heap.size + 1, 3, none⟩ = some (.int .u32 x0) := HI1.out.cell 3
  have i4 : w1.cell? ⟨w.heap.size + 1, 4, none⟩ = some (.int .u64 q0) := HI1.out.cell 4
  have i5 : w1.cell? ⟨w.heap.size + 1, 5, none⟩ = some (.bool dy) := HI1.out.cell 5
  go_wp2_with fail
  refine (recordOf_ok A m c A2 n2 c2 f0 x0 q0 dy w1).mono ?_
  rintro e w2 ⟨rfl, hb2⟩
  clear i0 i1 i2 i3 i4 i5
  obtain ⟨w3, hw3⟩ : ∃ w3, w3 = w2.alloc (.cells #[.int .i64 1, .int .u32 f0, .int .u32 x0, .int .u64 q0, .slice A m c, .slice A2 n2 c2] 44) := ⟨_, rfl⟩
  have hb3 : Below w1.heap.size w1 w3 := by rw [hw3]; exact hb2.alloc hb2.size _
  have HS3 := hI (HS1.out.below hb3 HS1.out.lt)
  have HE3 := hI (HE1.out.below hb3 HE1.out.lt)
  have HB3 := hI (HB1.out.trans (hb3.mono HB1.out.size))
  have HW3 := hI hw3
  clear hb2 hb3 hw3
  go_upto_region 2 with fail
  rw [← HW3.out]
  have s0 : w3.cell? ⟨w.heap.size, 0, none⟩ = some (.pointer none) := HS3.out.cell 0
  have e0 : w3.cell? ⟨w.heap.size + 1 + 1, 0, none⟩ = some (.int .i64 0) := HE3.out.cell 0
  have e9 := HE3.out.frozen 0
  go_wp2_with fail
  have c6 : (w3.setCell ⟨w.heap.size + 1 + 1, 0, none⟩ (.int .i64 1)).cell? ⟨w.heap.size + 1 + 1, 0, none⟩ = some (.int .i64 1) := (HE3.out.set_ 0 (.int .i64 1)).cell 0
  refine ⟨.int .i64 1, ?_, rfl, HB3.out.setCell (p := ⟨w.heap.size + 1 + 1, 0, none⟩) (by show w.heap.size ≤ w.heap.size + 1 + 1; omega) _⟩
  simp [results, Tryz.f56, go_sem, c6]
end
section
open Go.RowKit
attribute [local go_sem] Oper.semAt_some
abbrev rp0 : Oper := ⟨some 67, .move (.tmp 10), 3, "bytes.go:672", #[], none⟩
abbrev rp1 : Oper := ⟨some 68, .move (.tmp 9), 42, "bytes.go:672", #[], none⟩
abbrev rp2 : Oper := ⟨some 69, .move (.tmp 10), 3, "bytes.go:672", #[], none⟩
abbrev rp3 : Oper := ⟨some 70, .slice 42 (.tmp 68) (some (.tmp 69)) none none, 42, "bytes.go:672", #[⟨1, .data⟩, ⟨2, .data⟩], none⟩
abbrev rp4 : Oper := ⟨some 71, .move (.tmp 9), 42, "bytes.go:672", #[], none⟩
abbrev rp5 : Oper := ⟨some 72, .move (.tmp 11), 3, "bytes.go:672", #[], none⟩
abbrev rp6 : Oper := ⟨some 73, .slice 42 (.tmp 71) none (some (.tmp 72)) none, 42, "bytes.go:672", #[⟨4, .data⟩, ⟨5, .data⟩], none⟩
abbrev rp7 : Oper := ⟨some 74, .call { callee := .builtin Go.Builtin.copy, args := #[.tmp 70, .tmp 73], argTypes := #[42, 42] }, 3, "bytes.go:672", #[⟨3, .data⟩, ⟨6, .data⟩], none⟩
abbrev rp8 : Oper := ⟨some 75, .binOp Go.BinOp.add 3 (.tmp 67) (.tmp 74) 3, 3, "bytes.go:672", #[⟨0, .data⟩, ⟨7, .data⟩], none⟩
abbrev rp9 : Oper := ⟨some 10, .assign (.tmp 75), 3, "bytes.go:672", #[⟨8, .data⟩, ⟨7, .chain⟩, ⟨0, .phase⟩, ⟨1, .phase⟩, ⟨2, .phase⟩, ⟨3, .phase⟩, ⟨4, .phase⟩, ⟨5, .phase⟩, ⟨6, .phase⟩, ⟨7, .phase⟩, ⟨8, .phase⟩], none⟩
theorem copy_known {P : Program} {w : World} {ops : Array Oper} {rest : List Oper} {o : Oper} {a : Act} {Q : Exit → Act → World → Prop} (hgd : o.guard = none) (d s : Operand) (t t' : TypeId)
    (ho : o.op = .call { callee := .builtin .copy, args := #[d, s], argTypes := #[t, t'] }) (v u : Value) (hd : a.eval d = v) (hs : a.eval s = u) {v' : Value} {w' : World}
    (hr : (Builtin.copy_ #[t, t'] o.type #[v, u]).run P w = .ok v' w') (h : wpList P ops Q rest (a.put o.dst v') w') : wpList P ops Q (o :: rest) a w := by
  refine wpList_plain hgd fun K hK => ?_
  unfold Oper.wp
  simp [execOp, ho, resolve, invoke, builtin, hd, hs, hr, Result.andThen]
  exact hK _ _ h
theorem step_copy14 {P : Program} {w : World} {ops : Array Oper} {o : Oper} {a : Act} {Q : Exit → Act → World → Prop} {K : Act → World → Prop} {E : Prop} (d s : Operand) (t t' : TypeId)
    (ho : o.op = .call { callee := .builtin .copy, args := #[d, s], argTypes := #[t, t'] }) (hgd : Region.wanted o (yielded ops a.tmps) = true) (v u : Value) (hd : a.eval d = v) (hs : a.eval s = u) {v' : Value} {w' : World}
    (hr : (Builtin.copy_ #[t, t'] o.type #[v, u]).run P w = .ok v' w') (h : K (a.put o.dst v') w') : if Region.wanted o (yielded ops a.tmps) = true then Oper.wp P o a w K Q else E := by
  rw [if_pos hgd]
  unfold Oper.wp
  simp [execOp, ho, resolve, invoke, builtin, hd, hs, hr, Result.andThen]
  exact h
theorem mul64_one (n : Nat) (hn : n ≤ 513) (w : World) : Calls Tryz.prog 262 #[.int .u64 1, .int .u64 n] w fun e w' => e = .returned (.tuple #[.int .u64 0, .int .u64 n]) ∧ w' = w := by
  have hm : bits .and .u64 (n : Int) 4294967295 = n := by
    rw [Mul64.maskN n (by omega), Nat.mod_eq_of_lt (by omega)]
  have h1 : bits .and .u64 1 4294967295 = 1 := by decide
  have hd : (n : Int) / 4294967296 = 0 := Int.ediv_eq_zero_of_lt (by omega) (by omega)
  go_enter Tryz.func262, Tryz.ntmps262
  go_wp2
  skip
  go_ret2
  exact ⟨rfl, rfl⟩
theorem mul_one (n : Nat) (hn : n ≤ 513) (w : World) : Calls Tryz.prog 217 #[.int .u64 1, .int .u64 n] w fun e w' => e = .returned (.tuple #[.int .u64 0, .int .u64 n]) ∧ w' = w := by
  have HM := hI (mul64_one n hn w)
  go_enter Tryz.func217, Tryz.ntmps217
  go_wp2_with fail
  refine HM.out.mono ?_
  rintro e w1 ⟨rfl, rfl⟩
  go_wp2
  (first | go_ret | go_ret2)
  exact ⟨rfl, rfl⟩
def RepB (w0 wr : World) (g n : Nat) (b : Int) (k : Nat) : Prop := Below g w0 wr ∧ ∃ cs, Blk wr g 5 cs ∧ n ≤ cs.size ∧ ∀ j, j < k → cs[j]? = some (.int .u8 b)
theorem RepB.copy {w0 wr : World} {g n : Nat} {b : Int} {k : Nat} (h : RepB w0 wr g n b k) (ty : TypeId) (ch sLen dLen dCap sCap : Nat) (a : Addr) (hmin : ch = Nat.min sLen dLen) (hk : k + ch ≤ n) (hsrc : ∀ j, j < ch → wr.cell? (a.add j) = some (.int .u8 b)) :
    ∃ wr', (Builtin.copy_ #[42, 42] ty #[.slice (some ⟨g, k, none⟩) dLen dCap, .slice (some a) sLen sCap]).run Tryz.prog wr = .ok (.int .i64 ch) wr' ∧ RepB w0 wr' g n b (k + ch) := by
  obtain ⟨hb, cs, hB, hs, hc⟩ := h
  have hr := run_copy_row (P := Tryz.prog) wr 42 42 ty 5 g k dLen dCap a sLen sCap cs 5 (List.replicate ch (.int .u8 b)) Tryz.underlying42 size_u8 hB (by rw [List.length_replicate]; exact hmin)
    (fun j v hj => by
      rw [List.getElem?_replicate] at hj
      split at hj
      · rename_i h1
        cases hj
        exact hsrc j h1
      · cases hj) (by rw [List.length_replicate]; omega) (fun v hv => by rw [(List.mem_replicate.1 hv).2]; rfl)
  rw [List.length_replicate] at hr
  refine ⟨_, hr, below_setRow hb (Nat.le_refl _) _, _, setRow_heap _ _ _ _ _ _ hB, ?_, fun j hj => ?_⟩
  · simp
    omega
  · have hcl : cs.toList.length = cs.size := by simp
    rw [List.getElem?_toArray, List.append_assoc]
    rcases Nat.lt_or_ge j k with h1 | h1
    · rw [List.getElem?_append_left (by rw [List.length_take]; omega), List.getElem?_take, if_pos h1, Array.getElem?_toList]
      exact hc j h1
    · rw [List.getElem?_append_right (by rw [List.length_take]; omega), List.length_take, Nat.min_eq_left (by omega), List.getElem?_append_left (by rw [List.length_replicate]; omega), List.getElem?_replicate, if_pos (by omega)]
theorem RepB.cell {w0 wr : World} {g n : Nat} {b : Int} {k : Nat} (h : RepB w0 wr g n b k) (j : Nat) (hj : j < k) : wr.cell? ⟨g, j, none⟩ = some (.int .u8 b) := by
  obtain ⟨hb, cs, hB, hs, hc⟩ := h
  rw [← hc j hj]
  exact hB.cell j
theorem repeat_zero {S : Nat → Prop} (q o c : Nat) (b : Int) (w : World) : Calls Tryz.prog 146 #[.slice (some ⟨q, o, none⟩) 1 c, .int .i64 0] w fun e w' => (∃ g c', e = .returned (.slice (some ⟨g, 0, none⟩) 0 c')) ∧ Below w.heap.size w w' := by
  go_enter Tryz.func146, Tryz.ntmps146
  go_wp2
  (first | go_ret | go_ret2)
  exact ⟨⟨_, _, rfl⟩, (Below.refl _ w).alloc (Nat.le_refl _) _⟩
theorem repeat_one (q o c n : Nat) (b : Int) (hn : n ≤ 513) (h0 : 0 < n) (w : World) (hq : w.cell? ⟨q, o, none⟩ = some (.int .u8 b)) :
    Calls Tryz.prog 146 #[.slice (some ⟨q, o, none⟩) 1 c, .int .i64 n] w fun e w' => (∃ g, e = .returned (.slice (some ⟨g, 0, none⟩) n n) ∧ w.heap.size ≤ g ∧ RepB w w' g n b n) := by
  have HM := hI (mul_one n hn w)
  have HQ := hI hq
  obtain ⟨cs, hrunM, hle, _⟩ := Lib.run_makeNoZero (P := Tryz.prog) w #[3] 42 5 Tryz.underlying42 n (by omega)
  have hcall : (callFunc 218 #[.int .i64 (n : Int)]).run Tryz.prog w = .ok (.value (.slice (some ⟨w.heap.size, 0, none⟩) n cs.size)) ((w.alloc (.cells cs 5)).drewN 2) := by
    rw [run_callFunc_extern Tryz.func218 (by kernel_rfl) (by kernel_rfl) (by kernel_rfl) (e := Extern.BytealgMakeNoZero.makeNoZero #[3] #[42]) (by kernel_rfl), hrunM]
    rfl
  clear hrunM hq
  have i1 : (n : Int) ≤ (cs.size : Int) := by omega
  have hB0 : RepB w ((w.alloc (.cells cs 5)).drewN 2) w.heap.size n b 0 := ⟨⟨rfl, rfl, rfl, by simp, fun k hk => heap_alloc_old w _ hk⟩, cs, Blk.new w _ _, hle, fun j hj => by omega⟩
  obtain ⟨w1, hr1, hB1⟩ := hB0.copy 3 1 1 n n c ⟨q, o, none⟩ (by show 1 = min 1 n; omega) (by omega) (fun j hj => by
    obtain rfl : j = 0 := by omega
    have h1 := World.block_lt_of_cell? w _ HQ.out
    rw [show (Addr.add ⟨q, o, none⟩ 0) = ⟨q, o, none⟩ from rfl, hB0.1.cell (p := ⟨q, o, none⟩) h1]
    exact HQ.out)
  have HB1 := hI hB1
  clear hB0 hB1
  go_enter Tryz.func146, Tryz.ntmps146
  go_wp2_with fail
  refine HM.out.mono ?_
  rintro e w2 ⟨rfl, rfl⟩
  go_wp2_with (at_builtin; refine copy_known _ rfl _ _ 42 42 rfl _ _ rfl rfl hr1 ?_)
  clear hcall i1 hr1 HM HQ
  go_loopw [10] (fun v wr => ∃ k : Nat, 1 ≤ k ∧ k ≤ n ∧ v = .int .i64 k ∧ RepB w2 wr w2.heap.size n b k) (fun v _ => n - (intOf v).toNat)
  case atStart => exact ⟨1, by omega, by omega, rfl, HB1.out⟩
  case round =>
    obtain ⟨k, hk1, hk2, rfl, hR⟩ := hrel
    have HR := hI hR
    clear hR
    by_cases hlt : k < n
    · obtain ⟨ch, hch⟩ : ∃ ch, ch = min k (n - k) := ⟨_, rfl⟩
      obtain ⟨w3, hr3, hR3⟩ := (show RepB w2 wr.drew w2.heap.size n b k from ⟨HR.out.1.drew, HR.out.2⟩).copy 3 ch k (n - k) (n - k) n ⟨w2.heap.size, 0, none⟩ (by rw [hch]) (by omega) (fun j hj => by
        rw [show (Addr.add ⟨w2.heap.size, 0, none⟩ j) = ⟨w2.heap.size, j, none⟩ by rw [add_plain, Nat.zero_add]]
        exact HR.out.cell j (by omega))
      have HR3 := hI hR3
      have HCH := hI hch
      have hc1 : 1 ≤ ch := by omega
      have hc2 : k + ch ≤ n := by omega
      have hmn : ∀ (ts : Array TypeId) (t : TypeId) (W : World), (Builtin.min_ ts t #[.int .i64 (k : Int), .int .i64 (n : Int)]).run Tryz.prog W = .ok (.int .i64 (k : Int)) W := fun ts t W => by
        simp [Builtin.min_, Builtin.min2]
        try (intro h; omega)
      have hs1 : ∀ W, (Instr.slice 42 (.slice (some ⟨w2.heap.size, 0, none⟩) n n) (some (.int .i64 (k : Int))) none none).run Tryz.prog W = .ok (.slice (some ⟨w2.heap.size, k, none⟩) (n - k) (n - k)) W := fun W => by
        have hu : Tryz.prog.underlying 42 = some (.slice (Tryz.prog.elem 42)) := by kernel_rfl
        have he : Tryz.prog.elem 42 = 5 := by kernel_rfl
        rw [run_slice_l (P := Tryz.prog) W 42 (some ⟨w2.heap.size, 0, none⟩) n n hu .i64 k (by omega) (by omega), he, Tryz.sizeOf5]
        have hne : ¬ n = k := by omega
        simp [Result.andThen, sliced, hne, add_plain]
      have hs2 : ∀ W, (Instr.slice 42 (.slice (some ⟨w2.heap.size, 0, none⟩) n n) none (some (.int .i64 (k : Int))) none).run Tryz.prog W = .ok (.slice (some ⟨w2.heap.size, 0, none⟩) k n) W := fun W => by
        have hu : Tryz.prog.underlying 42 = some (.slice (Tryz.prog.elem 42)) := by kernel_rfl
        have he : Tryz.prog.elem 42 = 5 := by kernel_rfl
        rw [run_slice_h (P := Tryz.prog) W 42 (some ⟨w2.heap.size, 0, none⟩) n n hu .i64 k (by omega) (by omega), he, Tryz.sizeOf5]
        have hne : ¬ n = 0 := by omega
        simp [Result.andThen, sliced, hne, add_plain]
      clear hR3 hch
      go_upto_region 20 with fail
      refine Tillst.region (fun W => True) [] (by kernel_rfl) trivial (fun hHeld => ?_)
      generalize wr.drew = vd at *
      refine Tillst.tk (i := 0) (oi := rp0) (v := ?_) rfl (by kernel_rfl) (by rfl) ?_ hHeld ?_
      rotate_left
      · intro W hSW; (try dsimp only at hSW); unfold rp0; go_simp; with_reducible rfl
      simp only [rp0, Act.put, sA, sZ, sS]
      refine Tillst.tk (i := 1) (oi := rp1) (v := ?_) rfl (by kernel_rfl) (by rfl) ?_ hHeld ?_
      rotate_left
      · intro W hSW; (try dsimp only at hSW); unfold rp1; go_simp; with_reducible rfl
      simp only [rp1, Act.put, sA, sZ, sS]
      refine Tillst.tk (i := 2) (oi := rp2) (v := ?_) rfl (by kernel_rfl) (by rfl) ?_ hHeld ?_
      rotate_left
      · intro W hSW; (try dsimp only at hSW); unfold rp2; go_simp; with_reducible rfl
      simp only [rp2, Act.put, sA, sZ, sS]
      refine Tillst.tk (i := 3) (oi := rp3) (v := ?_) rfl (by kernel_rfl) (by rfl) ?_ hHeld ?_
      rotate_left
      · intro W hSW; (try dsimp only at hSW); unfold rp3; go_simp; with_reducible rfl
      simp only [rp3, Act.put, sA, sZ, sS]
      refine Tillst.tk (i := 4) (oi := rp4) (v := ?_) rfl (by kernel_rfl) (by rfl) ?_ hHeld ?_
      rotate_left
      · intro W hSW; (try dsimp only at hSW); unfold rp4; go_simp; with_reducible rfl
      simp only [rp4, Act.put, sA, sZ, sS]
      refine Tillst.tk (i := 5) (oi := rp5) (v := ?_) rfl (by kernel_rfl) (by rfl) ?_ hHeld ?_
      rotate_left
      · intro W hSW; (try dsimp only at hSW); unfold rp5; go_simp; with_reducible rfl
      simp only [rp5, Act.put, sA, sZ, sS]
      refine Tillst.tk (i := 6) (oi := rp6) (v := ?_) rfl (by kernel_rfl) (by rfl) ?_ hHeld ?_
      rotate_left
      · intro W hSW; (try dsimp only at hSW); unfold rp6; go_simp; with_reducible rfl
      simp only [rp6, Act.put, sA, sZ, sS]
      refine Tillst.one (i := 7) (o := rp7) (by kernel_rfl) rfl ?_
      intro K hK
      refine step_copy14 (.tmp 70) (.tmp 73) 42 42 rfl rfl _ _ rfl rfl hr3 ?_
      simp only [rp7, Act.put, sA, sZ, sS]
      refine hK.out _ _ (fun _ => trivial) (fun hHeld => ?_)
      replace hHeld := hHeld (by decide)
      clear hK K
      have hwr : IntKind.i64.wrap ((k : Int) + (ch : Int)) = ((k + ch : Nat) : Int) := by rw [IntKind.wrap_i64]; omega
      refine Tillst.tk (i := 8) (oi := rp8) (v := .int .i64 ((k + ch : Nat) : Int)) rfl (by kernel_rfl) (by rfl) ?_ hHeld ?_
      · intro W hSW; clear hSW; unfold rp8; go_simp
      simp only [rp8, Act.put, sA, sZ, sS]
      refine Tillst.tk (i := 9) (oi := rp9) (v := ?_) rfl (by kernel_rfl) (by rfl) ?_ hHeld ?_
      rotate_left
      · intro W hSW; (try dsimp only at hSW); unfold rp9; go_simp; with_reducible rfl
      simp only [rp9, Act.put, sA, sZ, sS]
      refine Tillst.done (by kernel_rfl) ?_ _
      go_roundw
      case rel =>
        (repeat apply Exists.intro)
        exact ⟨⟨k + ch, by omega, hc2, by go_num, HR3.out⟩, rfl⟩
      case measure => simp [intOf]; omega
    · obtain rfl : k = n := by omega
      go_wp2
      (first | go_ret | go_ret2)
      exact ⟨_, rfl, Nat.le_refl _, HR.out⟩
end
section
open Go.RowKit
attribute [local go_sem] Oper.semAt_some
abbrev im0 : Oper := ⟨some 3, .fieldAddr 113 (.tmp 1) 1, 0, "law.go:34", #[], none⟩
abbrev im1 : Oper := ⟨some 4, .load 3 (.tmp 3), 3, "law.go:34", #[⟨0, .data⟩], none⟩
abbrev im2 : Oper := ⟨some 5, .call { callee := .value (.func 52), args := #[.tmp 4], argTypes := #[3] }, 42, "law.go:34", #[⟨1, .data⟩], none⟩
abbrev im3 : Oper := ⟨some 6, .fieldAddr 113 (.tmp 1) 4, 0, "law.go:34", #[], none⟩
abbrev im4 : Oper := ⟨some 7, .load 30 (.tmp 6), 30, "law.go:34", #[⟨3, .data⟩], none⟩
abbrev im5 : Oper := ⟨some 8, .convert 30 5 (.tmp 7), 5, "law.go:34", #[⟨4, .data⟩], none⟩
abbrev im6 : Oper := ⟨some 9, .buildSlice 42 1 #[(0, .tmp 8)], 42, "law.go:34", #[⟨5, .data⟩], none⟩
abbrev im7 : Oper := ⟨some 10, .fieldAddr 113 (.tmp 1) 2, 0, "law.go:34", #[], none⟩
abbrev im8 : Oper := ⟨some 11, .load 3 (.tmp 10), 3, "law.go:34", #[⟨7, .data⟩], none⟩
abbrev im9 : Oper := ⟨some 12, .convert 3 102 (.tmp 11), 102, "law.go:34", #[⟨8, .data⟩], none⟩
abbrev im10 : Oper := ⟨some 13, .binOp Go.BinOp.rem 102 (.tmp 12) (.const (.int .u64 514)) 102, 102, "law.go:34", #[⟨9, .data⟩], none⟩
abbrev im11 : Oper := ⟨some 14, .convert 102 3 (.tmp 13), 3, "law.go:34", #[⟨10, .data⟩], none⟩
abbrev im12 : Oper := ⟨some 15, .call { callee := .value (.func 146), args := #[.tmp 9, .tmp 14], argTypes := #[42, 3] }, 42, "law.go:34", #[⟨6, .data⟩, ⟨11, .data⟩, ⟨2, .chain⟩], none⟩
abbrev im13 : Oper := ⟨some 16, .fieldAddr 113 (.tmp 1) 2, 0, "law.go:34", #[], none⟩
abbrev im14 : Oper := ⟨some 17, .load 3 (.tmp 16), 3, "law.go:34", #[⟨13, .data⟩], none⟩
abbrev im15 : Oper := ⟨some 18, .convert 3 41 (.tmp 17), 41, "law.go:34", #[⟨14, .data⟩], none⟩
abbrev im16 : Oper := ⟨some 19, .fieldAddr 113 (.tmp 1) 5, 0, "law.go:34", #[], none⟩
abbrev im17 : Oper := ⟨some 20, .load 41 (.tmp 19), 41, "law.go:34", #[⟨16, .data⟩], none⟩
abbrev im18 : Oper := ⟨some 21, .fieldAddr 113 (.tmp 1) 4, 0, "law.go:34", #[], none⟩
abbrev im19 : Oper := ⟨some 22, .load 30 (.tmp 21), 30, "law.go:34", #[⟨18, .data⟩], none⟩
abbrev im20 : Oper := ⟨some 23, .fieldAddr 113 (.tmp 1) 2, 0, "law.go:34", #[], none⟩
abbrev im21 : Oper := ⟨some 24, .load 3 (.tmp 23), 3, "law.go:34", #[⟨20, .data⟩], none⟩
abbrev im22 : Oper := ⟨some 25, .binOp Go.BinOp.rem 3 (.tmp 24) (.const (.int .i64 2)) 3, 3, "law.go:34", #[⟨21, .data⟩], none⟩
abbrev im23 : Oper := ⟨some 26, .binOp Go.BinOp.eql 3 (.tmp 25) (.const (.int .i64 0)) 3, 4, "law.go:34", #[⟨22, .data⟩], none⟩
abbrev im24 : Oper := ⟨some 27, .build 117 #[(0, .tmp 5), (1, .tmp 15), (2, .tmp 18), (3, .tmp 20), (4, .tmp 22), (5, .tmp 26)], 117, "law.go:34", #[⟨2, .data⟩, ⟨12, .data⟩, ⟨15, .data⟩, ⟨17, .data⟩, ⟨19, .data⟩, ⟨23, .data⟩], none⟩
abbrev im25 : Oper := ⟨none, .store 117 (.tmp 2) (.tmp 27), 0, "law.go:34", #[⟨24, .data⟩, ⟨12, .chain⟩, ⟨0, .phase⟩, ⟨1, .phase⟩, ⟨2, .phase⟩, ⟨3, .phase⟩, ⟨4, .phase⟩, ⟨5, .phase⟩, ⟨6, .phase⟩, ⟨7, .phase⟩, ⟨8, .phase⟩, ⟨9, .phase⟩, ⟨10, .phase⟩, ⟨11, .phase⟩, ⟨12, .phase⟩, ⟨13, .phase⟩, ⟨14, .phase⟩, ⟨15, .phase⟩, ⟨16, .phase⟩, ⟨17, .phase⟩, ⟨18, .phase⟩, ⟨19, .phase⟩, ⟨20, .phase⟩, ⟨21, .phase⟩, ⟨22, .phase⟩, ⟨23, .phase⟩, ⟨24, .phase⟩], none⟩
theorem repeat_any (q n : Nat) (b : Int) (hn : n ≤ 513) (w : World) (hq : w.cell? ⟨q, 0, none⟩ = some (.int .u8 b)) :
    Calls Tryz.prog 146 #[.slice (some ⟨q, 0, none⟩) 1 1, .int .i64 n] w fun e w' => ∃ g c, e = .returned (.slice (some ⟨g, 0, none⟩) n c) ∧ RowI .u8 w' (fun b => w.heap.size ≤ b) (some ⟨g, 0, none⟩) n (List.replicate n b) ∧ Below w.heap.size w w' := by
  rcases Nat.eq_zero_or_pos n with rfl | h0
  · refine (repeat_zero (S := fun _ => True) q 0 1 b w).mono ?_
    rintro e w1 ⟨⟨g, c', rfl⟩, hb⟩
    exact ⟨g, c', rfl, RowG.nil _ _ _ _ _, hb⟩
  · refine (repeat_one q 0 1 n b hn h0 w hq).mono ?_
    rintro e w1 ⟨g, rfl, hg, hr⟩
    refine ⟨g, n, rfl, ⟨List.length_replicate, fun _ => ⟨g, 0, rfl, hg, fun j hj => ?_⟩⟩, hr.1.mono hg⟩
    rw [Nat.zero_add, hr.cell j hj]
    simp [List.getD, List.getElem?_replicate, hj]
section
variable {w : World} {o : Oper} {a : Act} {Q : Exit → Act → World → Prop} {K : Act → World → Prop} {E : Prop} {ops : Array Oper}
theorem step_lit1 (x : Operand) (ho : o.op = .buildSlice 42 1 #[(0, x)]) (hgd : Region.wanted o (yielded ops a.tmps) = true) (b : Int) (hx : a.eval x = .int .u8 b)
    (h : K (a.put o.dst (.slice (some ⟨w.heap.size, 0, none⟩) 1 1)) (w.alloc (.cells #[.int .u8 b] 5))) :
    if Region.wanted o (yielded ops a.tmps) = true then Oper.wp Tryz.prog o a w K Q else E := by
  rw [if_pos hgd]
  obtain ⟨i0, hi, hz0, hz1, hz2⟩ := info_parts info_u8
  refine wp_buildSlice 42 5 1 #[(0, x)] ho #[.int .u8 b] i0 _ Tryz.underlying42 hi hz0 (by rw [hz1]; decide) (by rw [hz1]; decide) ?_ h
  rw [hz1]
  have e : (Array.map (fun (p : Nat × Operand) => (p.1, a.eval p.2)) #[(0, x)]).toList = [(0, .int .u8 b)] := by simp [hx]
  refine (congrArg _ e).trans ?_
  kernel_rfl
end
def itN (sz : Int) : Nat := (sz % 18446744073709551616 % 514).toNat
theorem itN_le (sz : Int) : itN sz ≤ 513 := by unfold itN; omega
abbrev itCs (g : Nat) (g2 c2 : Nat) (sz x q : Int) : Array Value := #[.slice (some ⟨g, 0, none⟩) 2 2, .slice (some ⟨g2, 0, none⟩) (itN sz) c2, .int .u32 (sz % 4294967296), .int .u32 x, .int .u64 q, .bool (sz.tmod 2 == 0)]
def ItemH (w : World) (ky sz x q : Int) (e : Ending) (w' : World) : Prop :=
  ∃ g g2 c2, e = .returned (.agg (itCs g g2 c2 sz x q)) ∧ w.heap.size ≤ g ∧ ArrU w' g (keyL ky) ∧ RowI .u8 w' (fun b => w.heap.size ≤ b) (some ⟨g2, 0, none⟩) (itN sz) (List.replicate (itN sz) (q % 256)) ∧ Below w.heap.size w w'
theorem item_ok (kd ky sz at' q x : Int) (w : World) :
    Calls Tryz.prog 57 #[.agg #[.int .i64 kd, .int .i64 ky, .int .i64 sz, .int .i64 at', .int .u64 q, .int .u32 x]] w (ItemH w ky sz x q) := by
  obtain ⟨w1, hw1⟩ : ∃ w1, w1 = (w.alloc (.cells #[.int .i64 kd, .int .i64 ky, .int .i64 sz, .int .i64 at', .int .u64 q, .int .u32 x] 113)).alloc (.cells itm0C 117) := ⟨_, rfl⟩
  have hb1 : Below w.heap.size w w1 := by rw [hw1]; exact ((Below.refl _ w).alloc (Nat.le_refl _) _).alloc (by simp) _
  have HO1 := hI (show Blk w1 w.heap.size 113 #[.int .i64 kd, .int .i64 ky, .int .i64 sz, .int .i64 at', .int .u64 q, .int .u32 x] by rw [hw1]; exact (Blk.new w _ _).alloc _)
  have HI1 := hI (show Blk w1 (w.heap.size + 1) 117 itm0C by rw [hw1]; exact blk_new2 w _ _ _)
  have HC := hI (show ∀ W, Below w1.heap.size w1 W → W.cell? ⟨w.heap.size, 1, none⟩ = some (.int .i64 ky) ∧ W.cell? ⟨w.heap.size, 2, none⟩ = some (.int .i64 sz) ∧ W.cell? ⟨w.heap.size, 4, none⟩ = some (.int .u64 q) ∧ W.cell? ⟨w.heap.size, 5, none⟩ = some (.int .u32 x) from fun W hW => by
    have h9 := HO1.out.below hW HO1.out.lt
    exact ⟨h9.cell 1, h9.cell 2, h9.cell 4, h9.cell 5⟩)
  have HB1 := hI hb1
  have HW1 := hI hw1
  clear hb1 hw1
  go_enter Tryz.func57, Tryz.ntmps57
  go_upto_region 1 with fail
  rw [← HW1.out]
  refine Tillst.region (fun W => Below w1.heap.size w1 W) [25] (by kernel_rfl) ((Below.refl _ _).drew) (fun hHeld => ?_)
  generalize w1.drew = vd at *
  have hw8 : IntKind.u8.wrap q = q % 256 := IntKind.wrap_u8 q
  have hw64 : IntKind.u64.wrap sz = sz % 18446744073709551616 := IntKind.wrap_u64 sz
  have hw32 : IntKind.u32.wrap sz = sz % 4294967296 := IntKind.wrap_u32 sz
  have hwn : IntKind.i64.wrap (sz % 18446744073709551616 % 514) = (itN sz : Nat) := by rw [IntKind.wrap_i64]; unfold itN; omega
  refine Tillst.takeG (i := 0) (oi := im0) (v := ?_) rfl (by kernel_rfl) (by kernel_rfl) (by kernel_rfl) (by kernel_rfl) (by kernel_rfl) (fun _ _ _ h => h) (by rfl) ?_ hHeld ?_
  rotate_left
  · intro W hSW; (try dsimp only at hSW); unfold im0; go_simp; with_reducible rfl
  simp only [im0, Act.put, sA, sZ, sS]
  refine Tillst.takeG (i := 1) (oi := im1) (v := ?_) rfl (by kernel_rfl) (by kernel_rfl) (by kernel_rfl) (by kernel_rfl) (by kernel_rfl) (fun _ _ _ h => h) (by rfl) ?_ hHeld ?_
  rotate_left
  · intro W hSW; have h9 := (HC.out W hSW).1; clear hSW; unfold im1; go_simp; with_reducible rfl
  simp only [im1, Act.put, sA, sZ, sS]
  refine Tillst.takeG (i := 3) (oi := im3) (v := ?_) rfl (by kernel_rfl) (by kernel_rfl) (by kernel_rfl) (by kernel_rfl) (by kernel_rfl) (fun _ _ _ h => h) (by rfl) ?_ hHeld ?_
  rotate_left
  · intro W hSW; (try dsimp only at hSW); unfold im3; go_simp; with_reducible rfl
  simp only [im3, Act.put, sA, sZ, sS]
  refine Tillst.takeG (i := 4) (oi := im4) (v := ?_) rfl (by kernel_rfl) (by kernel_rfl) (by kernel_rfl) (by kernel_rfl) (by kernel_rfl) (fun _ _ _ h => h) (by rfl) ?_ hHeld ?_
  rotate_left
  · intro W hSW; have h9 := (HC.out W hSW).2.2.1; clear hSW; unfold im4; go_simp; with_reducible rfl
  simp only [im4, Act.put, sA, sZ, sS]
  refine Tillst.takeG (i := 5) (oi := im5) (v := .int .u8 (q % 256)) rfl (by kernel_rfl) (by kernel_rfl) (by kernel_rfl) (by kernel_rfl) (by kernel_rfl) (fun _ _ _ h => h) (by rfl) ?_ hHeld ?_
  · intro W hSW; clear hSW; unfold im5; go_simp
  simp only [im5, Act.put, sA, sZ, sS]
  refine Tillst.takeG (i := 7) (oi := im7) (v := ?_) rfl (by kernel_rfl) (by kernel_rfl) (by kernel_rfl) (by kernel_rfl) (by kernel_rfl) (fun _ _ _ h => h) (by rfl) ?_ hHeld ?_
  rotate_left
  · intro W hSW; (try dsimp only at hSW); unfold im7; go_simp; with_reducible rfl
  simp only [im7, Act.put, sA, sZ, sS]
  refine Tillst.takeG (i := 8) (oi := im8) (v := ?_) rfl (by kernel_rfl) (by kernel_rfl) (by kernel_rfl) (by kernel_rfl) (by kernel_rfl) (fun _ _ _ h => h) (by rfl) ?_ hHeld ?_
  rotate_left
  · intro W hSW; have h9 := (HC.out W hSW).2.1; clear hSW; unfold im8; go_simp; with_reducible rfl
  simp only [im8, Act.put, sA, sZ, sS]
  refine Tillst.takeG (i := 9) (oi := im9) (v := .int .u64 (sz % 18446744073709551616)) rfl (by kernel_rfl) (by kernel_rfl) (by kernel_rfl) (by kernel_rfl) (by kernel_rfl) (fun _ _ _ h => h) (by rfl) ?_ hHeld ?_
  · intro W hSW; clear hSW; unfold im9; go_simp
  simp only [im9, Act.put, sA, sZ, sS]
  refine Tillst.takeG (i := 10) (oi := im10) (v := .int .u64 (sz % 18446744073709551616 % 514)) rfl (by kernel_rfl) (by kernel_rfl) (by kernel_rfl) (by kernel_rfl) (by kernel_rfl) (fun _ _ _ h => h) (by rfl) ?_ hHeld ?_
  · intro W hSW; clear hSW; unfold im10; go_simp; exact Int.tmod_eq_emod_of_nonneg (by omega)
  simp only [im10, Act.put, sA, sZ, sS]
  refine Tillst.takeG (i := 11) (oi := im11) (v := .int .i64 (itN sz : Nat)) rfl (by kernel_rfl) (by kernel_rfl) (by kernel_rfl) (by kernel_rfl) (by kernel_rfl) (fun _ _ _ h => h) (by rfl) ?_ hHeld ?_
  · intro W hSW; clear hSW; unfold im11; go_simp
  simp only [im11, Act.put, sA, sZ, sS]
  refine Tillst.takeG (i := 13) (oi := im13) (v := ?_) rfl (by kernel_rfl) (by kernel_rfl) (by kernel_rfl) (by kernel_rfl) (by kernel_rfl) (fun _ _ _ h => h) (by rfl) ?_ hHeld ?_
  rotate_left
  · intro W hSW; (try dsimp only at hSW); unfold im13; go_simp; with_reducible rfl
  simp only [im13, Act.put, sA, sZ, sS]
  refine Tillst.takeG (i := 14) (oi := im14) (v := ?_) rfl (by kernel_rfl) (by kernel_rfl) (by kernel_rfl) (by kernel_rfl) (by kernel_rfl) (fun _ _ _ h => h) (by rfl) ?_ hHeld ?_
  rotate_left
  · intro W hSW; have h9 := (HC.out W hSW).2.1; clear hSW; unfold im14; go_simp; with_reducible rfl
  simp only [im14, Act.put, sA, sZ, sS]
  refine Tillst.takeG (i := 15) (oi := im15) (v := .int .u32 (sz % 4294967296)) rfl (by kernel_rfl) (by kernel_rfl) (by kernel_rfl) (by kernel_rfl) (by kernel_rfl) (fun _ _ _ h => h) (by rfl) ?_ hHeld ?_
  · intro W hSW; clear hSW; unfold im15; go_simp
  simp only [im15, Act.put, sA, sZ, sS]
  refine Tillst.takeG (i := 16) (oi := im16) (v := ?_) rfl (by kernel_rfl) (by kernel_rfl) (by kernel_rfl) (by kernel_rfl) (by kernel_rfl) (fun _ _ _ h => h) (by rfl) ?_ hHeld ?_
  rotate_left
  · intro W hSW; (try dsimp only at hSW); unfold im16; go_simp; with_reducible rfl
  simp only [im16, Act.put, sA, sZ, sS]
  refine Tillst.takeG (i := 17) (oi := im17) (v := ?_) rfl (by kernel_rfl) (by kernel_rfl) (by kernel_rfl) (by kernel_rfl) (by kernel_rfl) (fun _ _ _ h => h) (by rfl) ?_ hHeld ?_
  rotate_left
  · intro W hSW; have h9 := (HC.out W hSW).2.2.2; clear hSW; unfold im17; go_simp; with_reducible rfl
  simp only [im17, Act.put, sA, sZ, sS]
  refine Tillst.takeG (i := 18) (oi := im18) (v := ?_) rfl (by kernel_rfl) (by kernel_rfl) (by kernel_rfl) (by kernel_rfl) (by kernel_rfl) (fun _ _ _ h => h) (by rfl) ?_ hHeld ?_
  rotate_left
  · intro W hSW; (try dsimp only at hSW); unfold im18; go_simp; with_reducible rfl
  simp only [im18, Act.put, sA, sZ, sS]
  refine Tillst.takeG (i := 19) (oi := im19) (v := ?_) rfl (by kernel_rfl) (by kernel_rfl) (by kernel_rfl) (by kernel_rfl) (by kernel_rfl) (fun _ _ _ h => h) (by rfl) ?_ hHeld ?_
  rotate_left
  · intro W hSW; have h9 := (HC.out W hSW).2.2.1; clear hSW; unfold im19; go_simp; with_reducible rfl
  simp only [im19, Act.put, sA, sZ, sS]
  refine Tillst.takeG (i := 20) (oi := im20) (v := ?_) rfl (by kernel_rfl) (by kernel_rfl) (by kernel_rfl) (by kernel_rfl) (by kernel_rfl) (fun _ _ _ h => h) (by rfl) ?_ hHeld ?_
  rotate_left
  · intro W hSW; (try dsimp only at hSW); unfold im20; go_simp; with_reducible rfl
  simp only [im20, Act.put, sA, sZ, sS]
  refine Tillst.takeG (i := 21) (oi := im21) (v := ?_) rfl (by kernel_rfl) (by kernel_rfl) (by kernel_rfl) (by kernel_rfl) (by kernel_rfl) (fun _ _ _ h => h) (by rfl) ?_ hHeld ?_
  rotate_left
  · intro W hSW; have h9 := (HC.out W hSW).2.1; clear hSW; unfold im21; go_simp; with_reducible rfl
  simp only [im21, Act.put, sA, sZ, sS]
  refine Tillst.takeG (i := 22) (oi := im22) (v := .int .i64 (sz.tmod 2)) rfl (by kernel_rfl) (by kernel_rfl) (by kernel_rfl) (by kernel_rfl) (by kernel_rfl) (fun _ _ _ h => h) (by rfl) ?_ hHeld ?_
  · intro W hSW; clear hSW; unfold im22; go_simp
  simp only [im22, Act.put, sA, sZ, sS]
  refine Tillst.takeG (i := 23) (oi := im23) (v := .bool (sz.tmod 2 == 0)) rfl (by kernel_rfl) (by kernel_rfl) (by kernel_rfl) (by kernel_rfl) (by kernel_rfl) (fun _ _ _ h => h) (by rfl) ?_ hHeld ?_
  · intro W hSW; clear hSW; unfold im23; go_simp
  simp only [im23, Act.put, sA, sZ, sS]
  clear hw8 hw64 hw32 hwn
  refine Tillst.two (i := 2) (j := 6) (o := im2) (o' := im6) (by kernel_rfl) rfl rfl ?_ ?_
  · intro K hK
    refine step_call 52 #[.tmp 4] #[3] rfl rfl Tryz.func52 rfl rfl [.int .i64 ky] rfl ((key_any ky vd).mono ?_)
    rintro e w4 ⟨g, rfl, hg4, hr4, hb4⟩
    refine ⟨_, rfl, ?_⟩
    simp only [im2, Act.put, sA, sZ, sS]
    have hH4 := hHeld.trans (hb4.mono hHeld.size)
    have HKY4 := hI hr4
    have HG := hI (Nat.le_trans hHeld.size hg4)
    refine hK.out _ _ (fun _ => hH4) (fun hHeld => ?_)
    replace hHeld := hHeld (by decide)
    clear hK K hH4 hr4 hb4 hg4
    refine Tillst.one (i := 6) (o := im6) (by kernel_rfl) rfl ?_
    intro K hK
    refine step_lit1 (.tmp 8) rfl rfl (q % 256) rfl ?_
    simp only [im6, Act.put, sA, sZ, sS]
    have hal := (Below.refl w4.heap.size w4).alloc (Nat.le_refl _) (.cells #[.int .u8 (q % 256)] 5)
    have HBT := hI (Blk.new w4 5 #[.int .u8 (q % 256)])
    have HKY := hI (Blk.below HKY4.out hal (Blk.lt HKY4.out))
    have hH5 := hHeld.trans (hal.mono hHeld.size)
    generalize w4.heap.size = qb at *
    generalize w4.alloc _ = wz at *
    refine hK.out _ _ (fun _ => hH5) (fun hHeld => ?_)
    replace hHeld := hHeld (by decide)
    clear hK K hH5 hal
    refine Tillst.one (i := 12) (o := im12) (by kernel_rfl) rfl ?_
    intro K hK
    refine step_call 146 #[.tmp 9, .tmp 14] #[42, 3] rfl rfl Tryz.func146 rfl rfl [.slice (some ⟨qb, 0, none⟩) 1 1, .int .i64 (itN sz : Nat)] rfl ((repeat_any qb (itN sz) (q % 256) (itN_le sz) wz (HBT.out.cell 0)).mono ?_)
    rintro e w6 ⟨g2, c2, rfl, hr6, hb6⟩
    refine ⟨_, rfl, ?_⟩
    simp only [im12, Act.put, sA, sZ, sS]
    have hH6 := hHeld.trans (hb6.mono hHeld.size)
    have HKY6 := hI (Blk.below HKY.out hb6 (Blk.lt HKY.out))
    have HR6 := hI (hr6.more (T := fun b => w1.heap.size ≤ b) (fun b h => Nat.le_trans hHeld.size h))
    refine hK.out _ _ (fun _ => hH6) (fun hHeld => ?_)
    replace hHeld := hHeld (by decide)
    clear hK K hH6 hr6 hb6
    refine Tillst.takeG (i := 24) (oi := im24) (v := .agg (itCs g g2 c2 sz x q)) rfl (by kernel_rfl) (by kernel_rfl) (by kernel_rfl) (by kernel_rfl) (by kernel_rfl) (fun _ _ _ h => h) (by rfl) ?_ hHeld ?_
    · intro W hSW; clear hSW; unfold im24; go_simp
    simp only [im24, Act.put, sA, sZ, sS]
    have HI6 := hI (HI1.out.below hHeld HI1.out.lt)
    refine Tillst.one (i := 25) (o := im25) (by kernel_rfl) rfl ?_
    intro K hK
    refine step_store14 (.tmp 2) (.tmp 27) 117 rfl rfl (w.heap.size + 1) (itCs g g2 c2 sz x q) rfl rfl 117 _ HI6.out size_itm rfl (by simp [Value.oneCell']) ?_
    simp only [im25, Act.put, sA, sZ, sS]
    have HH6 := hI hHeld
    refine hK.out _ _ (fun h => by cases h) (fun _ => ?_)
    clear hK K hHeld
    refine Tillst.done (by kernel_rfl) ?_ _
    go_wp2_with (with_reducible refine halt_end ?_)
    have hk7 : Kept (fun b => b ≠ w.heap.size + 1) w6 (w6.setRow (w.heap.size + 1) (itCs g g2 c2 sz x q)) := (Kept.refl _ _).setRow (fun h => h rfl) _
    have hlt1 := HI1.out.lt
    refine Halt.ret (results_row1 rfl _ _ (w.heap.size + 1) 117 (itCs g g2 c2 sz x q) _ rfl (setRow_heap _ _ _ _ _ _ HI6.out) Tryz.underlying117 rfl size_itm) rfl ⟨g, g2, c2, rfl, Nat.le_trans HB1.out.size HG.out, Blk.kept HKY6.out hk7 (by have := HG.out; omega), (HR6.out.kept hk7 (fun b h => by omega)).more (fun b h => Nat.le_trans HB1.out.size h), below_setRow (HB1.out.trans (HH6.out.mono HB1.out.size)) (by omega) _⟩
  · intro K hK
    refine step_lit1 (.tmp 8) rfl rfl (q % 256) rfl ?_
    simp only [im6, Act.put, sA, sZ, sS]
    have hal := (Below.refl vd.heap.size vd).alloc (Nat.le_refl _) (.cells #[.int .u8 (q % 256)] 5)
    have HBT4 := hI (Blk.new vd 5 #[.int .u8 (q % 256)])
    have hH4 := hHeld.trans (hal.mono hHeld.size)
    generalize vd.heap.size = qb at *
    generalize vd.alloc _ = w4 at *
    refine hK.out _ _ (fun _ => hH4) (fun hHeld => ?_)
    replace hHeld := hHeld (by decide)
    clear hK K hH4 hal
    refine Tillst.one (i := 2) (o := im2) (by kernel_rfl) rfl ?_
    intro K hK
    refine step_call 52 #[.tmp 4] #[3] rfl rfl Tryz.func52 rfl rfl [.int .i64 ky] rfl ((key_any ky w4).mono ?_)
    rintro e wz ⟨g, rfl, hg4, hr4, hb4⟩
    refine ⟨_, rfl, ?_⟩
    simp only [im2, Act.put, sA, sZ, sS]
    have hH5 := hHeld.trans (hb4.mono hHeld.size)
    have HKY := hI hr4
    have HG := hI (Nat.le_trans hHeld.size hg4)
    have HBT := hI (HBT4.out.below hb4 HBT4.out.lt)
    refine hK.out _ _ (fun _ => hH5) (fun hHeld => ?_)
    replace hHeld := hHeld (by decide)
    clear hK K hH5 hr4 hb4 hg4
    refine Tillst.one (i := 12) (o := im12) (by kernel_rfl) rfl ?_
    intro K hK
    refine step_call 146 #[.tmp 9, .tmp 14] #[42, 3] rfl rfl Tryz.func146 rfl rfl [.slice (some ⟨qb, 0, none⟩) 1 1, .int .i64 (itN sz : Nat)] rfl ((repeat_any qb (itN sz) (q % 256) (itN_le sz) wz (HBT.out.cell 0)).mono ?_)
    rintro e w6 ⟨g2, c2, rfl, hr6, hb6⟩
    refine ⟨_, rfl, ?_⟩
    simp only [im12, Act.put, sA, sZ, sS]
    have hH6 := hHeld.trans (hb6.mono hHeld.size)
    have HKY6 := hI (Blk.below HKY.out hb6 (Blk.lt HKY.out))
    have HR6 := hI (hr6.more (T := fun b => w1.heap.size ≤ b) (fun b h => Nat.le_trans hHeld.size h))
    refine hK.out _ _ (fun _ => hH6) (fun hHeld => ?_)
    replace hHeld := hHeld (by decide)
    clear hK K hH6 hr6 hb6
    refine Tillst.takeG (i := 24) (oi := im24) (v := .agg (itCs g g2 c2 sz x q)) rfl (by kernel_rfl) (by kernel_rfl) (by kernel_rfl) (by kernel_rfl) (by kernel_rfl) (fun _ _ _ h => h) (by rfl) ?_ hHeld ?_
    · intro W hSW; clear hSW; unfold im24; go_simp
    simp only [im24, Act.put, sA, sZ, sS]
    have HI6 := hI (HI1.out.below hHeld HI1.out.lt)
    refine Tillst.one (i := 25) (o := im25) (by kernel_rfl) rfl ?_
    intro K hK
    refine step_store14 (.tmp 2) (.tmp 27) 117 rfl rfl (w.heap.size + 1) (itCs g g2 c2 sz x q) rfl rfl 117 _ HI6.out size_itm rfl (by simp [Value.oneCell']) ?_
    simp only [im25, Act.put, sA, sZ, sS]
    have HH6 := hI hHeld
    refine hK.out _ _ (fun h => by cases h) (fun _ => ?_)
    clear hK K hHeld
    refine Tillst.done (by kernel_rfl) ?_ _
    go_wp2_with (with_reducible refine halt_end ?_)
    have hk7 : Kept (fun b => b ≠ w.heap.size + 1) w6 (w6.setRow (w.heap.size + 1) (itCs g g2 c2 sz x q)) := (Kept.refl _ _).setRow (fun h => h rfl) _
    have hlt1 := HI1.out.lt
    refine Halt.ret (results_row1 rfl _ _ (w.heap.size + 1) 117 (itCs g g2 c2 sz x q) _ rfl (setRow_heap _ _ _ _ _ _ HI6.out) Tryz.underlying117 rfl size_itm) rfl ⟨g, g2, c2, rfl, Nat.le_trans HB1.out.size HG.out, Blk.kept HKY6.out hk7 (by have := HG.out; omega), (HR6.out.kept hk7 (fun b h => by omega)).more (fun b h => Nat.le_trans HB1.out.size h), below_setRow (HB1.out.trans (HH6.out.mono HB1.out.size)) (by omega) _⟩
end
section
open Go.RowKit
attribute [local go_sem] Oper.semAt_some
theorem same_zero14 (w : World) : Calls Tryz.prog 54 #[.agg itm0C, .agg itm0C] w fun e w' => e = .returned (.bool true) ∧ Below w.heap.size w w' := by
  have HB := hI (((Below.refl w.heap.size w).alloc (Nat.le_refl _) (.cells itm0C 117)).alloc (by simp) (.cells itm0C 117))
  have HE := hI (fun W : World => equal_yes none none 0 0 0 [] (fun b => b < W.heap.size) (fun b => b < W.heap.size) W (RowG.nil _ _ _ _ _) (RowG.nil _ _ _ _ _) (fun b h => h) (fun b h => h))
  go_enter Tryz.func54, Tryz.ntmps54
  go_wp2_with fail
  refine (HE.out _ (fun j => by simp)).mono ?_
  rintro e w1 ⟨rfl, rfl⟩
  go_wp2_with fail
  refine (HE.out _ (fun j => by simp)).mono ?_
  rintro e w1 ⟨rfl, rfl⟩
  go_wp2_with fail
  (first | go_ret | go_ret2)
  exact ⟨rfl, HB.out⟩
end
section
abbrev stn0 : Oper := ⟨some 26, .move (.tmp 6), 105, "law.go:229", #[], none⟩
abbrev stn1 : Oper := ⟨some 27, .binOp Go.BinOp.eql 105 (.tmp 26) (.const (.pointer none)) 105, 4, "law.go:229", #[⟨0, .data⟩], none⟩
abbrev stn2 : Oper := ⟨some 28, .move (.tmp 27), 4, "law.go:229", #[⟨1, .data⟩], none⟩
abbrev stn3 : Oper := ⟨some 29, .move (.tmp 7), 49, "law.go:229", #[⟨2, .guard⟩], some (2, true)⟩
abbrev stn4 : Oper := ⟨some 30, .binOp Go.BinOp.eql 49 (.tmp 29) (.const (.int .i64 1)) 49, 4, "law.go:229", #[⟨3, .data⟩, ⟨2, .guard⟩], some (2, true)⟩
abbrev stn5 : Oper := ⟨some 31, .pick (.tmp 28) (.tmp 30) (.const (.bool false)), 4, "law.go:229", #[⟨2, .data⟩, ⟨4, .data⟩], none⟩
abbrev stn6 : Oper := ⟨some 32, .move (.tmp 31), 4, "law.go:229", #[⟨5, .data⟩, ⟨2, .chain⟩], none⟩
abbrev stn7 : Oper := ⟨some 33, .move (.tmp 9), 49, "law.go:229", #[⟨6, .guard⟩], some (6, true)⟩
abbrev stn8 : Oper := ⟨some 34, .binOp Go.BinOp.eql 49 (.tmp 33) (.const (.int .i64 1)) 49, 4, "law.go:229", #[⟨7, .data⟩, ⟨6, .guard⟩], some (6, true)⟩
abbrev stn9 : Oper := ⟨some 35, .pick (.tmp 32) (.tmp 34) (.const (.bool false)), 4, "law.go:229", #[⟨6, .data⟩, ⟨8, .data⟩], none⟩
abbrev stn10 : Oper := ⟨some 36, .move (.tmp 35), 4, "law.go:229", #[⟨9, .data⟩, ⟨6, .chain⟩], none⟩
abbrev stn11 : Oper := ⟨some 37, .load 117 (.tmp 8), 117, "law.go:229", #[⟨10, .guard⟩], some (10, true)⟩
abbrev stn12 : Oper := ⟨some 38, .build 117 #[], 117, "law.go:229", #[⟨10, .guard⟩], some (10, true)⟩
abbrev stn13 : Oper := ⟨some 39, .call { callee := .value (.func 54), args := #[.tmp 37, .tmp 38], argTypes := #[117, 117] }, 4, "law.go:229", #[⟨11, .data⟩, ⟨12, .data⟩, ⟨10, .chain⟩, ⟨10, .guard⟩], some (10, true)⟩
abbrev stn14 : Oper := ⟨some 40, .pick (.tmp 36) (.tmp 39) (.const (.bool false)), 4, "law.go:229", #[⟨10, .data⟩, ⟨13, .data⟩], none⟩
abbrev stn15 : Oper := ⟨some 41, .move (.tmp 40), 4, "law.go:229", #[⟨14, .data⟩, ⟨13, .chain⟩], none⟩
abbrev stn16 : Oper := ⟨some 42, .move (.tmp 5), 105, "law.go:229", #[⟨15, .guard⟩], some (15, true)⟩
abbrev stn17 : Oper := ⟨some 43, .load 113 (.tmp 2), 113, "law.go:229", #[⟨15, .guard⟩], some (15, true)⟩
abbrev stn18 : Oper := ⟨some 44, .call { callee := .value (.func 57), args := #[.tmp 43], argTypes := #[113] }, 117, "law.go:229", #[⟨17, .data⟩, ⟨15, .chain⟩, ⟨15, .guard⟩], some (15, true)⟩
abbrev stn19 : Oper := ⟨some 45, .call { callee := .value (.func 56), args := #[.tmp 42, .tmp 44], argTypes := #[105, 117] }, 49, "law.go:229", #[⟨16, .data⟩, ⟨18, .data⟩, ⟨18, .chain⟩, ⟨15, .guard⟩], some (15, true)⟩
abbrev stn20 : Oper := ⟨some 46, .binOp Go.BinOp.eql 49 (.tmp 45) (.const (.int .i64 1)) 49, 4, "law.go:229", #[⟨19, .data⟩, ⟨15, .guard⟩], some (15, true)⟩
abbrev stn21 : Oper := ⟨some 47, .pick (.tmp 41) (.tmp 46) (.const (.bool false)), 4, "law.go:229", #[⟨15, .data⟩, ⟨20, .data⟩], none⟩
abbrev stn22 : Oper := ⟨some 48, .move (.tmp 47), 4, "law.go:229", #[⟨21, .data⟩, ⟨19, .chain⟩], none⟩
abbrev stn23 : Oper := ⟨some 49, .move (.tmp 5), 105, "law.go:229", #[⟨22, .guard⟩], some (22, true)⟩
abbrev stn24 : Oper := ⟨some 50, .fieldAddr 113 (.tmp 2) 1, 0, "law.go:229", #[⟨22, .guard⟩], some (22, true)⟩
abbrev stn25 : Oper := ⟨some 51, .load 3 (.tmp 50), 3, "law.go:229", #[⟨24, .data⟩, ⟨22, .guard⟩], some (22, true)⟩
abbrev stn26 : Oper := ⟨some 52, .call { callee := .value (.func 52), args := #[.tmp 51], argTypes := #[3] }, 42, "law.go:229", #[⟨25, .data⟩, ⟨22, .chain⟩, ⟨22, .guard⟩], some (22, true)⟩
abbrev stn27 : Oper := ⟨some 53, .fieldAddr 113 (.tmp 2) 4, 0, "law.go:229", #[⟨22, .guard⟩], some (22, true)⟩
abbrev stn28 : Oper := ⟨some 54, .load 30 (.tmp 53), 30, "law.go:229", #[⟨27, .data⟩, ⟨22, .guard⟩], some (22, true)⟩
abbrev stn29 : Oper := ⟨some 55, .call { callee := .value (.func 58), args := #[.tmp 49, .tmp 52, .tmp 54], argTypes := #[105, 42, 30] }, 49, "law.go:229", #[⟨23, .data⟩, ⟨26, .data⟩, ⟨28, .data⟩, ⟨26, .chain⟩, ⟨22, .guard⟩], some (22, true)⟩
abbrev stn30 : Oper := ⟨some 56, .binOp Go.BinOp.eql 49 (.tmp 55) (.const (.int .i64 1)) 49, 4, "law.go:229", #[⟨29, .data⟩, ⟨22, .guard⟩], some (22, true)⟩
abbrev stn31 : Oper := ⟨some 57, .pick (.tmp 48) (.tmp 56) (.const (.bool false)), 4, "law.go:229", #[⟨22, .data⟩, ⟨30, .data⟩], none⟩
abbrev stn32 : Oper := ⟨some 58, .move (.tmp 57), 4, "law.go:229", #[⟨31, .data⟩, ⟨29, .chain⟩], none⟩
abbrev stn33 : Oper := ⟨some 59, .move (.tmp 5), 105, "law.go:229", #[⟨32, .guard⟩], some (32, true)⟩
abbrev stn34 : Oper := ⟨some 60, .fieldAddr 113 (.tmp 2) 4, 0, "law.go:229", #[⟨32, .guard⟩], some (32, true)⟩
abbrev stn35 : Oper := ⟨some 61, .load 30 (.tmp 60), 30, "law.go:229", #[⟨34, .data⟩, ⟨32, .guard⟩], some (32, true)⟩
abbrev stn36 : Oper := ⟨some 62, .call { callee := .value (.func 59), args := #[.tmp 59, .tmp 61], argTypes := #[105, 30] }, 49, "law.go:229", #[⟨33, .data⟩, ⟨35, .data⟩, ⟨32, .chain⟩, ⟨32, .guard⟩], some (32, true)⟩
abbrev stn37 : Oper := ⟨some 63, .binOp Go.BinOp.eql 49 (.tmp 62) (.const (.int .i64 1)) 49, 4, "law.go:229", #[⟨36, .data⟩, ⟨32, .guard⟩], some (32, true)⟩
abbrev stn38 : Oper := ⟨some 64, .pick (.tmp 58) (.tmp 63) (.const (.bool false)), 4, "law.go:229", #[⟨32, .data⟩, ⟨37, .data⟩], none⟩
abbrev stn39 : Oper := ⟨some 65, .move (.tmp 64), 4, "law.go:229", #[⟨38, .data⟩, ⟨36, .chain⟩], none⟩
abbrev stn40 : Oper := ⟨some 66, .move (.tmp 5), 105, "law.go:229", #[⟨39, .guard⟩], some (39, true)⟩
abbrev stn41 : Oper := ⟨some 67, .call { callee := .value (.func 60), args := #[.tmp 66], argTypes := #[105] }, 49, "law.go:229", #[⟨40, .data⟩, ⟨39, .chain⟩, ⟨39, .guard⟩], some (39, true)⟩
abbrev stn42 : Oper := ⟨some 68, .binOp Go.BinOp.eql 49 (.tmp 67) (.const (.int .i64 1)) 49, 4, "law.go:229", #[⟨41, .data⟩, ⟨39, .guard⟩], some (39, true)⟩
abbrev stn43 : Oper := ⟨some 69, .pick (.tmp 65) (.tmp 68) (.const (.bool false)), 4, "law.go:229", #[⟨39, .data⟩, ⟨42, .data⟩], none⟩
abbrev stn44 : Oper := ⟨some 70, .move (.tmp 69), 4, "law.go:229", #[⟨43, .data⟩, ⟨41, .chain⟩], none⟩
abbrev stn45 : Oper := ⟨some 71, .move (.tmp 5), 105, "law.go:229", #[⟨44, .guard⟩], some (44, true)⟩
abbrev stn46 : Oper := ⟨some 72, .fieldAddr 113 (.tmp 2) 1, 0, "law.go:229", #[⟨44, .guard⟩], some (44, true)⟩
abbrev stn47 : Oper := ⟨some 73, .load 3 (.tmp 72), 3, "law.go:229", #[⟨46, .data⟩, ⟨44, .guard⟩], some (44, true)⟩
abbrev stn48 : Oper := ⟨some 74, .call { callee := .value (.func 52), args := #[.tmp 73], argTypes := #[3] }, 42, "law.go:229", #[⟨47, .data⟩, ⟨44, .chain⟩, ⟨44, .guard⟩], some (44, true)⟩
abbrev stn49 : Oper := ⟨some 75, .call { callee := .value (.func 61), args := #[.tmp 71, .tmp 74], argTypes := #[105, 42] }, 4, "law.go:229", #[⟨45, .data⟩, ⟨48, .data⟩, ⟨48, .chain⟩, ⟨44, .guard⟩], some (44, true)⟩
abbrev stn50 : Oper := ⟨some 76, .unOp Go.UnOp.not 4 (.tmp 75), 4, "law.go:229", #[⟨49, .data⟩, ⟨44, .guard⟩], some (44, true)⟩
abbrev stn51 : Oper := ⟨some 77, .pick (.tmp 70) (.tmp 76) (.const (.bool false)), 4, "law.go:229", #[⟨44, .data⟩, ⟨50, .data⟩], none⟩
abbrev stn52 : Oper := ⟨some 78, .move (.tmp 77), 4, "law.go:229", #[⟨51, .data⟩, ⟨49, .chain⟩], none⟩
abbrev stn53 : Oper := ⟨some 79, .move (.tmp 5), 105, "law.go:229", #[⟨52, .guard⟩], some (52, true)⟩
abbrev stn54 : Oper := ⟨some 80, .load 94 (.tmp 3), 94, "law.go:229", #[⟨52, .guard⟩], some (52, true)⟩
abbrev stn55 : Oper := ⟨some 81, .call { callee := .value (.func 62), args := #[.tmp 79, .tmp 80], argTypes := #[105, 94] }, 4, "law.go:229", #[⟨53, .data⟩, ⟨54, .data⟩, ⟨52, .chain⟩, ⟨52, .guard⟩], some (52, true)⟩
abbrev stn56 : Oper := ⟨some 82, .unOp Go.UnOp.not 4 (.tmp 81), 4, "law.go:229", #[⟨55, .data⟩, ⟨52, .guard⟩], some (52, true)⟩
abbrev stn57 : Oper := ⟨some 83, .pick (.tmp 78) (.tmp 82) (.const (.bool false)), 4, "law.go:229", #[⟨52, .data⟩, ⟨56, .data⟩], none⟩
abbrev stn58 : Oper := ⟨some 84, .move (.tmp 83), 4, "law.go:229", #[⟨57, .data⟩, ⟨55, .chain⟩], none⟩
abbrev stn59 : Oper := ⟨some 85, .move (.tmp 5), 105, "law.go:229", #[⟨58, .guard⟩], some (58, true)⟩
abbrev stn60 : Oper := ⟨some 86, .load 94 (.tmp 3), 94, "law.go:229", #[⟨58, .guard⟩], some (58, true)⟩
abbrev stn61 : Oper := ⟨some 87, .call { callee := .value (.func 63), args := #[.tmp 85, .tmp 86], argTypes := #[105, 94] }, 49, "law.go:229", #[⟨59, .data⟩, ⟨60, .data⟩, ⟨58, .chain⟩, ⟨58, .guard⟩], some (58, true)⟩
abbrev stn62 : Oper := ⟨some 88, .binOp Go.BinOp.eql 49 (.tmp 87) (.const (.int .i64 1)) 49, 4, "law.go:229", #[⟨61, .data⟩, ⟨58, .guard⟩], some (58, true)⟩
abbrev stn63 : Oper := ⟨some 89, .pick (.tmp 84) (.tmp 88) (.const (.bool false)), 4, "law.go:229", #[⟨58, .data⟩, ⟨62, .data⟩], none⟩
abbrev stn64 : Oper := ⟨some 90, .move (.tmp 89), 4, "law.go:229", #[⟨63, .data⟩, ⟨61, .chain⟩], none⟩
abbrev stn65 : Oper := ⟨some 91, .move (.tmp 5), 105, "law.go:229", #[⟨64, .guard⟩], some (64, true)⟩
abbrev stn66 : Oper := ⟨some 92, .fieldAddr 113 (.tmp 2) 3, 0, "law.go:229", #[⟨64, .guard⟩], some (64, true)⟩
abbrev stn67 : Oper := ⟨some 93, .load 3 (.tmp 92), 3, "law.go:229", #[⟨66, .data⟩, ⟨64, .guard⟩], some (64, true)⟩
abbrev stn68 : Oper := ⟨some 94, .call { callee := .value (.func 64), args := #[.tmp 91, .tmp 93], argTypes := #[105, 3] }, 49, "law.go:229", #[⟨65, .data⟩, ⟨67, .data⟩, ⟨64, .chain⟩, ⟨64, .guard⟩], some (64, true)⟩
abbrev stn69 : Oper := ⟨some 95, .binOp Go.BinOp.eql 49 (.tmp 94) (.const (.int .i64 1)) 49, 4, "law.go:229", #[⟨68, .data⟩, ⟨64, .guard⟩], some (64, true)⟩
abbrev stn70 : Oper := ⟨some 96, .pick (.tmp 90) (.tmp 95) (.const (.bool false)), 4, "law.go:229", #[⟨64, .data⟩, ⟨69, .data⟩], none⟩
abbrev stn71 : Oper := ⟨some 97, .move (.tmp 96), 4, "law.go:229", #[⟨70, .data⟩, ⟨68, .chain⟩], none⟩
abbrev stn72 : Oper := ⟨some 98, .move (.tmp 5), 105, "law.go:229", #[⟨71, .guard⟩], some (71, true)⟩
abbrev stn73 : Oper := ⟨some 99, .call { callee := .value (.func 65), args := #[.tmp 98], argTypes := #[105] }, 4, "law.go:229", #[⟨72, .data⟩, ⟨71, .chain⟩, ⟨71, .guard⟩], some (71, true)⟩
abbrev stn74 : Oper := ⟨some 100, .unOp Go.UnOp.not 4 (.tmp 99), 4, "law.go:229", #[⟨73, .data⟩, ⟨71, .guard⟩], some (71, true)⟩
abbrev stn75 : Oper := ⟨some 101, .pick (.tmp 97) (.tmp 100) (.const (.bool false)), 4, "law.go:229", #[⟨71, .data⟩, ⟨74, .data⟩], none⟩
abbrev stn76 : Oper := ⟨some 102, .move (.tmp 101), 4, "law.go:229", #[⟨75, .data⟩, ⟨73, .chain⟩], none⟩
abbrev stn77 : Oper := ⟨some 103, .move (.tmp 5), 105, "law.go:229", #[⟨76, .guard⟩], some (76, true)⟩
abbrev stn78 : Oper := ⟨some 104, .call { callee := .value (.func 66), args := #[.tmp 103], argTypes := #[105] }, 3, "law.go:229", #[⟨77, .data⟩, ⟨76, .chain⟩, ⟨76, .guard⟩], some (76, true)⟩
abbrev stn79 : Oper := ⟨some 105, .binOp Go.BinOp.eql 3 (.tmp 104) (.const (.int .i64 0)) 3, 4, "law.go:229", #[⟨78, .data⟩, ⟨76, .guard⟩], some (76, true)⟩
abbrev stn80 : Oper := ⟨some 106, .pick (.tmp 102) (.tmp 105) (.const (.bool false)), 4, "law.go:229", #[⟨76, .data⟩, ⟨79, .data⟩], none⟩
abbrev stn81 : Oper := ⟨some 107, .move (.tmp 106), 4, "law.go:229", #[⟨80, .data⟩, ⟨78, .chain⟩], none⟩
abbrev stn82 : Oper := ⟨some 108, .move (.tmp 5), 105, "law.go:229", #[⟨81, .guard⟩], some (81, true)⟩
abbrev stn83 : Oper := ⟨some 109, .call { callee := .value (.func 67), args := #[.tmp 108], argTypes := #[105] }, 3, "law.go:229", #[⟨82, .data⟩, ⟨81, .chain⟩, ⟨81, .guard⟩], some (81, true)⟩
abbrev stn84 : Oper := ⟨some 110, .binOp Go.BinOp.eql 3 (.tmp 109) (.const (.int .i64 0)) 3, 4, "law.go:229", #[⟨83, .data⟩, ⟨81, .guard⟩], some (81, true)⟩
abbrev stn85 : Oper := ⟨some 111, .pick (.tmp 107) (.tmp 110) (.const (.bool false)), 4, "law.go:229", #[⟨81, .data⟩, ⟨84, .data⟩], none⟩
abbrev stn86 : Oper := ⟨some 112, .move (.tmp 111), 4, "law.go:229", #[⟨85, .data⟩, ⟨83, .chain⟩], none⟩
abbrev stn87 : Oper := ⟨some 113, .move (.tmp 5), 105, "law.go:229", #[⟨86, .guard⟩], some (86, true)⟩
abbrev stn88 : Oper := ⟨some 114, .call { callee := .value (.func 68), args := #[.tmp 113], argTypes := #[105] }, 26, "law.go:229", #[⟨87, .data⟩, ⟨86, .chain⟩, ⟨86, .guard⟩], some (86, true)⟩
abbrev stn89 : Oper := ⟨some 115, .binOp Go.BinOp.eql 26 (.tmp 114) (.const (.pointer none)) 26, 4, "law.go:229", #[⟨88, .data⟩, ⟨86, .guard⟩], some (86, true)⟩
abbrev stn90 : Oper := ⟨some 116, .pick (.tmp 112) (.tmp 115) (.const (.bool false)), 4, "law.go:229", #[⟨86, .data⟩, ⟨89, .data⟩], none⟩
abbrev stn91 : Oper := ⟨some 4, .assign (.tmp 116), 4, "law.go:229", ([⟨90, .data⟩, ⟨88, .chain⟩, ⟨0, .phase⟩, ⟨1, .phase⟩, ⟨2, .phase⟩, ⟨3, .phase⟩, ⟨4, .phase⟩, ⟨5, .phase⟩, ⟨6, .phase⟩, ⟨7, .phase⟩, ⟨8, .phase⟩, ⟨9, .phase⟩, ⟨10, .phase⟩, ⟨11, .phase⟩, ⟨12, .phase⟩, ⟨13, .phase⟩, ⟨14, .phase⟩, ⟨15, .phase⟩, ⟨16, .phase⟩, ⟨17, .phase⟩, ⟨18, .phase⟩, ⟨19, .phase⟩, ⟨20, .phase⟩, ⟨21, .phase⟩, ⟨22, .phase⟩, ⟨23, .phase⟩, ⟨24, .phase⟩, ⟨25, .phase⟩, ⟨26, .phase⟩, ⟨27, .phase⟩, ⟨28, .phase⟩, ⟨29, .phase⟩, ⟨30, .phase⟩, ⟨31, .phase⟩, ⟨32, .phase⟩, ⟨33, .phase⟩, ⟨34, .phase⟩, ⟨35, .phase⟩, ⟨36, .phase⟩, ⟨37, .phase⟩, ⟨38, .phase⟩, ⟨39, .phase⟩, ⟨40, .phase⟩, ⟨41, .phase⟩, ⟨42, .phase⟩, ⟨43, .phase⟩].append [⟨44, .phase⟩, ⟨45, .phase⟩, ⟨46, .phase⟩, ⟨47, .phase⟩, ⟨48, .phase⟩, ⟨49, .phase⟩, ⟨50, .phase⟩, ⟨51, .phase⟩, ⟨52, .phase⟩, ⟨53, .phase⟩, ⟨54, .phase⟩, ⟨55, .phase⟩, ⟨56, .phase⟩, ⟨57, .phase⟩, ⟨58, .phase⟩, ⟨59, .phase⟩, ⟨60, .phase⟩, ⟨61, .phase⟩, ⟨62, .phase⟩, ⟨63, .phase⟩, ⟨64, .phase⟩, ⟨65, .phase⟩, ⟨66, .phase⟩, ⟨67, .phase⟩, ⟨68, .phase⟩, ⟨69, .phase⟩, ⟨70, .phase⟩, ⟨71, .phase⟩, ⟨72, .phase⟩, ⟨73, .phase⟩, ⟨74, .phase⟩, ⟨75, .phase⟩, ⟨76, .phase⟩, ⟨77, .phase⟩, ⟨78, .phase⟩, ⟨79, .phase⟩, ⟨80, .phase⟩, ⟨81, .phase⟩, ⟨82, .phase⟩, ⟨83, .phase⟩, ⟨84, .phase⟩, ⟨85, .phase⟩, ⟨86, .phase⟩, ⟨87, .phase⟩, ⟨88, .phase⟩, ⟨89, .phase⟩, ⟨90, .phase⟩]).toArray, none⟩
def stnO : Array Oper := #[stn0, stn1, stn2, stn3, stn4, stn5, stn6, stn7, stn8, stn9, stn10, stn11, stn12, stn13, stn14, stn15, stn16, stn17, stn18, stn19, stn20, stn21, stn22, stn23, stn24, stn25, stn26, stn27, stn28, stn29, stn30, stn31, stn32, stn33, stn34, stn35, stn36, stn37, stn38, stn39, stn40, stn41, stn42, stn43, stn44, stn45, stn46, stn47, stn48, stn49, stn50, stn51, stn52, stn53, stn54, stn55, stn56, stn57, stn58, stn59, stn60, stn61, stn62, stn63, stn64, stn65, stn66, stn67, stn68, stn69, stn70, stn71, stn72, stn73, stn74, stn75, stn76, stn77, stn78, stn79, stn80, stn81, stn82, stn83, stn84, stn85, stn86, stn87, stn88, stn89, stn90, stn91]
theorem stS : Region.noSelect stnO = true := by kernel_rfl
theorem stF0 : Region.free .any stnO (Array.replicate stnO.size false) 0 = true := by kernel_rfl
theorem stR0 : (Region.ready .any stnO (Array.replicate stnO.size false)).contains 0 = true := by kernel_rfl
def stl0 : Array Bool := (List.replicate 1 true ++ List.replicate 91 false).toArray
theorem stF1 : Region.free .any stnO stl0 1 = true := by kernel_rfl
theorem stR1 : (Region.ready .any stnO stl0).contains 1 = true := by kernel_rfl
def stl1 : Array Bool := (List.replicate 2 true ++ List.replicate 90 false).toArray
theorem stF2 : Region.free .any stnO stl1 2 = true := by kernel_rfl
theorem stR2 : (Region.ready .any stnO stl1).contains 2 = true := by kernel_rfl
def stl2 : Array Bool := (List.replicate 3 true ++ List.replicate 89 false).toArray
theorem stF3 : Region.free .any stnO stl2 3 = true := by kernel_rfl
theorem stR3 : (Region.ready .any stnO stl2).contains 3 = true := by kernel_rfl
def stl3 : Array Bool := (List.replicate 4 true ++ List.replicate 88 false).toArray
theorem stF4 : Region.free .any stnO stl3 4 = true := by kernel_rfl
theorem stR4 : (Region.ready .any stnO stl3).contains 4 = true := by kernel_rfl
def stl4 : Array Bool := (List.replicate 5 true ++ List.replicate 87 false).toArray
theorem stF5 : Region.free .any stnO stl4 5 = true := by kernel_rfl
theorem stR5 : (Region.ready .any stnO stl4).contains 5 = true := by kernel_rfl
def stl5 : Array Bool := (List.replicate 6 true ++ List.replicate 86 false).toArray
theorem stF6 : Region.free .any stnO stl5 6 = true := by kernel_rfl
theorem stR6 : (Region.ready .any stnO stl5).contains 6 = true := by kernel_rfl
def stl6 : Array Bool := (List.replicate 7 true ++ List.replicate 85 false).toArray
theorem stF7 : Region.free .any stnO stl6 7 = true := by kernel_rfl
theorem stR7 : (Region.ready .any stnO stl6).contains 7 = true := by kernel_rfl
def stl7 : Array Bool := (List.replicate 8 true ++ List.replicate 84 false).toArray
theorem stF8 : Region.free .any stnO stl7 8 = true := by kernel_rfl
theorem stR8 : (Region.ready .any stnO stl7).contains 8 = true := by kernel_rfl
def stl8 : Array Bool := (List.replicate 9 true ++ List.replicate 83 false).toArray
theorem stF9 : Region.free .any stnO stl8 9 = true := by kernel_rfl
theorem stR9 : (Region.ready .any stnO stl8).contains 9 = true := by kernel_rfl
def stl9 : Array Bool := (List.replicate 10 true ++ List.replicate 82 false).toArray
theorem stF10 : Region.free .any stnO stl9 10 = true := by kernel_rfl
theorem stR10 : (Region.ready .any stnO stl9).contains 10 = true := by kernel_rfl
def stl10 : Array Bool := (List.replicate 11 true ++ List.replicate 81 false).toArray
theorem stF11 : Region.free .any stnO stl10 11 = true := by kernel_rfl
theorem stR11 : (Region.ready .any stnO stl10).contains 11 = true := by kernel_rfl
def stl11 : Array Bool := (List.replicate 12 true ++ List.replicate 80 false).toArray
theorem stF12 : Region.free .any stnO stl11 12 = true := by kernel_rfl
theorem stR12 : (Region.ready .any stnO stl11).contains 12 = true := by kernel_rfl
def stl12 : Array Bool := (List.replicate 13 true ++ List.replicate 79 false).toArray
theorem stE13 : Region.ready .any stnO stl12 = [13] := by kernel_rfl
def stl13 : Array Bool := (List.replicate 14 true ++ List.replicate 78 false).toArray
theorem stF14 : Region.free .any stnO stl13 14 = true := by kernel_rfl
theorem stR14 : (Region.ready .any stnO stl13).contains 14 = true := by kernel_rfl
def stl14 : Array Bool := (List.replicate 15 true ++ List.replicate 77 false).toArray
theorem stF15 : Region.free .any stnO stl14 15 = true := by kernel_rfl
theorem stR15 : (Region.ready .any stnO stl14).contains 15 = true := by kernel_rfl
def stl15 : Array Bool := (List.replicate 16 true ++ List.replicate 76 false).toArray
theorem stF16 : Region.free .any stnO stl15 16 = true := by kernel_rfl
theorem stR16 : (Region.ready .any stnO stl15).contains 16 = true := by kernel_rfl
def stl16 : Array Bool := (List.replicate 17 true ++ List.replicate 75 false).toArray
theorem stF17 : Region.free .any stnO stl16 17 = true := by kernel_rfl
theorem stR17 : (Region.ready .any stnO stl16).contains 17 = true := by kernel_rfl
def stl17 : Array Bool := (List.replicate 18 true ++ List.replicate 74 false).toArray
theorem stE18 : Region.ready .any stnO stl17 = [18] := by kernel_rfl
def stl18 : Array Bool := (List.replicate 19 true ++ List.replicate 73 false).toArray
theorem stE19 : Region.ready .any stnO stl18 = [19] := by kernel_rfl
def stl19 : Array Bool := (List.replicate 20 true ++ List.replicate 72 false).toArray
theorem stF20 : Region.free .any stnO stl19 20 = true := by kernel_rfl
theorem stR20 : (Region.ready .any stnO stl19).contains 20 = true := by kernel_rfl
def stl20 : Array Bool := (List.replicate 21 true ++ List.replicate 71 false).toArray
theorem stF21 : Region.free .any stnO stl20 21 = true := by kernel_rfl
theorem stR21 : (Region.ready .any stnO stl20).contains 21 = true := by kernel_rfl
def stl21 : Array Bool := (List.replicate 22 true ++ List.replicate 70 false).toArray
theorem stF22 : Region.free .any stnO stl21 22 = true := by kernel_rfl
theorem stR22 : (Region.ready .any stnO stl21).contains 22 = true := by kernel_rfl
def stl22 : Array Bool := (List.replicate 23 true ++ List.replicate 69 false).toArray
theorem stF23 : Region.free .any stnO stl22 23 = true := by kernel_rfl
theorem stR23 : (Region.ready .any stnO stl22).contains 23 = true := by kernel_rfl
def stl23 : Array Bool := (List.replicate 24 true ++ List.replicate 68 false).toArray
theorem stF24 : Region.free .any stnO stl23 24 = true := by kernel_rfl
theorem stR24 : (Region.ready .any stnO stl23).contains 24 = true := by kernel_rfl
def stl24 : Array Bool := (List.replicate 25 true ++ List.replicate 67 false).toArray
theorem stF27 : Region.free .any stnO stl24 27 = true := by kernel_rfl
theorem stR27 : (Region.ready .any stnO stl24).contains 27 = true := by kernel_rfl
def stl27 : Array Bool := (List.replicate 25 true ++ List.replicate 2 false ++ List.replicate 1 true ++ List.replicate 64 false).toArray
theorem stF25 : Region.free .any stnO stl27 25 = true := by kernel_rfl
theorem stR25 : (Region.ready .any stnO stl27).contains 25 = true := by kernel_rfl
def stl25 : Array Bool := (List.replicate 26 true ++ List.replicate 1 false ++ List.replicate 1 true ++ List.replicate 64 false).toArray
theorem stF28 : Region.free .any stnO stl25 28 = true := by kernel_rfl
theorem stR28 : (Region.ready .any stnO stl25).contains 28 = true := by kernel_rfl
def stl28 : Array Bool := (List.replicate 26 true ++ List.replicate 1 false ++ List.replicate 2 true ++ List.replicate 63 false).toArray
theorem stE26 : Region.ready .any stnO stl28 = [26] := by kernel_rfl
def stl26 : Array Bool := (List.replicate 29 true ++ List.replicate 63 false).toArray
theorem stE29 : Region.ready .any stnO stl26 = [29] := by kernel_rfl
def stl29 : Array Bool := (List.replicate 30 true ++ List.replicate 62 false).toArray
theorem stF30 : Region.free .any stnO stl29 30 = true := by kernel_rfl
theorem stR30 : (Region.ready .any stnO stl29).contains 30 = true := by kernel_rfl
def stl30 : Array Bool := (List.replicate 31 true ++ List.replicate 61 false).toArray
theorem stF31 : Region.free .any stnO stl30 31 = true := by kernel_rfl
theorem stR31 : (Region.ready .any stnO stl30).contains 31 = true := by kernel_rfl
def stl31 : Array Bool := (List.replicate 32 true ++ List.replicate 60 false).toArray
theorem stF32 : Region.free .any stnO stl31 32 = true := by kernel_rfl
theorem stR32 : (Region.ready .any stnO stl31).contains 32 = true := by kernel_rfl
def stl32 : Array Bool := (List.replicate 33 true ++ List.replicate 59 false).toArray
theorem stF33 : Region.free .any stnO stl32 33 = true := by kernel_rfl
theorem stR33 : (Region.ready .any stnO stl32).contains 33 = true := by kernel_rfl
def stl33 : Array Bool := (List.replicate 34 true ++ List.replicate 58 false).toArray
theorem stF34 : Region.free .any stnO stl33 34 = true := by kernel_rfl
theorem stR34 : (Region.ready .any stnO stl33).contains 34 = true := by kernel_rfl
def stl34 : Array Bool := (List.replicate 35 true ++ List.replicate 57 false).toArray
theorem stF35 : Region.free .any stnO stl34 35 = true := by kernel_rfl
theorem stR35 : (Region.ready .any stnO stl34).contains 35 = true := by kernel_rfl
def stl35 : Array Bool := (List.replicate 36 true ++ List.replicate 56 false).toArray
theorem stE36 : Region.ready .any stnO stl35 = [36] := by kernel_rfl
def stl36 : Array Bool := (List.replicate 37 true ++ List.replicate 55 false).toArray
theorem stF37 : Region.free .any stnO stl36 37 = true := by kernel_rfl
theorem stR37 : (Region.ready .any stnO stl36).contains 37 = true := by kernel_rfl
def stl37 : Array Bool := (List.replicate 38 true ++ List.replicate 54 false).toArray
theorem stF38 : Region.free .any stnO stl37 38 = true := by kernel_rfl
theorem stR38 : (Region.ready .any stnO stl37).contains 38 = true := by kernel_rfl
def stl38 : Array Bool := (List.replicate 39 true ++ List.replicate 53 false).toArray
theorem stF39 : Region.free .any stnO stl38 39 = true := by kernel_rfl
theorem stR39 : (Region.ready .any stnO stl38).contains 39 = true := by kernel_rfl
def stl39 : Array Bool := (List.replicate 40 true ++ List.replicate 52 false).toArray
theorem stF40 : Region.free .any stnO stl39 40 = true := by kernel_rfl
theorem stR40 : (Region.ready .any stnO stl39).contains 40 = true := by kernel_rfl
def stl40 : Array Bool := (List.replicate 41 true ++ List.replicate 51 false).toArray
theorem stE41 : Region.ready .any stnO stl40 = [41] := by kernel_rfl
def stl41 : Array Bool := (List.replicate 42 true ++ List.replicate 50 false).toArray
theorem stF42 : Region.free .any stnO stl41 42 = true := by kernel_rfl
theorem stR42 : (Region.ready .any stnO stl41).contains 42 = true := by kernel_rfl
def stl42 : Array Bool := (List.replicate 43 true ++ List.replicate 49 false).toArray
theorem stF43 : Region.free .any stnO stl42 43 = true := by kernel_rfl
theorem stR43 : (Region.ready .any stnO stl42).contains 43 = true := by kernel_rfl
def stl43 : Array Bool := (List.replicate 44 true ++ List.replicate 48 false).toArray
theorem stF44 : Region.free .any stnO stl43 44 = true := by kernel_rfl
theorem stR44 : (Region.ready .any stnO stl43).contains 44 = true := by kernel_rfl
def stl44 : Array Bool := (List.replicate 45 true ++ List.replicate 47 false).toArray
theorem stF45 : Region.free .any stnO stl44 45 = true := by kernel_rfl
theorem stR45 : (Region.ready .any stnO stl44).contains 45 = true := by kernel_rfl
def stl45 : Array Bool := (List.replicate 46 true ++ List.replicate 46 false).toArray
theorem stF46 : Region.free .any stnO stl45 46 = true := by kernel_rfl
theorem stR46 : (Region.ready .any stnO stl45).contains 46 = true := by kernel_rfl
def stl46 : Array Bool := (List.replicate 47 true ++ List.replicate 45 false).toArray
theorem stF47 : Region.free .any stnO stl46 47 = true := by kernel_rfl
theorem stR47 : (Region.ready .any stnO stl46).contains 47 = true := by kernel_rfl
def stl47 : Array Bool := (List.replicate 48 true ++ List.replicate 44 false).toArray
theorem stE48 : Region.ready .any stnO stl47 = [48] := by kernel_rfl
def stl48 : Array Bool := (List.replicate 49 true ++ List.replicate 43 false).toArray
theorem stE49 : Region.ready .any stnO stl48 = [49] := by kernel_rfl
def stl49 : Array Bool := (List.replicate 50 true ++ List.replicate 42 false).toArray
theorem stF50 : Region.free .any stnO stl49 50 = true := by kernel_rfl
theorem stR50 : (Region.ready .any stnO stl49).contains 50 = true := by kernel_rfl
def stl50 : Array Bool := (List.replicate 51 true ++ List.replicate 41 false).toArray
theorem stF51 : Region.free .any stnO stl50 51 = true := by kernel_rfl
theorem stR51 : (Region.ready .any stnO stl50).contains 51 = true := by kernel_rfl
def stl51 : Array Bool := (List.replicate 52 true ++ List.replicate 40 false).toArray
theorem stF52 : Region.free .any stnO stl51 52 = true := by kernel_rfl
theorem stR52 : (Region.ready .any stnO stl51).contains 52 = true := by kernel_rfl
def stl52 : Array Bool := (List.replicate 53 true ++ List.replicate 39 false).toArray
theorem stF53 : Region.free .any stnO stl52 53 = true := by kernel_rfl
theorem stR53 : (Region.ready .any stnO stl52).contains 53 = true := by kernel_rfl
def stl53 : Array Bool := (List.replicate 54 true ++ List.replicate 38 false).toArray
theorem stF54 : Region.free .any stnO stl53 54 = true := by kernel_rfl
theorem stR54 : (Region.ready .any stnO stl53).contains 54 = true := by kernel_rfl
def stl54 : Array Bool := (List.replicate 55 true ++ List.replicate 37 false).toArray
theorem stE55 : Region.ready .any stnO stl54 = [55] := by kernel_rfl
def stl55 : Array Bool := (List.replicate 56 true ++ List.replicate 36 false).toArray
theorem stF56 : Region.free .any stnO stl55 56 = true := by kernel_rfl
theorem stR56 : (Region.ready .any stnO stl55).contains 56 = true := by kernel_rfl
def stl56 : Array Bool := (List.replicate 57 true ++ List.replicate 35 false).toArray
theorem stF57 : Region.free .any stnO stl56 57 = true := by kernel_rfl
theorem stR57 : (Region.ready .any stnO stl56).contains 57 = true := by kernel_rfl
def stl57 : Array Bool := (List.replicate 58 true ++ List.replicate 34 false).toArray
theorem stF58 : Region.free .any stnO stl57 58 = true := by kernel_rfl
theorem stR58 : (Region.ready .any stnO stl57).contains 58 = true := by kernel_rfl
def stl58 : Array Bool := (List.replicate 59 true ++ List.replicate 33 false).toArray
theorem stF59 : Region.free .any stnO stl58 59 = true := by kernel_rfl
theorem stR59 : (Region.ready .any stnO stl58).contains 59 = true := by kernel_rfl
def stl59 : Array Bool := (List.replicate 60 true ++ List.replicate 32 false).toArray
theorem stF60 : Region.free .any stnO stl59 60 = true := by kernel_rfl
theorem stR60 : (Region.ready .any stnO stl59).contains 60 = true := by kernel_rfl
def stl60 : Array Bool := (List.replicate 61 true ++ List.replicate 31 false).toArray
theorem stE61 : Region.ready .any stnO stl60 = [61] := by kernel_rfl
def stl61 : Array Bool := (List.replicate 62 true ++ List.replicate 30 false).toArray
theorem stF62 : Region.free .any stnO stl61 62 = true := by kernel_rfl
theorem stR62 : (Region.ready .any stnO stl61).contains 62 = true := by kernel_rfl
def stl62 : Array Bool := (List.replicate 63 true ++ List.replicate 29 false).toArray
theorem stF63 : Region.free .any stnO stl62 63 = true := by kernel_rfl
theorem stR63 : (Region.ready .any stnO stl62).contains 63 = true := by kernel_rfl
def stl63 : Array Bool := (List.replicate 64 true ++ List.replicate 28 false).toArray
theorem stF64 : Region.free .any stnO stl63 64 = true := by kernel_rfl
theorem stR64 : (Region.ready .any stnO stl63).contains 64 = true := by kernel_rfl
def stl64 : Array Bool := (List.replicate 65 true ++ List.replicate 27 false).toArray
theorem stF65 : Region.free .any stnO stl64 65 = true := by kernel_rfl
theorem stR65 : (Region.ready .any stnO stl64).contains 65 = true := by kernel_rfl
def stl65 : Array Bool := (List.replicate 66 true ++ List.replicate 26 false).toArray
theorem stF66 : Region.free .any stnO stl65 66 = true := by kernel_rfl
theorem stR66 : (Region.ready .any stnO stl65).contains 66 = true := by kernel_rfl
def stl66 : Array Bool := (List.replicate 67 true ++ List.replicate 25 false).toArray
theorem stF67 : Region.free .any stnO stl66 67 = true := by kernel_rfl
theorem stR67 : (Region.ready .any stnO stl66).contains 67 = true := by kernel_rfl
def stl67 : Array Bool := (List.replicate 68 true ++ List.replicate 24 false).toArray
theorem stE68 : Region.ready .any stnO stl67 = [68] := by kernel_rfl
def stl68 : Array Bool := (List.replicate 69 true ++ List.replicate 23 false).toArray
theorem stF69 : Region.free .any stnO stl68 69 = true := by kernel_rfl
theorem stR69 : (Region.ready .any stnO stl68).contains 69 = true := by kernel_rfl
def stl69 : Array Bool := (List.replicate 70 true ++ List.replicate 22 false).toArray
theorem stF70 : Region.free .any stnO stl69 70 = true := by kernel_rfl
theorem stR70 : (Region.ready .any stnO stl69).contains 70 = true := by kernel_rfl
def stl70 : Array Bool := (List.replicate 71 true ++ List.replicate 21 false).toArray
theorem stF71 : Region.free .any stnO stl70 71 = true := by kernel_rfl
theorem stR71 : (Region.ready .any stnO stl70).contains 71 = true := by kernel_rfl
def stl71 : Array Bool := (List.replicate 72 true ++ List.replicate 20 false).toArray
theorem stF72 : Region.free .any stnO stl71 72 = true := by kernel_rfl
theorem stR72 : (Region.ready .any stnO stl71).contains 72 = true := by kernel_rfl
def stl72 : Array Bool := (List.replicate 73 true ++ List.replicate 19 false).toArray
theorem stE73 : Region.ready .any stnO stl72 = [73] := by kernel_rfl
def stl73 : Array Bool := (List.replicate 74 true ++ List.replicate 18 false).toArray
theorem stF74 : Region.free .any stnO stl73 74 = true := by kernel_rfl
theorem stR74 : (Region.ready .any stnO stl73).contains 74 = true := by kernel_rfl
def stl74 : Array Bool := (List.replicate 75 true ++ List.replicate 17 false).toArray
theorem stF75 : Region.free .any stnO stl74 75 = true := by kernel_rfl
theorem stR75 : (Region.ready .any stnO stl74).contains 75 = true := by kernel_rfl
def stl75 : Array Bool := (List.replicate 76 true ++ List.replicate 16 false).toArray
theorem stF76 : Region.free .any stnO stl75 76 = true := by kernel_rfl
theorem stR76 : (Region.ready .any stnO stl75).contains 76 = true := by kernel_rfl
def stl76 : Array Bool := (List.replicate 77 true ++ List.replicate 15 false).toArray
theorem stF77 : Region.free .any stnO stl76 77 = true := by kernel_rfl
theorem stR77 : (Region.ready .any stnO stl76).contains 77 = true := by kernel_rfl
def stl77 : Array Bool := (List.replicate 78 true ++ List.replicate 14 false).toArray
theorem stE78 : Region.ready .any stnO stl77 = [78] := by kernel_rfl
def stl78 : Array Bool := (List.replicate 79 true ++ List.replicate 13 false).toArray
theorem stF79 : Region.free .any stnO stl78 79 = true := by kernel_rfl
theorem stR79 : (Region.ready .any stnO stl78).contains 79 = true := by kernel_rfl
def stl79 : Array Bool := (List.replicate 80 true ++ List.replicate 12 false).toArray
theorem stF80 : Region.free .any stnO stl79 80 = true := by kernel_rfl
theorem stR80 : (Region.ready .any stnO stl79).contains 80 = true := by kernel_rfl
def stl80 : Array Bool := (List.replicate 81 true ++ List.replicate 11 false).toArray
theorem stF81 : Region.free .any stnO stl80 81 = true := by kernel_rfl
theorem stR81 : (Region.ready .any stnO stl80).contains 81 = true := by kernel_rfl
def stl81 : Array Bool := (List.replicate 82 true ++ List.replicate 10 false).toArray
theorem stF82 : Region.free .any stnO stl81 82 = true := by kernel_rfl
theorem stR82 : (Region.ready .any stnO stl81).contains 82 = true := by kernel_rfl
def stl82 : Array Bool := (List.replicate 83 true ++ List.replicate 9 false).toArray
theorem stE83 : Region.ready .any stnO stl82 = [83] := by kernel_rfl
def stl83 : Array Bool := (List.replicate 84 true ++ List.replicate 8 false).toArray
theorem stF84 : Region.free .any stnO stl83 84 = true := by kernel_rfl
theorem stR84 : (Region.ready .any stnO stl83).contains 84 = true := by kernel_rfl
def stl84 : Array Bool := (List.replicate 85 true ++ List.replicate 7 false).toArray
theorem stF85 : Region.free .any stnO stl84 85 = true := by kernel_rfl
theorem stR85 : (Region.ready .any stnO stl84).contains 85 = true := by kernel_rfl
def stl85 : Array Bool := (List.replicate 86 true ++ List.replicate 6 false).toArray
theorem stF86 : Region.free .any stnO stl85 86 = true := by kernel_rfl
theorem stR86 : (Region.ready .any stnO stl85).contains 86 = true := by kernel_rfl
def stl86 : Array Bool := (List.replicate 87 true ++ List.replicate 5 false).toArray
theorem stF87 : Region.free .any stnO stl86 87 = true := by kernel_rfl
theorem stR87 : (Region.ready .any stnO stl86).contains 87 = true := by kernel_rfl
def stl87 : Array Bool := (List.replicate 88 true ++ List.replicate 4 false).toArray
theorem stE88 : Region.ready .any stnO stl87 = [88] := by kernel_rfl
def stl88 : Array Bool := (List.replicate 89 true ++ List.replicate 3 false).toArray
theorem stF89 : Region.free .any stnO stl88 89 = true := by kernel_rfl
theorem stR89 : (Region.ready .any stnO stl88).contains 89 = true := by kernel_rfl
def stl89 : Array Bool := (List.replicate 90 true ++ List.replicate 2 false).toArray
theorem stF90 : Region.free .any stnO stl89 90 = true := by kernel_rfl
theorem stR90 : (Region.ready .any stnO stl89).contains 90 = true := by kernel_rfl
def stl90 : Array Bool := (List.replicate 91 true ++ List.replicate 1 false).toArray
theorem stF91 : Region.free .any stnO stl90 91 = true := by kernel_rfl
theorem stR91 : (Region.ready .any stnO stl90).contains 91 = true := by kernel_rfl
def stl91 : Array Bool := (List.replicate 92 true).toArray
end
end Go.Proofs.YthmimemenegokaaGreat
