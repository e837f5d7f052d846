/- Texts of StoreNone, packed. -/
import Derived.Test.YthmimemenegokaaGreatPackStoreNone14
import Derived.OwnWalk
import Derived.Great.BuildSlice
import Derived.Laws.CopyRow
import Derived.Laws.CopyOwn
import Derived.Lib.Hide
set_option linter.unusedVariables false
set_option linter.unusedSimpArgs false
set_option maxRecDepth 100000
set_option maxHeartbeats 16000000
namespace Go.Proofs.YthmimemenegokaaGreat
section
open Go.RowKit
attribute [local go_sem] Oper.semAt_some
theorem region_named14 {P : Program} {id : Nat} {ops ops' : Array Oper} {b : Bool} {Q : Exit → Act → World → Prop} {a : Act} {w : World} (h : ops = ops') (g : (Code.region id ops' b).wp P Q a w) : (Code.region id ops b).wp P Q a w := h ▸ g
theorem at14 {P : Program} {ops : Array Oper} {Q : Exit → Act → World → Prop} {md : Region.Mode} {S : World → Prop} {st : List Nat} {k : Nat} {l l' : Array Bool} {a : Act} {w : World} (h : l = l') (g : Tillst P md ops Q S st k l' a w) : Tillst P md ops Q S st k l a w := h ▸ g
theorem blk_range14 {w : World} {g : Nat} {t : TypeId} {cs : List Value} (h : Blk w g t cs.toArray) : w.rangeAt g 0 cs := fun j v hv => by
  rw [Nat.zero_add, h.cell]
  simpa using hv
theorem size_op14 : (Tryz.prog.info? 113).map (·.size) = some 6 := by kernel_rfl
theorem size_pl14 : (Tryz.prog.info? 94).map (·.size) = some 9 := by kernel_rfl
theorem store_none14 (kd ky sz at' q x : Int) (c0 c1 c2 c3 c4 c5 c6 c7 c8 : Value) (hc : #[c0, c1, c2, c3, c4, c5, c6, c7, c8].all (·.oneCell') = true) (w : World) :
    Calls Tryz.prog 8 #[.agg #[.int .i64 kd, .int .i64 ky, .int .i64 sz, .int .i64 at', .int .u64 q, .int .u32 x], .agg #[c0, c1, c2, c3, c4, c5, c6, c7, c8]] w fun e w' => e = .returned (.bool true) ∧ Below w.heap.size w w' := by
  obtain ⟨w1, hw1⟩ : ∃ w1, w1 = (w.alloc (.cells #[.int .i64 kd, .int .i64 ky, .int .i64 sz, .int .i64 at', .int .u64 q, .int .u32 x] 113)).alloc (.cells #[c0, c1, c2, c3, c4, c5, c6, c7, c8] 94) := ⟨_, rfl⟩
  have hb1 : Below w.heap.size w w1 := by rw [hw1]; exact ((Below.refl _ w).alloc (Nat.le_refl _) _).alloc (by simp) _
  have HO1 := hI (show Blk w1 w.heap.size 113 #[.int .i64 kd, .int .i64 ky, .int .i64 sz, .int .i64 at', .int .u64 q, .int .u32 x] by rw [hw1]; exact (Blk.new w _ _).alloc _)
  have HP1 := hI (show Blk w1 (w.heap.size + 1) 94 #[c0, c1, c2, c3, c4, c5, c6, c7, c8] by rw [hw1]; exact blk_new2 w _ _ _)
  have HC := hI hc
  have HB1 := hI hb1
  have HW1 := hI hw1
  clear hb1 hw1 hc
  go_enter Tryz.func8, Tryz.ntmps8
  go_upto_region 1 with fail
  rw [← HW1.out]
  go_wp2_with fail
  refine (wakes14 w1).mono ?_
  rintro e w2 ⟨rfl, hb2⟩
  have HO2 := hI (HO1.out.below hb2 HO1.out.lt)
  have HP2 := hI (HP1.out.below hb2 HP1.out.lt)
  have HB2 := hI (HB1.out.trans (hb2.mono HB1.out.size))
  clear hb2
  have i1 : w2.cell? ⟨w.heap.size, 1, none⟩ = some (.int .i64 ky) := HO2.out.cell 1
  have i2 : w2.cell? ⟨w.heap.size, 2, none⟩ = some (.int .i64 sz) := HO2.out.cell 2
  go_wp2_with fail
  refine (new_nil14 sz _ w2).mono ?_
  rintro e w3 ⟨rfl, rfl⟩
  go_wp2_with fail
  refine (key_any ky w3).mono ?_
  rintro e w4 ⟨g4, rfl, hg4, hr4, hb4⟩
  clear i1 i2
  go_wp2_with fail
  refine (get_nil14 _ 0 w4).mono ?_
  rintro e w5 ⟨rfl, hb5⟩
  have HB5 := hI (hb4.trans (hb5.mono hb4.size))
  clear hg4 hr4 hb4 hb5
  obtain ⟨w6, hw6⟩ : ∃ w6, w6 = (w5.alloc (.cells itm0C 117)).setRow w5.heap.size itm0C := ⟨_, rfl⟩
  have hb6 : Below w3.heap.size w3 w6 := by rw [hw6]; exact below_setRow (HB5.out.alloc HB5.out.size _) HB5.out.size _
  have HI6 := hI (show Blk w6 w5.heap.size 117 itm0C by rw [hw6]; exact setRow_heap _ _ _ _ _ _ (Blk.new w5 _ _))
  have HO6 := hI (HO2.out.below hb6 HO2.out.lt)
  have HP6 := hI (HP2.out.below hb6 HP2.out.lt)
  have HB6 := hI (HB2.out.trans (hb6.mono HB2.out.size))
  have HW6 := hI hw6
  have HCC := hI (show ∀ W, Below w6.heap.size w6 W → W.cell? ⟨w.heap.size, 1, none⟩ = some (.int .i64 ky) ∧ W.cell? ⟨w.heap.size, 3, none⟩ = some (.int .i64 at') ∧ W.cell? ⟨w.heap.size, 4, none⟩ = some (.int .u64 q) from fun W hW => by
    have h9 := HO6.out.below hW HO6.out.lt
    exact ⟨h9.cell 1, h9.cell 3, h9.cell 4⟩)
  clear hb6 hw6
  have HPC := hI (show ∀ W, Below w6.heap.size w6 W → W.cell? ⟨w.heap.size + 1, 0, none⟩ = some c0 ∧ W.cell? ⟨w.heap.size + 1, 1, none⟩ = some c1 ∧ W.cell? ⟨w.heap.size + 1, 2, none⟩ = some c2 ∧ W.cell? ⟨w.heap.size + 1, 3, none⟩ = some c3 ∧ W.cell? ⟨w.heap.size + 1, 4, none⟩ = some c4 ∧ W.cell? ⟨w.heap.size + 1, 5, none⟩ = some c5 ∧ W.cell? ⟨w.heap.size + 1, 6, none⟩ = some c6 ∧ W.cell? ⟨w.heap.size + 1, 7, none⟩ = some c7 ∧ W.cell? ⟨w.heap.size + 1, 8, none⟩ = some c8 from fun W hW => by
    have h9 := HP6.out.below hW HP6.out.lt
    exact ⟨h9.cell 0, h9.cell 1, h9.cell 2, h9.cell 3, h9.cell 4, h9.cell 5, h9.cell 6, h9.cell 7, h9.cell 8⟩)
  go_upto_region 6 with (refine wpList_store_rowB (.tmp 8) (.tmp 24) 117 rfl rfl w5.heap.size itm0C rfl rfl 117 _ (Blk.new w5 _ _) size_itm rfl one_itm0 ?_)
  rw [← HW6.out]
  refine region_named14 (ops' := stnO) (by kernel_rfl) ?_
  refine Tillst.region (fun W => Below w6.heap.size w6 W) [] (by kernel_rfl) ((Below.refl _ _).drew) (fun hHeld => ?_)
  generalize w6.drew = vd at *
  refine Tillst.take (i := 0) (oi := stn0) (v := ?_) rfl stS stF0 stR0 (by kernel_rfl) (fun _ _ _ h => h) (by rfl) ?_ hHeld ?_
  rotate_left
  · intro W hSW; (try dsimp only at hSW); unfold stn0; go_simp; with_reducible rfl
  simp only [stn0, Act.put, sA, sZ, sS]
  refine at14 (l' := stl0) (by kernel_rfl) ?_
  refine Tillst.take (i := 1) (oi := stn1) (v := .bool true) rfl stS stF1 stR1 (by kernel_rfl) (fun _ _ _ h => h) (by rfl) ?_ hHeld ?_
  · intro W hSW; clear hSW; unfold stn1; go_simp
  simp only [stn1, Act.put, sA, sZ, sS]
  refine at14 (l' := stl1) (by kernel_rfl) ?_
  refine Tillst.take (i := 2) (oi := stn2) (v := ?_) rfl stS stF2 stR2 (by kernel_rfl) (fun _ _ _ h => h) (by rfl) ?_ hHeld ?_
  rotate_left
  · intro W hSW; (try dsimp only at hSW); unfold stn2; go_simp; with_reducible rfl
  simp only [stn2, Act.put, sA, sZ, sS]
  refine at14 (l' := stl2) (by kernel_rfl) ?_
  refine Tillst.take (i := 3) (oi := stn3) (v := ?_) rfl stS stF3 stR3 (by kernel_rfl) (fun _ _ _ h => h) (by rfl) ?_ hHeld ?_
  rotate_left
  · intro W hSW; (try dsimp only at hSW); unfold stn3; go_simp; with_reducible rfl
  simp only [stn3, Act.put, sA, sZ, sS]
  refine at14 (l' := stl3) (by kernel_rfl) ?_
  refine Tillst.take (i := 4) (oi := stn4) (v := .bool true) rfl stS stF4 stR4 (by kernel_rfl) (fun _ _ _ h => h) (by rfl) ?_ hHeld ?_
  · intro W hSW; clear hSW; unfold stn4; go_simp
  simp only [stn4, Act.put, sA, sZ, sS]
  refine at14 (l' := stl4) (by kernel_rfl) ?_
  refine Tillst.take (i := 5) (oi := stn5) (v := .bool true) rfl stS stF5 stR5 (by kernel_rfl) (fun _ _ _ h => h) (by rfl) ?_ hHeld ?_
  · intro W hSW; clear hSW; unfold stn5; go_simp
  simp only [stn5, Act.put, sA, sZ, sS]
  refine at14 (l' := stl5) (by kernel_rfl) ?_
  refine Tillst.take (i := 6) (oi := stn6) (v := ?_) rfl stS stF6 stR6 (by kernel_rfl) (fun _ _ _ h => h) (by rfl) ?_ hHeld ?_
  rotate_left
  · intro W hSW; (try dsimp only at hSW); unfold stn6; go_simp; with_reducible rfl
  simp only [stn6, Act.put, sA, sZ, sS]
  refine at14 (l' := stl6) (by kernel_rfl) ?_
  refine Tillst.take (i := 7) (oi := stn7) (v := ?_) rfl stS stF7 stR7 (by kernel_rfl) (fun _ _ _ h => h) (by rfl) ?_ hHeld ?_
  rotate_left
  · intro W hSW; (try dsimp only at hSW); unfold stn7; go_simp; with_reducible rfl
  simp only [stn7, Act.put, sA, sZ, sS]
  refine at14 (l' := stl7) (by kernel_rfl) ?_
  refine Tillst.take (i := 8) (oi := stn8) (v := .bool true) rfl stS stF8 stR8 (by kernel_rfl) (fun _ _ _ h => h) (by rfl) ?_ hHeld ?_
  · intro W hSW; clear hSW; unfold stn8; go_simp
  simp only [stn8, Act.put, sA, sZ, sS]
  refine at14 (l' := stl8) (by kernel_rfl) ?_
  refine Tillst.take (i := 9) (oi := stn9) (v := .bool true) rfl stS stF9 stR9 (by kernel_rfl) (fun _ _ _ h => h) (by rfl) ?_ hHeld ?_
  · intro W hSW; clear hSW; unfold stn9; go_simp
  simp only [stn9, Act.put, sA, sZ, sS]
  refine at14 (l' := stl9) (by kernel_rfl) ?_
  refine Tillst.take (i := 10) (oi := stn10) (v := ?_) rfl stS stF10 stR10 (by kernel_rfl) (fun _ _ _ h => h) (by rfl) ?_ hHeld ?_
  rotate_left
  · intro W hSW; (try dsimp only at hSW); unfold stn10; go_simp; with_reducible rfl
  simp only [stn10, Act.put, sA, sZ, sS]
  refine at14 (l' := stl10) (by kernel_rfl) ?_
  refine Tillst.take (i := 11) (oi := stn11) (v := .agg itm0C) rfl stS stF11 stR11 (by kernel_rfl) (fun _ _ _ h => h) (by rfl) ?_ hHeld ?_
  · intro W hSW; refine exec_load_row (.tmp 8) 117 ?_ (w5.heap.size) 0 ?_ [.slice none 0 0, .slice none 0 0, .int .u32 0, .int .u32 0, .int .u64 0, .bool false] _ Tryz.underlying117 rfl size_itm (blk_range14 (HI6.out.below hSW HI6.out.lt)) <;> rfl
  simp only [stn11, Act.put, sA, sZ, sS]
  refine at14 (l' := stl11) (by kernel_rfl) ?_
  refine Tillst.take (i := 12) (oi := stn12) (v := .agg itm0C) rfl stS stF12 stR12 (by kernel_rfl) (fun _ _ _ h => h) (by rfl) ?_ hHeld ?_
  · intro W hSW; clear hSW; unfold stn12; go_simp
  simp only [stn12, Act.put, sA, sZ, sS]
  refine at14 (l' := stl12) (by kernel_rfl) ?_
  refine Tillst.one (i := 13) (o := stn13) stE13 rfl ?_
  intro K hK
  refine step_call 54 #[.tmp 37, .tmp 38] #[117, 117] rfl rfl Tryz.func54 rfl rfl [.agg itm0C, .agg itm0C] rfl ((same_zero14 vd).mono ?_)
  rintro e u1 ⟨rfl, hb9⟩
  refine ⟨_, rfl, ?_⟩
  simp only [stn13, Act.put, sA, sZ, sS]
  have hH9 := hHeld.trans (hb9.mono hHeld.size)
  refine hK.out _ _ (fun _ => hH9) (fun hHeld => ?_)
  replace hHeld := hHeld (by decide)
  clear hK K hH9 hb9
  refine at14 (l' := stl13) (by kernel_rfl) ?_
  refine Tillst.take (i := 14) (oi := stn14) (v := .bool true) rfl stS stF14 stR14 (by kernel_rfl) (fun _ _ _ h => h) (by rfl) ?_ hHeld ?_
  · intro W hSW; clear hSW; unfold stn14; go_simp
  simp only [stn14, Act.put, sA, sZ, sS]
  refine at14 (l' := stl14) (by kernel_rfl) ?_
  refine Tillst.take (i := 15) (oi := stn15) (v := ?_) rfl stS stF15 stR15 (by kernel_rfl) (fun _ _ _ h => h) (by rfl) ?_ hHeld ?_
  rotate_left
  · intro W hSW; (try dsimp only at hSW); unfold stn15; go_simp; with_reducible rfl
  simp only [stn15, Act.put, sA, sZ, sS]
  refine at14 (l' := stl15) (by kernel_rfl) ?_
  refine Tillst.take (i := 16) (oi := stn16) (v := ?_) rfl stS stF16 stR16 (by kernel_rfl) (fun _ _ _ h => h) (by rfl) ?_ hHeld ?_
  rotate_left
  · intro W hSW; (try dsimp only at hSW); unfold stn16; go_simp; with_reducible rfl
  simp only [stn16, Act.put, sA, sZ, sS]
  refine at14 (l' := stl16) (by kernel_rfl) ?_
  refine Tillst.take (i := 17) (oi := stn17) (v := .agg #[.int .i64 kd, .int .i64 ky, .int .i64 sz, .int .i64 at', .int .u64 q, .int .u32 x]) rfl stS stF17 stR17 (by kernel_rfl) (fun _ _ _ h => h) (by rfl) ?_ hHeld ?_
  · intro W hSW; refine exec_load_row (.tmp 2) 113 ?_ (w.heap.size) 0 ?_ [.int .i64 kd, .int .i64 ky, .int .i64 sz, .int .i64 at', .int .u64 q, .int .u32 x] _ Tryz.underlying113 rfl size_op14 (blk_range14 (HO6.out.below hSW HO6.out.lt)) <;> rfl
  simp only [stn17, Act.put, sA, sZ, sS]
  refine at14 (l' := stl17) (by kernel_rfl) ?_
  refine Tillst.one (i := 18) (o := stn18) stE18 rfl ?_
  intro K hK
  refine step_call 57 #[.tmp 43] #[113] rfl rfl Tryz.func57 rfl rfl [.agg #[.int .i64 kd, .int .i64 ky, .int .i64 sz, .int .i64 at', .int .u64 q, .int .u32 x]] rfl ((item_ok kd ky sz at' q x u1).mono ?_)
  rintro e u2 ⟨gi, gj, cj, rfl, _, _, _, hb9⟩
  refine ⟨_, rfl, ?_⟩
  simp only [stn18, Act.put, sA, sZ, sS]
  have hH9 := hHeld.trans (hb9.mono hHeld.size)
  refine hK.out _ _ (fun _ => hH9) (fun hHeld => ?_)
  replace hHeld := hHeld (by decide)
  clear hK K hH9 hb9
  refine at14 (l' := stl18) (by kernel_rfl) ?_
  refine Tillst.one (i := 19) (o := stn19) stE19 rfl ?_
  intro K hK
  refine step_call 56 #[.tmp 42, .tmp 44] #[105, 117] rfl rfl Tryz.func56 rfl rfl [.pointer none, .agg (itCs gi gj cj sz x q)] rfl ((put_nil14 (some ⟨gi, 0, none⟩) 2 2 (some ⟨gj, 0, none⟩) (itN sz) cj (sz % 4294967296) x q (sz.tmod 2 == 0) u2).mono ?_)
  rintro e u3 ⟨rfl, hb9⟩
  refine ⟨_, rfl, ?_⟩
  simp only [stn19, Act.put, sA, sZ, sS]
  have hH9 := hHeld.trans (hb9.mono hHeld.size)
  refine hK.out _ _ (fun _ => hH9) (fun hHeld => ?_)
  replace hHeld := hHeld (by decide)
  clear hK K hH9 hb9
  refine at14 (l' := stl19) (by kernel_rfl) ?_
  refine Tillst.take (i := 20) (oi := stn20) (v := .bool true) rfl stS stF20 stR20 (by kernel_rfl) (fun _ _ _ h => h) (by rfl) ?_ hHeld ?_
  · intro W hSW; clear hSW; unfold stn20; go_simp
  simp only [stn20, Act.put, sA, sZ, sS]
  refine at14 (l' := stl20) (by kernel_rfl) ?_
  refine Tillst.take (i := 21) (oi := stn21) (v := .bool true) rfl stS stF21 stR21 (by kernel_rfl) (fun _ _ _ h => h) (by rfl) ?_ hHeld ?_
  · intro W hSW; clear hSW; unfold stn21; go_simp
  simp only [stn21, Act.put, sA, sZ, sS]
  refine at14 (l' := stl21) (by kernel_rfl) ?_
  refine Tillst.take (i := 22) (oi := stn22) (v := ?_) rfl stS stF22 stR22 (by kernel_rfl) (fun _ _ _ h => h) (by rfl) ?_ hHeld ?_
  rotate_left
  · intro W hSW; (try dsimp only at hSW); unfold stn22; go_simp; with_reducible rfl
  simp only [stn22, Act.put, sA, sZ, sS]
  refine at14 (l' := stl22) (by kernel_rfl) ?_
  refine Tillst.take (i := 23) (oi := stn23) (v := ?_) rfl stS stF23 stR23 (by kernel_rfl) (fun _ _ _ h => h) (by rfl) ?_ hHeld ?_
  rotate_left
  · intro W hSW; (try dsimp only at hSW); unfold stn23; go_simp; with_reducible rfl
  simp only [stn23, Act.put, sA, sZ, sS]
  refine at14 (l' := stl23) (by kernel_rfl) ?_
  refine Tillst.take (i := 24) (oi := stn24) (v := ?_) rfl stS stF24 stR24 (by kernel_rfl) (fun _ _ _ h => h) (by rfl) ?_ hHeld ?_
  rotate_left
  · intro W hSW; (try dsimp only at hSW); unfold stn24; go_simp; with_reducible rfl
  simp only [stn24, Act.put, sA, sZ, sS]
  refine at14 (l' := stl24) (by kernel_rfl) ?_
  refine Tillst.take (i := 27) (oi := stn27) (v := ?_) rfl stS stF27 stR27 (by kernel_rfl) (fun _ _ _ h => h) (by rfl) ?_ hHeld ?_
  rotate_left
  · intro W hSW; (try dsimp only at hSW); unfold stn27; go_simp; with_reducible rfl
  simp only [stn27, Act.put, sA, sZ, sS]
  refine at14 (l' := stl27) (by kernel_rfl) ?_
  refine Tillst.take (i := 25) (oi := stn25) (v := ?_) rfl stS stF25 stR25 (by kernel_rfl) (fun _ _ _ h => h) (by rfl) ?_ hHeld ?_
  rotate_left
  · intro W hSW; have h9 := (HCC.out W hSW).1; clear hSW; unfold stn25; go_simp; with_reducible rfl
  simp only [stn25, Act.put, sA, sZ, sS]
  refine at14 (l' := stl25) (by kernel_rfl) ?_
  refine Tillst.take (i := 28) (oi := stn28) (v := ?_) rfl stS stF28 stR28 (by kernel_rfl) (fun _ _ _ h => h) (by rfl) ?_ hHeld ?_
  rotate_left
  · intro W hSW; have h9 := (HCC.out W hSW).2.2; clear hSW; unfold stn28; go_simp; with_reducible rfl
  simp only [stn28, Act.put, sA, sZ, sS]
  refine at14 (l' := stl28) (by kernel_rfl) ?_
  refine Tillst.one (i := 26) (o := stn26) stE26 rfl ?_
  intro K hK
  refine step_call 52 #[.tmp 51] #[3] rfl rfl Tryz.func52 rfl rfl [.int .i64 ky] rfl ((key_any ky u3).mono ?_)
  rintro e u4 ⟨gu4, rfl, _, _, hb9⟩
  refine ⟨_, rfl, ?_⟩
  simp only [stn26, Act.put, sA, sZ, sS]
  have hH9 := hHeld.trans (hb9.mono hHeld.size)
  refine hK.out _ _ (fun _ => hH9) (fun hHeld => ?_)
  replace hHeld := hHeld (by decide)
  clear hK K hH9 hb9
  refine at14 (l' := stl26) (by kernel_rfl) ?_
  refine Tillst.one (i := 29) (o := stn29) stE29 rfl ?_
  intro K hK
  refine step_call 58 #[.tmp 49, .tmp 52, .tmp 54] #[105, 42, 30] rfl rfl Tryz.func58 rfl rfl [.pointer none, .slice (some ⟨gu4, 0, none⟩) 2 2, .int .u64 q] rfl ((kill_nil14 (some ⟨gu4, 0, none⟩) 2 2 q u4).mono ?_)
  rintro e u5 ⟨rfl, hb9⟩
  refine ⟨_, rfl, ?_⟩
  simp only [stn29, Act.put, sA, sZ, sS]
  have hH9 := hHeld.trans (hb9.mono hHeld.size)
  refine hK.out _ _ (fun _ => hH9) (fun hHeld => ?_)
  replace hHeld := hHeld (by decide)
  clear hK K hH9 hb9
  refine at14 (l' := stl29) (by kernel_rfl) ?_
  refine Tillst.take (i := 30) (oi := stn30) (v := .bool true) rfl stS stF30 stR30 (by kernel_rfl) (fun _ _ _ h => h) (by rfl) ?_ hHeld ?_
  · intro W hSW; clear hSW; unfold stn30; go_simp
  simp only [stn30, Act.put, sA, sZ, sS]
  refine at14 (l' := stl30) (by kernel_rfl) ?_
  refine Tillst.take (i := 31) (oi := stn31) (v := .bool true) rfl stS stF31 stR31 (by kernel_rfl) (fun _ _ _ h => h) (by rfl) ?_ hHeld ?_
  · intro W hSW; clear hSW; unfold stn31; go_simp
  simp only [stn31, Act.put, sA, sZ, sS]
  refine at14 (l' := stl31) (by kernel_rfl) ?_
  refine Tillst.take (i := 32) (oi := stn32) (v := ?_) rfl stS stF32 stR32 (by kernel_rfl) (fun _ _ _ h => h) (by rfl) ?_ hHeld ?_
  rotate_left
  · intro W hSW; (try dsimp only at hSW); unfold stn32; go_simp; with_reducible rfl
  simp only [stn32, Act.put, sA, sZ, sS]
  refine at14 (l' := stl32) (by kernel_rfl) ?_
  refine Tillst.take (i := 33) (oi := stn33) (v := ?_) rfl stS stF33 stR33 (by kernel_rfl) (fun _ _ _ h => h) (by rfl) ?_ hHeld ?_
  rotate_left
  · intro W hSW; (try dsimp only at hSW); unfold stn33; go_simp; with_reducible rfl
  simp only [stn33, Act.put, sA, sZ, sS]
  refine at14 (l' := stl33) (by kernel_rfl) ?_
  refine Tillst.take (i := 34) (oi := stn34) (v := ?_) rfl stS stF34 stR34 (by kernel_rfl) (fun _ _ _ h => h) (by rfl) ?_ hHeld ?_
  rotate_left
  · intro W hSW; (try dsimp only at hSW); unfold stn34; go_simp; with_reducible rfl
  simp only [stn34, Act.put, sA, sZ, sS]
  refine at14 (l' := stl34) (by kernel_rfl) ?_
  refine Tillst.take (i := 35) (oi := stn35) (v := ?_) rfl stS stF35 stR35 (by kernel_rfl) (fun _ _ _ h => h) (by rfl) ?_ hHeld ?_
  rotate_left
  · intro W hSW; have h9 := (HCC.out W hSW).2.2; clear hSW; unfold stn35; go_simp; with_reducible rfl
  simp only [stn35, Act.put, sA, sZ, sS]
  refine at14 (l' := stl35) (by kernel_rfl) ?_
  refine Tillst.one (i := 36) (o := stn36) stE36 rfl ?_
  intro K hK
  refine step_call 59 #[.tmp 59, .tmp 61] #[105, 30] rfl rfl Tryz.func59 rfl rfl [.pointer none, .int .u64 q] rfl ((flush_nil14 q u5).mono ?_)
  rintro e u6 ⟨rfl, hb9⟩
  refine ⟨_, rfl, ?_⟩
  simp only [stn36, Act.put, sA, sZ, sS]
  have hH9 := hHeld.trans (hb9.mono hHeld.size)
  refine hK.out _ _ (fun _ => hH9) (fun hHeld => ?_)
  replace hHeld := hHeld (by decide)
  clear hK K hH9 hb9
  refine at14 (l' := stl36) (by kernel_rfl) ?_
  refine Tillst.take (i := 37) (oi := stn37) (v := .bool true) rfl stS stF37 stR37 (by kernel_rfl) (fun _ _ _ h => h) (by rfl) ?_ hHeld ?_
  · intro W hSW; clear hSW; unfold stn37; go_simp
  simp only [stn37, Act.put, sA, sZ, sS]
  refine at14 (l' := stl37) (by kernel_rfl) ?_
  refine Tillst.take (i := 38) (oi := stn38) (v := .bool true) rfl stS stF38 stR38 (by kernel_rfl) (fun _ _ _ h => h) (by rfl) ?_ hHeld ?_
  · intro W hSW; clear hSW; unfold stn38; go_simp
  simp only [stn38, Act.put, sA, sZ, sS]
  refine at14 (l' := stl38) (by kernel_rfl) ?_
  refine Tillst.take (i := 39) (oi := stn39) (v := ?_) rfl stS stF39 stR39 (by kernel_rfl) (fun _ _ _ h => h) (by rfl) ?_ hHeld ?_
  rotate_left
  · intro W hSW; (try dsimp only at hSW); unfold stn39; go_simp; with_reducible rfl
  simp only [stn39, Act.put, sA, sZ, sS]
  refine at14 (l' := stl39) (by kernel_rfl) ?_
  refine Tillst.take (i := 40) (oi := stn40) (v := ?_) rfl stS stF40 stR40 (by kernel_rfl) (fun _ _ _ h => h) (by rfl) ?_ hHeld ?_
  rotate_left
  · intro W hSW; (try dsimp only at hSW); unfold stn40; go_simp; with_reducible rfl
  simp only [stn40, Act.put, sA, sZ, sS]
  refine at14 (l' := stl40) (by kernel_rfl) ?_
  refine Tillst.one (i := 41) (o := stn41) stE41 rfl ?_
  intro K hK
  refine step_call 60 #[.tmp 66] #[105] rfl rfl Tryz.func60 rfl rfl [.pointer none] rfl ((sync_nil14 u6).mono ?_)
  rintro e u7 ⟨rfl, rfl⟩
  refine ⟨_, rfl, ?_⟩
  simp only [stn41, Act.put, sA, sZ, sS]
  refine hK.out _ _ (fun _ => hHeld) (fun hHeld => ?_)
  replace hHeld := hHeld (by decide)
  clear hK K
  refine at14 (l' := stl41) (by kernel_rfl) ?_
  refine Tillst.take (i := 42) (oi := stn42) (v := .bool true) rfl stS stF42 stR42 (by kernel_rfl) (fun _ _ _ h => h) (by rfl) ?_ hHeld ?_
  · intro W hSW; clear hSW; unfold stn42; go_simp
  simp only [stn42, Act.put, sA, sZ, sS]
  refine at14 (l' := stl42) (by kernel_rfl) ?_
  refine Tillst.take (i := 43) (oi := stn43) (v := .bool true) rfl stS stF43 stR43 (by kernel_rfl) (fun _ _ _ h => h) (by rfl) ?_ hHeld ?_
  · intro W hSW; clear hSW; unfold stn43; go_simp
  simp only [stn43, Act.put, sA, sZ, sS]
  refine at14 (l' := stl43) (by kernel_rfl) ?_
  refine Tillst.take (i := 44) (oi := stn44) (v := ?_) rfl stS stF44 stR44 (by kernel_rfl) (fun _ _ _ h => h) (by rfl) ?_ hHeld ?_
  rotate_left
  · intro W hSW; (try dsimp only at hSW); unfold stn44; go_simp; with_reducible rfl
  simp only [stn44, Act.put, sA, sZ, sS]
  refine at14 (l' := stl44) (by kernel_rfl) ?_
  refine Tillst.take (i := 45) (oi := stn45) (v := ?_) rfl stS stF45 stR45 (by kernel_rfl) (fun _ _ _ h => h) (by rfl) ?_ hHeld ?_
  rotate_left
  · intro W hSW; (try dsimp only at hSW); unfold stn45; go_simp; with_reducible rfl
  simp only [stn45, Act.put, sA, sZ, sS]
  refine at14 (l' := stl45) (by kernel_rfl) ?_
  refine Tillst.take (i := 46) (oi := stn46) (v := ?_) rfl stS stF46 stR46 (by kernel_rfl) (fun _ _ _ h => h) (by rfl) ?_ hHeld ?_
  rotate_left
  · intro W hSW; (try dsimp only at hSW); unfold stn46; go_simp; with_reducible rfl
  simp only [stn46, Act.put, sA, sZ, sS]
  refine at14 (l' := stl46) (by kernel_rfl) ?_
  refine Tillst.take (i := 47) (oi := stn47) (v := ?_) rfl stS stF47 stR47 (by kernel_rfl) (fun _ _ _ h => h) (by rfl) ?_ hHeld ?_
  rotate_left
  · intro W hSW; have h9 := (HCC.out W hSW).1; clear hSW; unfold stn47; go_simp; with_reducible rfl
  simp only [stn47, Act.put, sA, sZ, sS]
  refine at14 (l' := stl47) (by kernel_rfl) ?_
  refine Tillst.one (i := 48) (o := stn48) stE48 rfl ?_
  intro K hK
  refine step_call 52 #[.tmp 73] #[3] rfl rfl Tryz.func52 rfl rfl [.int .i64 ky] rfl ((key_any ky u7).mono ?_)
  rintro e u8 ⟨gu8, rfl, _, _, hb9⟩
  refine ⟨_, rfl, ?_⟩
  simp only [stn48, Act.put, sA, sZ, sS]
  have hH9 := hHeld.trans (hb9.mono hHeld.size)
  refine hK.out _ _ (fun _ => hH9) (fun hHeld => ?_)
  replace hHeld := hHeld (by decide)
  clear hK K hH9 hb9
  refine at14 (l' := stl48) (by kernel_rfl) ?_
  refine Tillst.one (i := 49) (o := stn49) stE49 rfl ?_
  intro K hK
  refine step_call 61 #[.tmp 71, .tmp 74] #[105, 42] rfl rfl Tryz.func61 rfl rfl [.pointer none, .slice (some ⟨gu8, 0, none⟩) 2 2] rfl ((may_nil14 _ u8).mono ?_)
  rintro e u9 ⟨rfl, rfl⟩
  refine ⟨_, rfl, ?_⟩
  simp only [stn49, Act.put, sA, sZ, sS]
  refine hK.out _ _ (fun _ => hHeld) (fun hHeld => ?_)
  replace hHeld := hHeld (by decide)
  clear hK K
  refine at14 (l' := stl49) (by kernel_rfl) ?_
  refine Tillst.take (i := 50) (oi := stn50) (v := .bool true) rfl stS stF50 stR50 (by kernel_rfl) (fun _ _ _ h => h) (by rfl) ?_ hHeld ?_
  · intro W hSW; clear hSW; unfold stn50; go_simp
  simp only [stn50, Act.put, sA, sZ, sS]
  refine at14 (l' := stl50) (by kernel_rfl) ?_
  refine Tillst.take (i := 51) (oi := stn51) (v := .bool true) rfl stS stF51 stR51 (by kernel_rfl) (fun _ _ _ h => h) (by rfl) ?_ hHeld ?_
  · intro W hSW; clear hSW; unfold stn51; go_simp
  simp only [stn51, Act.put, sA, sZ, sS]
  refine at14 (l' := stl51) (by kernel_rfl) ?_
  refine Tillst.take (i := 52) (oi := stn52) (v := ?_) rfl stS stF52 stR52 (by kernel_rfl) (fun _ _ _ h => h) (by rfl) ?_ hHeld ?_
  rotate_left
  · intro W hSW; (try dsimp only at hSW); unfold stn52; go_simp; with_reducible rfl
  simp only [stn52, Act.put, sA, sZ, sS]
  refine at14 (l' := stl52) (by kernel_rfl) ?_
  refine Tillst.take (i := 53) (oi := stn53) (v := ?_) rfl stS stF53 stR53 (by kernel_rfl) (fun _ _ _ h => h) (by rfl) ?_ hHeld ?_
  rotate_left
  · intro W hSW; (try dsimp only at hSW); unfold stn53; go_simp; with_reducible rfl
  simp only [stn53, Act.put, sA, sZ, sS]
  refine at14 (l' := stl53) (by kernel_rfl) ?_
  refine Tillst.take (i := 54) (oi := stn54) (v := .agg #[c0, c1, c2, c3, c4, c5, c6, c7, c8]) rfl stS stF54 stR54 (by kernel_rfl) (fun _ _ _ h => h) (by rfl) ?_ hHeld ?_
  · intro W hSW; refine exec_load_row (.tmp 3) 94 ?_ (w.heap.size + 1) 0 ?_ [c0, c1, c2, c3, c4, c5, c6, c7, c8] _ Tryz.underlying94 rfl size_pl14 (blk_range14 (HP6.out.below hSW HP6.out.lt)) <;> rfl
  simp only [stn54, Act.put, sA, sZ, sS]
  refine at14 (l' := stl54) (by kernel_rfl) ?_
  refine Tillst.one (i := 55) (o := stn55) stE55 rfl ?_
  intro K hK
  refine step_call 62 #[.tmp 79, .tmp 80] #[105, 94] rfl rfl Tryz.func62 rfl rfl [.pointer none, .agg #[c0, c1, c2, c3, c4, c5, c6, c7, c8]] rfl ((live_nil14 #[c0, c1, c2, c3, c4, c5, c6, c7, c8] HC.out rfl u9).mono ?_)
  rintro e u10 ⟨rfl, hb9⟩
  refine ⟨_, rfl, ?_⟩
  simp only [stn55, Act.put, sA, sZ, sS]
  have hH9 := hHeld.trans (hb9.mono hHeld.size)
  refine hK.out _ _ (fun _ => hH9) (fun hHeld => ?_)
  replace hHeld := hHeld (by decide)
  clear hK K hH9 hb9
  refine at14 (l' := stl55) (by kernel_rfl) ?_
  refine Tillst.take (i := 56) (oi := stn56) (v := .bool true) rfl stS stF56 stR56 (by kernel_rfl) (fun _ _ _ h => h) (by rfl) ?_ hHeld ?_
  · intro W hSW; clear hSW; unfold stn56; go_simp
  simp only [stn56, Act.put, sA, sZ, sS]
  refine at14 (l' := stl56) (by kernel_rfl) ?_
  refine Tillst.take (i := 57) (oi := stn57) (v := .bool true) rfl stS stF57 stR57 (by kernel_rfl) (fun _ _ _ h => h) (by rfl) ?_ hHeld ?_
  · intro W hSW; clear hSW; unfold stn57; go_simp
  simp only [stn57, Act.put, sA, sZ, sS]
  refine at14 (l' := stl57) (by kernel_rfl) ?_
  refine Tillst.take (i := 58) (oi := stn58) (v := ?_) rfl stS stF58 stR58 (by kernel_rfl) (fun _ _ _ h => h) (by rfl) ?_ hHeld ?_
  rotate_left
  · intro W hSW; (try dsimp only at hSW); unfold stn58; go_simp; with_reducible rfl
  simp only [stn58, Act.put, sA, sZ, sS]
  refine at14 (l' := stl58) (by kernel_rfl) ?_
  refine Tillst.take (i := 59) (oi := stn59) (v := ?_) rfl stS stF59 stR59 (by kernel_rfl) (fun _ _ _ h => h) (by rfl) ?_ hHeld ?_
  rotate_left
  · intro W hSW; (try dsimp only at hSW); unfold stn59; go_simp; with_reducible rfl
  simp only [stn59, Act.put, sA, sZ, sS]
  refine at14 (l' := stl59) (by kernel_rfl) ?_
  refine Tillst.take (i := 60) (oi := stn60) (v := .agg #[c0, c1, c2, c3, c4, c5, c6, c7, c8]) rfl stS stF60 stR60 (by kernel_rfl) (fun _ _ _ h => h) (by rfl) ?_ hHeld ?_
  · intro W hSW; refine exec_load_row (.tmp 3) 94 ?_ (w.heap.size + 1) 0 ?_ [c0, c1, c2, c3, c4, c5, c6, c7, c8] _ Tryz.underlying94 rfl size_pl14 (blk_range14 (HP6.out.below hSW HP6.out.lt)) <;> rfl
  simp only [stn60, Act.put, sA, sZ, sS]
  refine at14 (l' := stl60) (by kernel_rfl) ?_
  refine Tillst.one (i := 61) (o := stn61) stE61 rfl ?_
  intro K hK
  refine step_call 63 #[.tmp 85, .tmp 86] #[105, 94] rfl rfl Tryz.func63 rfl rfl [.pointer none, .agg #[c0, c1, c2, c3, c4, c5, c6, c7, c8]] rfl ((move_nil14 #[c0, c1, c2, c3, c4, c5, c6, c7, c8] HC.out rfl u10).mono ?_)
  rintro e u11 ⟨rfl, hb9⟩
  refine ⟨_, rfl, ?_⟩
  simp only [stn61, Act.put, sA, sZ, sS]
  have hH9 := hHeld.trans (hb9.mono hHeld.size)
  refine hK.out _ _ (fun _ => hH9) (fun hHeld => ?_)
  replace hHeld := hHeld (by decide)
  clear hK K hH9 hb9
  refine at14 (l' := stl61) (by kernel_rfl) ?_
  refine Tillst.take (i := 62) (oi := stn62) (v := .bool true) rfl stS stF62 stR62 (by kernel_rfl) (fun _ _ _ h => h) (by rfl) ?_ hHeld ?_
  · intro W hSW; clear hSW; unfold stn62; go_simp
  simp only [stn62, Act.put, sA, sZ, sS]
  refine at14 (l' := stl62) (by kernel_rfl) ?_
  refine Tillst.take (i := 63) (oi := stn63) (v := .bool true) rfl stS stF63 stR63 (by kernel_rfl) (fun _ _ _ h => h) (by rfl) ?_ hHeld ?_
  · intro W hSW; clear hSW; unfold stn63; go_simp
  simp only [stn63, Act.put, sA, sZ, sS]
  refine at14 (l' := stl63) (by kernel_rfl) ?_
  refine Tillst.take (i := 64) (oi := stn64) (v := ?_) rfl stS stF64 stR64 (by kernel_rfl) (fun _ _ _ h => h) (by rfl) ?_ hHeld ?_
  rotate_left
  · intro W hSW; (try dsimp only at hSW); unfold stn64; go_simp; with_reducible rfl
  simp only [stn64, Act.put, sA, sZ, sS]
  refine at14 (l' := stl64) (by kernel_rfl) ?_
  refine Tillst.take (i := 65) (oi := stn65) (v := ?_) rfl stS stF65 stR65 (by kernel_rfl) (fun _ _ _ h => h) (by rfl) ?_ hHeld ?_
  rotate_left
  · intro W hSW; (try dsimp only at hSW); unfold stn65; go_simp; with_reducible rfl
  simp only [stn65, Act.put, sA, sZ, sS]
  refine at14 (l' := stl65) (by kernel_rfl) ?_
  refine Tillst.take (i := 66) (oi := stn66) (v := ?_) rfl stS stF66 stR66 (by kernel_rfl) (fun _ _ _ h => h) (by rfl) ?_ hHeld ?_
  rotate_left
  · intro W hSW; (try dsimp only at hSW); unfold stn66; go_simp; with_reducible rfl
  simp only [stn66, Act.put, sA, sZ, sS]
  refine at14 (l' := stl66) (by kernel_rfl) ?_
  refine Tillst.take (i := 67) (oi := stn67) (v := ?_) rfl stS stF67 stR67 (by kernel_rfl) (fun _ _ _ h => h) (by rfl) ?_ hHeld ?_
  rotate_left
  · intro W hSW; have h9 := (HCC.out W hSW).2.1; clear hSW; unfold stn67; go_simp; with_reducible rfl
  simp only [stn67, Act.put, sA, sZ, sS]
  refine at14 (l' := stl67) (by kernel_rfl) ?_
  refine Tillst.one (i := 68) (o := stn68) stE68 rfl ?_
  intro K hK
  refine step_call 64 #[.tmp 91, .tmp 93] #[105, 3] rfl rfl Tryz.func64 rfl rfl [.pointer none, .int .i64 at'] rfl ((retire_nil14 at' u11).mono ?_)
  rintro e u12 ⟨rfl, hb9⟩
  refine ⟨_, rfl, ?_⟩
  simp only [stn68, Act.put, sA, sZ, sS]
  have hH9 := hHeld.trans (hb9.mono hHeld.size)
  refine hK.out _ _ (fun _ => hH9) (fun hHeld => ?_)
  replace hHeld := hHeld (by decide)
  clear hK K hH9 hb9
  refine at14 (l' := stl68) (by kernel_rfl) ?_
  refine Tillst.take (i := 69) (oi := stn69) (v := .bool true) rfl stS stF69 stR69 (by kernel_rfl) (fun _ _ _ h => h) (by rfl) ?_ hHeld ?_
  · intro W hSW; clear hSW; unfold stn69; go_simp
  simp only [stn69, Act.put, sA, sZ, sS]
  refine at14 (l' := stl69) (by kernel_rfl) ?_
  refine Tillst.take (i := 70) (oi := stn70) (v := .bool true) rfl stS stF70 stR70 (by kernel_rfl) (fun _ _ _ h => h) (by rfl) ?_ hHeld ?_
  · intro W hSW; clear hSW; unfold stn70; go_simp
  simp only [stn70, Act.put, sA, sZ, sS]
  refine at14 (l' := stl70) (by kernel_rfl) ?_
  refine Tillst.take (i := 71) (oi := stn71) (v := ?_) rfl stS stF71 stR71 (by kernel_rfl) (fun _ _ _ h => h) (by rfl) ?_ hHeld ?_
  rotate_left
  · intro W hSW; (try dsimp only at hSW); unfold stn71; go_simp; with_reducible rfl
  simp only [stn71, Act.put, sA, sZ, sS]
  refine at14 (l' := stl71) (by kernel_rfl) ?_
  refine Tillst.take (i := 72) (oi := stn72) (v := ?_) rfl stS stF72 stR72 (by kernel_rfl) (fun _ _ _ h => h) (by rfl) ?_ hHeld ?_
  rotate_left
  · intro W hSW; (try dsimp only at hSW); unfold stn72; go_simp; with_reducible rfl
  simp only [stn72, Act.put, sA, sZ, sS]
  refine at14 (l' := stl72) (by kernel_rfl) ?_
  refine Tillst.one (i := 73) (o := stn73) stE73 rfl ?_
  intro K hK
  refine step_call 65 #[.tmp 98] #[105] rfl rfl Tryz.func65 rfl rfl [.pointer none] rfl ((degraded_nil14 u12).mono ?_)
  rintro e u13 ⟨rfl, rfl⟩
  refine ⟨_, rfl, ?_⟩
  simp only [stn73, Act.put, sA, sZ, sS]
  refine hK.out _ _ (fun _ => hHeld) (fun hHeld => ?_)
  replace hHeld := hHeld (by decide)
  clear hK K
  refine at14 (l' := stl73) (by kernel_rfl) ?_
  refine Tillst.take (i := 74) (oi := stn74) (v := .bool true) rfl stS stF74 stR74 (by kernel_rfl) (fun _ _ _ h => h) (by rfl) ?_ hHeld ?_
  · intro W hSW; clear hSW; unfold stn74; go_simp
  simp only [stn74, Act.put, sA, sZ, sS]
  refine at14 (l' := stl74) (by kernel_rfl) ?_
  refine Tillst.take (i := 75) (oi := stn75) (v := .bool true) rfl stS stF75 stR75 (by kernel_rfl) (fun _ _ _ h => h) (by rfl) ?_ hHeld ?_
  · intro W hSW; clear hSW; unfold stn75; go_simp
  simp only [stn75, Act.put, sA, sZ, sS]
  refine at14 (l' := stl75) (by kernel_rfl) ?_
  refine Tillst.take (i := 76) (oi := stn76) (v := ?_) rfl stS stF76 stR76 (by kernel_rfl) (fun _ _ _ h => h) (by rfl) ?_ hHeld ?_
  rotate_left
  · intro W hSW; (try dsimp only at hSW); unfold stn76; go_simp; with_reducible rfl
  simp only [stn76, Act.put, sA, sZ, sS]
  refine at14 (l' := stl76) (by kernel_rfl) ?_
  refine Tillst.take (i := 77) (oi := stn77) (v := ?_) rfl stS stF77 stR77 (by kernel_rfl) (fun _ _ _ h => h) (by rfl) ?_ hHeld ?_
  rotate_left
  · intro W hSW; (try dsimp only at hSW); unfold stn77; go_simp; with_reducible rfl
  simp only [stn77, Act.put, sA, sZ, sS]
  refine at14 (l' := stl77) (by kernel_rfl) ?_
  refine Tillst.one (i := 78) (o := stn78) stE78 rfl ?_
  intro K hK
  refine step_call 66 #[.tmp 103] #[105] rfl rfl Tryz.func66 rfl rfl [.pointer none] rfl ((len_nil14 u13).mono ?_)
  rintro e u14 ⟨rfl, rfl⟩
  refine ⟨_, rfl, ?_⟩
  simp only [stn78, Act.put, sA, sZ, sS]
  refine hK.out _ _ (fun _ => hHeld) (fun hHeld => ?_)
  replace hHeld := hHeld (by decide)
  clear hK K
  refine at14 (l' := stl78) (by kernel_rfl) ?_
  refine Tillst.take (i := 79) (oi := stn79) (v := .bool true) rfl stS stF79 stR79 (by kernel_rfl) (fun _ _ _ h => h) (by rfl) ?_ hHeld ?_
  · intro W hSW; clear hSW; unfold stn79; go_simp
  simp only [stn79, Act.put, sA, sZ, sS]
  refine at14 (l' := stl79) (by kernel_rfl) ?_
  refine Tillst.take (i := 80) (oi := stn80) (v := .bool true) rfl stS stF80 stR80 (by kernel_rfl) (fun _ _ _ h => h) (by rfl) ?_ hHeld ?_
  · intro W hSW; clear hSW; unfold stn80; go_simp
  simp only [stn80, Act.put, sA, sZ, sS]
  refine at14 (l' := stl80) (by kernel_rfl) ?_
  refine Tillst.take (i := 81) (oi := stn81) (v := ?_) rfl stS stF81 stR81 (by kernel_rfl) (fun _ _ _ h => h) (by rfl) ?_ hHeld ?_
  rotate_left
  · intro W hSW; (try dsimp only at hSW); unfold stn81; go_simp; with_reducible rfl
  simp only [stn81, Act.put, sA, sZ, sS]
  refine at14 (l' := stl81) (by kernel_rfl) ?_
  refine Tillst.take (i := 82) (oi := stn82) (v := ?_) rfl stS stF82 stR82 (by kernel_rfl) (fun _ _ _ h => h) (by rfl) ?_ hHeld ?_
  rotate_left
  · intro W hSW; (try dsimp only at hSW); unfold stn82; go_simp; with_reducible rfl
  simp only [stn82, Act.put, sA, sZ, sS]
  refine at14 (l' := stl82) (by kernel_rfl) ?_
  refine Tillst.one (i := 83) (o := stn83) stE83 rfl ?_
  intro K hK
  refine step_call 67 #[.tmp 108] #[105] rfl rfl Tryz.func67 rfl rfl [.pointer none] rfl ((left_nil14 u14).mono ?_)
  rintro e u15 ⟨rfl, rfl⟩
  refine ⟨_, rfl, ?_⟩
  simp only [stn83, Act.put, sA, sZ, sS]
  refine hK.out _ _ (fun _ => hHeld) (fun hHeld => ?_)
  replace hHeld := hHeld (by decide)
  clear hK K
  refine at14 (l' := stl83) (by kernel_rfl) ?_
  refine Tillst.take (i := 84) (oi := stn84) (v := .bool true) rfl stS stF84 stR84 (by kernel_rfl) (fun _ _ _ h => h) (by rfl) ?_ hHeld ?_
  · intro W hSW; clear hSW; unfold stn84; go_simp
  simp only [stn84, Act.put, sA, sZ, sS]
  refine at14 (l' := stl84) (by kernel_rfl) ?_
  refine Tillst.take (i := 85) (oi := stn85) (v := .bool true) rfl stS stF85 stR85 (by kernel_rfl) (fun _ _ _ h => h) (by rfl) ?_ hHeld ?_
  · intro W hSW; clear hSW; unfold stn85; go_simp
  simp only [stn85, Act.put, sA, sZ, sS]
  refine at14 (l' := stl85) (by kernel_rfl) ?_
  refine Tillst.take (i := 86) (oi := stn86) (v := ?_) rfl stS stF86 stR86 (by kernel_rfl) (fun _ _ _ h => h) (by rfl) ?_ hHeld ?_
  rotate_left
  · intro W hSW; (try dsimp only at hSW); unfold stn86; go_simp; with_reducible rfl
  simp only [stn86, Act.put, sA, sZ, sS]
  refine at14 (l' := stl86) (by kernel_rfl) ?_
  refine Tillst.take (i := 87) (oi := stn87) (v := ?_) rfl stS stF87 stR87 (by kernel_rfl) (fun _ _ _ h => h) (by rfl) ?_ hHeld ?_
  rotate_left
  · intro W hSW; (try dsimp only at hSW); unfold stn87; go_simp; with_reducible rfl
  simp only [stn87, Act.put, sA, sZ, sS]
  refine at14 (l' := stl87) (by kernel_rfl) ?_
  refine Tillst.one (i := 88) (o := stn88) stE88 rfl ?_
  intro K hK
  refine step_call 68 #[.tmp 113] #[105] rfl rfl Tryz.func68 rfl rfl [.pointer none] rfl ((log_nil14 u15).mono ?_)
  rintro e u16 ⟨rfl, rfl⟩
  refine ⟨_, rfl, ?_⟩
  simp only [stn88, Act.put, sA, sZ, sS]
  refine hK.out _ _ (fun _ => hHeld) (fun hHeld => ?_)
  replace hHeld := hHeld (by decide)
  clear hK K
  refine at14 (l' := stl88) (by kernel_rfl) ?_
  refine Tillst.take (i := 89) (oi := stn89) (v := .bool true) rfl stS stF89 stR89 (by kernel_rfl) (fun _ _ _ h => h) (by rfl) ?_ hHeld ?_
  · intro W hSW; clear hSW; unfold stn89; go_simp
  simp only [stn89, Act.put, sA, sZ, sS]
  refine at14 (l' := stl89) (by kernel_rfl) ?_
  refine Tillst.take (i := 90) (oi := stn90) (v := .bool true) rfl stS stF90 stR90 (by kernel_rfl) (fun _ _ _ h => h) (by rfl) ?_ hHeld ?_
  · intro W hSW; clear hSW; unfold stn90; go_simp
  simp only [stn90, Act.put, sA, sZ, sS]
  refine at14 (l' := stl90) (by kernel_rfl) ?_
  refine Tillst.take (i := 91) (oi := stn91) (v := ?_) rfl stS stF91 stR91 (by kernel_rfl) (fun _ _ _ h => h) (by rfl) ?_ hHeld ?_
  rotate_left
  · intro W hSW; (try dsimp only at hSW); unfold stn91; go_simp; with_reducible rfl
  simp only [stn91, Act.put, sA, sZ, sS]
  refine at14 (l' := stl91) (by kernel_rfl) ?_
  refine Tillst.done (by kernel_rfl) ?_ _
  go_wp2_with fail
  go_ret
  exact ⟨rfl, HB6.out.trans (hHeld.mono HB6.out.size)⟩
end
section
open Go.RowKit Go.ChangeShapes Go.WideShapes Go.Deep Go.Joins
section
variable {H : Type} {enc : TypeId × Value → H} {w : World} {held : Bool}
theorem open_op14 {r : Reach} {b0 : Nat} {v : Value} {d : DataW H} {p : List MemPlace} (hv : Value.okWide Tryz.prog w r b0 113 v) (h : DataW.Trod enc Tryz.prog w 0 (fun _ => true) held 113 v d p) :
    ∃ kd ky sz at' q x : Int, v = .agg #[.int .i64 kd, .int .i64 ky, .int .i64 sz, .int .i64 at', .int .u64 q, .int .u32 x] := by
  obtain ⟨cs, rfl, hsz⟩ := okWide_struct Tryz.underlying113 hv
  obtain ⟨fuel, hf⟩ := h
  obtain ⟨ys, fu, _, _, _, hyl, hg⟩ := DataW.trod_struct Tryz.underlying113 hf
  have hc6 : Tryz.prog.cellsOf 113 = 6 := by kernel_rfl
  have hone : ∀ t, t = 3 ∨ t = 41 ∨ t = 30 → Tryz.prog.cellsOf t = 1 := by
    rintro t (rfl | rfl | rfl) <;> kernel_rfl
  obtain ⟨l⟩ := cs
  have hl6 : l.length = 6 := by simpa using hsz.trans hc6
  have hy6 : ys.length = 6 := hyl
  match l, hl6 with
  | [v0, v1, v2, v3, v4, v5], _ =>
    have g0 := hg 0 _ rfl
    have g1 := hg 1 _ rfl
    have g2 := hg 2 _ rfl
    have g3 := hg 3 _ rfl
    have g4 := hg 4 _ rfl
    have g5 := hg 5 _ rfl
    simp only [Value.cells, hone _ (.inl rfl), hone _ (.inr (.inl rfl)), hone _ (.inr (.inr rfl)), List.drop_zero, List.drop_succ_cons, List.take_succ_cons, List.take_zero] at g0 g1 g2 g3 g4 g5
    rw [List.getElem?_eq_getElem (by omega)] at g0 g1 g2 g3 g4 g5
    obtain ⟨a0, e0, _, _⟩ := DataW.trod_int Tryz.underlying3 g0
    obtain ⟨a1, e1, _, _⟩ := DataW.trod_int Tryz.underlying3 g1
    obtain ⟨a2, e2, _, _⟩ := DataW.trod_int Tryz.underlying3 g2
    obtain ⟨a3, e3, _, _⟩ := DataW.trod_int Tryz.underlying3 g3
    obtain ⟨a4, e4, _, _⟩ := DataW.trod_int Tryz.underlying30 g4
    obtain ⟨a5, e5, _, _⟩ := DataW.trod_int Tryz.underlying41 g5
    injection e0 with e0 _
    injection e1 with e1 _
    injection e2 with e2 _
    injection e3 with e3 _
    injection e4 with e4 _
    injection e5 with e5 _
    subst e0 e1 e2 e3 e4 e5
    exact ⟨a0, a1, a2, a3, a4, a5, rfl⟩
theorem trod_rec14 {fuel : Nat} {l : List Value} {y : DataW H × List MemPlace} (hl6 : l.length = 6) (hf : DataW.trod enc Tryz.prog w 0 (fun _ => true) held fuel 44 l = some y) : ∀ v ∈ l, v.oneCell' = true := by
  obtain ⟨ys, fu, _, _, _, hyl, hg⟩ := DataW.trod_struct Tryz.underlying44 hf
  have hone : ∀ t, t = 3 ∨ t = 41 ∨ t = 30 ∨ t = 42 → Tryz.prog.cellsOf t = 1 := by
    rintro t (rfl | rfl | rfl | rfl) <;> kernel_rfl
  have hy6 : ys.length = 6 := hyl
  match l, hl6 with
  | [v0, v1, v2, v3, v4, v5], _ =>
    have g0 : DataW.trod enc Tryz.prog w 0 (fun _ => true) held fu 3 (([v0, v1, v2, v3, v4, v5].drop 0).take (Tryz.prog.cellsOf 3)) = ys[0]? := hg 0 _ rfl
    have g1 : DataW.trod enc Tryz.prog w 0 (fun _ => true) held fu 41 (([v0, v1, v2, v3, v4, v5].drop 1).take (Tryz.prog.cellsOf 41)) = ys[1]? := hg 1 _ rfl
    have g2 : DataW.trod enc Tryz.prog w 0 (fun _ => true) held fu 41 (([v0, v1, v2, v3, v4, v5].drop 2).take (Tryz.prog.cellsOf 41)) = ys[2]? := hg 2 _ rfl
    have g3 : DataW.trod enc Tryz.prog w 0 (fun _ => true) held fu 30 (([v0, v1, v2, v3, v4, v5].drop 3).take (Tryz.prog.cellsOf 30)) = ys[3]? := hg 3 _ rfl
    have g4 : DataW.trod enc Tryz.prog w 0 (fun _ => true) held fu 42 (([v0, v1, v2, v3, v4, v5].drop 4).take (Tryz.prog.cellsOf 42)) = ys[4]? := hg 4 _ rfl
    have g5 : DataW.trod enc Tryz.prog w 0 (fun _ => true) held fu 42 (([v0, v1, v2, v3, v4, v5].drop 5).take (Tryz.prog.cellsOf 42)) = ys[5]? := hg 5 _ rfl
    simp only [hone _ (.inl rfl), hone _ (.inr (.inl rfl)), hone _ (.inr (.inr (.inl rfl))), hone _ (.inr (.inr (.inr rfl))), List.drop_zero, List.drop_succ_cons, List.take_succ_cons, List.take_zero] at g0 g1 g2 g3 g4 g5
    rw [List.getElem?_eq_getElem (by omega)] at g0 g1 g2 g3 g4 g5
    obtain ⟨k, ek, _, wk⟩ := DataW.trod_int Tryz.underlying3 g0
    obtain ⟨f, ef, _, wf⟩ := DataW.trod_int Tryz.underlying41 g1
    obtain ⟨x, ex, _, wx⟩ := DataW.trod_int Tryz.underlying41 g2
    obtain ⟨s, es, _, ws⟩ := DataW.trod_int Tryz.underlying30 g3
    obtain ⟨A, n, c, z, rfl, _⟩ := open_row8 g4
    obtain ⟨B, m, d', y, rfl, _⟩ := open_row8 g5
    injection ek with ek _
    injection ef with ef _
    injection ex with ex _
    injection es with es _
    subst ek ef ex es
    intro v hv
    simp only [List.mem_cons, List.not_mem_nil, or_false] at hv
    rcases hv with rfl | rfl | rfl | rfl | rfl | rfl <;> rfl
theorem trod_addr14 {fuel : Nat} {l : List Value} {y : DataW H × List MemPlace} (hl3 : l.length = 3) (hf : DataW.trod enc Tryz.prog w 0 (fun _ => true) held fuel 46 l = some y) : ∀ v ∈ l, v.oneCell' = true := by
  obtain ⟨ys, fu, _, _, _, hyl, hg⟩ := DataW.trod_struct Tryz.underlying46 hf
  have hone : ∀ t, t = 3 ∨ t = 30 → Tryz.prog.cellsOf t = 1 := by
    rintro t (rfl | rfl) <;> kernel_rfl
  have hy3 : ys.length = 3 := hyl
  match l, hl3 with
  | [v0, v1, v2], _ =>
    have g0 : DataW.trod enc Tryz.prog w 0 (fun _ => true) held fu 3 (([v0, v1, v2].drop 0).take (Tryz.prog.cellsOf 3)) = ys[0]? := hg 0 _ rfl
    have g1 : DataW.trod enc Tryz.prog w 0 (fun _ => true) held fu 30 (([v0, v1, v2].drop 1).take (Tryz.prog.cellsOf 30)) = ys[1]? := hg 1 _ rfl
    have g2 : DataW.trod enc Tryz.prog w 0 (fun _ => true) held fu 3 (([v0, v1, v2].drop 2).take (Tryz.prog.cellsOf 3)) = ys[2]? := hg 2 _ rfl
    simp only [hone _ (.inl rfl), hone _ (.inr rfl), List.drop_zero, List.drop_succ_cons, List.take_succ_cons, List.take_zero] at g0 g1 g2
    rw [List.getElem?_eq_getElem (by omega)] at g0 g1 g2
    obtain ⟨a, ea, _, _⟩ := DataW.trod_int Tryz.underlying3 g0
    obtain ⟨b, eb, _, _⟩ := DataW.trod_int Tryz.underlying30 g1
    obtain ⟨c, ec, _, _⟩ := DataW.trod_int Tryz.underlying3 g2
    injection ea with ea _
    injection eb with eb _
    injection ec with ec _
    subst ea eb ec
    intro v hv
    simp only [List.mem_cons, List.not_mem_nil, or_false] at hv
    rcases hv with rfl | rfl | rfl <;> rfl
theorem open_placed14 {r : Reach} {b0 : Nat} {v : Value} {d : DataW H} {p : List MemPlace} (hv : Value.okWide Tryz.prog w r b0 94 v) (h : DataW.Trod enc Tryz.prog w 0 (fun _ => true) held 94 v d p) :
    ∃ c0 c1 c2 c3 c4 c5 c6 c7 c8 : Value, v = .agg #[c0, c1, c2, c3, c4, c5, c6, c7, c8] ∧ (#[c0, c1, c2, c3, c4, c5, c6, c7, c8].all (·.oneCell') = true) := by
  obtain ⟨cs, rfl, hsz⟩ := okWide_struct Tryz.underlying94 hv
  obtain ⟨fuel, hf⟩ := h
  obtain ⟨ys, fu, _, _, _, hyl, hg⟩ := DataW.trod_struct Tryz.underlying94 hf
  have hc9 : Tryz.prog.cellsOf 94 = 9 := by kernel_rfl
  have hc3 : Tryz.prog.cellsOf 46 = 3 := by kernel_rfl
  have hc6 : Tryz.prog.cellsOf 44 = 6 := by kernel_rfl
  obtain ⟨l⟩ := cs
  have hl9 : l.length = 9 := by simpa using hsz.trans hc9
  have hy2 : ys.length = 2 := hyl
  have g0 : DataW.trod enc Tryz.prog w 0 (fun _ => true) held fu 46 ((l.drop 0).take (Tryz.prog.cellsOf 46)) = ys[0]? := hg 0 _ rfl
  have g1 : DataW.trod enc Tryz.prog w 0 (fun _ => true) held fu 44 ((l.drop 3).take (Tryz.prog.cellsOf 44)) = ys[1]? := hg 1 _ rfl
  rw [hc3, List.drop_zero] at g0
  rw [hc6] at g1
  rw [List.getElem?_eq_getElem (by omega)] at g0 g1
  have h0 := trod_addr14 (by rw [List.length_take]; omega) g0
  have h1 := trod_rec14 (by rw [List.length_take, List.length_drop]; omega) g1
  have hall : ∀ v ∈ l, v.oneCell' = true := by
    intro v hv
    have e : l = l.take 3 ++ (l.drop 3).take 6 := by
      rw [List.take_of_length_le (l := l.drop 3) (by rw [List.length_drop]; omega), List.take_append_drop]
    rw [e, List.mem_append] at hv
    exact hv.elim (h0 v) (h1 v)
  match l, hl9, hall with
  | [c0, c1, c2, c3, c4, c5, c6, c7, c8], _, hall => exact ⟨c0, c1, c2, c3, c4, c5, c6, c7, c8, rfl, by simpa using hall⟩
end
end
end Go.Proofs.YthmimemenegokaaGreat
