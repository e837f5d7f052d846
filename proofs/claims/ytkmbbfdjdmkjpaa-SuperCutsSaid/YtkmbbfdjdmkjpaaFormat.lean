/- Package super: Format. -/
import Derived.Test.YtkmbbfdjdmkjpaaSup2
namespace Go.Proofs.Ytkmbbfdjdmkjpaa
open Go.RowKit
set_option linter.unusedVariables false
set_option linter.unusedSimpArgs false

abbrev stoC (a b g r v f t : Int) (d : Nat) : Array Value := #[.int .i64 a, .int .i64 b, .int .u64 g, .int .u64 r, .int .u64 v, .int .u64 f, .int .u64 t, .pointer (some ⟨d, 0, none⟩)]
/-- At p lies a Store: what is known, its turn, and a disk; all off X. -/
def StoreM (w : World) (X : Nat → Prop) (p d n : Nat) (a b g r v f t : Int) (k : Dk) : Prop :=
  Blk w p 112 (stoC a b g r v f t d) ∧ DiskM w (fun c => X c ∨ c = p) d n k ∧ ¬ X p

theorem format_arg {w : World} {X : Nat → Prop} {d n : Nat} {k : Dk} (hd : DiskM w X d n k) (a b : Int) (h : ¬ MayS a b 0 0) :
    Calls Try.prog 21 #[.pointer (some ⟨d, 0, none⟩), .int .i64 a, .int .i64 b] w fun e w' => e = .returned (.tuple #[.pointer none, .int .i64 2]) ∧ Below w.heap.size w w' := by
  have HNO := Lib.hid h
  clear h hd
  go_enter Try.func21, Try.ntmps21
  go_wp2_with fail
  refine (block_bad a b 0 0 0 0 0 _ HNO.out).mono ?_
  rintro e w2 ⟨rfl, hb⟩
  have HB2 := Lib.hid (((Below.refl w.heap.size w).alloc (Nat.le_refl _) (.cells (turC a b 0 0 0 0 0) 95)).trans (hb.mono (by simp)))
  clear hb
  go_wp2_with (first
    | (refine wpList_alloc_blk rfl rfl ?_)
    | (refine wpList_store_new (.tmp 9) (.tmp 23) rfl rfl w2 (noughts 64) rfl rfl (noughts 64) rfl (noughts_length 64) (noughts_length 64) ?_))
  go_ret2
  exact ⟨rfl, HB2.out.alloc HB2.out.size _⟩

theorem format_room {w : World} {X : Nat → Prop} {d n : Nat} {k : Dk} (hd : DiskM w X d n k) (a b : Int) (h : MayS a b 0 0) (hr : (n : Int) < 2 + a * b) :
    Calls Try.prog 21 #[.pointer (some ⟨d, 0, none⟩), .int .i64 a, .int .i64 b] w fun e w' => e = .returned (.tuple #[.pointer none, .int .i64 170]) ∧ Below w.heap.size w w' := by
  have HMAY := Lib.hid h
  have HRM := Lib.hid (show decide (2 + a * b ≤ (n : Int)) = false from decide_eq_false (by omega))
  have hin : InS a b 0 0 0 0 := by obtain ⟨_, _, _, _, _⟩ := h; unfold InS; omega
  have HIN := Lib.hid hin
  have hsl := supL_length a b 0 0 0 0 0
  have HBK := Lib.hid (fun u => block_ok a b 0 0 0 0 0 u h hin ⟨by omega, by omega⟩)
  generalize supL a b 0 0 0 0 0 = sl at *
  have HSL := Lib.hid hsl
  have HD := Lib.hid hd
  clear h hr hin hsl hd
  go_enter Try.func21, Try.ntmps21
  go_wp2_with fail
  have HT1 := Lib.hid (show Blk (w.alloc (.cells (turC a b 0 0 0 0 0) 95)) w.heap.size 95 (turC a b 0 0 0 0 0) from Blk.new w _ _)
  have HB1 := Lib.hid (show Below w.heap.size w (w.alloc (.cells (turC a b 0 0 0 0 0) 95)) from (Below.refl _ _).alloc (Nat.le_refl _) _)
  generalize hw1 : w.alloc (.cells (turC a b 0 0 0 0 0) 95) = w1 at *
  clear hw1
  refine (HBK.out _).mono ?_
  rintro e w2 ⟨rfl, hb⟩
  have HB2 := Lib.hid (HB1.out.trans (hb.mono HB1.out.size))
  have HT2 := Lib.hid (HT1.out.below hb HT1.out.lt)
  obtain ⟨w3, hw3⟩ : ∃ w3, w3 = w2.alloc (.cells (cells8 sl) 26) := ⟨_, rfl⟩
  have HW3 := Lib.hid hw3
  have HT3 := Lib.hid (show Blk w3 w.heap.size 95 (turC a b 0 0 0 0 0) by rw [hw3]; exact HT2.out.alloc _)
  have HB3 := Lib.hid (show Below w.heap.size w w3 by rw [hw3]; exact HB2.out.alloc HB2.out.size _)
  clear hb hw3
  obtain ⟨c0, c1, c2, c3, c4, c5⟩ : _ ∧ _ ∧ _ ∧ _ ∧ _ ∧ _ := ⟨HT3.out.cell 0, HT3.out.cell 1, HT3.out.cell 2, HT3.out.cell 3, HT3.out.cell 4, HT3.out.cell 5⟩
  simp only [List.getElem?_toArray, List.getElem?_cons_zero, List.getElem?_cons_succ] at c0 c1 c2 c3 c4 c5
  go_wp2_with (first
    | (refine wpList_alloc_blk rfl rfl ?_)
    | (refine wpList_store_new (.tmp 9) (.tmp 23) rfl rfl w2 sl rfl rfl (noughts 64) rfl (noughts_length 64) HSL.out ?_; rw [← HW3.out]))
  refine (room_any (HD.out.below (Y := X) HB3.out (fun b _ h => h)) a b 0 0 0 0 HMAY.out).mono ?_
  rintro e w4 ⟨rfl, hb⟩
  rw [HRM.out]
  have HB4 := Lib.hid (HB3.out.trans (hb.mono HB3.out.size))
  clear hb
  go_wp2_with fail
  go_ret2
  exact ⟨rfl, HB4.out⟩

abbrev fm0 : Oper := { dst := some 35, op := Go.Op.move (Go.Operand.tmp 0), type := 39, pos := "super.go:45", after := #[], guard := none }
abbrev fm1 : Oper := { dst := some 36, op := Go.Op.load 95 (Go.Operand.tmp 8), type := 95, pos := "super.go:45", after := #[], guard := none }
abbrev fm2 : Oper := { dst := some 37, op := Go.Op.call { callee := Go.Callee.value (Go.Operand.func 73), args := #[Go.Operand.tmp 36], argTypes := #[95] }, type := 3, pos := "super.go:45", after := #[{ on := 1, ground := Go.Ground.data }], guard := none }
abbrev fm3 : Oper := { dst := some 38, op := Go.Op.load 26 (Go.Operand.tmp 9), type := 26, pos := "super.go:45", after := #[], guard := none }
abbrev fm4 : Oper := { dst := some 39, op := Go.Op.call { callee := Go.Callee.value (Go.Operand.func 72), args := #[Go.Operand.tmp 35, Go.Operand.tmp 37, Go.Operand.tmp 38], argTypes := #[39, 3, 26] }, type := 28, pos := "super.go:45", after := #[{ on := 0, ground := Go.Ground.data }, { on := 2, ground := Go.Ground.data }, { on := 3, ground := Go.Ground.data }, { on := 2, ground := Go.Ground.chain }], guard := none }
abbrev fm5 : Oper := { dst := some 11, op := Go.Op.assign (Go.Operand.tmp 39), type := 28, pos := "super.go:45", after := #[{ on := 4, ground := Go.Ground.data }, { on := 4, ground := Go.Ground.chain }, { on := 0, ground := Go.Ground.phase }, { on := 1, ground := Go.Ground.phase }, { on := 2, ground := Go.Ground.phase }, { on := 3, ground := Go.Ground.phase }, { on := 4, ground := Go.Ground.phase }], guard := none }

set_option maxHeartbeats 2000000 in
set_option maxRecDepth 100000 in
theorem format_go {w : World} {X : Nat → Prop} {d n : Nat} {k : Dk} (hd : DiskM w X d n k) (hX : ∀ c, X c → c < w.heap.size) (a b : Int) (h : MayS a b 0 0) (hr : 2 + a * b ≤ (n : Int)) (hp : k.pend.length ≤ 1000) (h0 : k.wre = 0)
    (h1 : (k.wr (Dk.put 0 (supL a b 0 0 0 0 0))).wre = 0) (h2 : ((k.wr (Dk.put 0 (supL a b 0 0 0 0 0))).wr (Dk.put 1 (noughts 64))).wre = 0) :
    Calls Try.prog 21 #[.pointer (some ⟨d, 0, none⟩), .int .i64 a, .int .i64 b] w fun e w' => ∃ p, e = .returned (.tuple #[.pointer (some ⟨p, 0, none⟩), .int .i64 0]) ∧
      StoreM w' X p d n a b 0 0 0 0 0 (((k.wr (Dk.put 0 (supL a b 0 0 0 0 0))).wr (Dk.put 1 (noughts 64))).wr Dk.sync) ∧ Kept X w w' := by
  have hn2 : 98 ≤ n := by have := (area_in h).1; omega
  have hp1 : (k.wr (Dk.put 0 (supL a b 0 0 0 0 0))).pend.length ≤ 1000000 := by
    unfold Dk.wr
    split
    · omega
    split
    · show k.pend.length ≤ _; omega
    split
    · show k.pend.length ≤ _; omega
    · show (k.pend ++ [_]).length ≤ _; simp; omega
  have HMAY := Lib.hid h
  have HRM := Lib.hid (show decide (2 + a * b ≤ (n : Int)) = true from decide_eq_true hr)
  have hin : InS a b 0 0 0 0 := by obtain ⟨_, _, _, _, _⟩ := h; unfold InS; omega
  have hsl := supL_length a b 0 0 0 0 0
  have hsb := supL_bytes a b 0 0 0 0 0
  have HBK := Lib.hid (fun u => block_ok a b 0 0 0 0 0 u h hin ⟨by omega, by omega⟩)
  generalize supL a b 0 0 0 0 0 = sl at *
  have HSL := Lib.hid hsl
  have HSB := Lib.hid hsb
  have HD := Lib.hid hd
  have HX := Lib.hid hX
  have H0 := Lib.hid h0
  have H1 := Lib.hid h1
  have H2 := Lib.hid h2
  have HP1 := Lib.hid hp1
  clear h hr hin hsl hd hX h0 h1 h2 hsb hp1
  go_enter Try.func21, Try.ntmps21
  go_wp2_with fail
  have HT1 := Lib.hid (show Blk (w.alloc (.cells (turC a b 0 0 0 0 0) 95)) w.heap.size 95 (turC a b 0 0 0 0 0) from Blk.new w _ _)
  have HB1 := Lib.hid (show Below w.heap.size w (w.alloc (.cells (turC a b 0 0 0 0 0) 95)) from (Below.refl _ _).alloc (Nat.le_refl _) _)
  generalize hw1 : w.alloc (.cells (turC a b 0 0 0 0 0) 95) = w1 at *
  clear hw1
  refine (HBK.out _).mono ?_
  rintro e w2 ⟨rfl, hb⟩
  have HB2 := Lib.hid (HB1.out.trans (hb.mono HB1.out.size))
  have HT2 := Lib.hid (HT1.out.below hb HT1.out.lt)
  have HZ2 := Lib.hid (show w.heap.size < w2.heap.size from HT2.out.lt)
  obtain ⟨w3, hw3⟩ : ∃ w3, w3 = w2.alloc (.cells (cells8 sl) 26) := ⟨_, rfl⟩
  have HW3 := Lib.hid hw3
  have HT3 := Lib.hid (show Blk w3 w.heap.size 95 (turC a b 0 0 0 0 0) by rw [hw3]; exact HT2.out.alloc _)
  have HV3 := Lib.hid (show ArrB w3 w2.heap.size sl by rw [hw3]; exact Blk.new w2 _ _)
  have HB3 := Lib.hid (show Below w.heap.size w w3 by rw [hw3]; exact HB2.out.alloc HB2.out.size _)
  clear hb hw3
  obtain ⟨c0, c1, c2, c3, c4, c5⟩ : _ ∧ _ ∧ _ ∧ _ ∧ _ ∧ _ := ⟨HT3.out.cell 0, HT3.out.cell 1, HT3.out.cell 2, HT3.out.cell 3, HT3.out.cell 4, HT3.out.cell 5⟩
  simp only [List.getElem?_toArray, List.getElem?_cons_zero, List.getElem?_cons_succ] at c0 c1 c2 c3 c4 c5
  go_wp2_with (first
    | (refine wpList_alloc_blk rfl rfl ?_)
    | (refine wpList_store_new (.tmp 9) (.tmp 23) rfl rfl w2 sl rfl rfl (noughts 64) rfl (noughts_length 64) HSL.out ?_; rw [← HW3.out]))
  clear c0 c1 c2 c3 c4 c5
  have HD3 := Lib.hid (show DiskM w3 (fun c => X c ∨ c = w.heap.size ∨ c = w2.heap.size) d n k from HD.out.below HB3.out (fun c hc h => by rcases h with h | h | h; exact h; omega; have := HZ2.out; omega))
  refine (room_any HD3.out a b 0 0 0 0 HMAY.out).mono ?_
  rintro e w4 ⟨rfl, hb⟩
  rw [HRM.out]
  have HD4 := Lib.hid (HD3.out.below (Y := fun c => X c ∨ c = w.heap.size ∨ c = w2.heap.size) hb (fun c _ h => h))
  have HT4 := Lib.hid (HT3.out.below hb HT3.out.lt)
  have HV4 := Lib.hid (show ArrB w4 w2.heap.size sl from Arr.below HV3.out hb HV3.out.lt)
  have HB4 := Lib.hid (HB3.out.trans (hb.mono HB3.out.size))
  clear hb
  go_wp2_with fail
  have hr8 : w4.rangeAt w.heap.size 0 (turC a b 0 0 0 0 0).toList := Blk.rangeL (cs := (turC a b 0 0 0 0 0).toList) HT4.out
  have hr9 := HV4.out.range
  have hu65 := Try.underlying95
  have hu26 := Try.underlying26
  have hs65 : (Try.prog.info? 95).map (·.size) = some (turC a b 0 0 0 0 0).toList.length := size_tur
  have hs26 : (Try.prog.info? 26).map (·.size) = some (sl.map (Value.int .u8)).length := by rw [size_blk, List.length_map, HSL.out]
  refine wp_region_noPanic ?_
  refine Tillst.region (fun W => W.rangeAt w.heap.size 0 (turC a b 0 0 0 0 0).toList ∧ W.rangeAt w2.heap.size 0 (sl.map (Value.int .u8))) [] (by kernel_rfl) ⟨hr8, hr9⟩ (fun hHeld => ?_)
  refine Tillst.take (i := 0) (oi := fm0) (v := ?_) rfl (by kernel_rfl) (by kernel_rfl) (by kernel_rfl) (by kernel_rfl) (fun _ _ _ h => h) (by rfl) ?_ hHeld ?_
  rotate_left
  · intro W hSW; (try dsimp only at hSW); unfold fm0; go_simp; with_reducible rfl
  simp only [fm0, Act.put, List.setIfInBounds_toArray, List.set_cons_zero, List.set_cons_succ]
  refine Tillst.take (i := 1) (oi := fm1) (v := ?_) rfl (by kernel_rfl) (by kernel_rfl) (by kernel_rfl) (by kernel_rfl) (fun _ _ _ h => h) (by rfl) ?_ hHeld ?_
  rotate_left
  · intro W hSW; refine exec_load_row (.tmp 8) 95 ?_ w.heap.size 0 ?_ (turC a b 0 0 0 0 0).toList _ hu65 rfl hs65 hSW.1 <;> rfl
  simp only [fm1, Act.put, List.setIfInBounds_toArray, List.set_cons_zero, List.set_cons_succ]
  refine Tillst.take (i := 3) (oi := fm3) (v := ?_) rfl (by kernel_rfl) (by kernel_rfl) (by kernel_rfl) (by kernel_rfl) (fun _ _ _ h => h) (by rfl) ?_ hHeld ?_
  rotate_left
  · intro W hSW; refine exec_load_row (.tmp 9) 26 ?_ w2.heap.size 0 ?_ (sl.map (Value.int .u8)) _ hu26 rfl hs26 hSW.2 <;> rfl
  simp only [fm3, Act.put, List.setIfInBounds_toArray, List.set_cons_zero, List.set_cons_succ]
  refine Tillst.one (i := 2) (o := fm2) (by kernel_rfl) rfl ?_
  intro K hK
  refine step_call 73 #[.tmp 36] #[95] rfl rfl Try.func73 rfl rfl [.agg (turC a b 0 0 0 0 0)] rfl ?_
  refine (sector_any a b 0 0 0 0 0 w4.drew (by omega) (by omega)).mono ?_
  rintro e w5 ⟨rfl, hb⟩
  have hb5 : Below w4.heap.size w4 w5 := (Below.refl _ _).drew.trans hb
  have HD5 := Lib.hid (HD4.out.below (Y := fun c => X c ∨ c = w.heap.size ∨ c = w2.heap.size) hb5 (fun c _ h => h))
  have HT5 := Lib.hid (HT4.out.below hb5 HT4.out.lt)
  have HV5 := Lib.hid (show ArrB w5 w2.heap.size sl from Arr.below HV4.out hb5 HV4.out.lt)
  have HB5 := Lib.hid (HB4.out.trans (hb5.mono HB4.out.size))
  have HZ5 := Lib.hid (show w2.heap.size < w5.heap.size from HV5.out.lt)
  have hS := And.intro (Blk.rangeL (cs := (turC a b 0 0 0 0 0).toList) HT5.out) HV5.out.range
  clear hb hb5
  refine ⟨_, rfl, ?_⟩
  simp only [fm2, Act.put, List.setIfInBounds_toArray, List.set_cons_zero, List.set_cons_succ]
  refine hK.out _ _ (fun _ => hS) (fun hHeld => ?_)
  replace hHeld := hHeld (by decide)
  clear hK K hS
  refine Tillst.one (i := 4) (o := fm4) (by kernel_rfl) rfl ?_
  intro K hK
  refine step_call 72 #[.tmp 35, .tmp 37, .tmp 38] #[39, 3, 26] rfl rfl Try.func72 rfl rfl [.pointer (some ⟨d, 0, none⟩), .int .i64 0, .agg (cells8 sl)] rfl ?_
  refine (write_k HD5.out (fun c h => by rcases h with h | h | h; exact Nat.lt_of_lt_of_le (HX.out c h) HB5.out.size; have := HZ2.out; have := HZ5.out; omega; have := HZ5.out; omega) 0 (by omega) sl HSL.out HSB.out (by omega)).mono ?_
  rintro e w6 ⟨rfl, hd6, hk6⟩
  rw [H0.out]
  have HD6 := Lib.hid hd6
  have HT6 := Lib.hid (HT5.out.kept hk6 (.inr (.inl rfl)))
  have HV6 := Lib.hid (show ArrB w6 w2.heap.size sl from Arr.kept HV5.out hk6 (.inr (.inr rfl)))
  have HK6 := Lib.hid (show Kept X w w6 from (Kept.of_below HB5.out HX.out).trans hk6 (fun c h => .inl h))
  have HZ6 := Lib.hid (show w2.heap.size < w6.heap.size from HV6.out.lt)
  have hS := And.intro (Blk.rangeL (cs := (turC a b 0 0 0 0 0).toList) HT6.out) HV6.out.range
  clear hd6 hk6
  refine ⟨_, rfl, ?_⟩
  simp only [fm4, Act.put, List.setIfInBounds_toArray, List.set_cons_zero, List.set_cons_succ]
  refine hK.out _ _ (fun _ => hS) (fun hHeld => ?_)
  replace hHeld := hHeld (by decide)
  clear hK K hS
  refine Tillst.one (i := 5) (o := fm5) (by kernel_rfl) rfl ?_
  intro K hK
  refine step_value ?_ rfl ?_ ?_
  rotate_left
  · unfold fm5; go_simp; with_reducible rfl
  simp only [fm5, Act.put, List.setIfInBounds_toArray, List.set_cons_zero, List.set_cons_succ]
  refine hK.out _ _ (fun _ => hHeld) (fun hHeld => ?_)
  replace hHeld := hHeld (by decide)
  clear hK K
  refine Tillst.done (by kernel_rfl) ?_ _
  refine NoPanic.normal ?_
  clear hHeld hr8 hr9 hs26
  obtain ⟨c0, c1, c2, c3, c4, c5, c6⟩ : _ ∧ _ ∧ _ ∧ _ ∧ _ ∧ _ ∧ _ := ⟨HT6.out.cell 0, HT6.out.cell 1, HT6.out.cell 2, HT6.out.cell 3, HT6.out.cell 4, HT6.out.cell 5, HT6.out.cell 6⟩
  simp only [List.getElem?_toArray, List.getElem?_cons_zero, List.getElem?_cons_succ] at c0 c1 c2 c3 c4 c5 c6
  go_wp2_with fail
  clear c0 c1 c2 c3 c4 c5 c6
  refine (next_any a b 0 0 0 0 0 _).mono ?_
  rintro e w7 ⟨rfl, hb⟩
  have hb7 : Below w6.heap.size w6 w7 := hb
  go_wp2_with fail
  refine (sector_any a b 0 0 0 0 (nxt 0) _ (nxt_in 0).1 (nxt_in 0).2).mono ?_
  rintro e w8 ⟨rfl, hb⟩
  have hb8 : Below w6.heap.size w6 w8 := hb7.trans (hb.mono hb7.size)
  have HD8 := Lib.hid (HD6.out.below (Y := fun c => X c ∨ c = w.heap.size ∨ c = w2.heap.size) hb8 (fun c _ h => h))
  have HT8 := Lib.hid (HT6.out.below hb8 HT6.out.lt)
  have HK8 := Lib.hid (show Kept X w w8 from HK6.out.below hb8 (fun c h => Nat.lt_of_lt_of_le (HX.out c h) HK6.out.size))
  have HZ8 := Lib.hid (show w2.heap.size < w8.heap.size from Nat.lt_of_lt_of_le HZ6.out hb8.size)
  have e1 : nxt 0 % 2 = 1 := by decide
  rw [e1]
  clear hb hb7 hb8 e1
  go_wp2_with (refine wpList_build_blk rfl rfl ?_)
  have hw : (1 : Int) = ((1 : Nat) : Int) := rfl
  rw [hw]
  clear hw
  refine (write_k HD8.out (fun c h => by rcases h with h | h | h; exact Nat.lt_of_lt_of_le (HX.out c h) HK8.out.size; have := HZ2.out; have := HZ8.out; omega; have := HZ8.out; omega) 1 (by omega) (noughts 64) (noughts_length 64) (noughts_bytes 64) HP1.out).mono ?_
  rintro e w9 ⟨rfl, hd9, hk9⟩
  rw [H1.out]
  have HD9 := Lib.hid hd9
  have HT9 := Lib.hid (HT8.out.kept hk9 (.inr (.inl rfl)))
  have HK9 := Lib.hid (show Kept X w w9 from HK8.out.trans hk9 (fun c h => .inl h))
  clear hd9 hk9
  go_wp2_with fail
  have hlt9 := HT9.out.lt
  refine (sync_k (HD9.out.mono (Y := fun c => X c ∨ c = w.heap.size) (fun c _ h => by rcases h with h | h; exact .inl h; exact .inr (.inl h))) (fun c h => by rcases h with h | h; exact Nat.lt_of_lt_of_le (HX.out c h) HK9.out.size; omega)).mono ?_
  rintro e wa ⟨rfl, hda, hka⟩
  rw [H2.out]
  have HDa := Lib.hid hda
  have HTa := Lib.hid (HT9.out.kept hka (.inr rfl))
  have HKa := Lib.hid (show Kept X w wa from HK9.out.trans hka (fun c h => .inl h))
  clear hda hka
  obtain ⟨c0, c1, c2, c3, c4, c5, c6⟩ : _ ∧ _ ∧ _ ∧ _ ∧ _ ∧ _ ∧ _ := ⟨HTa.out.cell 0, HTa.out.cell 1, HTa.out.cell 2, HTa.out.cell 3, HTa.out.cell 4, HTa.out.cell 5, HTa.out.cell 6⟩
  simp only [List.getElem?_toArray, List.getElem?_cons_zero, List.getElem?_cons_succ] at c0 c1 c2 c3 c4 c5 c6
  go_wp2_with fail
  go_ret2
  refine ⟨wa.heap.size, rfl, ⟨Blk.new wa _ _, HDa.out.below ((Below.refl _ _).alloc (Nat.le_refl _) _) (fun c hc h => ?_), ?_⟩, HKa.out.alloc (fun c h => Nat.lt_of_lt_of_le (HX.out c h) HKa.out.size) _⟩
  · rcases h with h | h
    · exact .inl h
    · exact absurd h (by omega)
  · intro h
    have := HX.out _ h
    have := HKa.out.size
    omega

end Go.Proofs.Ytkmbbfdjdmkjpaa
