/- Package super: Set. -/
import Derived.Test.YtkmbbfdjdmkjpaaFormat
namespace Go.Proofs.Ytkmbbfdjdmkjpaa
open Go.RowKit
set_option linter.unusedVariables false
set_option linter.unusedSimpArgs false

/-- In which sector the next turn stands. -/
def secOf (t : Int) : Nat := (nxt t % 2).toNat
theorem secOf_eq (t : Int) : nxt t % 2 = ((secOf t : Nat) : Int) := by unfold secOf; omega
theorem secOf_lt (t : Int) : secOf t < 2 := by unfold secOf; omega
theorem StoreM.below {w w' : World} {X : Nat → Prop} {p d n : Nat} {a b g r v f t : Int} {k : Dk} (h : StoreM w X p d n a b g r v f t k) (hb : Below w.heap.size w w') : StoreM w' X p d n a b g r v f t k :=
  ⟨h.1.below hb h.1.lt, h.2.1.below hb (fun c _ h => h), h.2.2⟩

abbrev sa0 : Oper := { dst := some 50, op := Go.Op.move (Go.Operand.tmp 0), type := 42, pos := "super.go:102", after := #[], guard := none }
abbrev sa1 : Oper := { dst := some 51, op := Go.Op.nilCheck (Go.Operand.tmp 50), type := 0, pos := "super.go:102", after := #[{ on := 0, ground := Go.Ground.data }], guard := none }
abbrev sa2 : Oper := { dst := some 52, op := Go.Op.fieldAddr 112 (Go.Operand.tmp 51) 0, type := 0, pos := "super.go:102", after := #[{ on := 1, ground := Go.Ground.data }], guard := none }
abbrev sa3 : Oper := { dst := some 53, op := Go.Op.fieldAddr 95 (Go.Operand.tmp 52) 0, type := 0, pos := "super.go:102", after := #[{ on := 2, ground := Go.Ground.data }], guard := none }
abbrev sa4 : Oper := { dst := some 54, op := Go.Op.load 24 (Go.Operand.tmp 53), type := 24, pos := "super.go:102", after := #[{ on := 3, ground := Go.Ground.data }], guard := none }
abbrev sa5 : Oper := { dst := some 55, op := Go.Op.load 24 (Go.Operand.tmp 3), type := 24, pos := "super.go:102", after := #[], guard := none }
abbrev sa6 : Oper := { dst := some 56, op := Go.Op.call { callee := Go.Callee.value (Go.Operand.func 76), args := #[Go.Operand.tmp 54, Go.Operand.tmp 55], argTypes := #[24, 24] }, type := 4, pos := "super.go:102", after := #[{ on := 4, ground := Go.Ground.data }, { on := 5, ground := Go.Ground.data }], guard := none }
abbrev sa7 : Oper := { dst := some 49, op := Go.Op.assign (Go.Operand.tmp 56), type := 4, pos := "super.go:102", after := #[{ on := 6, ground := Go.Ground.data }, { on := 6, ground := Go.Ground.chain }], guard := none }
abbrev sb0 : Oper := { dst := some 57, op := Go.Op.move (Go.Operand.tmp 0), type := 42, pos := "super.go:105", after := #[], guard := none }
abbrev sb1 : Oper := { dst := some 58, op := Go.Op.nilCheck (Go.Operand.tmp 57), type := 0, pos := "super.go:105", after := #[{ on := 0, ground := Go.Ground.data }], guard := none }
abbrev sb2 : Oper := { dst := some 59, op := Go.Op.fieldAddr 112 (Go.Operand.tmp 58) 1, type := 0, pos := "super.go:105", after := #[{ on := 1, ground := Go.Ground.data }], guard := none }
abbrev sb3 : Oper := { dst := some 60, op := Go.Op.load 39 (Go.Operand.tmp 59), type := 39, pos := "super.go:105", after := #[{ on := 2, ground := Go.Ground.data }], guard := none }
abbrev sb4 : Oper := { dst := some 61, op := Go.Op.load 95 (Go.Operand.tmp 5), type := 95, pos := "super.go:105", after := #[], guard := none }
abbrev sb5 : Oper := { dst := some 62, op := Go.Op.call { callee := Go.Callee.value (Go.Operand.func 73), args := #[Go.Operand.tmp 61], argTypes := #[95] }, type := 3, pos := "super.go:105", after := #[{ on := 4, ground := Go.Ground.data }], guard := none }
abbrev sb6 : Oper := { dst := some 63, op := Go.Op.load 26 (Go.Operand.tmp 6), type := 26, pos := "super.go:105", after := #[], guard := none }
abbrev sb7 : Oper := { dst := some 64, op := Go.Op.call { callee := Go.Callee.value (Go.Operand.func 72), args := #[Go.Operand.tmp 60, Go.Operand.tmp 62, Go.Operand.tmp 63], argTypes := #[39, 3, 26] }, type := 28, pos := "super.go:105", after := #[{ on := 3, ground := Go.Ground.data }, { on := 5, ground := Go.Ground.data }, { on := 6, ground := Go.Ground.data }, { on := 5, ground := Go.Ground.chain }], guard := none }
abbrev sb8 : Oper := { dst := some 8, op := Go.Op.assign (Go.Operand.tmp 64), type := 28, pos := "super.go:105", after := #[{ on := 7, ground := Go.Ground.data }, { on := 7, ground := Go.Ground.chain }, { on := 0, ground := Go.Ground.phase }, { on := 1, ground := Go.Ground.phase }, { on := 2, ground := Go.Ground.phase }, { on := 3, ground := Go.Ground.phase }, { on := 4, ground := Go.Ground.phase }, { on := 5, ground := Go.Ground.phase }, { on := 6, ground := Go.Ground.phase }, { on := 7, ground := Go.Ground.phase }], guard := none }

set_option maxHeartbeats 2000000 in
set_option maxRecDepth 100000 in
theorem set_arg {w : World} {X : Nat → Prop} {p d n : Nat} {a b g r v f t : Int} {k : Dk} (hs : StoreM w X p d n a b g r v f t k) (hX : ∀ c, X c → c < w.heap.size) (a' b'  g' r' v' f' : Int) (h : ¬ MayS a' b' g' r') :
    Calls Try.prog 23 #[.pointer (some ⟨p, 0, none⟩), .agg (supC a' b' g' r' v' f')] w fun e w' => e = .returned (.int .i64 2) ∧ StoreM w' X p d n a b g r v f t k ∧ Kept X w w' := by
  obtain ⟨hblk, hd, hxp⟩ := hs
  have hpl := hblk.lt
  have HST := Lib.hid (show StoreM w X p d n a b g r v f t k from ⟨hblk, hd, hxp⟩)
  have HNO := Lib.hid h
  clear h
  have HX := Lib.hid hX
  have HXP := Lib.hid hxp
  have HPL := Lib.hid hpl
  have HS1 := Lib.hid (hblk.alloc (.cells (supC a' b' g' r' v' f') 24))
  have HG1 := Lib.hid (show Blk (w.alloc (.cells (supC a' b' g' r' v' f') 24)) w.heap.size 24 (supC a' b' g' r' v' f') from Blk.new w _ _)
  have HB1 := Lib.hid (show Below w.heap.size w (w.alloc (.cells (supC a' b' g' r' v' f') 24)) from (Below.refl _ _).alloc (Nat.le_refl _) _)
  have HD := Lib.hid hd
  obtain ⟨s0, s1, s2, s3, s4, s5, s6⟩ : _ ∧ _ ∧ _ ∧ _ ∧ _ ∧ _ ∧ _ := ⟨HS1.out.cell 0, HS1.out.cell 1, HS1.out.cell 2, HS1.out.cell 3, HS1.out.cell 4, HS1.out.cell 5, HS1.out.cell 6⟩
  simp only [List.getElem?_toArray, List.getElem?_cons_zero, List.getElem?_cons_succ] at s0 s1 s2 s3 s4 s5 s6
  clear hblk hd hxp hX hpl
  go_enter Try.func23, Try.ntmps23
  go_wp2_with fail
  clear s0 s1 s2 s3 s4 s5 s6
  generalize hw1 : w.alloc (.cells (supC a' b' g' r' v' f') 24) = w1 at *
  clear hw1
  refine (next_any a b g r v f t _).mono ?_
  rintro e w2 ⟨rfl, hb⟩
  have HS2 := Lib.hid (HS1.out.below hb HS1.out.lt)
  have HG2 := Lib.hid (HG1.out.below hb HG1.out.lt)
  have HB2 := Lib.hid (HB1.out.trans (hb.mono HB1.out.size))
  have HZ2 := Lib.hid (show w.heap.size < w2.heap.size from HG2.out.lt)
  clear hb
  go_upto_region 4 with fail
  have HS3 := Lib.hid (HS2.out.alloc (.cells (turC a b g r v f (nxt t)) 95))
  have HG3 := Lib.hid (HG2.out.alloc (.cells (turC a b g r v f (nxt t)) 95))
  have HT3 := Lib.hid (show Blk (w2.alloc (.cells (turC a b g r v f (nxt t)) 95)) w2.heap.size 95 (turC a b g r v f (nxt t)) from Blk.new w2 _ _)
  have HB3 := Lib.hid (HB2.out.alloc HB2.out.size (.cells (turC a b g r v f (nxt t)) 95))
  generalize hw3 : w2.alloc (.cells (turC a b g r v f (nxt t)) 95) = w3 at *
  clear hw3
  obtain ⟨q0, q1, q2, q3, q4, q5⟩ : _ ∧ _ ∧ _ ∧ _ ∧ _ ∧ _ := ⟨HG3.out.cell 0, HG3.out.cell 1, HG3.out.cell 2, HG3.out.cell 3, HG3.out.cell 4, HG3.out.cell 5⟩
  simp only [List.getElem?_toArray, List.getElem?_cons_zero, List.getElem?_cons_succ] at q0 q1 q2 q3 q4 q5
  have hzs : ∀ w, (sizeOf 24).run Try.prog w = .ok 6 w := Try.sizeOf24
  have HZS := Lib.hid hzs
  have he : (List.take 0 (turC a b g r v f (nxt t)).toList ++ (supC a' b' g' r' v' f').toList ++ List.drop (0 + 6) (turC a b g r v f (nxt t)).toList).toArray = turC a' b' g' r' v' f' (nxt t) := by simp [supC, turC]
  have HE := Lib.hid he
  clear hzs he
  go_upto_region 5 with (refine wpList_store_part (.tmp 18) (.tmp 17) 24 rfl rfl HZS.out w2.heap.size 0 (supC a' b' g' r' v' f').toList rfl rfl 95 (turC a b g r v f (nxt t)).toList HT3.out rfl (by intro u hu; simp [supC] at hu; rcases hu with rfl | rfl | rfl | rfl | rfl | rfl <;> rfl) (by simp [turC]) ?_; rw [HE.out])
  clear q0 q1 q2 q3 q4 q5
  have hk4 : Kept (fun c => c ≠ w2.heap.size) w3 (w3.setRow w2.heap.size (turC a' b' g' r' v' f' (nxt t))) := (Kept.refl _ w3).setRow (fun h => h rfl) _
  have HS4 := Lib.hid (HS3.out.kept hk4 (by have := HZ2.out; have := HPL.out; omega))
  have HG4 := Lib.hid (HG3.out.kept hk4 (by have := HZ2.out; omega))
  have HT4 := Lib.hid (show Blk (w3.setRow w2.heap.size (turC a' b' g' r' v' f' (nxt t))) w2.heap.size 95 (turC a' b' g' r' v' f' (nxt t)) from setRow_heap _ _ _ _ _ _ HT3.out)
  have HB4 := Lib.hid (show Below w.heap.size w (w3.setRow w2.heap.size (turC a' b' g' r' v' f' (nxt t))) from below_setRow HB3.out (by have := HZ2.out; omega) _)
  generalize hw4 : w3.setRow w2.heap.size (turC a' b' g' r' v' f' (nxt t)) = w4 at *
  clear hw4 hk4
  obtain ⟨c0, c1, c2, c3, c4, c5, c6⟩ : _ ∧ _ ∧ _ ∧ _ ∧ _ ∧ _ ∧ _ := ⟨HT4.out.cell 0, HT4.out.cell 1, HT4.out.cell 2, HT4.out.cell 3, HT4.out.cell 4, HT4.out.cell 5, HT4.out.cell 6⟩
  simp only [List.getElem?_toArray, List.getElem?_cons_zero, List.getElem?_cons_succ] at c0 c1 c2 c3 c4 c5 c6
  go_wp2_with fail
  clear c0 c1 c2 c3 c4 c5 c6
  refine (block_bad a' b' g' r' v' f' (nxt t) _ HNO.out).mono ?_
  rintro e w5 ⟨rfl, hb⟩
  have HB5 := Lib.hid (HB4.out.trans (hb.mono HB4.out.size))
  clear hb
  go_wp2_with (first
    | (refine wpList_alloc_blk rfl rfl ?_)
    | (refine wpList_store_new (.tmp 6) (.tmp 22) rfl rfl w5 (noughts 64) rfl rfl (noughts 64) rfl (noughts_length 64) (noughts_length 64) ?_))
  go_ret
  have hbf := HB5.out.alloc HB5.out.size (.cells (cells8 (noughts 64)) 26)
  exact ⟨rfl, HST.out.below hbf, Kept.of_below hbf HX.out⟩

set_option maxHeartbeats 2000000 in
set_option maxRecDepth 100000 in
theorem set_a {w : World} {X : Nat → Prop} {p d n : Nat} {a b g r v f t : Int} {k : Dk} (hs : StoreM w X p d n a b g r v f t k) (hX : ∀ c, X c → c < w.heap.size) (a' b'  g' r' v' f' : Int) (h : MayS a' b' g' r') (hin : InS a' b' g' r' v' f') (hne : a' ≠ a) :
    Calls Try.prog 23 #[.pointer (some ⟨p, 0, none⟩), .agg (supC a' b' g' r' v' f')] w fun e w' => e = .returned (.int .i64 2) ∧ StoreM w' X p d n a b g r v f t k ∧ Kept X w w' := by
  obtain ⟨hblk, hd, hxp⟩ := hs
  have hpl := hblk.lt
  have HNE := Lib.hid hne
  clear hne
  have HST := Lib.hid (show StoreM w X p d n a b g r v f t k from ⟨hblk, hd, hxp⟩)
  have hsl := supL_length a' b' g' r' v' f' (nxt t)
  have hsb := supL_bytes a' b' g' r' v' f' (nxt t)
  have HBK := Lib.hid (fun u => block_ok a' b' g' r' v' f' (nxt t) u h hin (nxt_in t))
  generalize supL a' b' g' r' v' f' (nxt t) = sl at *
  have HSL := Lib.hid hsl
  have HSB := Lib.hid hsb
  clear h hin hsl hsb
  have HX := Lib.hid hX
  have HXP := Lib.hid hxp
  have HPL := Lib.hid hpl
  have HS1 := Lib.hid (hblk.alloc (.cells (supC a' b' g' r' v' f') 24))
  have HG1 := Lib.hid (show Blk (w.alloc (.cells (supC a' b' g' r' v' f') 24)) w.heap.size 24 (supC a' b' g' r' v' f') from Blk.new w _ _)
  have HB1 := Lib.hid (show Below w.heap.size w (w.alloc (.cells (supC a' b' g' r' v' f') 24)) from (Below.refl _ _).alloc (Nat.le_refl _) _)
  have HD := Lib.hid hd
  obtain ⟨s0, s1, s2, s3, s4, s5, s6⟩ : _ ∧ _ ∧ _ ∧ _ ∧ _ ∧ _ ∧ _ := ⟨HS1.out.cell 0, HS1.out.cell 1, HS1.out.cell 2, HS1.out.cell 3, HS1.out.cell 4, HS1.out.cell 5, HS1.out.cell 6⟩
  simp only [List.getElem?_toArray, List.getElem?_cons_zero, List.getElem?_cons_succ] at s0 s1 s2 s3 s4 s5 s6
  clear hblk hd hxp hX hpl
  go_enter Try.func23, Try.ntmps23
  go_wp2_with fail
  clear s0 s1 s2 s3 s4 s5 s6
  generalize hw1 : w.alloc (.cells (supC a' b' g' r' v' f') 24) = w1 at *
  clear hw1
  refine (next_any a b g r v f t _).mono ?_
  rintro e w2 ⟨rfl, hb⟩
  have HS2 := Lib.hid (HS1.out.below hb HS1.out.lt)
  have HG2 := Lib.hid (HG1.out.below hb HG1.out.lt)
  have HB2 := Lib.hid (HB1.out.trans (hb.mono HB1.out.size))
  have HZ2 := Lib.hid (show w.heap.size < w2.heap.size from HG2.out.lt)
  clear hb
  go_upto_region 4 with fail
  have HS3 := Lib.hid (HS2.out.alloc (.cells (turC a b g r v f (nxt t)) 95))
  have HG3 := Lib.hid (HG2.out.alloc (.cells (turC a b g r v f (nxt t)) 95))
  have HT3 := Lib.hid (show Blk (w2.alloc (.cells (turC a b g r v f (nxt t)) 95)) w2.heap.size 95 (turC a b g r v f (nxt t)) from Blk.new w2 _ _)
  have HB3 := Lib.hid (HB2.out.alloc HB2.out.size (.cells (turC a b g r v f (nxt t)) 95))
  generalize hw3 : w2.alloc (.cells (turC a b g r v f (nxt t)) 95) = w3 at *
  clear hw3
  obtain ⟨q0, q1, q2, q3, q4, q5⟩ : _ ∧ _ ∧ _ ∧ _ ∧ _ ∧ _ := ⟨HG3.out.cell 0, HG3.out.cell 1, HG3.out.cell 2, HG3.out.cell 3, HG3.out.cell 4, HG3.out.cell 5⟩
  simp only [List.getElem?_toArray, List.getElem?_cons_zero, List.getElem?_cons_succ] at q0 q1 q2 q3 q4 q5
  have hzs : ∀ w, (sizeOf 24).run Try.prog w = .ok 6 w := Try.sizeOf24
  have HZS := Lib.hid hzs
  have he : (List.take 0 (turC a b g r v f (nxt t)).toList ++ (supC a' b' g' r' v' f').toList ++ List.drop (0 + 6) (turC a b g r v f (nxt t)).toList).toArray = turC a' b' g' r' v' f' (nxt t) := by simp [supC, turC]
  have HE := Lib.hid he
  clear hzs he
  go_upto_region 5 with (refine wpList_store_part (.tmp 18) (.tmp 17) 24 rfl rfl HZS.out w2.heap.size 0 (supC a' b' g' r' v' f').toList rfl rfl 95 (turC a b g r v f (nxt t)).toList HT3.out rfl (by intro u hu; simp [supC] at hu; rcases hu with rfl | rfl | rfl | rfl | rfl | rfl <;> rfl) (by simp [turC]) ?_; rw [HE.out])
  clear q0 q1 q2 q3 q4 q5
  have hk4 : Kept (fun c => c ≠ w2.heap.size) w3 (w3.setRow w2.heap.size (turC a' b' g' r' v' f' (nxt t))) := (Kept.refl _ w3).setRow (fun h => h rfl) _
  have HS4 := Lib.hid (HS3.out.kept hk4 (by have := HZ2.out; have := HPL.out; omega))
  have HG4 := Lib.hid (HG3.out.kept hk4 (by have := HZ2.out; omega))
  have HT4 := Lib.hid (show Blk (w3.setRow w2.heap.size (turC a' b' g' r' v' f' (nxt t))) w2.heap.size 95 (turC a' b' g' r' v' f' (nxt t)) from setRow_heap _ _ _ _ _ _ HT3.out)
  have HB4 := Lib.hid (show Below w.heap.size w (w3.setRow w2.heap.size (turC a' b' g' r' v' f' (nxt t))) from below_setRow HB3.out (by have := HZ2.out; omega) _)
  generalize hw4 : w3.setRow w2.heap.size (turC a' b' g' r' v' f' (nxt t)) = w4 at *
  clear hw4 hk4
  obtain ⟨c0, c1, c2, c3, c4, c5, c6⟩ : _ ∧ _ ∧ _ ∧ _ ∧ _ ∧ _ ∧ _ := ⟨HT4.out.cell 0, HT4.out.cell 1, HT4.out.cell 2, HT4.out.cell 3, HT4.out.cell 4, HT4.out.cell 5, HT4.out.cell 6⟩
  simp only [List.getElem?_toArray, List.getElem?_cons_zero, List.getElem?_cons_succ] at c0 c1 c2 c3 c4 c5 c6
  go_wp2_with fail
  clear c0 c1 c2 c3 c4 c5 c6
  refine (HBK.out _).mono ?_
  rintro e w5 ⟨rfl, hb⟩
  obtain ⟨w6, hw6⟩ : ∃ w6, w6 = w5.alloc (.cells (cells8 sl) 26) := ⟨_, rfl⟩
  have HW6 := Lib.hid hw6
  have HS6 := Lib.hid (show Blk w6 p 112 (stoC a b g r v f t d) by rw [hw6]; exact (HS4.out.below hb HS4.out.lt).alloc _)
  have HG6 := Lib.hid (show Blk w6 w.heap.size 24 (supC a' b' g' r' v' f') by rw [hw6]; exact (HG4.out.below hb HG4.out.lt).alloc _)
  have HT6 := Lib.hid (show Blk w6 w2.heap.size 95 (turC a' b' g' r' v' f' (nxt t)) by rw [hw6]; exact (HT4.out.below hb HT4.out.lt).alloc _)
  have HV6 := Lib.hid (show ArrB w6 w5.heap.size sl by rw [hw6]; exact Blk.new w5 _ _)
  have HB6 := Lib.hid (show Below w.heap.size w w6 by rw [hw6]; exact (HB4.out.trans (hb.mono HB4.out.size)).alloc (Nat.le_trans HB4.out.size hb.size) _)
  have HZ5 := Lib.hid (show w2.heap.size < w5.heap.size from Nat.lt_of_lt_of_le HT4.out.lt hb.size)
  clear hb hw6
  have s0 := HS6.out.cell 0
  have s1 := HS6.out.cell 1
  have q0 := HG6.out.cell 0
  have q1 := HG6.out.cell 1
  simp only [List.getElem?_toArray, List.getElem?_cons_zero, List.getElem?_cons_succ] at s0 s1 q0 q1
  go_wp2_with (first
    | (refine wpList_alloc_blk rfl rfl ?_)
    | (refine wpList_store_new (.tmp 6) (.tmp 22) rfl rfl w5 sl rfl rfl (noughts 64) rfl (noughts_length 64) HSL.out ?_; rw [← HW6.out]))
  have n0 : (a' != a) = true := by simpa [bne] using HNE.out
  go_quiet (fail)
  clear s0 s1 q0 q1 n0
  go_wp2
  go_ret
  exact ⟨rfl, HST.out.below (below_drewN HB6.out _), Kept.of_below (below_drewN HB6.out _) HX.out⟩

set_option maxHeartbeats 2000000 in
set_option maxRecDepth 100000 in
theorem set_b {w : World} {X : Nat → Prop} {p d n : Nat} {a b g r v f t : Int} {k : Dk} (hs : StoreM w X p d n a b g r v f t k) (hX : ∀ c, X c → c < w.heap.size) (b'  g' r' v' f' : Int) (h : MayS a b' g' r') (hin : InS a b' g' r' v' f') (hne : b' ≠ b) :
    Calls Try.prog 23 #[.pointer (some ⟨p, 0, none⟩), .agg (supC a b' g' r' v' f')] w fun e w' => e = .returned (.int .i64 2) ∧ StoreM w' X p d n a b g r v f t k ∧ Kept X w w' := by
  obtain ⟨hblk, hd, hxp⟩ := hs
  have hpl := hblk.lt
  have HNE := Lib.hid hne
  clear hne
  have HST := Lib.hid (show StoreM w X p d n a b g r v f t k from ⟨hblk, hd, hxp⟩)
  have hsl := supL_length a b' g' r' v' f' (nxt t)
  have hsb := supL_bytes a b' g' r' v' f' (nxt t)
  have HBK := Lib.hid (fun u => block_ok a b' g' r' v' f' (nxt t) u h hin (nxt_in t))
  generalize supL a b' g' r' v' f' (nxt t) = sl at *
  have HSL := Lib.hid hsl
  have HSB := Lib.hid hsb
  clear h hin hsl hsb
  have HX := Lib.hid hX
  have HXP := Lib.hid hxp
  have HPL := Lib.hid hpl
  have HS1 := Lib.hid (hblk.alloc (.cells (supC a b' g' r' v' f') 24))
  have HG1 := Lib.hid (show Blk (w.alloc (.cells (supC a b' g' r' v' f') 24)) w.heap.size 24 (supC a b' g' r' v' f') from Blk.new w _ _)
  have HB1 := Lib.hid (show Below w.heap.size w (w.alloc (.cells (supC a b' g' r' v' f') 24)) from (Below.refl _ _).alloc (Nat.le_refl _) _)
  have HD := Lib.hid hd
  obtain ⟨s0, s1, s2, s3, s4, s5, s6⟩ : _ ∧ _ ∧ _ ∧ _ ∧ _ ∧ _ ∧ _ := ⟨HS1.out.cell 0, HS1.out.cell 1, HS1.out.cell 2, HS1.out.cell 3, HS1.out.cell 4, HS1.out.cell 5, HS1.out.cell 6⟩
  simp only [List.getElem?_toArray, List.getElem?_cons_zero, List.getElem?_cons_succ] at s0 s1 s2 s3 s4 s5 s6
  clear hblk hd hxp hX hpl
  go_enter Try.func23, Try.ntmps23
  go_wp2_with fail
  clear s0 s1 s2 s3 s4 s5 s6
  generalize hw1 : w.alloc (.cells (supC a b' g' r' v' f') 24) = w1 at *
  clear hw1
  refine (next_any a b g r v f t _).mono ?_
  rintro e w2 ⟨rfl, hb⟩
  have HS2 := Lib.hid (HS1.out.below hb HS1.out.lt)
  have HG2 := Lib.hid (HG1.out.below hb HG1.out.lt)
  have HB2 := Lib.hid (HB1.out.trans (hb.mono HB1.out.size))
  have HZ2 := Lib.hid (show w.heap.size < w2.heap.size from HG2.out.lt)
  clear hb
  go_upto_region 4 with fail
  have HS3 := Lib.hid (HS2.out.alloc (.cells (turC a b g r v f (nxt t)) 95))
  have HG3 := Lib.hid (HG2.out.alloc (.cells (turC a b g r v f (nxt t)) 95))
  have HT3 := Lib.hid (show Blk (w2.alloc (.cells (turC a b g r v f (nxt t)) 95)) w2.heap.size 95 (turC a b g r v f (nxt t)) from Blk.new w2 _ _)
  have HB3 := Lib.hid (HB2.out.alloc HB2.out.size (.cells (turC a b g r v f (nxt t)) 95))
  generalize hw3 : w2.alloc (.cells (turC a b g r v f (nxt t)) 95) = w3 at *
  clear hw3
  obtain ⟨q0, q1, q2, q3, q4, q5⟩ : _ ∧ _ ∧ _ ∧ _ ∧ _ ∧ _ := ⟨HG3.out.cell 0, HG3.out.cell 1, HG3.out.cell 2, HG3.out.cell 3, HG3.out.cell 4, HG3.out.cell 5⟩
  simp only [List.getElem?_toArray, List.getElem?_cons_zero, List.getElem?_cons_succ] at q0 q1 q2 q3 q4 q5
  have hzs : ∀ w, (sizeOf 24).run Try.prog w = .ok 6 w := Try.sizeOf24
  have HZS := Lib.hid hzs
  have he : (List.take 0 (turC a b g r v f (nxt t)).toList ++ (supC a b' g' r' v' f').toList ++ List.drop (0 + 6) (turC a b g r v f (nxt t)).toList).toArray = turC a b' g' r' v' f' (nxt t) := by simp [supC, turC]
  have HE := Lib.hid he
  clear hzs he
  go_upto_region 5 with (refine wpList_store_part (.tmp 18) (.tmp 17) 24 rfl rfl HZS.out w2.heap.size 0 (supC a b' g' r' v' f').toList rfl rfl 95 (turC a b g r v f (nxt t)).toList HT3.out rfl (by intro u hu; simp [supC] at hu; rcases hu with rfl | rfl | rfl | rfl | rfl | rfl <;> rfl) (by simp [turC]) ?_; rw [HE.out])
  clear q0 q1 q2 q3 q4 q5
  have hk4 : Kept (fun c => c ≠ w2.heap.size) w3 (w3.setRow w2.heap.size (turC a b' g' r' v' f' (nxt t))) := (Kept.refl _ w3).setRow (fun h => h rfl) _
  have HS4 := Lib.hid (HS3.out.kept hk4 (by have := HZ2.out; have := HPL.out; omega))
  have HG4 := Lib.hid (HG3.out.kept hk4 (by have := HZ2.out; omega))
  have HT4 := Lib.hid (show Blk (w3.setRow w2.heap.size (turC a b' g' r' v' f' (nxt t))) w2.heap.size 95 (turC a b' g' r' v' f' (nxt t)) from setRow_heap _ _ _ _ _ _ HT3.out)
  have HB4 := Lib.hid (show Below w.heap.size w (w3.setRow w2.heap.size (turC a b' g' r' v' f' (nxt t))) from below_setRow HB3.out (by have := HZ2.out; omega) _)
  generalize hw4 : w3.setRow w2.heap.size (turC a b' g' r' v' f' (nxt t)) = w4 at *
  clear hw4 hk4
  obtain ⟨c0, c1, c2, c3, c4, c5, c6⟩ : _ ∧ _ ∧ _ ∧ _ ∧ _ ∧ _ ∧ _ := ⟨HT4.out.cell 0, HT4.out.cell 1, HT4.out.cell 2, HT4.out.cell 3, HT4.out.cell 4, HT4.out.cell 5, HT4.out.cell 6⟩
  simp only [List.getElem?_toArray, List.getElem?_cons_zero, List.getElem?_cons_succ] at c0 c1 c2 c3 c4 c5 c6
  go_wp2_with fail
  clear c0 c1 c2 c3 c4 c5 c6
  refine (HBK.out _).mono ?_
  rintro e w5 ⟨rfl, hb⟩
  obtain ⟨w6, hw6⟩ : ∃ w6, w6 = w5.alloc (.cells (cells8 sl) 26) := ⟨_, rfl⟩
  have HW6 := Lib.hid hw6
  have HS6 := Lib.hid (show Blk w6 p 112 (stoC a b g r v f t d) by rw [hw6]; exact (HS4.out.below hb HS4.out.lt).alloc _)
  have HG6 := Lib.hid (show Blk w6 w.heap.size 24 (supC a b' g' r' v' f') by rw [hw6]; exact (HG4.out.below hb HG4.out.lt).alloc _)
  have HT6 := Lib.hid (show Blk w6 w2.heap.size 95 (turC a b' g' r' v' f' (nxt t)) by rw [hw6]; exact (HT4.out.below hb HT4.out.lt).alloc _)
  have HV6 := Lib.hid (show ArrB w6 w5.heap.size sl by rw [hw6]; exact Blk.new w5 _ _)
  have HB6 := Lib.hid (show Below w.heap.size w w6 by rw [hw6]; exact (HB4.out.trans (hb.mono HB4.out.size)).alloc (Nat.le_trans HB4.out.size hb.size) _)
  have HZ5 := Lib.hid (show w2.heap.size < w5.heap.size from Nat.lt_of_lt_of_le HT4.out.lt hb.size)
  clear hb hw6
  have s0 := HS6.out.cell 0
  have s1 := HS6.out.cell 1
  have q0 := HG6.out.cell 0
  have q1 := HG6.out.cell 1
  simp only [List.getElem?_toArray, List.getElem?_cons_zero, List.getElem?_cons_succ] at s0 s1 q0 q1
  go_wp2_with (first
    | (refine wpList_alloc_blk rfl rfl ?_)
    | (refine wpList_store_new (.tmp 6) (.tmp 22) rfl rfl w5 sl rfl rfl (noughts 64) rfl (noughts_length 64) HSL.out ?_; rw [← HW6.out]))
  have n1 : (b' != b) = true := by simpa [bne] using HNE.out
  have n0 : (a != a) = false := by simp [bne]
  go_quiet (fail)
  clear s0 s1 q0 q1 n0 n1
  go_wp2
  go_ret
  exact ⟨rfl, HST.out.below (below_drewN HB6.out _), Kept.of_below (below_drewN HB6.out _) HX.out⟩

set_option maxHeartbeats 2000000 in
set_option maxRecDepth 100000 in
theorem set_back {w : World} {X : Nat → Prop} {p d n : Nat} {a b g r v f t : Int} {k : Dk} (hs : StoreM w X p d n a b g r v f t k) (hX : ∀ c, X c → c < w.heap.size) (g' r' v' f' : Int) (h : MayS a b g' r') (hin : InS a b g' r' v' f') (hbk : BackS g r v f g' r' v' f') :
    Calls Try.prog 23 #[.pointer (some ⟨p, 0, none⟩), .agg (supC a b g' r' v' f')] w fun e w' => e = .returned (.int .i64 171) ∧ StoreM w' X p d n a b g r v f t k ∧ Kept X w w' := by
  obtain ⟨hblk, hd, hxp⟩ := hs
  have hpl := hblk.lt
  have HBKS := Lib.hid (show decide (BackS g r v f g' r' v' f') = true from decide_eq_true hbk)
  clear hbk
  have HST := Lib.hid (show StoreM w X p d n a b g r v f t k from ⟨hblk, hd, hxp⟩)
  have hsl := supL_length a b g' r' v' f' (nxt t)
  have hsb := supL_bytes a b g' r' v' f' (nxt t)
  have HBK := Lib.hid (fun u => block_ok a b g' r' v' f' (nxt t) u h hin (nxt_in t))
  generalize supL a b g' r' v' f' (nxt t) = sl at *
  have HSL := Lib.hid hsl
  have HSB := Lib.hid hsb
  clear h hin hsl hsb
  have HX := Lib.hid hX
  have HXP := Lib.hid hxp
  have HPL := Lib.hid hpl
  have HS1 := Lib.hid (hblk.alloc (.cells (supC a b g' r' v' f') 24))
  have HG1 := Lib.hid (show Blk (w.alloc (.cells (supC a b g' r' v' f') 24)) w.heap.size 24 (supC a b g' r' v' f') from Blk.new w _ _)
  have HB1 := Lib.hid (show Below w.heap.size w (w.alloc (.cells (supC a b g' r' v' f') 24)) from (Below.refl _ _).alloc (Nat.le_refl _) _)
  have HD := Lib.hid hd
  obtain ⟨s0, s1, s2, s3, s4, s5, s6⟩ : _ ∧ _ ∧ _ ∧ _ ∧ _ ∧ _ ∧ _ := ⟨HS1.out.cell 0, HS1.out.cell 1, HS1.out.cell 2, HS1.out.cell 3, HS1.out.cell 4, HS1.out.cell 5, HS1.out.cell 6⟩
  simp only [List.getElem?_toArray, List.getElem?_cons_zero, List.getElem?_cons_succ] at s0 s1 s2 s3 s4 s5 s6
  clear hblk hd hxp hX hpl
  go_enter Try.func23, Try.ntmps23
  go_wp2_with fail
  clear s0 s1 s2 s3 s4 s5 s6
  generalize hw1 : w.alloc (.cells (supC a b g' r' v' f') 24) = w1 at *
  clear hw1
  refine (next_any a b g r v f t _).mono ?_
  rintro e w2 ⟨rfl, hb⟩
  have HS2 := Lib.hid (HS1.out.below hb HS1.out.lt)
  have HG2 := Lib.hid (HG1.out.below hb HG1.out.lt)
  have HB2 := Lib.hid (HB1.out.trans (hb.mono HB1.out.size))
  have HZ2 := Lib.hid (show w.heap.size < w2.heap.size from HG2.out.lt)
  clear hb
  go_upto_region 4 with fail
  have HS3 := Lib.hid (HS2.out.alloc (.cells (turC a b g r v f (nxt t)) 95))
  have HG3 := Lib.hid (HG2.out.alloc (.cells (turC a b g r v f (nxt t)) 95))
  have HT3 := Lib.hid (show Blk (w2.alloc (.cells (turC a b g r v f (nxt t)) 95)) w2.heap.size 95 (turC a b g r v f (nxt t)) from Blk.new w2 _ _)
  have HB3 := Lib.hid (HB2.out.alloc HB2.out.size (.cells (turC a b g r v f (nxt t)) 95))
  generalize hw3 : w2.alloc (.cells (turC a b g r v f (nxt t)) 95) = w3 at *
  clear hw3
  obtain ⟨q0, q1, q2, q3, q4, q5⟩ : _ ∧ _ ∧ _ ∧ _ ∧ _ ∧ _ := ⟨HG3.out.cell 0, HG3.out.cell 1, HG3.out.cell 2, HG3.out.cell 3, HG3.out.cell 4, HG3.out.cell 5⟩
  simp only [List.getElem?_toArray, List.getElem?_cons_zero, List.getElem?_cons_succ] at q0 q1 q2 q3 q4 q5
  have hzs : ∀ w, (sizeOf 24).run Try.prog w = .ok 6 w := Try.sizeOf24
  have HZS := Lib.hid hzs
  have he : (List.take 0 (turC a b g r v f (nxt t)).toList ++ (supC a b g' r' v' f').toList ++ List.drop (0 + 6) (turC a b g r v f (nxt t)).toList).toArray = turC a b g' r' v' f' (nxt t) := by simp [supC, turC]
  have HE := Lib.hid he
  clear hzs he
  go_upto_region 5 with (refine wpList_store_part (.tmp 18) (.tmp 17) 24 rfl rfl HZS.out w2.heap.size 0 (supC a b g' r' v' f').toList rfl rfl 95 (turC a b g r v f (nxt t)).toList HT3.out rfl (by intro u hu; simp [supC] at hu; rcases hu with rfl | rfl | rfl | rfl | rfl | rfl <;> rfl) (by simp [turC]) ?_; rw [HE.out])
  clear q0 q1 q2 q3 q4 q5
  have hk4 : Kept (fun c => c ≠ w2.heap.size) w3 (w3.setRow w2.heap.size (turC a b g' r' v' f' (nxt t))) := (Kept.refl _ w3).setRow (fun h => h rfl) _
  have HS4 := Lib.hid (HS3.out.kept hk4 (by have := HZ2.out; have := HPL.out; omega))
  have HG4 := Lib.hid (HG3.out.kept hk4 (by have := HZ2.out; omega))
  have HT4 := Lib.hid (show Blk (w3.setRow w2.heap.size (turC a b g' r' v' f' (nxt t))) w2.heap.size 95 (turC a b g' r' v' f' (nxt t)) from setRow_heap _ _ _ _ _ _ HT3.out)
  have HB4 := Lib.hid (show Below w.heap.size w (w3.setRow w2.heap.size (turC a b g' r' v' f' (nxt t))) from below_setRow HB3.out (by have := HZ2.out; omega) _)
  generalize hw4 : w3.setRow w2.heap.size (turC a b g' r' v' f' (nxt t)) = w4 at *
  clear hw4 hk4
  obtain ⟨c0, c1, c2, c3, c4, c5, c6⟩ : _ ∧ _ ∧ _ ∧ _ ∧ _ ∧ _ ∧ _ := ⟨HT4.out.cell 0, HT4.out.cell 1, HT4.out.cell 2, HT4.out.cell 3, HT4.out.cell 4, HT4.out.cell 5, HT4.out.cell 6⟩
  simp only [List.getElem?_toArray, List.getElem?_cons_zero, List.getElem?_cons_succ] at c0 c1 c2 c3 c4 c5 c6
  go_wp2_with fail
  clear c0 c1 c2 c3 c4 c5 c6
  refine (HBK.out _).mono ?_
  rintro e w5 ⟨rfl, hb⟩
  obtain ⟨w6, hw6⟩ : ∃ w6, w6 = w5.alloc (.cells (cells8 sl) 26) := ⟨_, rfl⟩
  have HW6 := Lib.hid hw6
  have HS6 := Lib.hid (show Blk w6 p 112 (stoC a b g r v f t d) by rw [hw6]; exact (HS4.out.below hb HS4.out.lt).alloc _)
  have HG6 := Lib.hid (show Blk w6 w.heap.size 24 (supC a b g' r' v' f') by rw [hw6]; exact (HG4.out.below hb HG4.out.lt).alloc _)
  have HT6 := Lib.hid (show Blk w6 w2.heap.size 95 (turC a b g' r' v' f' (nxt t)) by rw [hw6]; exact (HT4.out.below hb HT4.out.lt).alloc _)
  have HV6 := Lib.hid (show ArrB w6 w5.heap.size sl by rw [hw6]; exact Blk.new w5 _ _)
  have HB6 := Lib.hid (show Below w.heap.size w w6 by rw [hw6]; exact (HB4.out.trans (hb.mono HB4.out.size)).alloc (Nat.le_trans HB4.out.size hb.size) _)
  have HZ5 := Lib.hid (show w2.heap.size < w5.heap.size from Nat.lt_of_lt_of_le HT4.out.lt hb.size)
  clear hb hw6
  have s0 := HS6.out.cell 0
  have s1 := HS6.out.cell 1
  have q0 := HG6.out.cell 0
  have q1 := HG6.out.cell 1
  simp only [List.getElem?_toArray, List.getElem?_cons_zero, List.getElem?_cons_succ] at s0 s1 q0 q1
  go_wp2_with (first
    | (refine wpList_alloc_blk rfl rfl ?_)
    | (refine wpList_store_new (.tmp 6) (.tmp 22) rfl rfl w5 sl rfl rfl (noughts 64) rfl (noughts_length 64) HSL.out ?_; rw [← HW6.out]))
  have n0 : (a != a) = false := by simp [bne]
  have n1 : (b != b) = false := by simp [bne]
  go_quiet (fail)
  clear s0 s1 q0 q1 n0 n1
  go_wp2
  have HS7 := Lib.hid (show Blk (w6.drewN nq) p 112 (stoC a b g r v f t d) from HS6.out)
  have HG7 := Lib.hid (show Blk (w6.drewN nq) w.heap.size 24 (supC a b g' r' v' f') from HG6.out)
  have HT7 := Lib.hid (show Blk (w6.drewN nq) w2.heap.size 95 (turC a b g' r' v' f' (nxt t)) from HT6.out)
  have HV7 := Lib.hid (show ArrB (w6.drewN nq) w5.heap.size sl from HV6.out)
  have HB7 := Lib.hid (show Below w.heap.size w (w6.drewN nq) from below_drewN HB6.out _)
  generalize hw7 : w6.drewN nq = w7 at *
  clear hw7
  have hr1 : w7.rangeAt p 0 (supC a b g r v f).toList := fun j u hu => by
    rw [Nat.zero_add, HS7.out.cell j]
    match j, hu with
    | 0, hu | 1, hu | 2, hu | 3, hu | 4, hu | 5, hu => simpa [supC, stoC] using hu
    | (m + 6), hu => simp [supC] at hu
  have hr2 : w7.rangeAt w.heap.size 0 (supC a b g' r' v' f').toList := Blk.rangeL (cs := (supC a b g' r' v' f').toList) HG7.out
  have hu24 := Try.underlying24
  have hs24 : ∀ a b g r v f, (Try.prog.info? 24).map (·.size) = some (supC a b g r v f).toList.length := fun a b g r v f => size_sup
  refine wp_region_noPanic ?_
  refine Tillst.region (fun W => W.rangeAt p 0 (supC a b g r v f).toList ∧ W.rangeAt w.heap.size 0 (supC a b g' r' v' f').toList) [] (by kernel_rfl) ⟨hr1, hr2⟩ (fun hHeld => ?_)
  refine Tillst.take (i := 0) (oi := sa0) (v := ?_) rfl (by kernel_rfl) (by kernel_rfl) (by kernel_rfl) (by kernel_rfl) (fun _ _ _ h => h) (by rfl) ?_ hHeld ?_
  rotate_left
  · intro W hSW; (try dsimp only at hSW); unfold sa0; go_simp; with_reducible rfl
  simp only [sa0, Act.put, List.setIfInBounds_toArray, List.set_cons_zero, List.set_cons_succ]
  refine Tillst.take (i := 1) (oi := sa1) (v := ?_) rfl (by kernel_rfl) (by kernel_rfl) (by kernel_rfl) (by kernel_rfl) (fun _ _ _ h => h) (by rfl) ?_ hHeld ?_
  rotate_left
  · intro W hSW; (try dsimp only at hSW); unfold sa1; go_simp; with_reducible rfl
  simp only [sa1, Act.put, List.setIfInBounds_toArray, List.set_cons_zero, List.set_cons_succ]
  refine Tillst.take (i := 2) (oi := sa2) (v := ?_) rfl (by kernel_rfl) (by kernel_rfl) (by kernel_rfl) (by kernel_rfl) (fun _ _ _ h => h) (by rfl) ?_ hHeld ?_
  rotate_left
  · intro W hSW; (try dsimp only at hSW); unfold sa2; go_simp; with_reducible rfl
  simp only [sa2, Act.put, List.setIfInBounds_toArray, List.set_cons_zero, List.set_cons_succ]
  refine Tillst.take (i := 3) (oi := sa3) (v := ?_) rfl (by kernel_rfl) (by kernel_rfl) (by kernel_rfl) (by kernel_rfl) (fun _ _ _ h => h) (by rfl) ?_ hHeld ?_
  rotate_left
  · intro W hSW; (try dsimp only at hSW); unfold sa3; go_simp; with_reducible rfl
  simp only [sa3, Act.put, List.setIfInBounds_toArray, List.set_cons_zero, List.set_cons_succ]
  refine Tillst.take (i := 4) (oi := sa4) (v := ?_) rfl (by kernel_rfl) (by kernel_rfl) (by kernel_rfl) (by kernel_rfl) (fun _ _ _ h => h) (by rfl) ?_ hHeld ?_
  rotate_left
  · intro W hSW; refine exec_load_row (.tmp 53) 24 ?_ p 0 ?_ (supC a b g r v f).toList _ hu24 rfl (hs24 _ _ _ _ _ _) hSW.1 <;> rfl
  simp only [sa4, Act.put, List.setIfInBounds_toArray, List.set_cons_zero, List.set_cons_succ]
  refine Tillst.take (i := 5) (oi := sa5) (v := ?_) rfl (by kernel_rfl) (by kernel_rfl) (by kernel_rfl) (by kernel_rfl) (fun _ _ _ h => h) (by rfl) ?_ hHeld ?_
  rotate_left
  · intro W hSW; refine exec_load_row (.tmp 3) 24 ?_ w.heap.size 0 ?_ (supC a b g' r' v' f').toList _ hu24 rfl (hs24 _ _ _ _ _ _) hSW.2 <;> rfl
  simp only [sa5, Act.put, List.setIfInBounds_toArray, List.set_cons_zero, List.set_cons_succ]
  refine Tillst.one (i := 6) (o := sa6) (by kernel_rfl) rfl ?_
  intro K hK
  refine step_call 76 #[.tmp 54, .tmp 55] #[24, 24] rfl rfl Try.func76 rfl rfl [.agg (supC a b g r v f), .agg (supC a b g' r' v' f')] rfl ?_
  refine (back_any a b g r v f a b g' r' v' f' w7.drew).mono ?_
  rintro e w8 ⟨rfl, hb⟩
  rw [HBKS.out]
  have hb8 : Below w7.heap.size w7 w8 := (Below.refl _ _).drew.trans hb
  have HS8 := Lib.hid (HS7.out.below hb8 HS7.out.lt)
  have HG8 := Lib.hid (HG7.out.below hb8 HG7.out.lt)
  have HT8 := Lib.hid (HT7.out.below hb8 HT7.out.lt)
  have HV8 := Lib.hid (show ArrB w8 w5.heap.size sl from Arr.below HV7.out hb8 HV7.out.lt)
  have HB8 := Lib.hid (HB7.out.trans (hb8.mono HB7.out.size))
  have hS := And.intro (range_below hr1 hb8 HS7.out.lt) (range_below hr2 hb8 HG7.out.lt)
  clear hb hb8 hr1 hr2
  refine ⟨_, rfl, ?_⟩
  simp only [sa6, Act.put, List.setIfInBounds_toArray, List.set_cons_zero, List.set_cons_succ]
  refine hK.out _ _ (fun _ => hS) (fun hHeld => ?_)
  replace hHeld := hHeld (by decide)
  clear hK K hS
  refine Tillst.one (i := 7) (o := sa7) (by kernel_rfl) rfl ?_
  intro K hK
  refine step_value ?_ rfl ?_ ?_
  rotate_left
  · unfold sa7; go_simp; with_reducible rfl
  simp only [sa7, Act.put, List.setIfInBounds_toArray, List.set_cons_zero, List.set_cons_succ]
  refine hK.out _ _ (fun _ => hHeld) (fun hHeld => ?_)
  replace hHeld := hHeld (by decide)
  clear hK K
  refine Tillst.done (by kernel_rfl) ?_ _
  refine NoPanic.normal ?_
  clear hHeld hu24 hs24
  go_wp2
  go_ret
  exact ⟨rfl, HST.out.below HB8.out, Kept.of_below HB8.out HX.out⟩

set_option maxHeartbeats 2000000 in
set_option maxRecDepth 100000 in
theorem set_go {w : World} {X : Nat → Prop} {p d n : Nat} {a b g r v f t : Int} {k : Dk} (hs : StoreM w X p d n a b g r v f t k) (hX : ∀ c, X c → c < w.heap.size) (g' r' v' f' : Int) (h : MayS a b g' r') (hin : InS a b g' r' v' f') (hbk : ¬ BackS g r v f g' r' v' f') (hn : 2 ≤ n) (hp : k.pend.length ≤ 1000000) (h0 : k.wre = 0) (h1 : (k.wr (Dk.put (secOf t) (supL a b g' r' v' f' (nxt t)))).wre = 0) :
    Calls Try.prog 23 #[.pointer (some ⟨p, 0, none⟩), .agg (supC a b g' r' v' f')] w fun e w' => e = .returned (.int .i64 0) ∧ StoreM w' X p d n a b g' r' v' f' (nxt t) ((k.wr (Dk.put (secOf t) (supL a b g' r' v' f' (nxt t)))).wr Dk.sync) ∧ Kept X w w' := by
  obtain ⟨hblk, hd, hxp⟩ := hs
  have hpl := hblk.lt
  have HBKS := Lib.hid (show decide (BackS g r v f g' r' v' f') = false from decide_eq_false hbk)
  clear hbk
  have HSEC := Lib.hid (secOf_eq t)
  have HN := Lib.hid hn
  have HP := Lib.hid hp
  clear hn hp
  have HST := Lib.hid (show StoreM w X p d n a b g r v f t k from ⟨hblk, hd, hxp⟩)
  have hsl := supL_length a b g' r' v' f' (nxt t)
  have hsb := supL_bytes a b g' r' v' f' (nxt t)
  have HBK := Lib.hid (fun u => block_ok a b g' r' v' f' (nxt t) u h hin (nxt_in t))
  generalize supL a b g' r' v' f' (nxt t) = sl at *
  have HSL := Lib.hid hsl
  have HSB := Lib.hid hsb
  clear h hin hsl hsb
  have H0 := Lib.hid h0
  have H1 := Lib.hid h1
  clear h0 h1
  have HX := Lib.hid hX
  have HXP := Lib.hid hxp
  have HPL := Lib.hid hpl
  have HS1 := Lib.hid (hblk.alloc (.cells (supC a b g' r' v' f') 24))
  have HG1 := Lib.hid (show Blk (w.alloc (.cells (supC a b g' r' v' f') 24)) w.heap.size 24 (supC a b g' r' v' f') from Blk.new w _ _)
  have HB1 := Lib.hid (show Below w.heap.size w (w.alloc (.cells (supC a b g' r' v' f') 24)) from (Below.refl _ _).alloc (Nat.le_refl _) _)
  have HD := Lib.hid hd
  obtain ⟨s0, s1, s2, s3, s4, s5, s6⟩ : _ ∧ _ ∧ _ ∧ _ ∧ _ ∧ _ ∧ _ := ⟨HS1.out.cell 0, HS1.out.cell 1, HS1.out.cell 2, HS1.out.cell 3, HS1.out.cell 4, HS1.out.cell 5, HS1.out.cell 6⟩
  simp only [List.getElem?_toArray, List.getElem?_cons_zero, List.getElem?_cons_succ] at s0 s1 s2 s3 s4 s5 s6
  clear hblk hd hxp hX hpl
  go_enter Try.func23, Try.ntmps23
  go_wp2_with fail
  clear s0 s1 s2 s3 s4 s5 s6
  generalize hw1 : w.alloc (.cells (supC a b g' r' v' f') 24) = w1 at *
  clear hw1
  refine (next_any a b g r v f t _).mono ?_
  rintro e w2 ⟨rfl, hb⟩
  have HS2 := Lib.hid (HS1.out.below hb HS1.out.lt)
  have HG2 := Lib.hid (HG1.out.below hb HG1.out.lt)
  have HB2 := Lib.hid (HB1.out.trans (hb.mono HB1.out.size))
  have HZ2 := Lib.hid (show w.heap.size < w2.heap.size from HG2.out.lt)
  clear hb
  go_upto_region 4 with fail
  have HS3 := Lib.hid (HS2.out.alloc (.cells (turC a b g r v f (nxt t)) 95))
  have HG3 := Lib.hid (HG2.out.alloc (.cells (turC a b g r v f (nxt t)) 95))
  have HT3 := Lib.hid (show Blk (w2.alloc (.cells (turC a b g r v f (nxt t)) 95)) w2.heap.size 95 (turC a b g r v f (nxt t)) from Blk.new w2 _ _)
  have HB3 := Lib.hid (HB2.out.alloc HB2.out.size (.cells (turC a b g r v f (nxt t)) 95))
  generalize hw3 : w2.alloc (.cells (turC a b g r v f (nxt t)) 95) = w3 at *
  clear hw3
  obtain ⟨q0, q1, q2, q3, q4, q5⟩ : _ ∧ _ ∧ _ ∧ _ ∧ _ ∧ _ := ⟨HG3.out.cell 0, HG3.out.cell 1, HG3.out.cell 2, HG3.out.cell 3, HG3.out.cell 4, HG3.out.cell 5⟩
  simp only [List.getElem?_toArray, List.getElem?_cons_zero, List.getElem?_cons_succ] at q0 q1 q2 q3 q4 q5
  have hzs : ∀ w, (sizeOf 24).run Try.prog w = .ok 6 w := Try.sizeOf24
  have HZS := Lib.hid hzs
  have he : (List.take 0 (turC a b g r v f (nxt t)).toList ++ (supC a b g' r' v' f').toList ++ List.drop (0 + 6) (turC a b g r v f (nxt t)).toList).toArray = turC a b g' r' v' f' (nxt t) := by simp [supC, turC]
  have HE := Lib.hid he
  clear hzs he
  go_upto_region 5 with (refine wpList_store_part (.tmp 18) (.tmp 17) 24 rfl rfl HZS.out w2.heap.size 0 (supC a b g' r' v' f').toList rfl rfl 95 (turC a b g r v f (nxt t)).toList HT3.out rfl (by intro u hu; simp [supC] at hu; rcases hu with rfl | rfl | rfl | rfl | rfl | rfl <;> rfl) (by simp [turC]) ?_; rw [HE.out])
  clear q0 q1 q2 q3 q4 q5
  have hk4 : Kept (fun c => c ≠ w2.heap.size) w3 (w3.setRow w2.heap.size (turC a b g' r' v' f' (nxt t))) := (Kept.refl _ w3).setRow (fun h => h rfl) _
  have HS4 := Lib.hid (HS3.out.kept hk4 (by have := HZ2.out; have := HPL.out; omega))
  have HG4 := Lib.hid (HG3.out.kept hk4 (by have := HZ2.out; omega))
  have HT4 := Lib.hid (show Blk (w3.setRow w2.heap.size (turC a b g' r' v' f' (nxt t))) w2.heap.size 95 (turC a b g' r' v' f' (nxt t)) from setRow_heap _ _ _ _ _ _ HT3.out)
  have HB4 := Lib.hid (show Below w.heap.size w (w3.setRow w2.heap.size (turC a b g' r' v' f' (nxt t))) from below_setRow HB3.out (by have := HZ2.out; omega) _)
  generalize hw4 : w3.setRow w2.heap.size (turC a b g' r' v' f' (nxt t)) = w4 at *
  clear hw4 hk4
  obtain ⟨c0, c1, c2, c3, c4, c5, c6⟩ : _ ∧ _ ∧ _ ∧ _ ∧ _ ∧ _ ∧ _ := ⟨HT4.out.cell 0, HT4.out.cell 1, HT4.out.cell 2, HT4.out.cell 3, HT4.out.cell 4, HT4.out.cell 5, HT4.out.cell 6⟩
  simp only [List.getElem?_toArray, List.getElem?_cons_zero, List.getElem?_cons_succ] at c0 c1 c2 c3 c4 c5 c6
  go_wp2_with fail
  clear c0 c1 c2 c3 c4 c5 c6
  refine (HBK.out _).mono ?_
  rintro e w5 ⟨rfl, hb⟩
  obtain ⟨w6, hw6⟩ : ∃ w6, w6 = w5.alloc (.cells (cells8 sl) 26) := ⟨_, rfl⟩
  have HW6 := Lib.hid hw6
  have HS6 := Lib.hid (show Blk w6 p 112 (stoC a b g r v f t d) by rw [hw6]; exact (HS4.out.below hb HS4.out.lt).alloc _)
  have HG6 := Lib.hid (show Blk w6 w.heap.size 24 (supC a b g' r' v' f') by rw [hw6]; exact (HG4.out.below hb HG4.out.lt).alloc _)
  have HT6 := Lib.hid (show Blk w6 w2.heap.size 95 (turC a b g' r' v' f' (nxt t)) by rw [hw6]; exact (HT4.out.below hb HT4.out.lt).alloc _)
  have HV6 := Lib.hid (show ArrB w6 w5.heap.size sl by rw [hw6]; exact Blk.new w5 _ _)
  have HB6 := Lib.hid (show Below w.heap.size w w6 by rw [hw6]; exact (HB4.out.trans (hb.mono HB4.out.size)).alloc (Nat.le_trans HB4.out.size hb.size) _)
  have HZ5 := Lib.hid (show w2.heap.size < w5.heap.size from Nat.lt_of_lt_of_le HT4.out.lt hb.size)
  clear hb hw6
  have s0 := HS6.out.cell 0
  have s1 := HS6.out.cell 1
  have q0 := HG6.out.cell 0
  have q1 := HG6.out.cell 1
  simp only [List.getElem?_toArray, List.getElem?_cons_zero, List.getElem?_cons_succ] at s0 s1 q0 q1
  go_wp2_with (first
    | (refine wpList_alloc_blk rfl rfl ?_)
    | (refine wpList_store_new (.tmp 6) (.tmp 22) rfl rfl w5 sl rfl rfl (noughts 64) rfl (noughts_length 64) HSL.out ?_; rw [← HW6.out]))
  have n0 : (a != a) = false := by simp [bne]
  have n1 : (b != b) = false := by simp [bne]
  go_quiet (fail)
  clear s0 s1 q0 q1 n0 n1
  go_wp2
  have HS7 := Lib.hid (show Blk (w6.drewN nq) p 112 (stoC a b g r v f t d) from HS6.out)
  have HG7 := Lib.hid (show Blk (w6.drewN nq) w.heap.size 24 (supC a b g' r' v' f') from HG6.out)
  have HT7 := Lib.hid (show Blk (w6.drewN nq) w2.heap.size 95 (turC a b g' r' v' f' (nxt t)) from HT6.out)
  have HV7 := Lib.hid (show ArrB (w6.drewN nq) w5.heap.size sl from HV6.out)
  have HB7 := Lib.hid (show Below w.heap.size w (w6.drewN nq) from below_drewN HB6.out _)
  generalize hw7 : w6.drewN nq = w7 at *
  clear hw7
  have hr1 : w7.rangeAt p 0 (supC a b g r v f).toList := fun j u hu => by
    rw [Nat.zero_add, HS7.out.cell j]
    match j, hu with
    | 0, hu | 1, hu | 2, hu | 3, hu | 4, hu | 5, hu => simpa [supC, stoC] using hu
    | (m + 6), hu => simp [supC] at hu
  have hr2 : w7.rangeAt w.heap.size 0 (supC a b g' r' v' f').toList := Blk.rangeL (cs := (supC a b g' r' v' f').toList) HG7.out
  have hu24 := Try.underlying24
  have hs24 : ∀ a b g r v f, (Try.prog.info? 24).map (·.size) = some (supC a b g r v f).toList.length := fun a b g r v f => size_sup
  refine wp_region_noPanic ?_
  refine Tillst.region (fun W => W.rangeAt p 0 (supC a b g r v f).toList ∧ W.rangeAt w.heap.size 0 (supC a b g' r' v' f').toList) [] (by kernel_rfl) ⟨hr1, hr2⟩ (fun hHeld => ?_)
  refine Tillst.take (i := 0) (oi := sa0) (v := ?_) rfl (by kernel_rfl) (by kernel_rfl) (by kernel_rfl) (by kernel_rfl) (fun _ _ _ h => h) (by rfl) ?_ hHeld ?_
  rotate_left
  · intro W hSW; (try dsimp only at hSW); unfold sa0; go_simp; with_reducible rfl
  simp only [sa0, Act.put, List.setIfInBounds_toArray, List.set_cons_zero, List.set_cons_succ]
  refine Tillst.take (i := 1) (oi := sa1) (v := ?_) rfl (by kernel_rfl) (by kernel_rfl) (by kernel_rfl) (by kernel_rfl) (fun _ _ _ h => h) (by rfl) ?_ hHeld ?_
  rotate_left
  · intro W hSW; (try dsimp only at hSW); unfold sa1; go_simp; with_reducible rfl
  simp only [sa1, Act.put, List.setIfInBounds_toArray, List.set_cons_zero, List.set_cons_succ]
  refine Tillst.take (i := 2) (oi := sa2) (v := ?_) rfl (by kernel_rfl) (by kernel_rfl) (by kernel_rfl) (by kernel_rfl) (fun _ _ _ h => h) (by rfl) ?_ hHeld ?_
  rotate_left
  · intro W hSW; (try dsimp only at hSW); unfold sa2; go_simp; with_reducible rfl
  simp only [sa2, Act.put, List.setIfInBounds_toArray, List.set_cons_zero, List.set_cons_succ]
  refine Tillst.take (i := 3) (oi := sa3) (v := ?_) rfl (by kernel_rfl) (by kernel_rfl) (by kernel_rfl) (by kernel_rfl) (fun _ _ _ h => h) (by rfl) ?_ hHeld ?_
  rotate_left
  · intro W hSW; (try dsimp only at hSW); unfold sa3; go_simp; with_reducible rfl
  simp only [sa3, Act.put, List.setIfInBounds_toArray, List.set_cons_zero, List.set_cons_succ]
  refine Tillst.take (i := 4) (oi := sa4) (v := ?_) rfl (by kernel_rfl) (by kernel_rfl) (by kernel_rfl) (by kernel_rfl) (fun _ _ _ h => h) (by rfl) ?_ hHeld ?_
  rotate_left
  · intro W hSW; refine exec_load_row (.tmp 53) 24 ?_ p 0 ?_ (supC a b g r v f).toList _ hu24 rfl (hs24 _ _ _ _ _ _) hSW.1 <;> rfl
  simp only [sa4, Act.put, List.setIfInBounds_toArray, List.set_cons_zero, List.set_cons_succ]
  refine Tillst.take (i := 5) (oi := sa5) (v := ?_) rfl (by kernel_rfl) (by kernel_rfl) (by kernel_rfl) (by kernel_rfl) (fun _ _ _ h => h) (by rfl) ?_ hHeld ?_
  rotate_left
  · intro W hSW; refine exec_load_row (.tmp 3) 24 ?_ w.heap.size 0 ?_ (supC a b g' r' v' f').toList _ hu24 rfl (hs24 _ _ _ _ _ _) hSW.2 <;> rfl
  simp only [sa5, Act.put, List.setIfInBounds_toArray, List.set_cons_zero, List.set_cons_succ]
  refine Tillst.one (i := 6) (o := sa6) (by kernel_rfl) rfl ?_
  intro K hK
  refine step_call 76 #[.tmp 54, .tmp 55] #[24, 24] rfl rfl Try.func76 rfl rfl [.agg (supC a b g r v f), .agg (supC a b g' r' v' f')] rfl ?_
  refine (back_any a b g r v f a b g' r' v' f' w7.drew).mono ?_
  rintro e w8 ⟨rfl, hb⟩
  rw [HBKS.out]
  have hb8 : Below w7.heap.size w7 w8 := (Below.refl _ _).drew.trans hb
  have HS8 := Lib.hid (HS7.out.below hb8 HS7.out.lt)
  have HG8 := Lib.hid (HG7.out.below hb8 HG7.out.lt)
  have HT8 := Lib.hid (HT7.out.below hb8 HT7.out.lt)
  have HV8 := Lib.hid (show ArrB w8 w5.heap.size sl from Arr.below HV7.out hb8 HV7.out.lt)
  have HB8 := Lib.hid (HB7.out.trans (hb8.mono HB7.out.size))
  have hS := And.intro (range_below hr1 hb8 HS7.out.lt) (range_below hr2 hb8 HG7.out.lt)
  clear hb hb8 hr1 hr2
  refine ⟨_, rfl, ?_⟩
  simp only [sa6, Act.put, List.setIfInBounds_toArray, List.set_cons_zero, List.set_cons_succ]
  refine hK.out _ _ (fun _ => hS) (fun hHeld => ?_)
  replace hHeld := hHeld (by decide)
  clear hK K hS
  refine Tillst.one (i := 7) (o := sa7) (by kernel_rfl) rfl ?_
  intro K hK
  refine step_value ?_ rfl ?_ ?_
  rotate_left
  · unfold sa7; go_simp; with_reducible rfl
  simp only [sa7, Act.put, List.setIfInBounds_toArray, List.set_cons_zero, List.set_cons_succ]
  refine hK.out _ _ (fun _ => hHeld) (fun hHeld => ?_)
  replace hHeld := hHeld (by decide)
  clear hK K
  refine Tillst.done (by kernel_rfl) ?_ _
  refine NoPanic.normal ?_
  clear hHeld hu24 hs24
  go_wp2
  have hr1 : w8.rangeAt w2.heap.size 0 (turC a b g' r' v' f' (nxt t)).toList := Blk.rangeL (cs := (turC a b g' r' v' f' (nxt t)).toList) HT8.out
  have hr2 := HV8.out.range
  have hc7 : w8.cell? ⟨p, 7, none⟩ = some (.pointer (some ⟨d, 0, none⟩)) := HS8.out.cell 7
  have hu65 := Try.underlying95
  have hu26 := Try.underlying26
  have hs65 : (Try.prog.info? 95).map (·.size) = some (turC a b g' r' v' f' (nxt t)).toList.length := size_tur
  have hs26 : (Try.prog.info? 26).map (·.size) = some (sl.map (Value.int .u8)).length := by rw [size_blk, List.length_map, HSL.out]
  refine wp_region_noPanic ?_
  refine Tillst.region (fun W => W.cell? ⟨p, 7, none⟩ = some (.pointer (some ⟨d, 0, none⟩)) ∧ W.rangeAt w2.heap.size 0 (turC a b g' r' v' f' (nxt t)).toList ∧ W.rangeAt w5.heap.size 0 (sl.map (Value.int .u8))) [] (by kernel_rfl) ⟨hc7, hr1, hr2⟩ (fun hHeld => ?_)
  refine Tillst.take (i := 0) (oi := sb0) (v := ?_) rfl (by kernel_rfl) (by kernel_rfl) (by kernel_rfl) (by kernel_rfl) (fun _ _ _ h => h) (by rfl) ?_ hHeld ?_
  rotate_left
  · intro W hSW; (try dsimp only at hSW); unfold sb0; go_simp; with_reducible rfl
  simp only [sb0, Act.put, List.setIfInBounds_toArray, List.set_cons_zero, List.set_cons_succ]
  refine Tillst.take (i := 1) (oi := sb1) (v := ?_) rfl (by kernel_rfl) (by kernel_rfl) (by kernel_rfl) (by kernel_rfl) (fun _ _ _ h => h) (by rfl) ?_ hHeld ?_
  rotate_left
  · intro W hSW; (try dsimp only at hSW); unfold sb1; go_simp; with_reducible rfl
  simp only [sb1, Act.put, List.setIfInBounds_toArray, List.set_cons_zero, List.set_cons_succ]
  refine Tillst.take (i := 2) (oi := sb2) (v := ?_) rfl (by kernel_rfl) (by kernel_rfl) (by kernel_rfl) (by kernel_rfl) (fun _ _ _ h => h) (by rfl) ?_ hHeld ?_
  rotate_left
  · intro W hSW; (try dsimp only at hSW); unfold sb2; go_simp; with_reducible rfl
  simp only [sb2, Act.put, List.setIfInBounds_toArray, List.set_cons_zero, List.set_cons_succ]
  refine Tillst.take (i := 3) (oi := sb3) (v := ?_) rfl (by kernel_rfl) (by kernel_rfl) (by kernel_rfl) (by kernel_rfl) (fun _ _ _ h => h) (by rfl) ?_ hHeld ?_
  rotate_left
  · intro W hSW; have hc := hSW.1; unfold sb3; go_simp; with_reducible rfl
  simp only [sb3, Act.put, List.setIfInBounds_toArray, List.set_cons_zero, List.set_cons_succ]
  refine Tillst.take (i := 4) (oi := sb4) (v := ?_) rfl (by kernel_rfl) (by kernel_rfl) (by kernel_rfl) (by kernel_rfl) (fun _ _ _ h => h) (by rfl) ?_ hHeld ?_
  rotate_left
  · intro W hSW; refine exec_load_row (.tmp 5) 95 ?_ w2.heap.size 0 ?_ (turC a b g' r' v' f' (nxt t)).toList _ hu65 rfl hs65 hSW.2.1 <;> rfl
  simp only [sb4, Act.put, List.setIfInBounds_toArray, List.set_cons_zero, List.set_cons_succ]
  refine Tillst.take (i := 6) (oi := sb6) (v := ?_) rfl (by kernel_rfl) (by kernel_rfl) (by kernel_rfl) (by kernel_rfl) (fun _ _ _ h => h) (by rfl) ?_ hHeld ?_
  rotate_left
  · intro W hSW; refine exec_load_row (.tmp 6) 26 ?_ w5.heap.size 0 ?_ (sl.map (Value.int .u8)) _ hu26 rfl hs26 hSW.2.2 <;> rfl
  simp only [sb6, Act.put, List.setIfInBounds_toArray, List.set_cons_zero, List.set_cons_succ]
  refine Tillst.one (i := 5) (o := sb5) (by kernel_rfl) rfl ?_
  intro K hK
  refine step_call 73 #[.tmp 61] #[95] rfl rfl Try.func73 rfl rfl [.agg (turC a b g' r' v' f' (nxt t))] rfl ?_
  refine (sector_any a b g' r' v' f' (nxt t) w8.drew (nxt_in t).1 (nxt_in t).2).mono ?_
  rintro e w9 ⟨rfl, hb⟩
  rw [HSEC.out]
  have hb9 : Below w8.heap.size w8 w9 := (Below.refl _ _).drew.trans hb
  have HS9 := Lib.hid (HS8.out.below hb9 HS8.out.lt)
  have HT9 := Lib.hid (HT8.out.below hb9 HT8.out.lt)
  have HV9 := Lib.hid (show ArrB w9 w5.heap.size sl from Arr.below HV8.out hb9 HV8.out.lt)
  have HB9 := Lib.hid (HB8.out.trans (hb9.mono HB8.out.size))
  have HZ9 := Lib.hid (show w5.heap.size < w9.heap.size from HV9.out.lt)
  have HD9 := Lib.hid (show DiskM w9 (fun c => X c ∨ c = p ∨ c = w2.heap.size ∨ c = w5.heap.size) d n k from HD.out.below HB9.out (fun c hc h => by rcases h with h | h | h | h; exact .inl h; exact .inr h; have := HZ2.out; omega; have := HZ2.out; have := HZ5.out; omega))
  have hS := And.intro (show w9.cell? ⟨p, 7, none⟩ = some (.pointer (some ⟨d, 0, none⟩)) from HS9.out.cell 7) (And.intro (Blk.rangeL (cs := (turC a b g' r' v' f' (nxt t)).toList) HT9.out) HV9.out.range)
  clear hb hb9 hr1 hr2 hc7
  refine ⟨_, rfl, ?_⟩
  simp only [sb5, Act.put, List.setIfInBounds_toArray, List.set_cons_zero, List.set_cons_succ]
  refine hK.out _ _ (fun _ => hS) (fun hHeld => ?_)
  replace hHeld := hHeld (by decide)
  clear hK K hS
  refine Tillst.one (i := 7) (o := sb7) (by kernel_rfl) rfl ?_
  intro K hK
  refine step_call 72 #[.tmp 60, .tmp 62, .tmp 63] #[39, 3, 26] rfl rfl Try.func72 rfl rfl [.pointer (some ⟨d, 0, none⟩), .int .i64 (secOf t : Nat), .agg (cells8 sl)] rfl ?_
  refine (write_k HD9.out (fun c h => by rcases h with h | h | h | h; exact Nat.lt_of_lt_of_le (HX.out c h) HB9.out.size; rw [h]; exact HS9.out.lt; rw [h]; exact HT9.out.lt; rw [h]; exact HV9.out.lt) (secOf t) (Nat.lt_of_lt_of_le (secOf_lt t) HN.out) sl HSL.out HSB.out HP.out).mono ?_
  rintro e wa ⟨rfl, hda, hka⟩
  rw [H0.out]
  have HDa := Lib.hid hda
  have HSa := Lib.hid (HS9.out.kept hka (.inr (.inl rfl)))
  have HTa := Lib.hid (HT9.out.kept hka (.inr (.inr (.inl rfl))))
  have HVa := Lib.hid (show ArrB wa w5.heap.size sl from Arr.kept HV9.out hka (.inr (.inr (.inr rfl))))
  have HKa := Lib.hid (show Kept X w wa from (Kept.of_below HB9.out HX.out).trans hka (fun c h => .inl h))
  have hS := And.intro (show wa.cell? ⟨p, 7, none⟩ = some (.pointer (some ⟨d, 0, none⟩)) from HSa.out.cell 7) (And.intro (Blk.rangeL (cs := (turC a b g' r' v' f' (nxt t)).toList) HTa.out) HVa.out.range)
  clear hda hka
  refine ⟨_, rfl, ?_⟩
  simp only [sb7, Act.put, List.setIfInBounds_toArray, List.set_cons_zero, List.set_cons_succ]
  refine hK.out _ _ (fun _ => hS) (fun hHeld => ?_)
  replace hHeld := hHeld (by decide)
  clear hK K hS
  refine Tillst.one (i := 8) (o := sb8) (by kernel_rfl) rfl ?_
  intro K hK
  refine step_value ?_ rfl ?_ ?_
  rotate_left
  · unfold sb8; go_simp; with_reducible rfl
  simp only [sb8, Act.put, List.setIfInBounds_toArray, List.set_cons_zero, List.set_cons_succ]
  refine hK.out _ _ (fun _ => hHeld) (fun hHeld => ?_)
  replace hHeld := hHeld (by decide)
  clear hK K
  refine Tillst.done (by kernel_rfl) ?_ _
  refine NoPanic.normal ?_
  clear hHeld hu65 hu26 hs65 hs26
  have hc7 : wa.cell? ⟨p, 7, none⟩ = some (.pointer (some ⟨d, 0, none⟩)) := HSa.out.cell 7
  go_wp2_with fail
  clear hc7
  refine (sync_k (HDa.out.mono (Y := fun c => X c ∨ c = p ∨ c = w2.heap.size) (fun c _ h => by rcases h with h | h | h; exact .inl h; exact .inr (.inl h); exact .inr (.inr (.inl h)))) (fun c h => by rcases h with h | h | h; exact Nat.lt_of_lt_of_le (HX.out c h) HKa.out.size; rw [h]; exact HSa.out.lt; rw [h]; exact HTa.out.lt)).mono ?_
  rintro e wb ⟨rfl, hdb, hkb⟩
  rw [H1.out]
  have HDb := Lib.hid hdb
  have HSb := Lib.hid (HSa.out.kept hkb (.inr (.inl rfl)))
  have HTb := Lib.hid (HTa.out.kept hkb (.inr (.inr rfl)))
  have HKb := Lib.hid (show Kept X w wb from HKa.out.trans hkb (fun c h => .inl h))
  clear hdb hkb
  obtain ⟨c0, c1, c2, c3, c4, c5, c6⟩ : _ ∧ _ ∧ _ ∧ _ ∧ _ ∧ _ ∧ _ := ⟨HTb.out.cell 0, HTb.out.cell 1, HTb.out.cell 2, HTb.out.cell 3, HTb.out.cell 4, HTb.out.cell 5, HTb.out.cell 6⟩
  simp only [List.getElem?_toArray, List.getElem?_cons_zero, List.getElem?_cons_succ] at c0 c1 c2 c3 c4 c5 c6
  have hz7 : ∀ w, (sizeOf 95).run Try.prog w = .ok 7 w := Try.sizeOf95
  have HZ7 := Lib.hid hz7
  have he7 : (List.take 0 (stoC a b g r v f t d).toList ++ (turC a b g' r' v' f' (nxt t)).toList ++ List.drop (0 + 7) (stoC a b g r v f t d).toList).toArray = stoC a b g' r' v' f' (nxt t) d := by simp [stoC, turC]
  have HE7 := Lib.hid he7
  clear hz7 he7
  go_wp2_with (refine wpList_store_part (.tmp 79) (.tmp 77) 95 rfl rfl HZ7.out p 0 (turC a b g' r' v' f' (nxt t)).toList rfl rfl 112 (stoC a b g r v f t d).toList HSb.out rfl (by intro u hu; simp [turC] at hu; rcases hu with rfl | rfl | rfl | rfl | rfl | rfl | rfl <;> rfl) (by simp [stoC]) ?_; rw [HE7.out])
  go_ret
  have hkf : Kept (fun c => c ≠ p) wb (wb.setRow p (stoC a b g' r' v' f' (nxt t) d)) := (Kept.refl _ wb).setRow (fun h => h rfl) _
  exact ⟨rfl, ⟨setRow_heap _ _ _ _ _ _ HSb.out, HDb.out.kept hkf (fun c _ h e => h (.inr (.inl e))) (fun c _ h => by rcases h with h | h; exact .inl h; exact .inr (.inl h)), HXP.out⟩, HKb.out.setRow HXP.out _⟩

set_option maxHeartbeats 2000000 in
set_option maxRecDepth 100000 in
theorem set_e1 {w : World} {X : Nat → Prop} {p d n : Nat} {a b g r v f t : Int} {k : Dk} (hs : StoreM w X p d n a b g r v f t k) (hX : ∀ c, X c → c < w.heap.size) (g' r' v' f' : Int) (h : MayS a b g' r') (hin : InS a b g' r' v' f') (hbk : ¬ BackS g r v f g' r' v' f') (hn : 2 ≤ n) (hp : k.pend.length ≤ 1000000) (er : Int) (h0 : k.wre = er) (hne : er ≠ 0) :
    Calls Try.prog 23 #[.pointer (some ⟨p, 0, none⟩), .agg (supC a b g' r' v' f')] w fun e w' => e = .returned (.int .i64 er) ∧ StoreM w' X p d n a b g r v f t (k.wr (Dk.put (secOf t) (supL a b g' r' v' f' (nxt t)))) ∧ Kept X w w' := by
  obtain ⟨hblk, hd, hxp⟩ := hs
  have hpl := hblk.lt
  have HBKS := Lib.hid (show decide (BackS g r v f g' r' v' f') = false from decide_eq_false hbk)
  clear hbk
  have HSEC := Lib.hid (secOf_eq t)
  have HN := Lib.hid hn
  have HP := Lib.hid hp
  clear hn hp
  have HST := Lib.hid (show StoreM w X p d n a b g r v f t k from ⟨hblk, hd, hxp⟩)
  have hsl := supL_length a b g' r' v' f' (nxt t)
  have hsb := supL_bytes a b g' r' v' f' (nxt t)
  have HBK := Lib.hid (fun u => block_ok a b g' r' v' f' (nxt t) u h hin (nxt_in t))
  generalize supL a b g' r' v' f' (nxt t) = sl at *
  have HSL := Lib.hid hsl
  have HSB := Lib.hid hsb
  clear h hin hsl hsb
  have HE0 := Lib.hid h0
  have HNE0 := Lib.hid (show (er != 0) = true by simpa [bne] using hne)
  clear h0 hne
  have HX := Lib.hid hX
  have HXP := Lib.hid hxp
  have HPL := Lib.hid hpl
  have HS1 := Lib.hid (hblk.alloc (.cells (supC a b g' r' v' f') 24))
  have HG1 := Lib.hid (show Blk (w.alloc (.cells (supC a b g' r' v' f') 24)) w.heap.size 24 (supC a b g' r' v' f') from Blk.new w _ _)
  have HB1 := Lib.hid (show Below w.heap.size w (w.alloc (.cells (supC a b g' r' v' f') 24)) from (Below.refl _ _).alloc (Nat.le_refl _) _)
  have HD := Lib.hid hd
  obtain ⟨s0, s1, s2, s3, s4, s5, s6⟩ : _ ∧ _ ∧ _ ∧ _ ∧ _ ∧ _ ∧ _ := ⟨HS1.out.cell 0, HS1.out.cell 1, HS1.out.cell 2, HS1.out.cell 3, HS1.out.cell 4, HS1.out.cell 5, HS1.out.cell 6⟩
  simp only [List.getElem?_toArray, List.getElem?_cons_zero, List.getElem?_cons_succ] at s0 s1 s2 s3 s4 s5 s6
  clear hblk hd hxp hX hpl
  go_enter Try.func23, Try.ntmps23
  go_wp2_with fail
  clear s0 s1 s2 s3 s4 s5 s6
  generalize hw1 : w.alloc (.cells (supC a b g' r' v' f') 24) = w1 at *
  clear hw1
  refine (next_any a b g r v f t _).mono ?_
  rintro e w2 ⟨rfl, hb⟩
  have HS2 := Lib.hid (HS1.out.below hb HS1.out.lt)
  have HG2 := Lib.hid (HG1.out.below hb HG1.out.lt)
  have HB2 := Lib.hid (HB1.out.trans (hb.mono HB1.out.size))
  have HZ2 := Lib.hid (show w.heap.size < w2.heap.size from HG2.out.lt)
  clear hb
  go_upto_region 4 with fail
  have HS3 := Lib.hid (HS2.out.alloc (.cells (turC a b g r v f (nxt t)) 95))
  have HG3 := Lib.hid (HG2.out.alloc (.cells (turC a b g r v f (nxt t)) 95))
  have HT3 := Lib.hid (show Blk (w2.alloc (.cells (turC a b g r v f (nxt t)) 95)) w2.heap.size 95 (turC a b g r v f (nxt t)) from Blk.new w2 _ _)
  have HB3 := Lib.hid (HB2.out.alloc HB2.out.size (.cells (turC a b g r v f (nxt t)) 95))
  generalize hw3 : w2.alloc (.cells (turC a b g r v f (nxt t)) 95) = w3 at *
  clear hw3
  obtain ⟨q0, q1, q2, q3, q4, q5⟩ : _ ∧ _ ∧ _ ∧ _ ∧ _ ∧ _ := ⟨HG3.out.cell 0, HG3.out.cell 1, HG3.out.cell 2, HG3.out.cell 3, HG3.out.cell 4, HG3.out.cell 5⟩
  simp only [List.getElem?_toArray, List.getElem?_cons_zero, List.getElem?_cons_succ] at q0 q1 q2 q3 q4 q5
  have hzs : ∀ w, (sizeOf 24).run Try.prog w = .ok 6 w := Try.sizeOf24
  have HZS := Lib.hid hzs
  have he : (List.take 0 (turC a b g r v f (nxt t)).toList ++ (supC a b g' r' v' f').toList ++ List.drop (0 + 6) (turC a b g r v f (nxt t)).toList).toArray = turC a b g' r' v' f' (nxt t) := by simp [supC, turC]
  have HE := Lib.hid he
  clear hzs he
  go_upto_region 5 with (refine wpList_store_part (.tmp 18) (.tmp 17) 24 rfl rfl HZS.out w2.heap.size 0 (supC a b g' r' v' f').toList rfl rfl 95 (turC a b g r v f (nxt t)).toList HT3.out rfl (by intro u hu; simp [supC] at hu; rcases hu with rfl | rfl | rfl | rfl | rfl | rfl <;> rfl) (by simp [turC]) ?_; rw [HE.out])
  clear q0 q1 q2 q3 q4 q5
  have hk4 : Kept (fun c => c ≠ w2.heap.size) w3 (w3.setRow w2.heap.size (turC a b g' r' v' f' (nxt t))) := (Kept.refl _ w3).setRow (fun h => h rfl) _
  have HS4 := Lib.hid (HS3.out.kept hk4 (by have := HZ2.out; have := HPL.out; omega))
  have HG4 := Lib.hid (HG3.out.kept hk4 (by have := HZ2.out; omega))
  have HT4 := Lib.hid (show Blk (w3.setRow w2.heap.size (turC a b g' r' v' f' (nxt t))) w2.heap.size 95 (turC a b g' r' v' f' (nxt t)) from setRow_heap _ _ _ _ _ _ HT3.out)
  have HB4 := Lib.hid (show Below w.heap.size w (w3.setRow w2.heap.size (turC a b g' r' v' f' (nxt t))) from below_setRow HB3.out (by have := HZ2.out; omega) _)
  generalize hw4 : w3.setRow w2.heap.size (turC a b g' r' v' f' (nxt t)) = w4 at *
  clear hw4 hk4
  obtain ⟨c0, c1, c2, c3, c4, c5, c6⟩ : _ ∧ _ ∧ _ ∧ _ ∧ _ ∧ _ ∧ _ := ⟨HT4.out.cell 0, HT4.out.cell 1, HT4.out.cell 2, HT4.out.cell 3, HT4.out.cell 4, HT4.out.cell 5, HT4.out.cell 6⟩
  simp only [List.getElem?_toArray, List.getElem?_cons_zero, List.getElem?_cons_succ] at c0 c1 c2 c3 c4 c5 c6
  go_wp2_with fail
  clear c0 c1 c2 c3 c4 c5 c6
  refine (HBK.out _).mono ?_
  rintro e w5 ⟨rfl, hb⟩
  obtain ⟨w6, hw6⟩ : ∃ w6, w6 = w5.alloc (.cells (cells8 sl) 26) := ⟨_, rfl⟩
  have HW6 := Lib.hid hw6
  have HS6 := Lib.hid (show Blk w6 p 112 (stoC a b g r v f t d) by rw [hw6]; exact (HS4.out.below hb HS4.out.lt).alloc _)
  have HG6 := Lib.hid (show Blk w6 w.heap.size 24 (supC a b g' r' v' f') by rw [hw6]; exact (HG4.out.below hb HG4.out.lt).alloc _)
  have HT6 := Lib.hid (show Blk w6 w2.heap.size 95 (turC a b g' r' v' f' (nxt t)) by rw [hw6]; exact (HT4.out.below hb HT4.out.lt).alloc _)
  have HV6 := Lib.hid (show ArrB w6 w5.heap.size sl by rw [hw6]; exact Blk.new w5 _ _)
  have HB6 := Lib.hid (show Below w.heap.size w w6 by rw [hw6]; exact (HB4.out.trans (hb.mono HB4.out.size)).alloc (Nat.le_trans HB4.out.size hb.size) _)
  have HZ5 := Lib.hid (show w2.heap.size < w5.heap.size from Nat.lt_of_lt_of_le HT4.out.lt hb.size)
  clear hb hw6
  have s0 := HS6.out.cell 0
  have s1 := HS6.out.cell 1
  have q0 := HG6.out.cell 0
  have q1 := HG6.out.cell 1
  simp only [List.getElem?_toArray, List.getElem?_cons_zero, List.getElem?_cons_succ] at s0 s1 q0 q1
  go_wp2_with (first
    | (refine wpList_alloc_blk rfl rfl ?_)
    | (refine wpList_store_new (.tmp 6) (.tmp 22) rfl rfl w5 sl rfl rfl (noughts 64) rfl (noughts_length 64) HSL.out ?_; rw [← HW6.out]))
  have n0 : (a != a) = false := by simp [bne]
  have n1 : (b != b) = false := by simp [bne]
  go_quiet (fail)
  clear s0 s1 q0 q1 n0 n1
  go_wp2
  have HS7 := Lib.hid (show Blk (w6.drewN nq) p 112 (stoC a b g r v f t d) from HS6.out)
  have HG7 := Lib.hid (show Blk (w6.drewN nq) w.heap.size 24 (supC a b g' r' v' f') from HG6.out)
  have HT7 := Lib.hid (show Blk (w6.drewN nq) w2.heap.size 95 (turC a b g' r' v' f' (nxt t)) from HT6.out)
  have HV7 := Lib.hid (show ArrB (w6.drewN nq) w5.heap.size sl from HV6.out)
  have HB7 := Lib.hid (show Below w.heap.size w (w6.drewN nq) from below_drewN HB6.out _)
  generalize hw7 : w6.drewN nq = w7 at *
  clear hw7
  have hr1 : w7.rangeAt p 0 (supC a b g r v f).toList := fun j u hu => by
    rw [Nat.zero_add, HS7.out.cell j]
    match j, hu with
    | 0, hu | 1, hu | 2, hu | 3, hu | 4, hu | 5, hu => simpa [supC, stoC] using hu
    | (m + 6), hu => simp [supC] at hu
  have hr2 : w7.rangeAt w.heap.size 0 (supC a b g' r' v' f').toList := Blk.rangeL (cs := (supC a b g' r' v' f').toList) HG7.out
  have hu24 := Try.underlying24
  have hs24 : ∀ a b g r v f, (Try.prog.info? 24).map (·.size) = some (supC a b g r v f).toList.length := fun a b g r v f => size_sup
  refine wp_region_noPanic ?_
  refine Tillst.region (fun W => W.rangeAt p 0 (supC a b g r v f).toList ∧ W.rangeAt w.heap.size 0 (supC a b g' r' v' f').toList) [] (by kernel_rfl) ⟨hr1, hr2⟩ (fun hHeld => ?_)
  refine Tillst.take (i := 0) (oi := sa0) (v := ?_) rfl (by kernel_rfl) (by kernel_rfl) (by kernel_rfl) (by kernel_rfl) (fun _ _ _ h => h) (by rfl) ?_ hHeld ?_
  rotate_left
  · intro W hSW; (try dsimp only at hSW); unfold sa0; go_simp; with_reducible rfl
  simp only [sa0, Act.put, List.setIfInBounds_toArray, List.set_cons_zero, List.set_cons_succ]
  refine Tillst.take (i := 1) (oi := sa1) (v := ?_) rfl (by kernel_rfl) (by kernel_rfl) (by kernel_rfl) (by kernel_rfl) (fun _ _ _ h => h) (by rfl) ?_ hHeld ?_
  rotate_left
  · intro W hSW; (try dsimp only at hSW); unfold sa1; go_simp; with_reducible rfl
  simp only [sa1, Act.put, List.setIfInBounds_toArray, List.set_cons_zero, List.set_cons_succ]
  refine Tillst.take (i := 2) (oi := sa2) (v := ?_) rfl (by kernel_rfl) (by kernel_rfl) (by kernel_rfl) (by kernel_rfl) (fun _ _ _ h => h) (by rfl) ?_ hHeld ?_
  rotate_left
  · intro W hSW; (try dsimp only at hSW); unfold sa2; go_simp; with_reducible rfl
  simp only [sa2, Act.put, List.setIfInBounds_toArray, List.set_cons_zero, List.set_cons_succ]
  refine Tillst.take (i := 3) (oi := sa3) (v := ?_) rfl (by kernel_rfl) (by kernel_rfl) (by kernel_rfl) (by kernel_rfl) (fun _ _ _ h => h) (by rfl) ?_ hHeld ?_
  rotate_left
  · intro W hSW; (try dsimp only at hSW); unfold sa3; go_simp; with_reducible rfl
  simp only [sa3, Act.put, List.setIfInBounds_toArray, List.set_cons_zero, List.set_cons_succ]
  refine Tillst.take (i := 4) (oi := sa4) (v := ?_) rfl (by kernel_rfl) (by kernel_rfl) (by kernel_rfl) (by kernel_rfl) (fun _ _ _ h => h) (by rfl) ?_ hHeld ?_
  rotate_left
  · intro W hSW; refine exec_load_row (.tmp 53) 24 ?_ p 0 ?_ (supC a b g r v f).toList _ hu24 rfl (hs24 _ _ _ _ _ _) hSW.1 <;> rfl
  simp only [sa4, Act.put, List.setIfInBounds_toArray, List.set_cons_zero, List.set_cons_succ]
  refine Tillst.take (i := 5) (oi := sa5) (v := ?_) rfl (by kernel_rfl) (by kernel_rfl) (by kernel_rfl) (by kernel_rfl) (fun _ _ _ h => h) (by rfl) ?_ hHeld ?_
  rotate_left
  · intro W hSW; refine exec_load_row (.tmp 3) 24 ?_ w.heap.size 0 ?_ (supC a b g' r' v' f').toList _ hu24 rfl (hs24 _ _ _ _ _ _) hSW.2 <;> rfl
  simp only [sa5, Act.put, List.setIfInBounds_toArray, List.set_cons_zero, List.set_cons_succ]
  refine Tillst.one (i := 6) (o := sa6) (by kernel_rfl) rfl ?_
  intro K hK
  refine step_call 76 #[.tmp 54, .tmp 55] #[24, 24] rfl rfl Try.func76 rfl rfl [.agg (supC a b g r v f), .agg (supC a b g' r' v' f')] rfl ?_
  refine (back_any a b g r v f a b g' r' v' f' w7.drew).mono ?_
  rintro e w8 ⟨rfl, hb⟩
  rw [HBKS.out]
  have hb8 : Below w7.heap.size w7 w8 := (Below.refl _ _).drew.trans hb
  have HS8 := Lib.hid (HS7.out.below hb8 HS7.out.lt)
  have HG8 := Lib.hid (HG7.out.below hb8 HG7.out.lt)
  have HT8 := Lib.hid (HT7.out.below hb8 HT7.out.lt)
  have HV8 := Lib.hid (show ArrB w8 w5.heap.size sl from Arr.below HV7.out hb8 HV7.out.lt)
  have HB8 := Lib.hid (HB7.out.trans (hb8.mono HB7.out.size))
  have hS := And.intro (range_below hr1 hb8 HS7.out.lt) (range_below hr2 hb8 HG7.out.lt)
  clear hb hb8 hr1 hr2
  refine ⟨_, rfl, ?_⟩
  simp only [sa6, Act.put, List.setIfInBounds_toArray, List.set_cons_zero, List.set_cons_succ]
  refine hK.out _ _ (fun _ => hS) (fun hHeld => ?_)
  replace hHeld := hHeld (by decide)
  clear hK K hS
  refine Tillst.one (i := 7) (o := sa7) (by kernel_rfl) rfl ?_
  intro K hK
  refine step_value ?_ rfl ?_ ?_
  rotate_left
  · unfold sa7; go_simp; with_reducible rfl
  simp only [sa7, Act.put, List.setIfInBounds_toArray, List.set_cons_zero, List.set_cons_succ]
  refine hK.out _ _ (fun _ => hHeld) (fun hHeld => ?_)
  replace hHeld := hHeld (by decide)
  clear hK K
  refine Tillst.done (by kernel_rfl) ?_ _
  refine NoPanic.normal ?_
  clear hHeld hu24 hs24
  go_wp2
  have hr1 : w8.rangeAt w2.heap.size 0 (turC a b g' r' v' f' (nxt t)).toList := Blk.rangeL (cs := (turC a b g' r' v' f' (nxt t)).toList) HT8.out
  have hr2 := HV8.out.range
  have hc7 : w8.cell? ⟨p, 7, none⟩ = some (.pointer (some ⟨d, 0, none⟩)) := HS8.out.cell 7
  have hu65 := Try.underlying95
  have hu26 := Try.underlying26
  have hs65 : (Try.prog.info? 95).map (·.size) = some (turC a b g' r' v' f' (nxt t)).toList.length := size_tur
  have hs26 : (Try.prog.info? 26).map (·.size) = some (sl.map (Value.int .u8)).length := by rw [size_blk, List.length_map, HSL.out]
  refine wp_region_noPanic ?_
  refine Tillst.region (fun W => W.cell? ⟨p, 7, none⟩ = some (.pointer (some ⟨d, 0, none⟩)) ∧ W.rangeAt w2.heap.size 0 (turC a b g' r' v' f' (nxt t)).toList ∧ W.rangeAt w5.heap.size 0 (sl.map (Value.int .u8))) [] (by kernel_rfl) ⟨hc7, hr1, hr2⟩ (fun hHeld => ?_)
  refine Tillst.take (i := 0) (oi := sb0) (v := ?_) rfl (by kernel_rfl) (by kernel_rfl) (by kernel_rfl) (by kernel_rfl) (fun _ _ _ h => h) (by rfl) ?_ hHeld ?_
  rotate_left
  · intro W hSW; (try dsimp only at hSW); unfold sb0; go_simp; with_reducible rfl
  simp only [sb0, Act.put, List.setIfInBounds_toArray, List.set_cons_zero, List.set_cons_succ]
  refine Tillst.take (i := 1) (oi := sb1) (v := ?_) rfl (by kernel_rfl) (by kernel_rfl) (by kernel_rfl) (by kernel_rfl) (fun _ _ _ h => h) (by rfl) ?_ hHeld ?_
  rotate_left
  · intro W hSW; (try dsimp only at hSW); unfold sb1; go_simp; with_reducible rfl
  simp only [sb1, Act.put, List.setIfInBounds_toArray, List.set_cons_zero, List.set_cons_succ]
  refine Tillst.take (i := 2) (oi := sb2) (v := ?_) rfl (by kernel_rfl) (by kernel_rfl) (by kernel_rfl) (by kernel_rfl) (fun _ _ _ h => h) (by rfl) ?_ hHeld ?_
  rotate_left
  · intro W hSW; (try dsimp only at hSW); unfold sb2; go_simp; with_reducible rfl
  simp only [sb2, Act.put, List.setIfInBounds_toArray, List.set_cons_zero, List.set_cons_succ]
  refine Tillst.take (i := 3) (oi := sb3) (v := ?_) rfl (by kernel_rfl) (by kernel_rfl) (by kernel_rfl) (by kernel_rfl) (fun _ _ _ h => h) (by rfl) ?_ hHeld ?_
  rotate_left
  · intro W hSW; have hc := hSW.1; unfold sb3; go_simp; with_reducible rfl
  simp only [sb3, Act.put, List.setIfInBounds_toArray, List.set_cons_zero, List.set_cons_succ]
  refine Tillst.take (i := 4) (oi := sb4) (v := ?_) rfl (by kernel_rfl) (by kernel_rfl) (by kernel_rfl) (by kernel_rfl) (fun _ _ _ h => h) (by rfl) ?_ hHeld ?_
  rotate_left
  · intro W hSW; refine exec_load_row (.tmp 5) 95 ?_ w2.heap.size 0 ?_ (turC a b g' r' v' f' (nxt t)).toList _ hu65 rfl hs65 hSW.2.1 <;> rfl
  simp only [sb4, Act.put, List.setIfInBounds_toArray, List.set_cons_zero, List.set_cons_succ]
  refine Tillst.take (i := 6) (oi := sb6) (v := ?_) rfl (by kernel_rfl) (by kernel_rfl) (by kernel_rfl) (by kernel_rfl) (fun _ _ _ h => h) (by rfl) ?_ hHeld ?_
  rotate_left
  · intro W hSW; refine exec_load_row (.tmp 6) 26 ?_ w5.heap.size 0 ?_ (sl.map (Value.int .u8)) _ hu26 rfl hs26 hSW.2.2 <;> rfl
  simp only [sb6, Act.put, List.setIfInBounds_toArray, List.set_cons_zero, List.set_cons_succ]
  refine Tillst.one (i := 5) (o := sb5) (by kernel_rfl) rfl ?_
  intro K hK
  refine step_call 73 #[.tmp 61] #[95] rfl rfl Try.func73 rfl rfl [.agg (turC a b g' r' v' f' (nxt t))] rfl ?_
  refine (sector_any a b g' r' v' f' (nxt t) w8.drew (nxt_in t).1 (nxt_in t).2).mono ?_
  rintro e w9 ⟨rfl, hb⟩
  rw [HSEC.out]
  have hb9 : Below w8.heap.size w8 w9 := (Below.refl _ _).drew.trans hb
  have HS9 := Lib.hid (HS8.out.below hb9 HS8.out.lt)
  have HT9 := Lib.hid (HT8.out.below hb9 HT8.out.lt)
  have HV9 := Lib.hid (show ArrB w9 w5.heap.size sl from Arr.below HV8.out hb9 HV8.out.lt)
  have HB9 := Lib.hid (HB8.out.trans (hb9.mono HB8.out.size))
  have HZ9 := Lib.hid (show w5.heap.size < w9.heap.size from HV9.out.lt)
  have HD9 := Lib.hid (show DiskM w9 (fun c => X c ∨ c = p ∨ c = w2.heap.size ∨ c = w5.heap.size) d n k from HD.out.below HB9.out (fun c hc h => by rcases h with h | h | h | h; exact .inl h; exact .inr h; have := HZ2.out; omega; have := HZ2.out; have := HZ5.out; omega))
  have hS := And.intro (show w9.cell? ⟨p, 7, none⟩ = some (.pointer (some ⟨d, 0, none⟩)) from HS9.out.cell 7) (And.intro (Blk.rangeL (cs := (turC a b g' r' v' f' (nxt t)).toList) HT9.out) HV9.out.range)
  clear hb hb9 hr1 hr2 hc7
  refine ⟨_, rfl, ?_⟩
  simp only [sb5, Act.put, List.setIfInBounds_toArray, List.set_cons_zero, List.set_cons_succ]
  refine hK.out _ _ (fun _ => hS) (fun hHeld => ?_)
  replace hHeld := hHeld (by decide)
  clear hK K hS
  refine Tillst.one (i := 7) (o := sb7) (by kernel_rfl) rfl ?_
  intro K hK
  refine step_call 72 #[.tmp 60, .tmp 62, .tmp 63] #[39, 3, 26] rfl rfl Try.func72 rfl rfl [.pointer (some ⟨d, 0, none⟩), .int .i64 (secOf t : Nat), .agg (cells8 sl)] rfl ?_
  refine (write_k HD9.out (fun c h => by rcases h with h | h | h | h; exact Nat.lt_of_lt_of_le (HX.out c h) HB9.out.size; rw [h]; exact HS9.out.lt; rw [h]; exact HT9.out.lt; rw [h]; exact HV9.out.lt) (secOf t) (Nat.lt_of_lt_of_le (secOf_lt t) HN.out) sl HSL.out HSB.out HP.out).mono ?_
  rintro e wa ⟨rfl, hda, hka⟩
  rw [HE0.out]
  have HDa := Lib.hid hda
  have HSa := Lib.hid (HS9.out.kept hka (.inr (.inl rfl)))
  have HTa := Lib.hid (HT9.out.kept hka (.inr (.inr (.inl rfl))))
  have HVa := Lib.hid (show ArrB wa w5.heap.size sl from Arr.kept HV9.out hka (.inr (.inr (.inr rfl))))
  have HKa := Lib.hid (show Kept X w wa from (Kept.of_below HB9.out HX.out).trans hka (fun c h => .inl h))
  have hS := And.intro (show wa.cell? ⟨p, 7, none⟩ = some (.pointer (some ⟨d, 0, none⟩)) from HSa.out.cell 7) (And.intro (Blk.rangeL (cs := (turC a b g' r' v' f' (nxt t)).toList) HTa.out) HVa.out.range)
  clear hda hka
  refine ⟨_, rfl, ?_⟩
  simp only [sb7, Act.put, List.setIfInBounds_toArray, List.set_cons_zero, List.set_cons_succ]
  refine hK.out _ _ (fun _ => hS) (fun hHeld => ?_)
  replace hHeld := hHeld (by decide)
  clear hK K hS
  refine Tillst.one (i := 8) (o := sb8) (by kernel_rfl) rfl ?_
  intro K hK
  refine step_value ?_ rfl ?_ ?_
  rotate_left
  · unfold sb8; go_simp; with_reducible rfl
  simp only [sb8, Act.put, List.setIfInBounds_toArray, List.set_cons_zero, List.set_cons_succ]
  refine hK.out _ _ (fun _ => hHeld) (fun hHeld => ?_)
  replace hHeld := hHeld (by decide)
  clear hK K
  refine Tillst.done (by kernel_rfl) ?_ _
  refine NoPanic.normal ?_
  clear hHeld hu65 hu26 hs65 hs26
  have e1 := HNE0.out
  go_wp2
  go_ret
  exact ⟨rfl, ⟨HSa.out, HDa.out.mono (fun c _ h => by rcases h with h | h; exact .inl h; exact .inr (.inl h)), HXP.out⟩, HKa.out⟩

set_option maxHeartbeats 2000000 in
set_option maxRecDepth 100000 in
theorem set_e2 {w : World} {X : Nat → Prop} {p d n : Nat} {a b g r v f t : Int} {k : Dk} (hs : StoreM w X p d n a b g r v f t k) (hX : ∀ c, X c → c < w.heap.size) (g' r' v' f' : Int) (h : MayS a b g' r') (hin : InS a b g' r' v' f') (hbk : ¬ BackS g r v f g' r' v' f') (hn : 2 ≤ n) (hp : k.pend.length ≤ 1000000) (er : Int) (h0 : k.wre = 0) (h1 : (k.wr (Dk.put (secOf t) (supL a b g' r' v' f' (nxt t)))).wre = er) (hne : er ≠ 0) :
    Calls Try.prog 23 #[.pointer (some ⟨p, 0, none⟩), .agg (supC a b g' r' v' f')] w fun e w' => e = .returned (.int .i64 er) ∧ StoreM w' X p d n a b g r v f t ((k.wr (Dk.put (secOf t) (supL a b g' r' v' f' (nxt t)))).wr Dk.sync) ∧ Kept X w w' := by
  obtain ⟨hblk, hd, hxp⟩ := hs
  have hpl := hblk.lt
  have HBKS := Lib.hid (show decide (BackS g r v f g' r' v' f') = false from decide_eq_false hbk)
  clear hbk
  have HSEC := Lib.hid (secOf_eq t)
  have HN := Lib.hid hn
  have HP := Lib.hid hp
  clear hn hp
  have HST := Lib.hid (show StoreM w X p d n a b g r v f t k from ⟨hblk, hd, hxp⟩)
  have hsl := supL_length a b g' r' v' f' (nxt t)
  have hsb := supL_bytes a b g' r' v' f' (nxt t)
  have HBK := Lib.hid (fun u => block_ok a b g' r' v' f' (nxt t) u h hin (nxt_in t))
  generalize supL a b g' r' v' f' (nxt t) = sl at *
  have HSL := Lib.hid hsl
  have HSB := Lib.hid hsb
  clear h hin hsl hsb
  have HNE1 := Lib.hid (show (er != 0) = true by simpa [bne] using hne)
  clear hne
  have H0 := Lib.hid h0
  have H1 := Lib.hid h1
  clear h0 h1
  have HX := Lib.hid hX
  have HXP := Lib.hid hxp
  have HPL := Lib.hid hpl
  have HS1 := Lib.hid (hblk.alloc (.cells (supC a b g' r' v' f') 24))
  have HG1 := Lib.hid (show Blk (w.alloc (.cells (supC a b g' r' v' f') 24)) w.heap.size 24 (supC a b g' r' v' f') from Blk.new w _ _)
  have HB1 := Lib.hid (show Below w.heap.size w (w.alloc (.cells (supC a b g' r' v' f') 24)) from (Below.refl _ _).alloc (Nat.le_refl _) _)
  have HD := Lib.hid hd
  obtain ⟨s0, s1, s2, s3, s4, s5, s6⟩ : _ ∧ _ ∧ _ ∧ _ ∧ _ ∧ _ ∧ _ := ⟨HS1.out.cell 0, HS1.out.cell 1, HS1.out.cell 2, HS1.out.cell 3, HS1.out.cell 4, HS1.out.cell 5, HS1.out.cell 6⟩
  simp only [List.getElem?_toArray, List.getElem?_cons_zero, List.getElem?_cons_succ] at s0 s1 s2 s3 s4 s5 s6
  clear hblk hd hxp hX hpl
  go_enter Try.func23, Try.ntmps23
  go_wp2_with fail
  clear s0 s1 s2 s3 s4 s5 s6
  generalize hw1 : w.alloc (.cells (supC a b g' r' v' f') 24) = w1 at *
  clear hw1
  refine (next_any a b g r v f t _).mono ?_
  rintro e w2 ⟨rfl, hb⟩
  have HS2 := Lib.hid (HS1.out.below hb HS1.out.lt)
  have HG2 := Lib.hid (HG1.out.below hb HG1.out.lt)
  have HB2 := Lib.hid (HB1.out.trans (hb.mono HB1.out.size))
  have HZ2 := Lib.hid (show w.heap.size < w2.heap.size from HG2.out.lt)
  clear hb
  go_upto_region 4 with fail
  have HS3 := Lib.hid (HS2.out.alloc (.cells (turC a b g r v f (nxt t)) 95))
  have HG3 := Lib.hid (HG2.out.alloc (.cells (turC a b g r v f (nxt t)) 95))
  have HT3 := Lib.hid (show Blk (w2.alloc (.cells (turC a b g r v f (nxt t)) 95)) w2.heap.size 95 (turC a b g r v f (nxt t)) from Blk.new w2 _ _)
  have HB3 := Lib.hid (HB2.out.alloc HB2.out.size (.cells (turC a b g r v f (nxt t)) 95))
  generalize hw3 : w2.alloc (.cells (turC a b g r v f (nxt t)) 95) = w3 at *
  clear hw3
  obtain ⟨q0, q1, q2, q3, q4, q5⟩ : _ ∧ _ ∧ _ ∧ _ ∧ _ ∧ _ := ⟨HG3.out.cell 0, HG3.out.cell 1, HG3.out.cell 2, HG3.out.cell 3, HG3.out.cell 4, HG3.out.cell 5⟩
  simp only [List.getElem?_toArray, List.getElem?_cons_zero, List.getElem?_cons_succ] at q0 q1 q2 q3 q4 q5
  have hzs : ∀ w, (sizeOf 24).run Try.prog w = .ok 6 w := Try.sizeOf24
  have HZS := Lib.hid hzs
  have he : (List.take 0 (turC a b g r v f (nxt t)).toList ++ (supC a b g' r' v' f').toList ++ List.drop (0 + 6) (turC a b g r v f (nxt t)).toList).toArray = turC a b g' r' v' f' (nxt t) := by simp [supC, turC]
  have HE := Lib.hid he
  clear hzs he
  go_upto_region 5 with (refine wpList_store_part (.tmp 18) (.tmp 17) 24 rfl rfl HZS.out w2.heap.size 0 (supC a b g' r' v' f').toList rfl rfl 95 (turC a b g r v f (nxt t)).toList HT3.out rfl (by intro u hu; simp [supC] at hu; rcases hu with rfl | rfl | rfl | rfl | rfl | rfl <;> rfl) (by simp [turC]) ?_; rw [HE.out])
  clear q0 q1 q2 q3 q4 q5
  have hk4 : Kept (fun c => c ≠ w2.heap.size) w3 (w3.setRow w2.heap.size (turC a b g' r' v' f' (nxt t))) := (Kept.refl _ w3).setRow (fun h => h rfl) _
  have HS4 := Lib.hid (HS3.out.kept hk4 (by have := HZ2.out; have := HPL.out; omega))
  have HG4 := Lib.hid (HG3.out.kept hk4 (by have := HZ2.out; omega))
  have HT4 := Lib.hid (show Blk (w3.setRow w2.heap.size (turC a b g' r' v' f' (nxt t))) w2.heap.size 95 (turC a b g' r' v' f' (nxt t)) from setRow_heap _ _ _ _ _ _ HT3.out)
  have HB4 := Lib.hid (show Below w.heap.size w (w3.setRow w2.heap.size (turC a b g' r' v' f' (nxt t))) from below_setRow HB3.out (by have := HZ2.out; omega) _)
  generalize hw4 : w3.setRow w2.heap.size (turC a b g' r' v' f' (nxt t)) = w4 at *
  clear hw4 hk4
  obtain ⟨c0, c1, c2, c3, c4, c5, c6⟩ : _ ∧ _ ∧ _ ∧ _ ∧ _ ∧ _ ∧ _ := ⟨HT4.out.cell 0, HT4.out.cell 1, HT4.out.cell 2, HT4.out.cell 3, HT4.out.cell 4, HT4.out.cell 5, HT4.out.cell 6⟩
  simp only [List.getElem?_toArray, List.getElem?_cons_zero, List.getElem?_cons_succ] at c0 c1 c2 c3 c4 c5 c6
  go_wp2_with fail
  clear c0 c1 c2 c3 c4 c5 c6
  refine (HBK.out _).mono ?_
  rintro e w5 ⟨rfl, hb⟩
  obtain ⟨w6, hw6⟩ : ∃ w6, w6 = w5.alloc (.cells (cells8 sl) 26) := ⟨_, rfl⟩
  have HW6 := Lib.hid hw6
  have HS6 := Lib.hid (show Blk w6 p 112 (stoC a b g r v f t d) by rw [hw6]; exact (HS4.out.below hb HS4.out.lt).alloc _)
  have HG6 := Lib.hid (show Blk w6 w.heap.size 24 (supC a b g' r' v' f') by rw [hw6]; exact (HG4.out.below hb HG4.out.lt).alloc _)
  have HT6 := Lib.hid (show Blk w6 w2.heap.size 95 (turC a b g' r' v' f' (nxt t)) by rw [hw6]; exact (HT4.out.below hb HT4.out.lt).alloc _)
  have HV6 := Lib.hid (show ArrB w6 w5.heap.size sl by rw [hw6]; exact Blk.new w5 _ _)
  have HB6 := Lib.hid (show Below w.heap.size w w6 by rw [hw6]; exact (HB4.out.trans (hb.mono HB4.out.size)).alloc (Nat.le_trans HB4.out.size hb.size) _)
  have HZ5 := Lib.hid (show w2.heap.size < w5.heap.size from Nat.lt_of_lt_of_le HT4.out.lt hb.size)
  clear hb hw6
  have s0 := HS6.out.cell 0
  have s1 := HS6.out.cell 1
  have q0 := HG6.out.cell 0
  have q1 := HG6.out.cell 1
  simp only [List.getElem?_toArray, List.getElem?_cons_zero, List.getElem?_cons_succ] at s0 s1 q0 q1
  go_wp2_with (first
    | (refine wpList_alloc_blk rfl rfl ?_)
    | (refine wpList_store_new (.tmp 6) (.tmp 22) rfl rfl w5 sl rfl rfl (noughts 64) rfl (noughts_length 64) HSL.out ?_; rw [← HW6.out]))
  have n0 : (a != a) = false := by simp [bne]
  have n1 : (b != b) = false := by simp [bne]
  go_quiet (fail)
  clear s0 s1 q0 q1 n0 n1
  go_wp2
  have HS7 := Lib.hid (show Blk (w6.drewN nq) p 112 (stoC a b g r v f t d) from HS6.out)
  have HG7 := Lib.hid (show Blk (w6.drewN nq) w.heap.size 24 (supC a b g' r' v' f') from HG6.out)
  have HT7 := Lib.hid (show Blk (w6.drewN nq) w2.heap.size 95 (turC a b g' r' v' f' (nxt t)) from HT6.out)
  have HV7 := Lib.hid (show ArrB (w6.drewN nq) w5.heap.size sl from HV6.out)
  have HB7 := Lib.hid (show Below w.heap.size w (w6.drewN nq) from below_drewN HB6.out _)
  generalize hw7 : w6.drewN nq = w7 at *
  clear hw7
  have hr1 : w7.rangeAt p 0 (supC a b g r v f).toList := fun j u hu => by
    rw [Nat.zero_add, HS7.out.cell j]
    match j, hu with
    | 0, hu | 1, hu | 2, hu | 3, hu | 4, hu | 5, hu => simpa [supC, stoC] using hu
    | (m + 6), hu => simp [supC] at hu
  have hr2 : w7.rangeAt w.heap.size 0 (supC a b g' r' v' f').toList := Blk.rangeL (cs := (supC a b g' r' v' f').toList) HG7.out
  have hu24 := Try.underlying24
  have hs24 : ∀ a b g r v f, (Try.prog.info? 24).map (·.size) = some (supC a b g r v f).toList.length := fun a b g r v f => size_sup
  refine wp_region_noPanic ?_
  refine Tillst.region (fun W => W.rangeAt p 0 (supC a b g r v f).toList ∧ W.rangeAt w.heap.size 0 (supC a b g' r' v' f').toList) [] (by kernel_rfl) ⟨hr1, hr2⟩ (fun hHeld => ?_)
  refine Tillst.take (i := 0) (oi := sa0) (v := ?_) rfl (by kernel_rfl) (by kernel_rfl) (by kernel_rfl) (by kernel_rfl) (fun _ _ _ h => h) (by rfl) ?_ hHeld ?_
  rotate_left
  · intro W hSW; (try dsimp only at hSW); unfold sa0; go_simp; with_reducible rfl
  simp only [sa0, Act.put, List.setIfInBounds_toArray, List.set_cons_zero, List.set_cons_succ]
  refine Tillst.take (i := 1) (oi := sa1) (v := ?_) rfl (by kernel_rfl) (by kernel_rfl) (by kernel_rfl) (by kernel_rfl) (fun _ _ _ h => h) (by rfl) ?_ hHeld ?_
  rotate_left
  · intro W hSW; (try dsimp only at hSW); unfold sa1; go_simp; with_reducible rfl
  simp only [sa1, Act.put, List.setIfInBounds_toArray, List.set_cons_zero, List.set_cons_succ]
  refine Tillst.take (i := 2) (oi := sa2) (v := ?_) rfl (by kernel_rfl) (by kernel_rfl) (by kernel_rfl) (by kernel_rfl) (fun _ _ _ h => h) (by rfl) ?_ hHeld ?_
  rotate_left
  · intro W hSW; (try dsimp only at hSW); unfold sa2; go_simp; with_reducible rfl
  simp only [sa2, Act.put, List.setIfInBounds_toArray, List.set_cons_zero, List.set_cons_succ]
  refine Tillst.take (i := 3) (oi := sa3) (v := ?_) rfl (by kernel_rfl) (by kernel_rfl) (by kernel_rfl) (by kernel_rfl) (fun _ _ _ h => h) (by rfl) ?_ hHeld ?_
  rotate_left
  · intro W hSW; (try dsimp only at hSW); unfold sa3; go_simp; with_reducible rfl
  simp only [sa3, Act.put, List.setIfInBounds_toArray, List.set_cons_zero, List.set_cons_succ]
  refine Tillst.take (i := 4) (oi := sa4) (v := ?_) rfl (by kernel_rfl) (by kernel_rfl) (by kernel_rfl) (by kernel_rfl) (fun _ _ _ h => h) (by rfl) ?_ hHeld ?_
  rotate_left
  · intro W hSW; refine exec_load_row (.tmp 53) 24 ?_ p 0 ?_ (supC a b g r v f).toList _ hu24 rfl (hs24 _ _ _ _ _ _) hSW.1 <;> rfl
  simp only [sa4, Act.put, List.setIfInBounds_toArray, List.set_cons_zero, List.set_cons_succ]
  refine Tillst.take (i := 5) (oi := sa5) (v := ?_) rfl (by kernel_rfl) (by kernel_rfl) (by kernel_rfl) (by kernel_rfl) (fun _ _ _ h => h) (by rfl) ?_ hHeld ?_
  rotate_left
  · intro W hSW; refine exec_load_row (.tmp 3) 24 ?_ w.heap.size 0 ?_ (supC a b g' r' v' f').toList _ hu24 rfl (hs24 _ _ _ _ _ _) hSW.2 <;> rfl
  simp only [sa5, Act.put, List.setIfInBounds_toArray, List.set_cons_zero, List.set_cons_succ]
  refine Tillst.one (i := 6) (o := sa6) (by kernel_rfl) rfl ?_
  intro K hK
  refine step_call 76 #[.tmp 54, .tmp 55] #[24, 24] rfl rfl Try.func76 rfl rfl [.agg (supC a b g r v f), .agg (supC a b g' r' v' f')] rfl ?_
  refine (back_any a b g r v f a b g' r' v' f' w7.drew).mono ?_
  rintro e w8 ⟨rfl, hb⟩
  rw [HBKS.out]
  have hb8 : Below w7.heap.size w7 w8 := (Below.refl _ _).drew.trans hb
  have HS8 := Lib.hid (HS7.out.below hb8 HS7.out.lt)
  have HG8 := Lib.hid (HG7.out.below hb8 HG7.out.lt)
  have HT8 := Lib.hid (HT7.out.below hb8 HT7.out.lt)
  have HV8 := Lib.hid (show ArrB w8 w5.heap.size sl from Arr.below HV7.out hb8 HV7.out.lt)
  have HB8 := Lib.hid (HB7.out.trans (hb8.mono HB7.out.size))
  have hS := And.intro (range_below hr1 hb8 HS7.out.lt) (range_below hr2 hb8 HG7.out.lt)
  clear hb hb8 hr1 hr2
  refine ⟨_, rfl, ?_⟩
  simp only [sa6, Act.put, List.setIfInBounds_toArray, List.set_cons_zero, List.set_cons_succ]
  refine hK.out _ _ (fun _ => hS) (fun hHeld => ?_)
  replace hHeld := hHeld (by decide)
  clear hK K hS
  refine Tillst.one (i := 7) (o := sa7) (by kernel_rfl) rfl ?_
  intro K hK
  refine step_value ?_ rfl ?_ ?_
  rotate_left
  · unfold sa7; go_simp; with_reducible rfl
  simp only [sa7, Act.put, List.setIfInBounds_toArray, List.set_cons_zero, List.set_cons_succ]
  refine hK.out _ _ (fun _ => hHeld) (fun hHeld => ?_)
  replace hHeld := hHeld (by decide)
  clear hK K
  refine Tillst.done (by kernel_rfl) ?_ _
  refine NoPanic.normal ?_
  clear hHeld hu24 hs24
  go_wp2
  have hr1 : w8.rangeAt w2.heap.size 0 (turC a b g' r' v' f' (nxt t)).toList := Blk.rangeL (cs := (turC a b g' r' v' f' (nxt t)).toList) HT8.out
  have hr2 := HV8.out.range
  have hc7 : w8.cell? ⟨p, 7, none⟩ = some (.pointer (some ⟨d, 0, none⟩)) := HS8.out.cell 7
  have hu65 := Try.underlying95
  have hu26 := Try.underlying26
  have hs65 : (Try.prog.info? 95).map (·.size) = some (turC a b g' r' v' f' (nxt t)).toList.length := size_tur
  have hs26 : (Try.prog.info? 26).map (·.size) = some (sl.map (Value.int .u8)).length := by rw [size_blk, List.length_map, HSL.out]
  refine wp_region_noPanic ?_
  refine Tillst.region (fun W => W.cell? ⟨p, 7, none⟩ = some (.pointer (some ⟨d, 0, none⟩)) ∧ W.rangeAt w2.heap.size 0 (turC a b g' r' v' f' (nxt t)).toList ∧ W.rangeAt w5.heap.size 0 (sl.map (Value.int .u8))) [] (by kernel_rfl) ⟨hc7, hr1, hr2⟩ (fun hHeld => ?_)
  refine Tillst.take (i := 0) (oi := sb0) (v := ?_) rfl (by kernel_rfl) (by kernel_rfl) (by kernel_rfl) (by kernel_rfl) (fun _ _ _ h => h) (by rfl) ?_ hHeld ?_
  rotate_left
  · intro W hSW; (try dsimp only at hSW); unfold sb0; go_simp; with_reducible rfl
  simp only [sb0, Act.put, List.setIfInBounds_toArray, List.set_cons_zero, List.set_cons_succ]
  refine Tillst.take (i := 1) (oi := sb1) (v := ?_) rfl (by kernel_rfl) (by kernel_rfl) (by kernel_rfl) (by kernel_rfl) (fun _ _ _ h => h) (by rfl) ?_ hHeld ?_
  rotate_left
  · intro W hSW; (try dsimp only at hSW); unfold sb1; go_simp; with_reducible rfl
  simp only [sb1, Act.put, List.setIfInBounds_toArray, List.set_cons_zero, List.set_cons_succ]
  refine Tillst.take (i := 2) (oi := sb2) (v := ?_) rfl (by kernel_rfl) (by kernel_rfl) (by kernel_rfl) (by kernel_rfl) (fun _ _ _ h => h) (by rfl) ?_ hHeld ?_
  rotate_left
  · intro W hSW; (try dsimp only at hSW); unfold sb2; go_simp; with_reducible rfl
  simp only [sb2, Act.put, List.setIfInBounds_toArray, List.set_cons_zero, List.set_cons_succ]
  refine Tillst.take (i := 3) (oi := sb3) (v := ?_) rfl (by kernel_rfl) (by kernel_rfl) (by kernel_rfl) (by kernel_rfl) (fun _ _ _ h => h) (by rfl) ?_ hHeld ?_
  rotate_left
  · intro W hSW; have hc := hSW.1; unfold sb3; go_simp; with_reducible rfl
  simp only [sb3, Act.put, List.setIfInBounds_toArray, List.set_cons_zero, List.set_cons_succ]
  refine Tillst.take (i := 4) (oi := sb4) (v := ?_) rfl (by kernel_rfl) (by kernel_rfl) (by kernel_rfl) (by kernel_rfl) (fun _ _ _ h => h) (by rfl) ?_ hHeld ?_
  rotate_left
  · intro W hSW; refine exec_load_row (.tmp 5) 95 ?_ w2.heap.size 0 ?_ (turC a b g' r' v' f' (nxt t)).toList _ hu65 rfl hs65 hSW.2.1 <;> rfl
  simp only [sb4, Act.put, List.setIfInBounds_toArray, List.set_cons_zero, List.set_cons_succ]
  refine Tillst.take (i := 6) (oi := sb6) (v := ?_) rfl (by kernel_rfl) (by kernel_rfl) (by kernel_rfl) (by kernel_rfl) (fun _ _ _ h => h) (by rfl) ?_ hHeld ?_
  rotate_left
  · intro W hSW; refine exec_load_row (.tmp 6) 26 ?_ w5.heap.size 0 ?_ (sl.map (Value.int .u8)) _ hu26 rfl hs26 hSW.2.2 <;> rfl
  simp only [sb6, Act.put, List.setIfInBounds_toArray, List.set_cons_zero, List.set_cons_succ]
  refine Tillst.one (i := 5) (o := sb5) (by kernel_rfl) rfl ?_
  intro K hK
  refine step_call 73 #[.tmp 61] #[95] rfl rfl Try.func73 rfl rfl [.agg (turC a b g' r' v' f' (nxt t))] rfl ?_
  refine (sector_any a b g' r' v' f' (nxt t) w8.drew (nxt_in t).1 (nxt_in t).2).mono ?_
  rintro e w9 ⟨rfl, hb⟩
  rw [HSEC.out]
  have hb9 : Below w8.heap.size w8 w9 := (Below.refl _ _).drew.trans hb
  have HS9 := Lib.hid (HS8.out.below hb9 HS8.out.lt)
  have HT9 := Lib.hid (HT8.out.below hb9 HT8.out.lt)
  have HV9 := Lib.hid (show ArrB w9 w5.heap.size sl from Arr.below HV8.out hb9 HV8.out.lt)
  have HB9 := Lib.hid (HB8.out.trans (hb9.mono HB8.out.size))
  have HZ9 := Lib.hid (show w5.heap.size < w9.heap.size from HV9.out.lt)
  have HD9 := Lib.hid (show DiskM w9 (fun c => X c ∨ c = p ∨ c = w2.heap.size ∨ c = w5.heap.size) d n k from HD.out.below HB9.out (fun c hc h => by rcases h with h | h | h | h; exact .inl h; exact .inr h; have := HZ2.out; omega; have := HZ2.out; have := HZ5.out; omega))
  have hS := And.intro (show w9.cell? ⟨p, 7, none⟩ = some (.pointer (some ⟨d, 0, none⟩)) from HS9.out.cell 7) (And.intro (Blk.rangeL (cs := (turC a b g' r' v' f' (nxt t)).toList) HT9.out) HV9.out.range)
  clear hb hb9 hr1 hr2 hc7
  refine ⟨_, rfl, ?_⟩
  simp only [sb5, Act.put, List.setIfInBounds_toArray, List.set_cons_zero, List.set_cons_succ]
  refine hK.out _ _ (fun _ => hS) (fun hHeld => ?_)
  replace hHeld := hHeld (by decide)
  clear hK K hS
  refine Tillst.one (i := 7) (o := sb7) (by kernel_rfl) rfl ?_
  intro K hK
  refine step_call 72 #[.tmp 60, .tmp 62, .tmp 63] #[39, 3, 26] rfl rfl Try.func72 rfl rfl [.pointer (some ⟨d, 0, none⟩), .int .i64 (secOf t : Nat), .agg (cells8 sl)] rfl ?_
  refine (write_k HD9.out (fun c h => by rcases h with h | h | h | h; exact Nat.lt_of_lt_of_le (HX.out c h) HB9.out.size; rw [h]; exact HS9.out.lt; rw [h]; exact HT9.out.lt; rw [h]; exact HV9.out.lt) (secOf t) (Nat.lt_of_lt_of_le (secOf_lt t) HN.out) sl HSL.out HSB.out HP.out).mono ?_
  rintro e wa ⟨rfl, hda, hka⟩
  rw [H0.out]
  have HDa := Lib.hid hda
  have HSa := Lib.hid (HS9.out.kept hka (.inr (.inl rfl)))
  have HTa := Lib.hid (HT9.out.kept hka (.inr (.inr (.inl rfl))))
  have HVa := Lib.hid (show ArrB wa w5.heap.size sl from Arr.kept HV9.out hka (.inr (.inr (.inr rfl))))
  have HKa := Lib.hid (show Kept X w wa from (Kept.of_below HB9.out HX.out).trans hka (fun c h => .inl h))
  have hS := And.intro (show wa.cell? ⟨p, 7, none⟩ = some (.pointer (some ⟨d, 0, none⟩)) from HSa.out.cell 7) (And.intro (Blk.rangeL (cs := (turC a b g' r' v' f' (nxt t)).toList) HTa.out) HVa.out.range)
  clear hda hka
  refine ⟨_, rfl, ?_⟩
  simp only [sb7, Act.put, List.setIfInBounds_toArray, List.set_cons_zero, List.set_cons_succ]
  refine hK.out _ _ (fun _ => hS) (fun hHeld => ?_)
  replace hHeld := hHeld (by decide)
  clear hK K hS
  refine Tillst.one (i := 8) (o := sb8) (by kernel_rfl) rfl ?_
  intro K hK
  refine step_value ?_ rfl ?_ ?_
  rotate_left
  · unfold sb8; go_simp; with_reducible rfl
  simp only [sb8, Act.put, List.setIfInBounds_toArray, List.set_cons_zero, List.set_cons_succ]
  refine hK.out _ _ (fun _ => hHeld) (fun hHeld => ?_)
  replace hHeld := hHeld (by decide)
  clear hK K
  refine Tillst.done (by kernel_rfl) ?_ _
  refine NoPanic.normal ?_
  clear hHeld hu65 hu26 hs65 hs26
  have hc7 : wa.cell? ⟨p, 7, none⟩ = some (.pointer (some ⟨d, 0, none⟩)) := HSa.out.cell 7
  go_wp2_with fail
  clear hc7
  refine (sync_k (HDa.out.mono (Y := fun c => X c ∨ c = p ∨ c = w2.heap.size) (fun c _ h => by rcases h with h | h | h; exact .inl h; exact .inr (.inl h); exact .inr (.inr (.inl h)))) (fun c h => by rcases h with h | h | h; exact Nat.lt_of_lt_of_le (HX.out c h) HKa.out.size; rw [h]; exact HSa.out.lt; rw [h]; exact HTa.out.lt)).mono ?_
  rintro e wb ⟨rfl, hdb, hkb⟩
  rw [H1.out]
  have HDb := Lib.hid hdb
  have HSb := Lib.hid (HSa.out.kept hkb (.inr (.inl rfl)))
  have HTb := Lib.hid (HTa.out.kept hkb (.inr (.inr rfl)))
  have HKb := Lib.hid (show Kept X w wb from HKa.out.trans hkb (fun c h => .inl h))
  clear hdb hkb
  have e1 := HNE1.out
  go_wp2
  go_ret
  exact ⟨rfl, ⟨HSb.out, HDb.out.mono (fun c _ h => by rcases h with h | h; exact .inl h; exact .inr (.inl h)), HXP.out⟩, HKb.out⟩

end Go.Proofs.Ytkmbbfdjdmkjpaa
