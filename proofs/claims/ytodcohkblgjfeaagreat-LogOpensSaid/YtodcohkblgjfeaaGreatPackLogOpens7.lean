/- Texts of LogOpens, packed. -/
import Derived.Test.YtodcohkblgjfeaaGreatPackLogOpens6
import Derived.Deep.Slices
import Derived.Deep.Fields
import Derived.ChangeSame
import Derived.Lib.SmallJoins
set_option linter.unusedVariables false
set_option linter.unusedSimpArgs false
namespace Go.Proofs.YtodcohkblgjfeaaGreat
set_option maxRecDepth 100000
open Go.RowKit
set_option linter.unusedVariables false
set_option linter.unusedSimpArgs false
def secOf (t : Int) : Nat := (nxt t % 2).toNat
theorem secOf_eq (t : Int) : nxt t % 2 = ((secOf t : Nat) : Int) := by unfold secOf; omega
theorem secOf_lt (t : Int) : secOf t < 2 := by unfold secOf; omega
theorem StoreM.below {w w' : World} {X : Nat → Prop} {p d n : Nat} {a b g r v f t : Int} {k : Dk} (h : StoreM w X p d n a b g r v f t k) (hb : Below w.heap.size w w') : StoreM w' X p d n a b g r v f t k :=
  ⟨h.1.below hb h.1.lt, h.2.1.below hb (fun c _ h => h), h.2.2⟩
abbrev sazg0 : Oper := { dst := some 50, op := Go.Op.move (Go.Operand.tmp 0), type := 70, pos := "super.go:102", after := #[], guard := none }
abbrev sazg1 : Oper := { dst := some 51, op := Go.Op.nilCheck (Go.Operand.tmp 50), type := 0, pos := "super.go:102", after := #[{ on := 0, ground := Go.Ground.data }], guard := none }
abbrev sazg2 : Oper := { dst := some 52, op := Go.Op.fieldAddr 153 (Go.Operand.tmp 51) 0, type := 0, pos := "super.go:102", after := #[{ on := 1, ground := Go.Ground.data }], guard := none }
abbrev sazg3 : Oper := { dst := some 53, op := Go.Op.fieldAddr 151 (Go.Operand.tmp 52) 0, type := 0, pos := "super.go:102", after := #[{ on := 2, ground := Go.Ground.data }], guard := none }
abbrev sazg4 : Oper := { dst := some 54, op := Go.Op.load 32 (Go.Operand.tmp 53), type := 32, pos := "super.go:102", after := #[{ on := 3, ground := Go.Ground.data }], guard := none }
abbrev sazg5 : Oper := { dst := some 55, op := Go.Op.load 32 (Go.Operand.tmp 3), type := 32, pos := "super.go:102", after := #[], guard := none }
abbrev sazg6 : Oper := { dst := some 56, op := Go.Op.call { callee := Go.Callee.value (Go.Operand.func 120), args := #[Go.Operand.tmp 54, Go.Operand.tmp 55], argTypes := #[32, 32] }, type := 4, pos := "super.go:102", after := #[{ on := 4, ground := Go.Ground.data }, { on := 5, ground := Go.Ground.data }], guard := none }
abbrev sazg7 : Oper := { dst := some 49, op := Go.Op.assign (Go.Operand.tmp 56), type := 4, pos := "super.go:102", after := #[{ on := 6, ground := Go.Ground.data }, { on := 6, ground := Go.Ground.chain }], guard := none }
abbrev sbzg0 : Oper := { dst := some 57, op := Go.Op.move (Go.Operand.tmp 0), type := 70, pos := "super.go:105", after := #[], guard := none }
abbrev sbzg1 : Oper := { dst := some 58, op := Go.Op.nilCheck (Go.Operand.tmp 57), type := 0, pos := "super.go:105", after := #[{ on := 0, ground := Go.Ground.data }], guard := none }
abbrev sbzg2 : Oper := { dst := some 59, op := Go.Op.fieldAddr 153 (Go.Operand.tmp 58) 1, type := 0, pos := "super.go:105", after := #[{ on := 1, ground := Go.Ground.data }], guard := none }
abbrev sbzg3 : Oper := { dst := some 60, op := Go.Op.load 27 (Go.Operand.tmp 59), type := 27, pos := "super.go:105", after := #[{ on := 2, ground := Go.Ground.data }], guard := none }
abbrev sbzg4 : Oper := { dst := some 61, op := Go.Op.load 151 (Go.Operand.tmp 5), type := 151, pos := "super.go:105", after := #[], guard := none }
abbrev sbzg5 : Oper := { dst := some 62, op := Go.Op.call { callee := Go.Callee.value (Go.Operand.func 94), args := #[Go.Operand.tmp 61], argTypes := #[151] }, type := 3, pos := "super.go:105", after := #[{ on := 4, ground := Go.Ground.data }], guard := none }
abbrev sbzg6 : Oper := { dst := some 63, op := Go.Op.load 84 (Go.Operand.tmp 6), type := 84, pos := "super.go:105", after := #[], guard := none }
abbrev sbzg7 : Oper := { dst := some 64, op := Go.Op.call { callee := Go.Callee.value (Go.Operand.func 32), args := #[Go.Operand.tmp 60, Go.Operand.tmp 62, Go.Operand.tmp 63], argTypes := #[27, 3, 84] }, type := 49, pos := "super.go:105", after := #[{ on := 3, ground := Go.Ground.data }, { on := 5, ground := Go.Ground.data }, { on := 6, ground := Go.Ground.data }, { on := 5, ground := Go.Ground.chain }], guard := none }
abbrev sbzg8 : Oper := { dst := some 8, op := Go.Op.assign (Go.Operand.tmp 64), type := 49, pos := "super.go:105", after := #[{ on := 7, ground := Go.Ground.data }, { on := 7, ground := Go.Ground.chain }, { on := 0, ground := Go.Ground.phase }, { on := 1, ground := Go.Ground.phase }, { on := 2, ground := Go.Ground.phase }, { on := 3, ground := Go.Ground.phase }, { on := 4, ground := Go.Ground.phase }, { on := 5, ground := Go.Ground.phase }, { on := 6, ground := Go.Ground.phase }, { on := 7, ground := Go.Ground.phase }], guard := none }
set_option maxHeartbeats 2000000 in
set_option maxRecDepth 100000 in
theorem set_arg {w : World} {X : Nat → Prop} {p d n : Nat} {a b g r v f t : Int} {k : Dk} (hs : StoreM w X p d n a b g r v f t k) (hX : ∀ c, X c → c < w.heap.size) (a' b'  g' r' v' f' : Int) (h : ¬ MayS a' b' g' r') :
    Calls Tryz.prog 70 #[.pointer (some ⟨p, 0, none⟩), .agg (supC a' b' g' r' v' f')] w fun e w' => e = .returned (.int .i64 2) ∧ StoreM w' X p d n a b g r v f t k ∧ Kept X w w' := by
  obtain ⟨hblk, hd, hxp⟩ := hs
  have hpl := hblk.lt
  have HST := Lib.hid (show StoreM w X p d n a b g r v f t k from ⟨hblk, hd, hxp⟩)
  have HNO := Lib.hid h
  clear h
  have HX := Lib.hid hX
  have HXP := Lib.hid hxp
  have HPL := Lib.hid hpl
  have HS1 := Lib.hid (hblk.alloc (.cells (supC a' b' g' r' v' f') 32))
  have HG1 := Lib.hid (show Blk (w.alloc (.cells (supC a' b' g' r' v' f') 32)) w.heap.size 32 (supC a' b' g' r' v' f') from Blk.new w _ _)
  have HB1 := Lib.hid (show Below w.heap.size w (w.alloc (.cells (supC a' b' g' r' v' f') 32)) from (Below.refl _ _).alloc (Nat.le_refl _) _)
  have HD := Lib.hid hd
  obtain ⟨s0, s1, s2, s3, s4, s5, s6⟩ : _ ∧ _ ∧ _ ∧ _ ∧ _ ∧ _ ∧ _ := ⟨HS1.out.cell 0, HS1.out.cell 1, HS1.out.cell 2, HS1.out.cell 3, HS1.out.cell 4, HS1.out.cell 5, HS1.out.cell 6⟩
  simp only [List.getElem?_toArray, List.getElem?_cons_zero, List.getElem?_cons_succ] at s0 s1 s2 s3 s4 s5 s6
  clear hblk hd hxp hX hpl
  go_enter Tryz.func70, Tryz.ntmps70
  go_wp2_with fail
  clear s0 s1 s2 s3 s4 s5 s6
  generalize hw1 : w.alloc (.cells (supC a' b' g' r' v' f') 32) = w1 at *
  clear hw1
  refine (next_any_s7 a b g r v f t _).mono ?_
  rintro e w2 ⟨rfl, hb⟩
  have HS2 := Lib.hid (HS1.out.below hb HS1.out.lt)
  have HG2 := Lib.hid (HG1.out.below hb HG1.out.lt)
  have HB2 := Lib.hid (HB1.out.trans (hb.mono HB1.out.size))
  have HZ2 := Lib.hid (show w.heap.size < w2.heap.size from HG2.out.lt)
  clear hb
  go_upto_region 4 with fail
  have HS3 := Lib.hid (HS2.out.alloc (.cells (turC a b g r v f (nxt t)) 151))
  have HG3 := Lib.hid (HG2.out.alloc (.cells (turC a b g r v f (nxt t)) 151))
  have HT3 := Lib.hid (show Blk (w2.alloc (.cells (turC a b g r v f (nxt t)) 151)) w2.heap.size 151 (turC a b g r v f (nxt t)) from Blk.new w2 _ _)
  have HB3 := Lib.hid (HB2.out.alloc HB2.out.size (.cells (turC a b g r v f (nxt t)) 151))
  generalize hw3 : w2.alloc (.cells (turC a b g r v f (nxt t)) 151) = w3 at *
  clear hw3
  obtain ⟨q0, q1, q2, q3, q4, q5⟩ : _ ∧ _ ∧ _ ∧ _ ∧ _ ∧ _ := ⟨HG3.out.cell 0, HG3.out.cell 1, HG3.out.cell 2, HG3.out.cell 3, HG3.out.cell 4, HG3.out.cell 5⟩
  simp only [List.getElem?_toArray, List.getElem?_cons_zero, List.getElem?_cons_succ] at q0 q1 q2 q3 q4 q5
  have hzs : ∀ w, (sizeOf 32).run Tryz.prog w = .ok 6 w := Tryz.sizeOf32
  have HZS := Lib.hid hzs
  have he : (List.take 0 (turC a b g r v f (nxt t)).toList ++ (supC a' b' g' r' v' f').toList ++ List.drop (0 + 6) (turC a b g r v f (nxt t)).toList).toArray = turC a' b' g' r' v' f' (nxt t) := by simp [supC, turC]
  have HE := Lib.hid he
  clear hzs he
  go_upto_region 5 with (refine wpList_store_part (.tmp 18) (.tmp 17) 32 rfl rfl HZS.out w2.heap.size 0 (supC a' b' g' r' v' f').toList rfl rfl 151 (turC a b g r v f (nxt t)).toList HT3.out rfl (by intro u hu; simp [supC] at hu; rcases hu with rfl | rfl | rfl | rfl | rfl | rfl <;> rfl) (by simp [turC]) ?_; rw [HE.out])
  clear q0 q1 q2 q3 q4 q5
  have hk4 : Kept (fun c => c ≠ w2.heap.size) w3 (w3.setRow w2.heap.size (turC a' b' g' r' v' f' (nxt t))) := (Kept.refl _ w3).setRow (fun h => h rfl) _
  have HS4 := Lib.hid (HS3.out.kept hk4 (by have := HZ2.out; have := HPL.out; omega))
  have HG4 := Lib.hid (HG3.out.kept hk4 (by have := HZ2.out; omega))
  have HT4 := Lib.hid (show Blk (w3.setRow w2.heap.size (turC a' b' g' r' v' f' (nxt t))) w2.heap.size 151 (turC a' b' g' r' v' f' (nxt t)) from setRow_heap _ _ _ _ _ _ HT3.out)
  have HB4 := Lib.hid (show Below w.heap.size w (w3.setRow w2.heap.size (turC a' b' g' r' v' f' (nxt t))) from below_setRow HB3.out (by have := HZ2.out; omega) _)
  generalize hw4 : w3.setRow w2.heap.size (turC a' b' g' r' v' f' (nxt t)) = w4 at *
  clear hw4 hk4
  obtain ⟨c0, c1, c2, c3, c4, c5, c6⟩ : _ ∧ _ ∧ _ ∧ _ ∧ _ ∧ _ ∧ _ := ⟨HT4.out.cell 0, HT4.out.cell 1, HT4.out.cell 2, HT4.out.cell 3, HT4.out.cell 4, HT4.out.cell 5, HT4.out.cell 6⟩
  simp only [List.getElem?_toArray, List.getElem?_cons_zero, List.getElem?_cons_succ] at c0 c1 c2 c3 c4 c5 c6
  go_wp2_with fail
  clear c0 c1 c2 c3 c4 c5 c6
  refine (block_bad a' b' g' r' v' f' (nxt t) _ HNO.out).mono ?_
  rintro e w5 ⟨rfl, hb⟩
  have HB5 := Lib.hid (HB4.out.trans (hb.mono HB4.out.size))
  clear hb
  go_wp2_with (first
    | (refine wpList_alloc_blk rfl rfl ?_)
    | (refine wpList_store_new (.tmp 6) (.tmp 22) rfl rfl w5 (noughts 64) rfl rfl (noughts 64) rfl (noughts_length 64) (noughts_length 64) ?_))
  go_ret
  have hbf := HB5.out.alloc HB5.out.size (.cells (cells8 (noughts 64)) 84)
  exact ⟨rfl, HST.out.below hbf, Kept.of_below hbf HX.out⟩
set_option maxHeartbeats 2000000 in
set_option maxRecDepth 100000 in
theorem set_a {w : World} {X : Nat → Prop} {p d n : Nat} {a b g r v f t : Int} {k : Dk} (hs : StoreM w X p d n a b g r v f t k) (hX : ∀ c, X c → c < w.heap.size) (a' b'  g' r' v' f' : Int) (h : MayS a' b' g' r') (hin : InS a' b' g' r' v' f') (hne : a' ≠ a) :
    Calls Tryz.prog 70 #[.pointer (some ⟨p, 0, none⟩), .agg (supC a' b' g' r' v' f')] w fun e w' => e = .returned (.int .i64 2) ∧ StoreM w' X p d n a b g r v f t k ∧ Kept X w w' := by
  obtain ⟨hblk, hd, hxp⟩ := hs
  have hpl := hblk.lt
  have HNE := Lib.hid hne
  clear hne
  have HST := Lib.hid (show StoreM w X p d n a b g r v f t k from ⟨hblk, hd, hxp⟩)
  have hsl := supL_length a' b' g' r' v' f' (nxt t)
  have hsb := supL_bytes a' b' g' r' v' f' (nxt t)
  have HBK := Lib.hid (fun u => block_ok a' b' g' r' v' f' (nxt t) u h hin (nxt_in t))
  generalize supL a' b' g' r' v' f' (nxt t) = sl at *
  have HSL := Lib.hid hsl
  have HSB := Lib.hid hsb
  clear h hin hsl hsb
  have HX := Lib.hid hX
  have HXP := Lib.hid hxp
  have HPL := Lib.hid hpl
  have HS1 := Lib.hid (hblk.alloc (.cells (supC a' b' g' r' v' f') 32))
  have HG1 := Lib.hid (show Blk (w.alloc (.cells (supC a' b' g' r' v' f') 32)) w.heap.size 32 (supC a' b' g' r' v' f') from Blk.new w _ _)
  have HB1 := Lib.hid (show Below w.heap.size w (w.alloc (.cells (supC a' b' g' r' v' f') 32)) from (Below.refl _ _).alloc (Nat.le_refl _) _)
  have HD := Lib.hid hd
  obtain ⟨s0, s1, s2, s3, s4, s5, s6⟩ : _ ∧ _ ∧ _ ∧ _ ∧ _ ∧ _ ∧ _ := ⟨HS1.out.cell 0, HS1.out.cell 1, HS1.out.cell 2, HS1.out.cell 3, HS1.out.cell 4, HS1.out.cell 5, HS1.out.cell 6⟩
  simp only [List.getElem?_toArray, List.getElem?_cons_zero, List.getElem?_cons_succ] at s0 s1 s2 s3 s4 s5 s6
  clear hblk hd hxp hX hpl
  go_enter Tryz.func70, Tryz.ntmps70
  go_wp2_with fail
  clear s0 s1 s2 s3 s4 s5 s6
  generalize hw1 : w.alloc (.cells (supC a' b' g' r' v' f') 32) = w1 at *
  clear hw1
  refine (next_any_s7 a b g r v f t _).mono ?_
  rintro e w2 ⟨rfl, hb⟩
  have HS2 := Lib.hid (HS1.out.below hb HS1.out.lt)
  have HG2 := Lib.hid (HG1.out.below hb HG1.out.lt)
  have HB2 := Lib.hid (HB1.out.trans (hb.mono HB1.out.size))
  have HZ2 := Lib.hid (show w.heap.size < w2.heap.size from HG2.out.lt)
  clear hb
  go_upto_region 4 with fail
  have HS3 := Lib.hid (HS2.out.alloc (.cells (turC a b g r v f (nxt t)) 151))
  have HG3 := Lib.hid (HG2.out.alloc (.cells (turC a b g r v f (nxt t)) 151))
  have HT3 := Lib.hid (show Blk (w2.alloc (.cells (turC a b g r v f (nxt t)) 151)) w2.heap.size 151 (turC a b g r v f (nxt t)) from Blk.new w2 _ _)
  have HB3 := Lib.hid (HB2.out.alloc HB2.out.size (.cells (turC a b g r v f (nxt t)) 151))
  generalize hw3 : w2.alloc (.cells (turC a b g r v f (nxt t)) 151) = w3 at *
  clear hw3
  obtain ⟨q0, q1, q2, q3, q4, q5⟩ : _ ∧ _ ∧ _ ∧ _ ∧ _ ∧ _ := ⟨HG3.out.cell 0, HG3.out.cell 1, HG3.out.cell 2, HG3.out.cell 3, HG3.out.cell 4, HG3.out.cell 5⟩
  simp only [List.getElem?_toArray, List.getElem?_cons_zero, List.getElem?_cons_succ] at q0 q1 q2 q3 q4 q5
  have hzs : ∀ w, (sizeOf 32).run Tryz.prog w = .ok 6 w := Tryz.sizeOf32
  have HZS := Lib.hid hzs
  have he : (List.take 0 (turC a b g r v f (nxt t)).toList ++ (supC a' b' g' r' v' f').toList ++ List.drop (0 + 6) (turC a b g r v f (nxt t)).toList).toArray = turC a' b' g' r' v' f' (nxt t) := by simp [supC, turC]
  have HE := Lib.hid he
  clear hzs he
  go_upto_region 5 with (refine wpList_store_part (.tmp 18) (.tmp 17) 32 rfl rfl HZS.out w2.heap.size 0 (supC a' b' g' r' v' f').toList rfl rfl 151 (turC a b g r v f (nxt t)).toList HT3.out rfl (by intro u hu; simp [supC] at hu; rcases hu with rfl | rfl | rfl | rfl | rfl | rfl <;> rfl) (by simp [turC]) ?_; rw [HE.out])
  clear q0 q1 q2 q3 q4 q5
  have hk4 : Kept (fun c => c ≠ w2.heap.size) w3 (w3.setRow w2.heap.size (turC a' b' g' r' v' f' (nxt t))) := (Kept.refl _ w3).setRow (fun h => h rfl) _
  have HS4 := Lib.hid (HS3.out.kept hk4 (by have := HZ2.out; have := HPL.out; omega))
  have HG4 := Lib.hid (HG3.out.kept hk4 (by have := HZ2.out; omega))
  have HT4 := Lib.hid (show Blk (w3.setRow w2.heap.size (turC a' b' g' r' v' f' (nxt t))) w2.heap.size 151 (turC a' b' g' r' v' f' (nxt t)) from setRow_heap _ _ _ _ _ _ HT3.out)
  have HB4 := Lib.hid (show Below w.heap.size w (w3.setRow w2.heap.size (turC a' b' g' r' v' f' (nxt t))) from below_setRow HB3.out (by have := HZ2.out; omega) _)
  generalize hw4 : w3.setRow w2.heap.size (turC a' b' g' r' v' f' (nxt t)) = w4 at *
  clear hw4 hk4
  obtain ⟨c0, c1, c2, c3, c4, c5, c6⟩ : _ ∧ _ ∧ _ ∧ _ ∧ _ ∧ _ ∧ _ := ⟨HT4.out.cell 0, HT4.out.cell 1, HT4.out.cell 2, HT4.out.cell 3, HT4.out.cell 4, HT4.out.cell 5, HT4.out.cell 6⟩
  simp only [List.getElem?_toArray, List.getElem?_cons_zero, List.getElem?_cons_succ] at c0 c1 c2 c3 c4 c5 c6
  go_wp2_with fail
  clear c0 c1 c2 c3 c4 c5 c6
  refine (HBK.out _).mono ?_
  rintro e w5 ⟨rfl, hb⟩
  obtain ⟨w6, hw6⟩ : ∃ w6, w6 = w5.alloc (.cells (cells8 sl) 84) := ⟨_, rfl⟩
  have HW6 := Lib.hid hw6
  have HS6 := Lib.hid (show Blk w6 p 153 (stoC a b g r v f t d) by rw [hw6]; exact (HS4.out.below hb HS4.out.lt).alloc _)
  have HG6 := Lib.hid (show Blk w6 w.heap.size 32 (supC a' b' g' r' v' f') by rw [hw6]; exact (HG4.out.below hb HG4.out.lt).alloc _)
  have HT6 := Lib.hid (show Blk w6 w2.heap.size 151 (turC a' b' g' r' v' f' (nxt t)) by rw [hw6]; exact (HT4.out.below hb HT4.out.lt).alloc _)
  have HV6 := Lib.hid (show ArrB w6 w5.heap.size sl by rw [hw6]; exact Blk.new w5 _ _)
  have HB6 := Lib.hid (show Below w.heap.size w w6 by rw [hw6]; exact (HB4.out.trans (hb.mono HB4.out.size)).alloc (Nat.le_trans HB4.out.size hb.size) _)
  have HZ5 := Lib.hid (show w2.heap.size < w5.heap.size from Nat.lt_of_lt_of_le HT4.out.lt hb.size)
  clear hb hw6
  have s0 := HS6.out.cell 0
  have s1 := HS6.out.cell 1
  have q0 := HG6.out.cell 0
  have q1 := HG6.out.cell 1
  simp only [List.getElem?_toArray, List.getElem?_cons_zero, List.getElem?_cons_succ] at s0 s1 q0 q1
  go_wp2_with (first
    | (refine wpList_alloc_blk rfl rfl ?_)
    | (refine wpList_store_new (.tmp 6) (.tmp 22) rfl rfl w5 sl rfl rfl (noughts 64) rfl (noughts_length 64) HSL.out ?_; rw [← HW6.out]))
  have n0 : (a' != a) = true := by simpa [bne] using HNE.out
  go_quiet (fail)
  clear s0 s1 q0 q1 n0
  go_wp2
  go_ret
  exact ⟨rfl, HST.out.below (below_drewN HB6.out _), Kept.of_below (below_drewN HB6.out _) HX.out⟩
set_option maxHeartbeats 2000000 in
set_option maxRecDepth 100000 in
theorem set_b {w : World} {X : Nat → Prop} {p d n : Nat} {a b g r v f t : Int} {k : Dk} (hs : StoreM w X p d n a b g r v f t k) (hX : ∀ c, X c → c < w.heap.size) (b'  g' r' v' f' : Int) (h : MayS a b' g' r') (hin : InS a b' g' r' v' f') (hne : b' ≠ b) :
    Calls Tryz.prog 70 #[.pointer (some ⟨p, 0, none⟩), .agg (supC a b' g' r' v' f')] w fun e w' => e = .returned (.int .i64 2) ∧ StoreM w' X p d n a b g r v f t k ∧ Kept X w w' := by
  obtain ⟨hblk, hd, hxp⟩ := hs
  have hpl := hblk.lt
  have HNE := Lib.hid hne
  clear hne
  have HST := Lib.hid (show StoreM w X p d n a b g r v f t k from ⟨hblk, hd, hxp⟩)
  have hsl := supL_length a b' g' r' v' f' (nxt t)
  have hsb := supL_bytes a b' g' r' v' f' (nxt t)
  have HBK := Lib.hid (fun u => block_ok a b' g' r' v' f' (nxt t) u h hin (nxt_in t))
  generalize supL a b' g' r' v' f' (nxt t) = sl at *
  have HSL := Lib.hid hsl
  have HSB := Lib.hid hsb
  clear h hin hsl hsb
  have HX := Lib.hid hX
  have HXP := Lib.hid hxp
  have HPL := Lib.hid hpl
  have HS1 := Lib.hid (hblk.alloc (.cells (supC a b' g' r' v' f') 32))
  have HG1 := Lib.hid (show Blk (w.alloc (.cells (supC a b' g' r' v' f') 32)) w.heap.size 32 (supC a b' g' r' v' f') from Blk.new w _ _)
  have HB1 := Lib.hid (show Below w.heap.size w (w.alloc (.cells (supC a b' g' r' v' f') 32)) from (Below.refl _ _).alloc (Nat.le_refl _) _)
  have HD := Lib.hid hd
  obtain ⟨s0, s1, s2, s3, s4, s5, s6⟩ : _ ∧ _ ∧ _ ∧ _ ∧ _ ∧ _ ∧ _ := ⟨HS1.out.cell 0, HS1.out.cell 1, HS1.out.cell 2, HS1.out.cell 3, HS1.out.cell 4, HS1.out.cell 5, HS1.out.cell 6⟩
  simp only [List.getElem?_toArray, List.getElem?_cons_zero, List.getElem?_cons_succ] at s0 s1 s2 s3 s4 s5 s6
  clear hblk hd hxp hX hpl
  go_enter Tryz.func70, Tryz.ntmps70
  go_wp2_with fail
  clear s0 s1 s2 s3 s4 s5 s6
  generalize hw1 : w.alloc (.cells (supC a b' g' r' v' f') 32) = w1 at *
  clear hw1
  refine (next_any_s7 a b g r v f t _).mono ?_
  rintro e w2 ⟨rfl, hb⟩
  have HS2 := Lib.hid (HS1.out.below hb HS1.out.lt)
  have HG2 := Lib.hid (HG1.out.below hb HG1.out.lt)
  have HB2 := Lib.hid (HB1.out.trans (hb.mono HB1.out.size))
  have HZ2 := Lib.hid (show w.heap.size < w2.heap.size from HG2.out.lt)
  clear hb
  go_upto_region 4 with fail
  have HS3 := Lib.hid (HS2.out.alloc (.cells (turC a b g r v f (nxt t)) 151))
  have HG3 := Lib.hid (HG2.out.alloc (.cells (turC a b g r v f (nxt t)) 151))
  have HT3 := Lib.hid (show Blk (w2.alloc (.cells (turC a b g r v f (nxt t)) 151)) w2.heap.size 151 (turC a b g r v f (nxt t)) from Blk.new w2 _ _)
  have HB3 := Lib.hid (HB2.out.alloc HB2.out.size (.cells (turC a b g r v f (nxt t)) 151))
  generalize hw3 : w2.alloc (.cells (turC a b g r v f (nxt t)) 151) = w3 at *
  clear hw3
  obtain ⟨q0, q1, q2, q3, q4, q5⟩ : _ ∧ _ ∧ _ ∧ _ ∧ _ ∧ _ := ⟨HG3.out.cell 0, HG3.out.cell 1, HG3.out.cell 2, HG3.out.cell 3, HG3.out.cell 4, HG3.out.cell 5⟩
  simp only [List.getElem?_toArray, List.getElem?_cons_zero, List.getElem?_cons_succ] at q0 q1 q2 q3 q4 q5
  have hzs : ∀ w, (sizeOf 32).run Tryz.prog w = .ok 6 w := Tryz.sizeOf32
  have HZS := Lib.hid hzs
  have he : (List.take 0 (turC a b g r v f (nxt t)).toList ++ (supC a b' g' r' v' f').toList ++ List.drop (0 + 6) (turC a b g r v f (nxt t)).toList).toArray = turC a b' g' r' v' f' (nxt t) := by simp [supC, turC]
  have HE := Lib.hid he
  clear hzs he
  go_upto_region 5 with (refine wpList_store_part (.tmp 18) (.tmp 17) 32 rfl rfl HZS.out w2.heap.size 0 (supC a b' g' r' v' f').toList rfl rfl 151 (turC a b g r v f (nxt t)).toList HT3.out rfl (by intro u hu; simp [supC] at hu; rcases hu with rfl | rfl | rfl | rfl | rfl | rfl <;> rfl) (by simp [turC]) ?_; rw [HE.out])
  clear q0 q1 q2 q3 q4 q5
  have hk4 : Kept (fun c => c ≠ w2.heap.size) w3 (w3.setRow w2.heap.size (turC a b' g' r' v' f' (nxt t))) := (Kept.refl _ w3).setRow (fun h => h rfl) _
  have HS4 := Lib.hid (HS3.out.kept hk4 (by have := HZ2.out; have := HPL.out; omega))
  have HG4 := Lib.hid (HG3.out.kept hk4 (by have := HZ2.out; omega))
  have HT4 := Lib.hid (show Blk (w3.setRow w2.heap.size (turC a b' g' r' v' f' (nxt t))) w2.heap.size 151 (turC a b' g' r' v' f' (nxt t)) from setRow_heap _ _ _ _ _ _ HT3.out)
  have HB4 := Lib.hid (show Below w.heap.size w (w3.setRow w2.heap.size (turC a b' g' r' v' f' (nxt t))) from below_setRow HB3.out (by have := HZ2.out; omega) _)
  generalize hw4 : w3.setRow w2.heap.size (turC a b' g' r' v' f' (nxt t)) = w4 at *
  clear hw4 hk4
  obtain ⟨c0, c1, c2, c3, c4, c5, c6⟩ : _ ∧ _ ∧ _ ∧ _ ∧ _ ∧ _ ∧ _ := ⟨HT4.out.cell 0, HT4.out.cell 1, HT4.out.cell 2, HT4.out.cell 3, HT4.out.cell 4, HT4.out.cell 5, HT4.out.cell 6⟩
  simp only [List.getElem?_toArray, List.getElem?_cons_zero, List.getElem?_cons_succ] at c0 c1 c2 c3 c4 c5 c6
  go_wp2_with fail
  clear c0 c1 c2 c3 c4 c5 c6
  refine (HBK.out _).mono ?_
  rintro e w5 ⟨rfl, hb⟩
  obtain ⟨w6, hw6⟩ : ∃ w6, w6 = w5.alloc (.cells (cells8 sl) 84) := ⟨_, rfl⟩
  have HW6 := Lib.hid hw6
  have HS6 := Lib.hid (show Blk w6 p 153 (stoC a b g r v f t d) by rw [hw6]; exact (HS4.out.below hb HS4.out.lt).alloc _)
  have HG6 := Lib.hid (show Blk w6 w.heap.size 32 (supC a b' g' r' v' f') by rw [hw6]; exact (HG4.out.below hb HG4.out.lt).alloc _)
  have HT6 := Lib.hid (show Blk w6 w2.heap.size 151 (turC a b' g' r' v' f' (nxt t)) by rw [hw6]; exact (HT4.out.below hb HT4.out.lt).alloc _)
  have HV6 := Lib.hid (show ArrB w6 w5.heap.size sl by rw [hw6]; exact Blk.new w5 _ _)
  have HB6 := Lib.hid (show Below w.heap.size w w6 by rw [hw6]; exact (HB4.out.trans (hb.mono HB4.out.size)).alloc (Nat.le_trans HB4.out.size hb.size) _)
  have HZ5 := Lib.hid (show w2.heap.size < w5.heap.size from Nat.lt_of_lt_of_le HT4.out.lt hb.size)
  clear hb hw6
  have s0 := HS6.out.cell 0
  have s1 := HS6.out.cell 1
  have q0 := HG6.out.cell 0
  have q1 := HG6.out.cell 1
  simp only [List.getElem?_toArray, List.getElem?_cons_zero, List.getElem?_cons_succ] at s0 s1 q0 q1
  go_wp2_with (first
    | (refine wpList_alloc_blk rfl rfl ?_)
    | (refine wpList_store_new (.tmp 6) (.tmp 22) rfl rfl w5 sl rfl rfl (noughts 64) rfl (noughts_length 64) HSL.out ?_; rw [← HW6.out]))
  have n1 : (b' != b) = true := by simpa [bne] using HNE.out
  have n0 : (a != a) = false := by simp [bne]
  go_quiet (fail)
  clear s0 s1 q0 q1 n0 n1
  go_wp2
  go_ret
  exact ⟨rfl, HST.out.below (below_drewN HB6.out _), Kept.of_below (below_drewN HB6.out _) HX.out⟩
set_option maxHeartbeats 2000000 in
set_option maxRecDepth 100000 in
theorem set_back {w : World} {X : Nat → Prop} {p d n : Nat} {a b g r v f t : Int} {k : Dk} (hs : StoreM w X p d n a b g r v f t k) (hX : ∀ c, X c → c < w.heap.size) (g' r' v' f' : Int) (h : MayS a b g' r') (hin : InS a b g' r' v' f') (hbk : BackS g r v f g' r' v' f') :
    Calls Tryz.prog 70 #[.pointer (some ⟨p, 0, none⟩), .agg (supC a b g' r' v' f')] w fun e w' => e = .returned (.int .i64 171) ∧ StoreM w' X p d n a b g r v f t k ∧ Kept X w w' := by
  obtain ⟨hblk, hd, hxp⟩ := hs
  have hpl := hblk.lt
  have HBKS := Lib.hid (show decide (BackS g r v f g' r' v' f') = true from decide_eq_true hbk)
  clear hbk
  have HST := Lib.hid (show StoreM w X p d n a b g r v f t k from ⟨hblk, hd, hxp⟩)
  have hsl := supL_length a b g' r' v' f' (nxt t)
  have hsb := supL_bytes a b g' r' v' f' (nxt t)
  have HBK := Lib.hid (fun u => block_ok a b g' r' v' f' (nxt t) u h hin (nxt_in t))
  generalize supL a b g' r' v' f' (nxt t) = sl at *
  have HSL := Lib.hid hsl
  have HSB := Lib.hid hsb
  clear h hin hsl hsb
  have HX := Lib.hid hX
  have HXP := Lib.hid hxp
  have HPL := Lib.hid hpl
  have HS1 := Lib.hid (hblk.alloc (.cells (supC a b g' r' v' f') 32))
  have HG1 := Lib.hid (show Blk (w.alloc (.cells (supC a b g' r' v' f') 32)) w.heap.size 32 (supC a b g' r' v' f') from Blk.new w _ _)
  have HB1 := Lib.hid (show Below w.heap.size w (w.alloc (.cells (supC a b g' r' v' f') 32)) from (Below.refl _ _).alloc (Nat.le_refl _) _)
  have HD := Lib.hid hd
  obtain ⟨s0, s1, s2, s3, s4, s5, s6⟩ : _ ∧ _ ∧ _ ∧ _ ∧ _ ∧ _ ∧ _ := ⟨HS1.out.cell 0, HS1.out.cell 1, HS1.out.cell 2, HS1.out.cell 3, HS1.out.cell 4, HS1.out.cell 5, HS1.out.cell 6⟩
  simp only [List.getElem?_toArray, List.getElem?_cons_zero, List.getElem?_cons_succ] at s0 s1 s2 s3 s4 s5 s6
  clear hblk hd hxp hX hpl
  go_enter Tryz.func70, Tryz.ntmps70
  go_wp2_with fail
  clear s0 s1 s2 s3 s4 s5 s6
  generalize hw1 : w.alloc (.cells (supC a b g' r' v' f') 32) = w1 at *
  clear hw1
  refine (next_any_s7 a b g r v f t _).mono ?_
  rintro e w2 ⟨rfl, hb⟩
  have HS2 := Lib.hid (HS1.out.below hb HS1.out.lt)
  have HG2 := Lib.hid (HG1.out.below hb HG1.out.lt)
  have HB2 := Lib.hid (HB1.out.trans (hb.mono HB1.out.size))
  have HZ2 := Lib.hid (show w.heap.size < w2.heap.size from HG2.out.lt)
  clear hb
  go_upto_region 4 with fail
  have HS3 := Lib.hid (HS2.out.alloc (.cells (turC a b g r v f (nxt t)) 151))
  have HG3 := Lib.hid (HG2.out.alloc (.cells (turC a b g r v f (nxt t)) 151))
  have HT3 := Lib.hid (show Blk (w2.alloc (.cells (turC a b g r v f (nxt t)) 151)) w2.heap.size 151 (turC a b g r v f (nxt t)) from Blk.new w2 _ _)
  have HB3 := Lib.hid (HB2.out.alloc HB2.out.size (.cells (turC a b g r v f (nxt t)) 151))
  generalize hw3 : w2.alloc (.cells (turC a b g r v f (nxt t)) 151) = w3 at *
  clear hw3
  obtain ⟨q0, q1, q2, q3, q4, q5⟩ : _ ∧ _ ∧ _ ∧ _ ∧ _ ∧ _ := ⟨HG3.out.cell 0, HG3.out.cell 1, HG3.out.cell 2, HG3.out.cell 3, HG3.out.cell 4, HG3.out.cell 5⟩
  simp only [List.getElem?_toArray, List.getElem?_cons_zero, List.getElem?_cons_succ] at q0 q1 q2 q3 q4 q5
  have hzs : ∀ w, (sizeOf 32).run Tryz.prog w = .ok 6 w := Tryz.sizeOf32
  have HZS := Lib.hid hzs
  have he : (List.take 0 (turC a b g r v f (nxt t)).toList ++ (supC a b g' r' v' f').toList ++ List.drop (0 + 6) (turC a b g r v f (nxt t)).toList).toArray = turC a b g' r' v' f' (nxt t) := by simp [supC, turC]
  have HE := Lib.hid he
  clear hzs he
  go_upto_region 5 with (refine wpList_store_part (.tmp 18) (.tmp 17) 32 rfl rfl HZS.out w2.heap.size 0 (supC a b g' r' v' f').toList rfl rfl 151 (turC a b g r v f (nxt t)).toList HT3.out rfl (by intro u hu; simp [supC] at hu; rcases hu with rfl | rfl | rfl | rfl | rfl | rfl <;> rfl) (by simp [turC]) ?_; rw [HE.out])
  clear q0 q1 q2 q3 q4 q5
  have hk4 : Kept (fun c => c ≠ w2.heap.size) w3 (w3.setRow w2.heap.size (turC a b g' r' v' f' (nxt t))) := (Kept.refl _ w3).setRow (fun h => h rfl) _
  have HS4 := Lib.hid (HS3.out.kept hk4 (by have := HZ2.out; have := HPL.out; omega))
  have HG4 := Lib.hid (HG3.out.kept hk4 (by have := HZ2.out; omega))
  have HT4 := Lib.hid (show Blk (w3.setRow w2.heap.size (turC a b g' r' v' f' (nxt t))) w2.heap.size 151 (turC a b g' r' v' f' (nxt t)) from setRow_heap _ _ _ _ _ _ HT3.out)
  have HB4 := Lib.hid (show Below w.heap.size w (w3.setRow w2.heap.size (turC a b g' r' v' f' (nxt t))) from below_setRow HB3.out (by have := HZ2.out; omega) _)
  generalize hw4 : w3.setRow w2.heap.size (turC a b g' r' v' f' (nxt t)) = w4 at *
  clear hw4 hk4
  obtain ⟨c0, c1, c2, c3, c4, c5, c6⟩ : _ ∧ _ ∧ _ ∧ _ ∧ _ ∧ _ ∧ _ := ⟨HT4.out.cell 0, HT4.out.cell 1, HT4.out.cell 2, HT4.out.cell 3, HT4.out.cell 4, HT4.out.cell 5, HT4.out.cell 6⟩
  simp only [List.getElem?_toArray, List.getElem?_cons_zero, List.getElem?_cons_succ] at c0 c1 c2 c3 c4 c5 c6
  go_wp2_with fail
  clear c0 c1 c2 c3 c4 c5 c6
  refine (HBK.out _).mono ?_
  rintro e w5 ⟨rfl, hb⟩
  obtain ⟨w6, hw6⟩ : ∃ w6, w6 = w5.alloc (.cells (cells8 sl) 84) := ⟨_, rfl⟩
  have HW6 := Lib.hid hw6
  have HS6 := Lib.hid (show Blk w6 p 153 (stoC a b g r v f t d) by rw [hw6]; exact (HS4.out.below hb HS4.out.lt).alloc _)
  have HG6 := Lib.hid (show Blk w6 w.heap.size 32 (supC a b g' r' v' f') by rw [hw6]; exact (HG4.out.below hb HG4.out.lt).alloc _)
  have HT6 := Lib.hid (show Blk w6 w2.heap.size 151 (turC a b g' r' v' f' (nxt t)) by rw [hw6]; exact (HT4.out.below hb HT4.out.lt).alloc _)
  have HV6 := Lib.hid (show ArrB w6 w5.heap.size sl by rw [hw6]; exact Blk.new w5 _ _)
  have HB6 := Lib.hid (show Below w.heap.size w w6 by rw [hw6]; exact (HB4.out.trans (hb.mono HB4.out.size)).alloc (Nat.le_trans HB4.out.size hb.size) _)
  have HZ5 := Lib.hid (show w2.heap.size < w5.heap.size from Nat.lt_of_lt_of_le HT4.out.lt hb.size)
  clear hb hw6
  have s0 := HS6.out.cell 0
  have s1 := HS6.out.cell 1
  have q0 := HG6.out.cell 0
  have q1 := HG6.out.cell 1
  simp only [List.getElem?_toArray, List.getElem?_cons_zero, List.getElem?_cons_succ] at s0 s1 q0 q1
  go_wp2_with (first
    | (refine wpList_alloc_blk rfl rfl ?_)
    | (refine wpList_store_new (.tmp 6) (.tmp 22) rfl rfl w5 sl rfl rfl (noughts 64) rfl (noughts_length 64) HSL.out ?_; rw [← HW6.out]))
  have n0 : (a != a) = false := by simp [bne]
  have n1 : (b != b) = false := by simp [bne]
  go_quiet (fail)
  clear s0 s1 q0 q1 n0 n1
  go_wp2
  have HS7 := Lib.hid (show Blk (w6.drewN nq) p 153 (stoC a b g r v f t d) from HS6.out)
  have HG7 := Lib.hid (show Blk (w6.drewN nq) w.heap.size 32 (supC a b g' r' v' f') from HG6.out)
  have HT7 := Lib.hid (show Blk (w6.drewN nq) w2.heap.size 151 (turC a b g' r' v' f' (nxt t)) from HT6.out)
  have HV7 := Lib.hid (show ArrB (w6.drewN nq) w5.heap.size sl from HV6.out)
  have HB7 := Lib.hid (show Below w.heap.size w (w6.drewN nq) from below_drewN HB6.out _)
  generalize hw7 : w6.drewN nq = w7 at *
  clear hw7
  have hr1 : w7.rangeAt p 0 (supC a b g r v f).toList := fun j u hu => by
    rw [Nat.zero_add, HS7.out.cell j]
    match j, hu with
    | 0, hu | 1, hu | 2, hu | 3, hu | 4, hu | 5, hu => simpa [supC, stoC] using hu
    | (m + 6), hu => simp [supC] at hu
  have hr2 : w7.rangeAt w.heap.size 0 (supC a b g' r' v' f').toList := Blk.rangeL (cs := (supC a b g' r' v' f').toList) HG7.out
  have hu24 := Tryz.underlying32
  have hs24 : ∀ a b g r v f, (Tryz.prog.info? 32).map (·.size) = some (supC a b g r v f).toList.length := fun a b g r v f => size_sup
  refine wp_region_noPanic ?_
  refine Tillst.region (fun W => W.rangeAt p 0 (supC a b g r v f).toList ∧ W.rangeAt w.heap.size 0 (supC a b g' r' v' f').toList) [] (by kernel_rfl) ⟨hr1, hr2⟩ (fun hHeld => ?_)
  refine Tillst.take (i := 0) (oi := sazg0) (v := ?_) rfl (by kernel_rfl) (by kernel_rfl) (by kernel_rfl) (by kernel_rfl) (fun _ _ _ h => h) (by rfl) ?_ hHeld ?_
  rotate_left
  · intro W hSW; (try dsimp only at hSW); unfold sazg0; go_simp; with_reducible rfl
  simp only [sazg0, Act.put, List.setIfInBounds_toArray, List.set_cons_zero, List.set_cons_succ]
  refine Tillst.take (i := 1) (oi := sazg1) (v := ?_) rfl (by kernel_rfl) (by kernel_rfl) (by kernel_rfl) (by kernel_rfl) (fun _ _ _ h => h) (by rfl) ?_ hHeld ?_
  rotate_left
  · intro W hSW; (try dsimp only at hSW); unfold sazg1; go_simp; with_reducible rfl
  simp only [sazg1, Act.put, List.setIfInBounds_toArray, List.set_cons_zero, List.set_cons_succ]
  refine Tillst.take (i := 2) (oi := sazg2) (v := ?_) rfl (by kernel_rfl) (by kernel_rfl) (by kernel_rfl) (by kernel_rfl) (fun _ _ _ h => h) (by rfl) ?_ hHeld ?_
  rotate_left
  · intro W hSW; (try dsimp only at hSW); unfold sazg2; go_simp; with_reducible rfl
  simp only [sazg2, Act.put, List.setIfInBounds_toArray, List.set_cons_zero, List.set_cons_succ]
  refine Tillst.take (i := 3) (oi := sazg3) (v := ?_) rfl (by kernel_rfl) (by kernel_rfl) (by kernel_rfl) (by kernel_rfl) (fun _ _ _ h => h) (by rfl) ?_ hHeld ?_
  rotate_left
  · intro W hSW; (try dsimp only at hSW); unfold sazg3; go_simp; with_reducible rfl
  simp only [sazg3, Act.put, List.setIfInBounds_toArray, List.set_cons_zero, List.set_cons_succ]
  refine Tillst.take (i := 4) (oi := sazg4) (v := ?_) rfl (by kernel_rfl) (by kernel_rfl) (by kernel_rfl) (by kernel_rfl) (fun _ _ _ h => h) (by rfl) ?_ hHeld ?_
  rotate_left
  · intro W hSW; refine exec_load_row (.tmp 53) 32 ?_ p 0 ?_ (supC a b g r v f).toList _ hu24 rfl (hs24 _ _ _ _ _ _) hSW.1 <;> rfl
  simp only [sazg4, Act.put, List.setIfInBounds_toArray, List.set_cons_zero, List.set_cons_succ]
  refine Tillst.take (i := 5) (oi := sazg5) (v := ?_) rfl (by kernel_rfl) (by kernel_rfl) (by kernel_rfl) (by kernel_rfl) (fun _ _ _ h => h) (by rfl) ?_ hHeld ?_
  rotate_left
  · intro W hSW; refine exec_load_row (.tmp 3) 32 ?_ w.heap.size 0 ?_ (supC a b g' r' v' f').toList _ hu24 rfl (hs24 _ _ _ _ _ _) hSW.2 <;> rfl
  simp only [sazg5, Act.put, List.setIfInBounds_toArray, List.set_cons_zero, List.set_cons_succ]
  refine Tillst.one (i := 6) (o := sazg6) (by kernel_rfl) rfl ?_
  intro K hK
  refine step_call 120 #[.tmp 54, .tmp 55] #[32, 32] rfl rfl Tryz.func120 rfl rfl [.agg (supC a b g r v f), .agg (supC a b g' r' v' f')] rfl ?_
  refine (back_any a b g r v f a b g' r' v' f' w7.drew).mono ?_
  rintro e w8 ⟨rfl, hb⟩
  rw [HBKS.out]
  have hb8 : Below w7.heap.size w7 w8 := (Below.refl _ _).drew.trans hb
  have HS8 := Lib.hid (HS7.out.below hb8 HS7.out.lt)
  have HG8 := Lib.hid (HG7.out.below hb8 HG7.out.lt)
  have HT8 := Lib.hid (HT7.out.below hb8 HT7.out.lt)
  have HV8 := Lib.hid (show ArrB w8 w5.heap.size sl from Arr.below HV7.out hb8 HV7.out.lt)
  have HB8 := Lib.hid (HB7.out.trans (hb8.mono HB7.out.size))
  have hS := And.intro (range_below hr1 hb8 HS7.out.lt) (range_below hr2 hb8 HG7.out.lt)
  clear hb hb8 hr1 hr2
  refine ⟨_, rfl, ?_⟩
  simp only [sazg6, Act.put, List.setIfInBounds_toArray, List.set_cons_zero, List.set_cons_succ]
  refine hK.out _ _ (fun _ => hS) (fun hHeld => ?_)
  replace hHeld := hHeld (by decide)
  clear hK K hS
  refine Tillst.one (i := 7) (o := sazg7) (by kernel_rfl) rfl ?_
  intro K hK
  refine step_value ?_ rfl ?_ ?_
  rotate_left
  · unfold sazg7; go_simp; with_reducible rfl
  simp only [sazg7, Act.put, List.setIfInBounds_toArray, List.set_cons_zero, List.set_cons_succ]
  refine hK.out _ _ (fun _ => hHeld) (fun hHeld => ?_)
  replace hHeld := hHeld (by decide)
  clear hK K
  refine Tillst.done (by kernel_rfl) ?_ _
  refine NoPanic.normal ?_
  clear hHeld hu24 hs24
  go_wp2
  go_ret
  exact ⟨rfl, HST.out.below HB8.out, Kept.of_below HB8.out HX.out⟩
set_option maxHeartbeats 2000000 in
set_option maxRecDepth 100000 in
theorem set_go {w : World} {X : Nat → Prop} {p d n : Nat} {a b g r v f t : Int} {k : Dk} (hs : StoreM w X p d n a b g r v f t k) (hX : ∀ c, X c → c < w.heap.size) (g' r' v' f' : Int) (h : MayS a b g' r') (hin : InS a b g' r' v' f') (hbk : ¬ BackS g r v f g' r' v' f') (hn : 2 ≤ n) (hp : k.pend.length ≤ 1000000) (h0 : k.wre = 0) (h1 : (k.wr (Dk.put (secOf t) (supL a b g' r' v' f' (nxt t)))).wre = 0) :
    Calls Tryz.prog 70 #[.pointer (some ⟨p, 0, none⟩), .agg (supC a b g' r' v' f')] w fun e w' => e = .returned (.int .i64 0) ∧ StoreM w' X p d n a b g' r' v' f' (nxt t) ((k.wr (Dk.put (secOf t) (supL a b g' r' v' f' (nxt t)))).wr Dk.sync) ∧ Kept X w w' := by
  obtain ⟨hblk, hd, hxp⟩ := hs
  have hpl := hblk.lt
  have HBKS := Lib.hid (show decide (BackS g r v f g' r' v' f') = false from decide_eq_false hbk)
  clear hbk
  have HSEC := Lib.hid (secOf_eq t)
  have HN := Lib.hid hn
  have HP := Lib.hid hp
  clear hn hp
  have HST := Lib.hid (show StoreM w X p d n a b g r v f t k from ⟨hblk, hd, hxp⟩)
  have hsl := supL_length a b g' r' v' f' (nxt t)
  have hsb := supL_bytes a b g' r' v' f' (nxt t)
  have HBK := Lib.hid (fun u => block_ok a b g' r' v' f' (nxt t) u h hin (nxt_in t))
  generalize supL a b g' r' v' f' (nxt t) = sl at *
  have HSL := Lib.hid hsl
  have HSB := Lib.hid hsb
  clear h hin hsl hsb
  have H0 := Lib.hid h0
  have H1 := Lib.hid h1
  clear h0 h1
  have HX := Lib.hid hX
  have HXP := Lib.hid hxp
  have HPL := Lib.hid hpl
  have HS1 := Lib.hid (hblk.alloc (.cells (supC a b g' r' v' f') 32))
  have HG1 := Lib.hid (show Blk (w.alloc (.cells (supC a b g' r' v' f') 32)) w.heap.size 32 (supC a b g' r' v' f') from Blk.new w _ _)
  have HB1 := Lib.hid (show Below w.heap.size w (w.alloc (.cells (supC a b g' r' v' f') 32)) from (Below.refl _ _).alloc (Nat.le_refl _) _)
  have HD := Lib.hid hd
  obtain ⟨s0, s1, s2, s3, s4, s5, s6⟩ : _ ∧ _ ∧ _ ∧ _ ∧ _ ∧ _ ∧ _ := ⟨HS1.out.cell 0, HS1.out.cell 1, HS1.out.cell 2, HS1.out.cell 3, HS1.out.cell 4, HS1.out.cell 5, HS1.out.cell 6⟩
  simp only [List.getElem?_toArray, List.getElem?_cons_zero, List.getElem?_cons_succ] at s0 s1 s2 s3 s4 s5 s6
  clear hblk hd hxp hX hpl
  go_enter Tryz.func70, Tryz.ntmps70
  go_wp2_with fail
  clear s0 s1 s2 s3 s4 s5 s6
  generalize hw1 : w.alloc (.cells (supC a b g' r' v' f') 32) = w1 at *
  clear hw1
  refine (next_any_s7 a b g r v f t _).mono ?_
  rintro e w2 ⟨rfl, hb⟩
  have HS2 := Lib.hid (HS1.out.below hb HS1.out.lt)
  have HG2 := Lib.hid (HG1.out.below hb HG1.out.lt)
  have HB2 := Lib.hid (HB1.out.trans (hb.mono HB1.out.size))
  have HZ2 := Lib.hid (show w.heap.size < w2.heap.size from HG2.out.lt)
  clear hb
  go_upto_region 4 with fail
  have HS3 := Lib.hid (HS2.out.alloc (.cells (turC a b g r v f (nxt t)) 151))
  have HG3 := Lib.hid (HG2.out.alloc (.cells (turC a b g r v f (nxt t)) 151))
  have HT3 := Lib.hid (show Blk (w2.alloc (.cells (turC a b g r v f (nxt t)) 151)) w2.heap.size 151 (turC a b g r v f (nxt t)) from Blk.new w2 _ _)
  have HB3 := Lib.hid (HB2.out.alloc HB2.out.size (.cells (turC a b g r v f (nxt t)) 151))
  generalize hw3 : w2.alloc (.cells (turC a b g r v f (nxt t)) 151) = w3 at *
  clear hw3
  obtain ⟨q0, q1, q2, q3, q4, q5⟩ : _ ∧ _ ∧ _ ∧ _ ∧ _ ∧ _ := ⟨HG3.out.cell 0, HG3.out.cell 1, HG3.out.cell 2, HG3.out.cell 3, HG3.out.cell 4, HG3.out.cell 5⟩
  simp only [List.getElem?_toArray, List.getElem?_cons_zero, List.getElem?_cons_succ] at q0 q1 q2 q3 q4 q5
  have hzs : ∀ w, (sizeOf 32).run Tryz.prog w = .ok 6 w := Tryz.sizeOf32
  have HZS := Lib.hid hzs
  have he : (List.take 0 (turC a b g r v f (nxt t)).toList ++ (supC a b g' r' v' f').toList ++ List.drop (0 + 6) (turC a b g r v f (nxt t)).toList).toArray = turC a b g' r' v' f' (nxt t) := by simp [supC, turC]
  have HE := Lib.hid he
  clear hzs he
  go_upto_region 5 with (refine wpList_store_part (.tmp 18) (.tmp 17) 32 rfl rfl HZS.out w2.heap.size 0 (supC a b g' r' v' f').toList rfl rfl 151 (turC a b g r v f (nxt t)).toList HT3.out rfl (by intro u hu; simp [supC] at hu; rcases hu with rfl | rfl | rfl | rfl | rfl | rfl <;> rfl) (by simp [turC]) ?_; rw [HE.out])
  clear q0 q1 q2 q3 q4 q5
  have hk4 : Kept (fun c => c ≠ w2.heap.size) w3 (w3.setRow w2.heap.size (turC a b g' r' v' f' (nxt t))) := (Kept.refl _ w3).setRow (fun h => h rfl) _
  have HS4 := Lib.hid (HS3.out.kept hk4 (by have := HZ2.out; have := HPL.out; omega))
  have HG4 := Lib.hid (HG3.out.kept hk4 (by have := HZ2.out; omega))
  have HT4 := Lib.hid (show Blk (w3.setRow w2.heap.size (turC a b g' r' v' f' (nxt t))) w2.heap.size 151 (turC a b g' r' v' f' (nxt t)) from setRow_heap _ _ _ _ _ _ HT3.out)
  have HB4 := Lib.hid (show Below w.heap.size w (w3.setRow w2.heap.size (turC a b g' r' v' f' (nxt t))) from below_setRow HB3.out (by have := HZ2.out; omega) _)
  generalize hw4 : w3.setRow w2.heap.size (turC a b g' r' v' f' (nxt t)) = w4 at *
  clear hw4 hk4
  obtain ⟨c0, c1, c2, c3, c4, c5, c6⟩ : _ ∧ _ ∧ _ ∧ _ ∧ _ ∧ _ ∧ _ := ⟨HT4.out.cell 0, HT4.out.cell 1, HT4.out.cell 2, HT4.out.cell 3, HT4.out.cell 4, HT4.out.cell 5, HT4.out.cell 6⟩
  simp only [List.getElem?_toArray, List.getElem?_cons_zero, List.getElem?_cons_succ] at c0 c1 c2 c3 c4 c5 c6
  go_wp2_with fail
  clear c0 c1 c2 c3 c4 c5 c6
  refine (HBK.out _).mono ?_
  rintro e w5 ⟨rfl, hb⟩
  obtain ⟨w6, hw6⟩ : ∃ w6, w6 = w5.alloc (.cells (cells8 sl) 84) := ⟨_, rfl⟩
  have HW6 := Lib.hid hw6
  have HS6 := Lib.hid (show Blk w6 p 153 (stoC a b g r v f t d) by rw [hw6]; exact (HS4.out.below hb HS4.out.lt).alloc _)
  have HG6 := Lib.hid (show Blk w6 w.heap.size 32 (supC a b g' r' v' f') by rw [hw6]; exact (HG4.out.below hb HG4.out.lt).alloc _)
  have HT6 := Lib.hid (show Blk w6 w2.heap.size 151 (turC a b g' r' v' f' (nxt t)) by rw [hw6]; exact (HT4.out.below hb HT4.out.lt).alloc _)
  have HV6 := Lib.hid (show ArrB w6 w5.heap.size sl by rw [hw6]; exact Blk.new w5 _ _)
  have HB6 := Lib.hid (show Below w.heap.size w w6 by rw [hw6]; exact (HB4.out.trans (hb.mono HB4.out.size)).alloc (Nat.le_trans HB4.out.size hb.size) _)
  have HZ5 := Lib.hid (show w2.heap.size < w5.heap.size from Nat.lt_of_lt_of_le HT4.out.lt hb.size)
  clear hb hw6
  have s0 := HS6.out.cell 0
  have s1 := HS6.out.cell 1
  have q0 := HG6.out.cell 0
  have q1 := HG6.out.cell 1
  simp only [List.getElem?_toArray, List.getElem?_cons_zero, List.getElem?_cons_succ] at s0 s1 q0 q1
  go_wp2_with (first
    | (refine wpList_alloc_blk rfl rfl ?_)
    | (refine wpList_store_new (.tmp 6) (.tmp 22) rfl rfl w5 sl rfl rfl (noughts 64) rfl (noughts_length 64) HSL.out ?_; rw [← HW6.out]))
  have n0 : (a != a) = false := by simp [bne]
  have n1 : (b != b) = false := by simp [bne]
  go_quiet (fail)
  clear s0 s1 q0 q1 n0 n1
  go_wp2
  have HS7 := Lib.hid (show Blk (w6.drewN nq) p 153 (stoC a b g r v f t d) from HS6.out)
  have HG7 := Lib.hid (show Blk (w6.drewN nq) w.heap.size 32 (supC a b g' r' v' f') from HG6.out)
  have HT7 := Lib.hid (show Blk (w6.drewN nq) w2.heap.size 151 (turC a b g' r' v' f' (nxt t)) from HT6.out)
  have HV7 := Lib.hid (show ArrB (w6.drewN nq) w5.heap.size sl from HV6.out)
  have HB7 := Lib.hid (show Below w.heap.size w (w6.drewN nq) from below_drewN HB6.out _)
  generalize hw7 : w6.drewN nq = w7 at *
  clear hw7
  have hr1 : w7.rangeAt p 0 (supC a b g r v f).toList := fun j u hu => by
    rw [Nat.zero_add, HS7.out.cell j]
    match j, hu with
    | 0, hu | 1, hu | 2, hu | 3, hu | 4, hu | 5, hu => simpa [supC, stoC] using hu
    | (m + 6), hu => simp [supC] at hu
  have hr2 : w7.rangeAt w.heap.size 0 (supC a b g' r' v' f').toList := Blk.rangeL (cs := (supC a b g' r' v' f').toList) HG7.out
  have hu24 := Tryz.underlying32
  have hs24 : ∀ a b g r v f, (Tryz.prog.info? 32).map (·.size) = some (supC a b g r v f).toList.length := fun a b g r v f => size_sup
  refine wp_region_noPanic ?_
  refine Tillst.region (fun W => W.rangeAt p 0 (supC a b g r v f).toList ∧ W.rangeAt w.heap.size 0 (supC a b g' r' v' f').toList) [] (by kernel_rfl) ⟨hr1, hr2⟩ (fun hHeld => ?_)
  refine Tillst.take (i := 0) (oi := sazg0) (v := ?_) rfl (by kernel_rfl) (by kernel_rfl) (by kernel_rfl) (by kernel_rfl) (fun _ _ _ h => h) (by rfl) ?_ hHeld ?_
  rotate_left
  · intro W hSW; (try dsimp only at hSW); unfold sazg0; go_simp; with_reducible rfl
  simp only [sazg0, Act.put, List.setIfInBounds_toArray, List.set_cons_zero, List.set_cons_succ]
  refine Tillst.take (i := 1) (oi := sazg1) (v := ?_) rfl (by kernel_rfl) (by kernel_rfl) (by kernel_rfl) (by kernel_rfl) (fun _ _ _ h => h) (by rfl) ?_ hHeld ?_
  rotate_left
  · intro W hSW; (try dsimp only at hSW); unfold sazg1; go_simp; with_reducible rfl
  simp only [sazg1, Act.put, List.setIfInBounds_toArray, List.set_cons_zero, List.set_cons_succ]
  refine Tillst.take (i := 2) (oi := sazg2) (v := ?_) rfl (by kernel_rfl) (by kernel_rfl) (by kernel_rfl) (by kernel_rfl) (fun _ _ _ h => h) (by rfl) ?_ hHeld ?_
  rotate_left
  · intro W hSW; (try dsimp only at hSW); unfold sazg2; go_simp; with_reducible rfl
  simp only [sazg2, Act.put, List.setIfInBounds_toArray, List.set_cons_zero, List.set_cons_succ]
  refine Tillst.take (i := 3) (oi := sazg3) (v := ?_) rfl (by kernel_rfl) (by kernel_rfl) (by kernel_rfl) (by kernel_rfl) (fun _ _ _ h => h) (by rfl) ?_ hHeld ?_
  rotate_left
  · intro W hSW; (try dsimp only at hSW); unfold sazg3; go_simp; with_reducible rfl
  simp only [sazg3, Act.put, List.setIfInBounds_toArray, List.set_cons_zero, List.set_cons_succ]
  refine Tillst.take (i := 4) (oi := sazg4) (v := ?_) rfl (by kernel_rfl) (by kernel_rfl) (by kernel_rfl) (by kernel_rfl) (fun _ _ _ h => h) (by rfl) ?_ hHeld ?_
  rotate_left
  · intro W hSW; refine exec_load_row (.tmp 53) 32 ?_ p 0 ?_ (supC a b g r v f).toList _ hu24 rfl (hs24 _ _ _ _ _ _) hSW.1 <;> rfl
  simp only [sazg4, Act.put, List.setIfInBounds_toArray, List.set_cons_zero, List.set_cons_succ]
  refine Tillst.take (i := 5) (oi := sazg5) (v := ?_) rfl (by kernel_rfl) (by kernel_rfl) (by kernel_rfl) (by kernel_rfl) (fun _ _ _ h => h) (by rfl) ?_ hHeld ?_
  rotate_left
  · intro W hSW; refine exec_load_row (.tmp 3) 32 ?_ w.heap.size 0 ?_ (supC a b g' r' v' f').toList _ hu24 rfl (hs24 _ _ _ _ _ _) hSW.2 <;> rfl
  simp only [sazg5, Act.put, List.setIfInBounds_toArray, List.set_cons_zero, List.set_cons_succ]
  refine Tillst.one (i := 6) (o := sazg6) (by kernel_rfl) rfl ?_
  intro K hK
  refine step_call 120 #[.tmp 54, .tmp 55] #[32, 32] rfl rfl Tryz.func120 rfl rfl [.agg (supC a b g r v f), .agg (supC a b g' r' v' f')] rfl ?_
  refine (back_any a b g r v f a b g' r' v' f' w7.drew).mono ?_
  rintro e w8 ⟨rfl, hb⟩
  rw [HBKS.out]
  have hb8 : Below w7.heap.size w7 w8 := (Below.refl _ _).drew.trans hb
  have HS8 := Lib.hid (HS7.out.below hb8 HS7.out.lt)
  have HG8 := Lib.hid (HG7.out.below hb8 HG7.out.lt)
  have HT8 := Lib.hid (HT7.out.below hb8 HT7.out.lt)
  have HV8 := Lib.hid (show ArrB w8 w5.heap.size sl from Arr.below HV7.out hb8 HV7.out.lt)
  have HB8 := Lib.hid (HB7.out.trans (hb8.mono HB7.out.size))
  have hS := And.intro (range_below hr1 hb8 HS7.out.lt) (range_below hr2 hb8 HG7.out.lt)
  clear hb hb8 hr1 hr2
  refine ⟨_, rfl, ?_⟩
  simp only [sazg6, Act.put, List.setIfInBounds_toArray, List.set_cons_zero, List.set_cons_succ]
  refine hK.out _ _ (fun _ => hS) (fun hHeld => ?_)
  replace hHeld := hHeld (by decide)
  clear hK K hS
  refine Tillst.one (i := 7) (o := sazg7) (by kernel_rfl) rfl ?_
  intro K hK
  refine step_value ?_ rfl ?_ ?_
  rotate_left
  · unfold sazg7; go_simp; with_reducible rfl
  simp only [sazg7, Act.put, List.setIfInBounds_toArray, List.set_cons_zero, List.set_cons_succ]
  refine hK.out _ _ (fun _ => hHeld) (fun hHeld => ?_)
  replace hHeld := hHeld (by decide)
  clear hK K
  refine Tillst.done (by kernel_rfl) ?_ _
  refine NoPanic.normal ?_
  clear hHeld hu24 hs24
  go_wp2
  have hr1 : w8.rangeAt w2.heap.size 0 (turC a b g' r' v' f' (nxt t)).toList := Blk.rangeL (cs := (turC a b g' r' v' f' (nxt t)).toList) HT8.out
  have hr2 := HV8.out.range
  have hc7 : w8.cell? ⟨p, 7, none⟩ = some (.pointer (some ⟨d, 0, none⟩)) := HS8.out.cell 7
  have hu65 := Tryz.underlying151
  have hu26 := Tryz.underlying84
  have hs65 : (Tryz.prog.info? 151).map (·.size) = some (turC a b g' r' v' f' (nxt t)).toList.length := size_tur
  have hs26 : (Tryz.prog.info? 84).map (·.size) = some (sl.map (Value.int .u8)).length := by rw [size_blk, List.length_map, HSL.out]
  refine wp_region_noPanic ?_
  refine Tillst.region (fun W => W.cell? ⟨p, 7, none⟩ = some (.pointer (some ⟨d, 0, none⟩)) ∧ W.rangeAt w2.heap.size 0 (turC a b g' r' v' f' (nxt t)).toList ∧ W.rangeAt w5.heap.size 0 (sl.map (Value.int .u8))) [] (by kernel_rfl) ⟨hc7, hr1, hr2⟩ (fun hHeld => ?_)
  refine Tillst.take (i := 0) (oi := sbzg0) (v := ?_) rfl (by kernel_rfl) (by kernel_rfl) (by kernel_rfl) (by kernel_rfl) (fun _ _ _ h => h) (by rfl) ?_ hHeld ?_
  rotate_left
  · intro W hSW; (try dsimp only at hSW); unfold sbzg0; go_simp; with_reducible rfl
  simp only [sbzg0, Act.put, List.setIfInBounds_toArray, List.set_cons_zero, List.set_cons_succ]
  refine Tillst.take (i := 1) (oi := sbzg1) (v := ?_) rfl (by kernel_rfl) (by kernel_rfl) (by kernel_rfl) (by kernel_rfl) (fun _ _ _ h => h) (by rfl) ?_ hHeld ?_
  rotate_left
  · intro W hSW; (try dsimp only at hSW); unfold sbzg1; go_simp; with_reducible rfl
  simp only [sbzg1, Act.put, List.setIfInBounds_toArray, List.set_cons_zero, List.set_cons_succ]
  refine Tillst.take (i := 2) (oi := sbzg2) (v := ?_) rfl (by kernel_rfl) (by kernel_rfl) (by kernel_rfl) (by kernel_rfl) (fun _ _ _ h => h) (by rfl) ?_ hHeld ?_
  rotate_left
  · intro W hSW; (try dsimp only at hSW); unfold sbzg2; go_simp; with_reducible rfl
  simp only [sbzg2, Act.put, List.setIfInBounds_toArray, List.set_cons_zero, List.set_cons_succ]
  refine Tillst.take (i := 3) (oi := sbzg3) (v := ?_) rfl (by kernel_rfl) (by kernel_rfl) (by kernel_rfl) (by kernel_rfl) (fun _ _ _ h => h) (by rfl) ?_ hHeld ?_
  rotate_left
  · intro W hSW; have hc := hSW.1; unfold sbzg3; go_simp; with_reducible rfl
  simp only [sbzg3, Act.put, List.setIfInBounds_toArray, List.set_cons_zero, List.set_cons_succ]
  refine Tillst.take (i := 4) (oi := sbzg4) (v := ?_) rfl (by kernel_rfl) (by kernel_rfl) (by kernel_rfl) (by kernel_rfl) (fun _ _ _ h => h) (by rfl) ?_ hHeld ?_
  rotate_left
  · intro W hSW; refine exec_load_row (.tmp 5) 151 ?_ w2.heap.size 0 ?_ (turC a b g' r' v' f' (nxt t)).toList _ hu65 rfl hs65 hSW.2.1 <;> rfl
  simp only [sbzg4, Act.put, List.setIfInBounds_toArray, List.set_cons_zero, List.set_cons_succ]
  refine Tillst.take (i := 6) (oi := sbzg6) (v := ?_) rfl (by kernel_rfl) (by kernel_rfl) (by kernel_rfl) (by kernel_rfl) (fun _ _ _ h => h) (by rfl) ?_ hHeld ?_
  rotate_left
  · intro W hSW; refine exec_load_row (.tmp 6) 84 ?_ w5.heap.size 0 ?_ (sl.map (Value.int .u8)) _ hu26 rfl hs26 hSW.2.2 <;> rfl
  simp only [sbzg6, Act.put, List.setIfInBounds_toArray, List.set_cons_zero, List.set_cons_succ]
  refine Tillst.one (i := 5) (o := sbzg5) (by kernel_rfl) rfl ?_
  intro K hK
  refine step_call 94 #[.tmp 61] #[151] rfl rfl Tryz.func94 rfl rfl [.agg (turC a b g' r' v' f' (nxt t))] rfl ?_
  refine (sector_any a b g' r' v' f' (nxt t) w8.drew (nxt_in t).1 (nxt_in t).2).mono ?_
  rintro e w9 ⟨rfl, hb⟩
  rw [HSEC.out]
  have hb9 : Below w8.heap.size w8 w9 := (Below.refl _ _).drew.trans hb
  have HS9 := Lib.hid (HS8.out.below hb9 HS8.out.lt)
  have HT9 := Lib.hid (HT8.out.below hb9 HT8.out.lt)
  have HV9 := Lib.hid (show ArrB w9 w5.heap.size sl from Arr.below HV8.out hb9 HV8.out.lt)
  have HB9 := Lib.hid (HB8.out.trans (hb9.mono HB8.out.size))
  have HZ9 := Lib.hid (show w5.heap.size < w9.heap.size from HV9.out.lt)
  have HD9 := Lib.hid (show DiskM w9 (fun c => X c ∨ c = p ∨ c = w2.heap.size ∨ c = w5.heap.size) d n k from HD.out.below HB9.out (fun c hc h => by rcases h with h | h | h | h; exact .inl h; exact .inr h; have := HZ2.out; omega; have := HZ2.out; have := HZ5.out; omega))
  have hS := And.intro (show w9.cell? ⟨p, 7, none⟩ = some (.pointer (some ⟨d, 0, none⟩)) from HS9.out.cell 7) (And.intro (Blk.rangeL (cs := (turC a b g' r' v' f' (nxt t)).toList) HT9.out) HV9.out.range)
  clear hb hb9 hr1 hr2 hc7
  refine ⟨_, rfl, ?_⟩
  simp only [sbzg5, Act.put, List.setIfInBounds_toArray, List.set_cons_zero, List.set_cons_succ]
  refine hK.out _ _ (fun _ => hS) (fun hHeld => ?_)
  replace hHeld := hHeld (by decide)
  clear hK K hS
  refine Tillst.one (i := 7) (o := sbzg7) (by kernel_rfl) rfl ?_
  intro K hK
  refine step_call 32 #[.tmp 60, .tmp 62, .tmp 63] #[27, 3, 84] rfl rfl Tryz.func32 rfl rfl [.pointer (some ⟨d, 0, none⟩), .int .i64 (secOf t : Nat), .agg (cells8 sl)] rfl ?_
  refine (write_k HD9.out (fun c h => by rcases h with h | h | h | h; exact Nat.lt_of_lt_of_le (HX.out c h) HB9.out.size; rw [h]; exact HS9.out.lt; rw [h]; exact HT9.out.lt; rw [h]; exact HV9.out.lt) (secOf t) (Nat.lt_of_lt_of_le (secOf_lt t) HN.out) sl HSL.out HSB.out HP.out).mono ?_
  rintro e wa ⟨rfl, hda, hka⟩
  rw [H0.out]
  have HDa := Lib.hid hda
  have HSa := Lib.hid (HS9.out.kept hka (.inr (.inl rfl)))
  have HTa := Lib.hid (HT9.out.kept hka (.inr (.inr (.inl rfl))))
  have HVa := Lib.hid (show ArrB wa w5.heap.size sl from Arr.kept HV9.out hka (.inr (.inr (.inr rfl))))
  have HKa := Lib.hid (show Kept X w wa from (Kept.of_below HB9.out HX.out).trans hka (fun c h => .inl h))
  have hS := And.intro (show wa.cell? ⟨p, 7, none⟩ = some (.pointer (some ⟨d, 0, none⟩)) from HSa.out.cell 7) (And.intro (Blk.rangeL (cs := (turC a b g' r' v' f' (nxt t)).toList) HTa.out) HVa.out.range)
  clear hda hka
  refine ⟨_, rfl, ?_⟩
  simp only [sbzg7, Act.put, List.setIfInBounds_toArray, List.set_cons_zero, List.set_cons_succ]
  refine hK.out _ _ (fun _ => hS) (fun hHeld => ?_)
  replace hHeld := hHeld (by decide)
  clear hK K hS
  refine Tillst.one (i := 8) (o := sbzg8) (by kernel_rfl) rfl ?_
  intro K hK
  refine step_value ?_ rfl ?_ ?_
  rotate_left
  · unfold sbzg8; go_simp; with_reducible rfl
  simp only [sbzg8, Act.put, List.setIfInBounds_toArray, List.set_cons_zero, List.set_cons_succ]
  refine hK.out _ _ (fun _ => hHeld) (fun hHeld => ?_)
  replace hHeld := hHeld (by decide)
  clear hK K
  refine Tillst.done (by kernel_rfl) ?_ _
  refine NoPanic.normal ?_
  clear hHeld hu65 hu26 hs65 hs26
  have hc7 : wa.cell? ⟨p, 7, none⟩ = some (.pointer (some ⟨d, 0, none⟩)) := HSa.out.cell 7
  go_wp2_with fail
  clear hc7
  refine (sync_k (HDa.out.mono (Y := fun c => X c ∨ c = p ∨ c = w2.heap.size) (fun c _ h => by rcases h with h | h | h; exact .inl h; exact .inr (.inl h); exact .inr (.inr (.inl h)))) (fun c h => by rcases h with h | h | h; exact Nat.lt_of_lt_of_le (HX.out c h) HKa.out.size; rw [h]; exact HSa.out.lt; rw [h]; exact HTa.out.lt)).mono ?_
  rintro e wb ⟨rfl, hdb, hkb⟩
  rw [H1.out]
  have HDb := Lib.hid hdb
  have HSb := Lib.hid (HSa.out.kept hkb (.inr (.inl rfl)))
  have HTb := Lib.hid (HTa.out.kept hkb (.inr (.inr rfl)))
  have HKb := Lib.hid (show Kept X w wb from HKa.out.trans hkb (fun c h => .inl h))
  clear hdb hkb
  obtain ⟨c0, c1, c2, c3, c4, c5, c6⟩ : _ ∧ _ ∧ _ ∧ _ ∧ _ ∧ _ ∧ _ := ⟨HTb.out.cell 0, HTb.out.cell 1, HTb.out.cell 2, HTb.out.cell 3, HTb.out.cell 4, HTb.out.cell 5, HTb.out.cell 6⟩
  simp only [List.getElem?_toArray, List.getElem?_cons_zero, List.getElem?_cons_succ] at c0 c1 c2 c3 c4 c5 c6
  have hz7 : ∀ w, (sizeOf 151).run Tryz.prog w = .ok 7 w := Tryz.sizeOf151
  have HZ7 := Lib.hid hz7
  have he7 : (List.take 0 (stoC a b g r v f t d).toList ++ (turC a b g' r' v' f' (nxt t)).toList ++ List.drop (0 + 7) (stoC a b g r v f t d).toList).toArray = stoC a b g' r' v' f' (nxt t) d := by simp [stoC, turC]
  have HE7 := Lib.hid he7
  clear hz7 he7
  go_wp2_with (refine wpList_store_part (.tmp 79) (.tmp 77) 151 rfl rfl HZ7.out p 0 (turC a b g' r' v' f' (nxt t)).toList rfl rfl 153 (stoC a b g r v f t d).toList HSb.out rfl (by intro u hu; simp [turC] at hu; rcases hu with rfl | rfl | rfl | rfl | rfl | rfl | rfl <;> rfl) (by simp [stoC]) ?_; rw [HE7.out])
  go_ret
  have hkf : Kept (fun c => c ≠ p) wb (wb.setRow p (stoC a b g' r' v' f' (nxt t) d)) := (Kept.refl _ wb).setRow (fun h => h rfl) _
  exact ⟨rfl, ⟨setRow_heap _ _ _ _ _ _ HSb.out, HDb.out.kept hkf (fun c _ h e => h (.inr (.inl e))) (fun c _ h => by rcases h with h | h; exact .inl h; exact .inr (.inl h)), HXP.out⟩, HKb.out.setRow HXP.out _⟩
set_option maxHeartbeats 2000000 in
set_option maxRecDepth 100000 in
theorem set_e1 {w : World} {X : Nat → Prop} {p d n : Nat} {a b g r v f t : Int} {k : Dk} (hs : StoreM w X p d n a b g r v f t k) (hX : ∀ c, X c → c < w.heap.size) (g' r' v' f' : Int) (h : MayS a b g' r') (hin : InS a b g' r' v' f') (hbk : ¬ BackS g r v f g' r' v' f') (hn : 2 ≤ n) (hp : k.pend.length ≤ 1000000) (er : Int) (h0 : k.wre = er) (hne : er ≠ 0) :
    Calls Tryz.prog 70 #[.pointer (some ⟨p, 0, none⟩), .agg (supC a b g' r' v' f')] w fun e w' => e = .returned (.int .i64 er) ∧ StoreM w' X p d n a b g r v f t (k.wr (Dk.put (secOf t) (supL a b g' r' v' f' (nxt t)))) ∧ Kept X w w' := by
  obtain ⟨hblk, hd, hxp⟩ := hs
  have hpl := hblk.lt
  have HBKS := Lib.hid (show decide (BackS g r v f g' r' v' f') = false from decide_eq_false hbk)
  clear hbk
  have HSEC := Lib.hid (secOf_eq t)
  have HN := Lib.hid hn
  have HP := Lib.hid hp
  clear hn hp
  have HST := Lib.hid (show StoreM w X p d n a b g r v f t k from ⟨hblk, hd, hxp⟩)
  have hsl := supL_length a b g' r' v' f' (nxt t)
  have hsb := supL_bytes a b g' r' v' f' (nxt t)
  have HBK := Lib.hid (fun u => block_ok a b g' r' v' f' (nxt t) u h hin (nxt_in t))
  generalize supL a b g' r' v' f' (nxt t) = sl at *
  have HSL := Lib.hid hsl
  have HSB := Lib.hid hsb
  clear h hin hsl hsb
  have HE0 := Lib.hid h0
  have HNE0 := Lib.hid (show (er != 0) = true by simpa [bne] using hne)
  clear h0 hne
  have HX := Lib.hid hX
  have HXP := Lib.hid hxp
  have HPL := Lib.hid hpl
  have HS1 := Lib.hid (hblk.alloc (.cells (supC a b g' r' v' f') 32))
  have HG1 := Lib.hid (show Blk (w.alloc (.cells (supC a b g' r' v' f') 32)) w.heap.size 32 (supC a b g' r' v' f') from Blk.new w _ _)
  have HB1 := Lib.hid (show Below w.heap.size w (w.alloc (.cells (supC a b g' r' v' f') 32)) from (Below.refl _ _).alloc (Nat.le_refl _) _)
  have HD := Lib.hid hd
  obtain ⟨s0, s1, s2, s3, s4, s5, s6⟩ : _ ∧ _ ∧ _ ∧ _ ∧ _ ∧ _ ∧ _ := ⟨HS1.out.cell 0, HS1.out.cell 1, HS1.out.cell 2, HS1.out.cell 3, HS1.out.cell 4, HS1.out.cell 5, HS1.out.cell 6⟩
  simp only [List.getElem?_toArray, List.getElem?_cons_zero, List.getElem?_cons_succ] at s0 s1 s2 s3 s4 s5 s6
  clear hblk hd hxp hX hpl
  go_enter Tryz.func70, Tryz.ntmps70
  go_wp2_with fail
  clear s0 s1 s2 s3 s4 s5 s6
  generalize hw1 : w.alloc (.cells (supC a b g' r' v' f') 32) = w1 at *
  clear hw1
  refine (next_any_s7 a b g r v f t _).mono ?_
  rintro e w2 ⟨rfl, hb⟩
  have HS2 := Lib.hid (HS1.out.below hb HS1.out.lt)
  have HG2 := Lib.hid (HG1.out.below hb HG1.out.lt)
  have HB2 := Lib.hid (HB1.out.trans (hb.mono HB1.out.size))
  have HZ2 := Lib.hid (show w.heap.size < w2.heap.size from HG2.out.lt)
  clear hb
  go_upto_region 4 with fail
  have HS3 := Lib.hid (HS2.out.alloc (.cells (turC a b g r v f (nxt t)) 151))
  have HG3 := Lib.hid (HG2.out.alloc (.cells (turC a b g r v f (nxt t)) 151))
  have HT3 := Lib.hid (show Blk (w2.alloc (.cells (turC a b g r v f (nxt t)) 151)) w2.heap.size 151 (turC a b g r v f (nxt t)) from Blk.new w2 _ _)
  have HB3 := Lib.hid (HB2.out.alloc HB2.out.size (.cells (turC a b g r v f (nxt t)) 151))
  generalize hw3 : w2.alloc (.cells (turC a b g r v f (nxt t)) 151) = w3 at *
  clear hw3
  obtain ⟨q0, q1, q2, q3, q4, q5⟩ : _ ∧ _ ∧ _ ∧ _ ∧ _ ∧ _ := ⟨HG3.out.cell 0, HG3.out.cell 1, HG3.out.cell 2, HG3.out.cell 3, HG3.out.cell 4, HG3.out.cell 5⟩
  simp only [List.getElem?_toArray, List.getElem?_cons_zero, List.getElem?_cons_succ] at q0 q1 q2 q3 q4 q5
  have hzs : ∀ w, (sizeOf 32).run Tryz.prog w = .ok 6 w := Tryz.sizeOf32
  have HZS := Lib.hid hzs
  have he : (List.take 0 (turC a b g r v f (nxt t)).toList ++ (supC a b g' r' v' f').toList ++ List.drop (0 + 6) (turC a b g r v f (nxt t)).toList).toArray = turC a b g' r' v' f' (nxt t) := by simp [supC, turC]
  have HE := Lib.hid he
  clear hzs he
  go_upto_region 5 with (refine wpList_store_part (.tmp 18) (.tmp 17) 32 rfl rfl HZS.out w2.heap.size 0 (supC a b g' r' v' f').toList rfl rfl 151 (turC a b g r v f (nxt t)).toList HT3.out rfl (by intro u hu; simp [supC] at hu; rcases hu with rfl | rfl | rfl | rfl | rfl | rfl <;> rfl) (by simp [turC]) ?_; rw [HE.out])
  clear q0 q1 q2 q3 q4 q5
  have hk4 : Kept (fun c => c ≠ w2.heap.size) w3 (w3.setRow w2.heap.size (turC a b g' r' v' f' (nxt t))) := (Kept.refl _ w3).setRow (fun h => h rfl) _
  have HS4 := Lib.hid (HS3.out.kept hk4 (by have := HZ2.out; have := HPL.out; omega))
  have HG4 := Lib.hid (HG3.out.kept hk4 (by have := HZ2.out; omega))
  have HT4 := Lib.hid (show Blk (w3.setRow w2.heap.size (turC a b g' r' v' f' (nxt t))) w2.heap.size 151 (turC a b g' r' v' f' (nxt t)) from setRow_heap _ _ _ _ _ _ HT3.out)
  have HB4 := Lib.hid (show Below w.heap.size w (w3.setRow w2.heap.size (turC a b g' r' v' f' (nxt t))) from below_setRow HB3.out (by have := HZ2.out; omega) _)
  generalize hw4 : w3.setRow w2.heap.size (turC a b g' r' v' f' (nxt t)) = w4 at *
  clear hw4 hk4
  obtain ⟨c0, c1, c2, c3, c4, c5, c6⟩ : _ ∧ _ ∧ _ ∧ _ ∧ _ ∧ _ ∧ _ := ⟨HT4.out.cell 0, HT4.out.cell 1, HT4.out.cell 2, HT4.out.cell 3, HT4.out.cell 4, HT4.out.cell 5, HT4.out.cell 6⟩
  simp only [List.getElem?_toArray, List.getElem?_cons_zero, List.getElem?_cons_succ] at c0 c1 c2 c3 c4 c5 c6
  go_wp2_with fail
  clear c0 c1 c2 c3 c4 c5 c6
  refine (HBK.out _).mono ?_
  rintro e w5 ⟨rfl, hb⟩
  obtain ⟨w6, hw6⟩ : ∃ w6, w6 = w5.alloc (.cells (cells8 sl) 84) := ⟨_, rfl⟩
  have HW6 := Lib.hid hw6
  have HS6 := Lib.hid (show Blk w6 p 153 (stoC a b g r v f t d) by rw [hw6]; exact (HS4.out.below hb HS4.out.lt).alloc _)
  have HG6 := Lib.hid (show Blk w6 w.heap.size 32 (supC a b g' r' v' f') by rw [hw6]; exact (HG4.out.below hb HG4.out.lt).alloc _)
  have HT6 := Lib.hid (show Blk w6 w2.heap.size 151 (turC a b g' r' v' f' (nxt t)) by rw [hw6]; exact (HT4.out.below hb HT4.out.lt).alloc _)
  have HV6 := Lib.hid (show ArrB w6 w5.heap.size sl by rw [hw6]; exact Blk.new w5 _ _)
  have HB6 := Lib.hid (show Below w.heap.size w w6 by rw [hw6]; exact (HB4.out.trans (hb.mono HB4.out.size)).alloc (Nat.le_trans HB4.out.size hb.size) _)
  have HZ5 := Lib.hid (show w2.heap.size < w5.heap.size from Nat.lt_of_lt_of_le HT4.out.lt hb.size)
  clear hb hw6
  have s0 := HS6.out.cell 0
  have s1 := HS6.out.cell 1
  have q0 := HG6.out.cell 0
  have q1 := HG6.out.cell 1
  simp only [List.getElem?_toArray, List.getElem?_cons_zero, List.getElem?_cons_succ] at s0 s1 q0 q1
  go_wp2_with (first
    | (refine wpList_alloc_blk rfl rfl ?_)
    | (refine wpList_store_new (.tmp 6) (.tmp 22) rfl rfl w5 sl rfl rfl (noughts 64) rfl (noughts_length 64) HSL.out ?_; rw [← HW6.out]))
  have n0 : (a != a) = false := by simp [bne]
  have n1 : (b != b) = false := by simp [bne]
  go_quiet (fail)
  clear s0 s1 q0 q1 n0 n1
  go_wp2
  have HS7 := Lib.hid (show Blk (w6.drewN nq) p 153 (stoC a b g r v f t d) from HS6.out)
  have HG7 := Lib.hid (show Blk (w6.drewN nq) w.heap.size 32 (supC a b g' r' v' f') from HG6.out)
  have HT7 := Lib.hid (show Blk (w6.drewN nq) w2.heap.size 151 (turC a b g' r' v' f' (nxt t)) from HT6.out)
  have HV7 := Lib.hid (show ArrB (w6.drewN nq) w5.heap.size sl from HV6.out)
  have HB7 := Lib.hid (show Below w.heap.size w (w6.drewN nq) from below_drewN HB6.out _)
  generalize hw7 : w6.drewN nq = w7 at *
  clear hw7
  have hr1 : w7.rangeAt p 0 (supC a b g r v f).toList := fun j u hu => by
    rw [Nat.zero_add, HS7.out.cell j]
    match j, hu with
    | 0, hu | 1, hu | 2, hu | 3, hu | 4, hu | 5, hu => simpa [supC, stoC] using hu
    | (m + 6), hu => simp [supC] at hu
  have hr2 : w7.rangeAt w.heap.size 0 (supC a b g' r' v' f').toList := Blk.rangeL (cs := (supC a b g' r' v' f').toList) HG7.out
  have hu24 := Tryz.underlying32
  have hs24 : ∀ a b g r v f, (Tryz.prog.info? 32).map (·.size) = some (supC a b g r v f).toList.length := fun a b g r v f => size_sup
  refine wp_region_noPanic ?_
  refine Tillst.region (fun W => W.rangeAt p 0 (supC a b g r v f).toList ∧ W.rangeAt w.heap.size 0 (supC a b g' r' v' f').toList) [] (by kernel_rfl) ⟨hr1, hr2⟩ (fun hHeld => ?_)
  refine Tillst.take (i := 0) (oi := sazg0) (v := ?_) rfl (by kernel_rfl) (by kernel_rfl) (by kernel_rfl) (by kernel_rfl) (fun _ _ _ h => h) (by rfl) ?_ hHeld ?_
  rotate_left
  · intro W hSW; (try dsimp only at hSW); unfold sazg0; go_simp; with_reducible rfl
  simp only [sazg0, Act.put, List.setIfInBounds_toArray, List.set_cons_zero, List.set_cons_succ]
  refine Tillst.take (i := 1) (oi := sazg1) (v := ?_) rfl (by kernel_rfl) (by kernel_rfl) (by kernel_rfl) (by kernel_rfl) (fun _ _ _ h => h) (by rfl) ?_ hHeld ?_
  rotate_left
  · intro W hSW; (try dsimp only at hSW); unfold sazg1; go_simp; with_reducible rfl
  simp only [sazg1, Act.put, List.setIfInBounds_toArray, List.set_cons_zero, List.set_cons_succ]
  refine Tillst.take (i := 2) (oi := sazg2) (v := ?_) rfl (by kernel_rfl) (by kernel_rfl) (by kernel_rfl) (by kernel_rfl) (fun _ _ _ h => h) (by rfl) ?_ hHeld ?_
  rotate_left
  · intro W hSW; (try dsimp only at hSW); unfold sazg2; go_simp; with_reducible rfl
  simp only [sazg2, Act.put, List.setIfInBounds_toArray, List.set_cons_zero, List.set_cons_succ]
  refine Tillst.take (i := 3) (oi := sazg3) (v := ?_) rfl (by kernel_rfl) (by kernel_rfl) (by kernel_rfl) (by kernel_rfl) (fun _ _ _ h => h) (by rfl) ?_ hHeld ?_
  rotate_left
  · intro W hSW; (try dsimp only at hSW); unfold sazg3; go_simp; with_reducible rfl
  simp only [sazg3, Act.put, List.setIfInBounds_toArray, List.set_cons_zero, List.set_cons_succ]
  refine Tillst.take (i := 4) (oi := sazg4) (v := ?_) rfl (by kernel_rfl) (by kernel_rfl) (by kernel_rfl) (by kernel_rfl) (fun _ _ _ h => h) (by rfl) ?_ hHeld ?_
  rotate_left
  · intro W hSW; refine exec_load_row (.tmp 53) 32 ?_ p 0 ?_ (supC a b g r v f).toList _ hu24 rfl (hs24 _ _ _ _ _ _) hSW.1 <;> rfl
  simp only [sazg4, Act.put, List.setIfInBounds_toArray, List.set_cons_zero, List.set_cons_succ]
  refine Tillst.take (i := 5) (oi := sazg5) (v := ?_) rfl (by kernel_rfl) (by kernel_rfl) (by kernel_rfl) (by kernel_rfl) (fun _ _ _ h => h) (by rfl) ?_ hHeld ?_
  rotate_left
  · intro W hSW; refine exec_load_row (.tmp 3) 32 ?_ w.heap.size 0 ?_ (supC a b g' r' v' f').toList _ hu24 rfl (hs24 _ _ _ _ _ _) hSW.2 <;> rfl
  simp only [sazg5, Act.put, List.setIfInBounds_toArray, List.set_cons_zero, List.set_cons_succ]
  refine Tillst.one (i := 6) (o := sazg6) (by kernel_rfl) rfl ?_
  intro K hK
  refine step_call 120 #[.tmp 54, .tmp 55] #[32, 32] rfl rfl Tryz.func120 rfl rfl [.agg (supC a b g r v f), .agg (supC a b g' r' v' f')] rfl ?_
  refine (back_any a b g r v f a b g' r' v' f' w7.drew).mono ?_
  rintro e w8 ⟨rfl, hb⟩
  rw [HBKS.out]
  have hb8 : Below w7.heap.size w7 w8 := (Below.refl _ _).drew.trans hb
  have HS8 := Lib.hid (HS7.out.below hb8 HS7.out.lt)
  have HG8 := Lib.hid (HG7.out.below hb8 HG7.out.lt)
  have HT8 := Lib.hid (HT7.out.below hb8 HT7.out.lt)
  have HV8 := Lib.hid (show ArrB w8 w5.heap.size sl from Arr.below HV7.out hb8 HV7.out.lt)
  have HB8 := Lib.hid (HB7.out.trans (hb8.mono HB7.out.size))
  have hS := And.intro (range_below hr1 hb8 HS7.out.lt) (range_below hr2 hb8 HG7.out.lt)
  clear hb hb8 hr1 hr2
  refine ⟨_, rfl, ?_⟩
  simp only [sazg6, Act.put, List.setIfInBounds_toArray, List.set_cons_zero, List.set_cons_succ]
  refine hK.out _ _ (fun _ => hS) (fun hHeld => ?_)
  replace hHeld := hHeld (by decide)
  clear hK K hS
  refine Tillst.one (i := 7) (o := sazg7) (by kernel_rfl) rfl ?_
  intro K hK
  refine step_value ?_ rfl ?_ ?_
  rotate_left
  · unfold sazg7; go_simp; with_reducible rfl
  simp only [sazg7, Act.put, List.setIfInBounds_toArray, List.set_cons_zero, List.set_cons_succ]
  refine hK.out _ _ (fun _ => hHeld) (fun hHeld => ?_)
  replace hHeld := hHeld (by decide)
  clear hK K
  refine Tillst.done (by kernel_rfl) ?_ _
  refine NoPanic.normal ?_
  clear hHeld hu24 hs24
  go_wp2
  have hr1 : w8.rangeAt w2.heap.size 0 (turC a b g' r' v' f' (nxt t)).toList := Blk.rangeL (cs := (turC a b g' r' v' f' (nxt t)).toList) HT8.out
  have hr2 := HV8.out.range
  have hc7 : w8.cell? ⟨p, 7, none⟩ = some (.pointer (some ⟨d, 0, none⟩)) := HS8.out.cell 7
  have hu65 := Tryz.underlying151
  have hu26 := Tryz.underlying84
  have hs65 : (Tryz.prog.info? 151).map (·.size) = some (turC a b g' r' v' f' (nxt t)).toList.length := size_tur
  have hs26 : (Tryz.prog.info? 84).map (·.size) = some (sl.map (Value.int .u8)).length := by rw [size_blk, List.length_map, HSL.out]
  refine wp_region_noPanic ?_
  refine Tillst.region (fun W => W.cell? ⟨p, 7, none⟩ = some (.pointer (some ⟨d, 0, none⟩)) ∧ W.rangeAt w2.heap.size 0 (turC a b g' r' v' f' (nxt t)).toList ∧ W.rangeAt w5.heap.size 0 (sl.map (Value.int .u8))) [] (by kernel_rfl) ⟨hc7, hr1, hr2⟩ (fun hHeld => ?_)
  refine Tillst.take (i := 0) (oi := sbzg0) (v := ?_) rfl (by kernel_rfl) (by kernel_rfl) (by kernel_rfl) (by kernel_rfl) (fun _ _ _ h => h) (by rfl) ?_ hHeld ?_
  rotate_left
  · intro W hSW; (try dsimp only at hSW); unfold sbzg0; go_simp; with_reducible rfl
  simp only [sbzg0, Act.put, List.setIfInBounds_toArray, List.set_cons_zero, List.set_cons_succ]
  refine Tillst.take (i := 1) (oi := sbzg1) (v := ?_) rfl (by kernel_rfl) (by kernel_rfl) (by kernel_rfl) (by kernel_rfl) (fun _ _ _ h => h) (by rfl) ?_ hHeld ?_
  rotate_left
  · intro W hSW; (try dsimp only at hSW); unfold sbzg1; go_simp; with_reducible rfl
  simp only [sbzg1, Act.put, List.setIfInBounds_toArray, List.set_cons_zero, List.set_cons_succ]
  refine Tillst.take (i := 2) (oi := sbzg2) (v := ?_) rfl (by kernel_rfl) (by kernel_rfl) (by kernel_rfl) (by kernel_rfl) (fun _ _ _ h => h) (by rfl) ?_ hHeld ?_
  rotate_left
  · intro W hSW; (try dsimp only at hSW); unfold sbzg2; go_simp; with_reducible rfl
  simp only [sbzg2, Act.put, List.setIfInBounds_toArray, List.set_cons_zero, List.set_cons_succ]
  refine Tillst.take (i := 3) (oi := sbzg3) (v := ?_) rfl (by kernel_rfl) (by kernel_rfl) (by kernel_rfl) (by kernel_rfl) (fun _ _ _ h => h) (by rfl) ?_ hHeld ?_
  rotate_left
  · intro W hSW; have hc := hSW.1; unfold sbzg3; go_simp; with_reducible rfl
  simp only [sbzg3, Act.put, List.setIfInBounds_toArray, List.set_cons_zero, List.set_cons_succ]
  refine Tillst.take (i := 4) (oi := sbzg4) (v := ?_) rfl (by kernel_rfl) (by kernel_rfl) (by kernel_rfl) (by kernel_rfl) (fun _ _ _ h => h) (by rfl) ?_ hHeld ?_
  rotate_left
  · intro W hSW; refine exec_load_row (.tmp 5) 151 ?_ w2.heap.size 0 ?_ (turC a b g' r' v' f' (nxt t)).toList _ hu65 rfl hs65 hSW.2.1 <;> rfl
  simp only [sbzg4, Act.put, List.setIfInBounds_toArray, List.set_cons_zero, List.set_cons_succ]
  refine Tillst.take (i := 6) (oi := sbzg6) (v := ?_) rfl (by kernel_rfl) (by kernel_rfl) (by kernel_rfl) (by kernel_rfl) (fun _ _ _ h => h) (by rfl) ?_ hHeld ?_
  rotate_left
  · intro W hSW; refine exec_load_row (.tmp 6) 84 ?_ w5.heap.size 0 ?_ (sl.map (Value.int .u8)) _ hu26 rfl hs26 hSW.2.2 <;> rfl
  simp only [sbzg6, Act.put, List.setIfInBounds_toArray, List.set_cons_zero, List.set_cons_succ]
  refine Tillst.one (i := 5) (o := sbzg5) (by kernel_rfl) rfl ?_
  intro K hK
  refine step_call 94 #[.tmp 61] #[151] rfl rfl Tryz.func94 rfl rfl [.agg (turC a b g' r' v' f' (nxt t))] rfl ?_
  refine (sector_any a b g' r' v' f' (nxt t) w8.drew (nxt_in t).1 (nxt_in t).2).mono ?_
  rintro e w9 ⟨rfl, hb⟩
  rw [HSEC.out]
  have hb9 : Below w8.heap.size w8 w9 := (Below.refl _ _).drew.trans hb
  have HS9 := Lib.hid (HS8.out.below hb9 HS8.out.lt)
  have HT9 := Lib.hid (HT8.out.below hb9 HT8.out.lt)
  have HV9 := Lib.hid (show ArrB w9 w5.heap.size sl from Arr.below HV8.out hb9 HV8.out.lt)
  have HB9 := Lib.hid (HB8.out.trans (hb9.mono HB8.out.size))
  have HZ9 := Lib.hid (show w5.heap.size < w9.heap.size from HV9.out.lt)
  have HD9 := Lib.hid (show DiskM w9 (fun c => X c ∨ c = p ∨ c = w2.heap.size ∨ c = w5.heap.size) d n k from HD.out.below HB9.out (fun c hc h => by rcases h with h | h | h | h; exact .inl h; exact .inr h; have := HZ2.out; omega; have := HZ2.out; have := HZ5.out; omega))
  have hS := And.intro (show w9.cell? ⟨p, 7, none⟩ = some (.pointer (some ⟨d, 0, none⟩)) from HS9.out.cell 7) (And.intro (Blk.rangeL (cs := (turC a b g' r' v' f' (nxt t)).toList) HT9.out) HV9.out.range)
  clear hb hb9 hr1 hr2 hc7
  refine ⟨_, rfl, ?_⟩
  simp only [sbzg5, Act.put, List.setIfInBounds_toArray, List.set_cons_zero, List.set_cons_succ]
  refine hK.out _ _ (fun _ => hS) (fun hHeld => ?_)
  replace hHeld := hHeld (by decide)
  clear hK K hS
  refine Tillst.one (i := 7) (o := sbzg7) (by kernel_rfl) rfl ?_
  intro K hK
  refine step_call 32 #[.tmp 60, .tmp 62, .tmp 63] #[27, 3, 84] rfl rfl Tryz.func32 rfl rfl [.pointer (some ⟨d, 0, none⟩), .int .i64 (secOf t : Nat), .agg (cells8 sl)] rfl ?_
  refine (write_k HD9.out (fun c h => by rcases h with h | h | h | h; exact Nat.lt_of_lt_of_le (HX.out c h) HB9.out.size; rw [h]; exact HS9.out.lt; rw [h]; exact HT9.out.lt; rw [h]; exact HV9.out.lt) (secOf t) (Nat.lt_of_lt_of_le (secOf_lt t) HN.out) sl HSL.out HSB.out HP.out).mono ?_
  rintro e wa ⟨rfl, hda, hka⟩
  rw [HE0.out]
  have HDa := Lib.hid hda
  have HSa := Lib.hid (HS9.out.kept hka (.inr (.inl rfl)))
  have HTa := Lib.hid (HT9.out.kept hka (.inr (.inr (.inl rfl))))
  have HVa := Lib.hid (show ArrB wa w5.heap.size sl from Arr.kept HV9.out hka (.inr (.inr (.inr rfl))))
  have HKa := Lib.hid (show Kept X w wa from (Kept.of_below HB9.out HX.out).trans hka (fun c h => .inl h))
  have hS := And.intro (show wa.cell? ⟨p, 7, none⟩ = some (.pointer (some ⟨d, 0, none⟩)) from HSa.out.cell 7) (And.intro (Blk.rangeL (cs := (turC a b g' r' v' f' (nxt t)).toList) HTa.out) HVa.out.range)
  clear hda hka
  refine ⟨_, rfl, ?_⟩
  simp only [sbzg7, Act.put, List.setIfInBounds_toArray, List.set_cons_zero, List.set_cons_succ]
  refine hK.out _ _ (fun _ => hS) (fun hHeld => ?_)
  replace hHeld := hHeld (by decide)
  clear hK K hS
  refine Tillst.one (i := 8) (o := sbzg8) (by kernel_rfl) rfl ?_
  intro K hK
  refine step_value ?_ rfl ?_ ?_
  rotate_left
  · unfold sbzg8; go_simp; with_reducible rfl
  simp only [sbzg8, Act.put, List.setIfInBounds_toArray, List.set_cons_zero, List.set_cons_succ]
  refine hK.out _ _ (fun _ => hHeld) (fun hHeld => ?_)
  replace hHeld := hHeld (by decide)
  clear hK K
  refine Tillst.done (by kernel_rfl) ?_ _
  refine NoPanic.normal ?_
  clear hHeld hu65 hu26 hs65 hs26
  have e1 := HNE0.out
  go_wp2
  go_ret
  exact ⟨rfl, ⟨HSa.out, HDa.out.mono (fun c _ h => by rcases h with h | h; exact .inl h; exact .inr (.inl h)), HXP.out⟩, HKa.out⟩
set_option maxHeartbeats 2000000 in
set_option maxRecDepth 100000 in
theorem set_e2 {w : World} {X : Nat → Prop} {p d n : Nat} {a b g r v f t : Int} {k : Dk} (hs : StoreM w X p d n a b g r v f t k) (hX : ∀ c, X c → c < w.heap.size) (g' r' v' f' : Int) (h : MayS a b g' r') (hin : InS a b g' r' v' f') (hbk : ¬ BackS g r v f g' r' v' f') (hn : 2 ≤ n) (hp : k.pend.length ≤ 1000000) (er : Int) (h0 : k.wre = 0) (h1 : (k.wr (Dk.put (secOf t) (supL a b g' r' v' f' (nxt t)))).wre = er) (hne : er ≠ 0) :
    Calls Tryz.prog 70 #[.pointer (some ⟨p, 0, none⟩), .agg (supC a b g' r' v' f')] w fun e w' => e = .returned (.int .i64 er) ∧ StoreM w' X p d n a b g r v f t ((k.wr (Dk.put (secOf t) (supL a b g' r' v' f' (nxt t)))).wr Dk.sync) ∧ Kept X w w' := by
  obtain ⟨hblk, hd, hxp⟩ := hs
  have hpl := hblk.lt
  have HBKS := Lib.hid (show decide (BackS g r v f g' r' v' f') = false from decide_eq_false hbk)
  clear hbk
  have HSEC := Lib.hid (secOf_eq t)
  have HN := Lib.hid hn
  have HP := Lib.hid hp
  clear hn hp
  have HST := Lib.hid (show StoreM w X p d n a b g r v f t k from ⟨hblk, hd, hxp⟩)
  have hsl := supL_length a b g' r' v' f' (nxt t)
  have hsb := supL_bytes a b g' r' v' f' (nxt t)
  have HBK := Lib.hid (fun u => block_ok a b g' r' v' f' (nxt t) u h hin (nxt_in t))
  generalize supL a b g' r' v' f' (nxt t) = sl at *
  have HSL := Lib.hid hsl
  have HSB := Lib.hid hsb
  clear h hin hsl hsb
  have HNE1 := Lib.hid (show (er != 0) = true by simpa [bne] using hne)
  clear hne
  have H0 := Lib.hid h0
  have H1 := Lib.hid h1
  clear h0 h1
  have HX := Lib.hid hX
  have HXP := Lib.hid hxp
  have HPL := Lib.hid hpl
  have HS1 := Lib.hid (hblk.alloc (.cells (supC a b g' r' v' f') 32))
  have HG1 := Lib.hid (show Blk (w.alloc (.cells (supC a b g' r' v' f') 32)) w.heap.size 32 (supC a b g' r' v' f') from Blk.new w _ _)
  have HB1 := Lib.hid (show Below w.heap.size w (w.alloc (.cells (supC a b g' r' v' f') 32)) from (Below.refl _ _).alloc (Nat.le_refl _) _)
  have HD := Lib.hid hd
  obtain ⟨s0, s1, s2, s3, s4, s5, s6⟩ : _ ∧ _ ∧ _ ∧ _ ∧ _ ∧ _ ∧ _ := ⟨HS1.out.cell 0, HS1.out.cell 1, HS1.out.cell 2, HS1.out.cell 3, HS1.out.cell 4, HS1.out.cell 5, HS1.out.cell 6⟩
  simp only [List.getElem?_toArray, List.getElem?_cons_zero, List.getElem?_cons_succ] at s0 s1 s2 s3 s4 s5 s6
  clear hblk hd hxp hX hpl
  go_enter Tryz.func70, Tryz.ntmps70
  go_wp2_with fail
  clear s0 s1 s2 s3 s4 s5 s6
  generalize hw1 : w.alloc (.cells (supC a b g' r' v' f') 32) = w1 at *
  clear hw1
  refine (next_any_s7 a b g r v f t _).mono ?_
  rintro e w2 ⟨rfl, hb⟩
  have HS2 := Lib.hid (HS1.out.below hb HS1.out.lt)
  have HG2 := Lib.hid (HG1.out.below hb HG1.out.lt)
  have HB2 := Lib.hid (HB1.out.trans (hb.mono HB1.out.size))
  have HZ2 := Lib.hid (show w.heap.size < w2.heap.size from HG2.out.lt)
  clear hb
  go_upto_region 4 with fail
  have HS3 := Lib.hid (HS2.out.alloc (.cells (turC a b g r v f (nxt t)) 151))
  have HG3 := Lib.hid (HG2.out.alloc (.cells (turC a b g r v f (nxt t)) 151))
  have HT3 := Lib.hid (show Blk (w2.alloc (.cells (turC a b g r v f (nxt t)) 151)) w2.heap.size 151 (turC a b g r v f (nxt t)) from Blk.new w2 _ _)
  have HB3 := Lib.hid (HB2.out.alloc HB2.out.size (.cells (turC a b g r v f (nxt t)) 151))
  generalize hw3 : w2.alloc (.cells (turC a b g r v f (nxt t)) 151) = w3 at *
  clear hw3
  obtain ⟨q0, q1, q2, q3, q4, q5⟩ : _ ∧ _ ∧ _ ∧ _ ∧ _ ∧ _ := ⟨HG3.out.cell 0, HG3.out.cell 1, HG3.out.cell 2, HG3.out.cell 3, HG3.out.cell 4, HG3.out.cell 5⟩
  simp only [List.getElem?_toArray, List.getElem?_cons_zero, List.getElem?_cons_succ] at q0 q1 q2 q3 q4 q5
  have hzs : ∀ w, (sizeOf 32).run Tryz.prog w = .ok 6 w := Tryz.sizeOf32
  have HZS := Lib.hid hzs
  have he : (List.take 0 (turC a b g r v f (nxt t)).toList ++ (supC a b g' r' v' f').toList ++ List.drop (0 + 6) (turC a b g r v f (nxt t)).toList).toArray = turC a b g' r' v' f' (nxt t) := by simp [supC, turC]
  have HE := Lib.hid he
  clear hzs he
  go_upto_region 5 with (refine wpList_store_part (.tmp 18) (.tmp 17) 32 rfl rfl HZS.out w2.heap.size 0 (supC a b g' r' v' f').toList rfl rfl 151 (turC a b g r v f (nxt t)).toList HT3.out rfl (by intro u hu; simp [supC] at hu; rcases hu with rfl | rfl | rfl | rfl | rfl | rfl <;> rfl) (by simp [turC]) ?_; rw [HE.out])
  clear q0 q1 q2 q3 q4 q5
  have hk4 : Kept (fun c => c ≠ w2.heap.size) w3 (w3.setRow w2.heap.size (turC a b g' r' v' f' (nxt t))) := (Kept.refl _ w3).setRow (fun h => h rfl) _
  have HS4 := Lib.hid (HS3.out.kept hk4 (by have := HZ2.out; have := HPL.out; omega))
  have HG4 := Lib.hid (HG3.out.kept hk4 (by have := HZ2.out; omega))
  have HT4 := Lib.hid (show Blk (w3.setRow w2.heap.size (turC a b g' r' v' f' (nxt t))) w2.heap.size 151 (turC a b g' r' v' f' (nxt t)) from setRow_heap _ _ _ _ _ _ HT3.out)
  have HB4 := Lib.hid (show Below w.heap.size w (w3.setRow w2.heap.size (turC a b g' r' v' f' (nxt t))) from below_setRow HB3.out (by have := HZ2.out; omega) _)
  generalize hw4 : w3.setRow w2.heap.size (turC a b g' r' v' f' (nxt t)) = w4 at *
  clear hw4 hk4
  obtain ⟨c0, c1, c2, c3, c4, c5, c6⟩ : _ ∧ _ ∧ _ ∧ _ ∧ _ ∧ _ ∧ _ := ⟨HT4.out.cell 0, HT4.out.cell 1, HT4.out.cell 2, HT4.out.cell 3, HT4.out.cell 4, HT4.out.cell 5, HT4.out.cell 6⟩
  simp only [List.getElem?_toArray, List.getElem?_cons_zero, List.getElem?_cons_succ] at c0 c1 c2 c3 c4 c5 c6
  go_wp2_with fail
  clear c0 c1 c2 c3 c4 c5 c6
  refine (HBK.out _).mono ?_
  rintro e w5 ⟨rfl, hb⟩
  obtain ⟨w6, hw6⟩ : ∃ w6, w6 = w5.alloc (.cells (cells8 sl) 84) := ⟨_, rfl⟩
  have HW6 := Lib.hid hw6
  have HS6 := Lib.hid (show Blk w6 p 153 (stoC a b g r v f t d) by rw [hw6]; exact (HS4.out.below hb HS4.out.lt).alloc _)
  have HG6 := Lib.hid (show Blk w6 w.heap.size 32 (supC a b g' r' v' f') by rw [hw6]; exact (HG4.out.below hb HG4.out.lt).alloc _)
  have HT6 := Lib.hid (show Blk w6 w2.heap.size 151 (turC a b g' r' v' f' (nxt t)) by rw [hw6]; exact (HT4.out.below hb HT4.out.lt).alloc _)
  have HV6 := Lib.hid (show ArrB w6 w5.heap.size sl by rw [hw6]; exact Blk.new w5 _ _)
  have HB6 := Lib.hid (show Below w.heap.size w w6 by rw [hw6]; exact (HB4.out.trans (hb.mono HB4.out.size)).alloc (Nat.le_trans HB4.out.size hb.size) _)
  have HZ5 := Lib.hid (show w2.heap.size < w5.heap.size from Nat.lt_of_lt_of_le HT4.out.lt hb.size)
  clear hb hw6
  have s0 := HS6.out.cell 0
  have s1 := HS6.out.cell 1
  have q0 := HG6.out.cell 0
  have q1 := HG6.out.cell 1
  simp only [List.getElem?_toArray, List.getElem?_cons_zero, List.getElem?_cons_succ] at s0 s1 q0 q1
  go_wp2_with (first
    | (refine wpList_alloc_blk rfl rfl ?_)
    | (refine wpList_store_new (.tmp 6) (.tmp 22) rfl rfl w5 sl rfl rfl (noughts 64) rfl (noughts_length 64) HSL.out ?_; rw [← HW6.out]))
  have n0 : (a != a) = false := by simp [bne]
  have n1 : (b != b) = false := by simp [bne]
  go_quiet (fail)
  clear s0 s1 q0 q1 n0 n1
  go_wp2
  have HS7 := Lib.hid (show Blk (w6.drewN nq) p 153 (stoC a b g r v f t d) from HS6.out)
  have HG7 := Lib.hid (show Blk (w6.drewN nq) w.heap.size 32 (supC a b g' r' v' f') from HG6.out)
  have HT7 := Lib.hid (show Blk (w6.drewN nq) w2.heap.size 151 (turC a b g' r' v' f' (nxt t)) from HT6.out)
  have HV7 := Lib.hid (show ArrB (w6.drewN nq) w5.heap.size sl from HV6.out)
  have HB7 := Lib.hid (show Below w.heap.size w (w6.drewN nq) from below_drewN HB6.out _)
  generalize hw7 : w6.drewN nq = w7 at *
  clear hw7
  have hr1 : w7.rangeAt p 0 (supC a b g r v f).toList := fun j u hu => by
    rw [Nat.zero_add, HS7.out.cell j]
    match j, hu with
    | 0, hu | 1, hu | 2, hu | 3, hu | 4, hu | 5, hu => simpa [supC, stoC] using hu
    | (m + 6), hu => simp [supC] at hu
  have hr2 : w7.rangeAt w.heap.size 0 (supC a b g' r' v' f').toList := Blk.rangeL (cs := (supC a b g' r' v' f').toList) HG7.out
  have hu24 := Tryz.underlying32
  have hs24 : ∀ a b g r v f, (Tryz.prog.info? 32).map (·.size) = some (supC a b g r v f).toList.length := fun a b g r v f => size_sup
  refine wp_region_noPanic ?_
  refine Tillst.region (fun W => W.rangeAt p 0 (supC a b g r v f).toList ∧ W.rangeAt w.heap.size 0 (supC a b g' r' v' f').toList) [] (by kernel_rfl) ⟨hr1, hr2⟩ (fun hHeld => ?_)
  refine Tillst.take (i := 0) (oi := sazg0) (v := ?_) rfl (by kernel_rfl) (by kernel_rfl) (by kernel_rfl) (by kernel_rfl) (fun _ _ _ h => h) (by rfl) ?_ hHeld ?_
  rotate_left
  · intro W hSW; (try dsimp only at hSW); unfold sazg0; go_simp; with_reducible rfl
  simp only [sazg0, Act.put, List.setIfInBounds_toArray, List.set_cons_zero, List.set_cons_succ]
  refine Tillst.take (i := 1) (oi := sazg1) (v := ?_) rfl (by kernel_rfl) (by kernel_rfl) (by kernel_rfl) (by kernel_rfl) (fun _ _ _ h => h) (by rfl) ?_ hHeld ?_
  rotate_left
  · intro W hSW; (try dsimp only at hSW); unfold sazg1; go_simp; with_reducible rfl
  simp only [sazg1, Act.put, List.setIfInBounds_toArray, List.set_cons_zero, List.set_cons_succ]
  refine Tillst.take (i := 2) (oi := sazg2) (v := ?_) rfl (by kernel_rfl) (by kernel_rfl) (by kernel_rfl) (by kernel_rfl) (fun _ _ _ h => h) (by rfl) ?_ hHeld ?_
  rotate_left
  · intro W hSW; (try dsimp only at hSW); unfold sazg2; go_simp; with_reducible rfl
  simp only [sazg2, Act.put, List.setIfInBounds_toArray, List.set_cons_zero, List.set_cons_succ]
  refine Tillst.take (i := 3) (oi := sazg3) (v := ?_) rfl (by kernel_rfl) (by kernel_rfl) (by kernel_rfl) (by kernel_rfl) (fun _ _ _ h => h) (by rfl) ?_ hHeld ?_
  rotate_left
  · intro W hSW; (try dsimp only at hSW); unfold sazg3; go_simp; with_reducible rfl
  simp only [sazg3, Act.put, List.setIfInBounds_toArray, List.set_cons_zero, List.set_cons_succ]
  refine Tillst.take (i := 4) (oi := sazg4) (v := ?_) rfl (by kernel_rfl) (by kernel_rfl) (by kernel_rfl) (by kernel_rfl) (fun _ _ _ h => h) (by rfl) ?_ hHeld ?_
  rotate_left
  · intro W hSW; refine exec_load_row (.tmp 53) 32 ?_ p 0 ?_ (supC a b g r v f).toList _ hu24 rfl (hs24 _ _ _ _ _ _) hSW.1 <;> rfl
  simp only [sazg4, Act.put, List.setIfInBounds_toArray, List.set_cons_zero, List.set_cons_succ]
  refine Tillst.take (i := 5) (oi := sazg5) (v := ?_) rfl (by kernel_rfl) (by kernel_rfl) (by kernel_rfl) (by kernel_rfl) (fun _ _ _ h => h) (by rfl) ?_ hHeld ?_
  rotate_left
  · intro W hSW; refine exec_load_row (.tmp 3) 32 ?_ w.heap.size 0 ?_ (supC a b g' r' v' f').toList _ hu24 rfl (hs24 _ _ _ _ _ _) hSW.2 <;> rfl
  simp only [sazg5, Act.put, List.setIfInBounds_toArray, List.set_cons_zero, List.set_cons_succ]
  refine Tillst.one (i := 6) (o := sazg6) (by kernel_rfl) rfl ?_
  intro K hK
  refine step_call 120 #[.tmp 54, .tmp 55] #[32, 32] rfl rfl Tryz.func120 rfl rfl [.agg (supC a b g r v f), .agg (supC a b g' r' v' f')] rfl ?_
  refine (back_any a b g r v f a b g' r' v' f' w7.drew).mono ?_
  rintro e w8 ⟨rfl, hb⟩
  rw [HBKS.out]
  have hb8 : Below w7.heap.size w7 w8 := (Below.refl _ _).drew.trans hb
  have HS8 := Lib.hid (HS7.out.below hb8 HS7.out.lt)
  have HG8 := Lib.hid (HG7.out.below hb8 HG7.out.lt)
  have HT8 := Lib.hid (HT7.out.below hb8 HT7.out.lt)
  have HV8 := Lib.hid (show ArrB w8 w5.heap.size sl from Arr.below HV7.out hb8 HV7.out.lt)
  have HB8 := Lib.hid (HB7.out.trans (hb8.mono HB7.out.size))
  have hS := And.intro (range_below hr1 hb8 HS7.out.lt) (range_below hr2 hb8 HG7.out.lt)
  clear hb hb8 hr1 hr2
  refine ⟨_, rfl, ?_⟩
  simp only [sazg6, Act.put, List.setIfInBounds_toArray, List.set_cons_zero, List.set_cons_succ]
  refine hK.out _ _ (fun _ => hS) (fun hHeld => ?_)
  replace hHeld := hHeld (by decide)
  clear hK K hS
  refine Tillst.one (i := 7) (o := sazg7) (by kernel_rfl) rfl ?_
  intro K hK
  refine step_value ?_ rfl ?_ ?_
  rotate_left
  · unfold sazg7; go_simp; with_reducible rfl
  simp only [sazg7, Act.put, List.setIfInBounds_toArray, List.set_cons_zero, List.set_cons_succ]
  refine hK.out _ _ (fun _ => hHeld) (fun hHeld => ?_)
  replace hHeld := hHeld (by decide)
  clear hK K
  refine Tillst.done (by kernel_rfl) ?_ _
  refine NoPanic.normal ?_
  clear hHeld hu24 hs24
  go_wp2
  have hr1 : w8.rangeAt w2.heap.size 0 (turC a b g' r' v' f' (nxt t)).toList := Blk.rangeL (cs := (turC a b g' r' v' f' (nxt t)).toList) HT8.out
  have hr2 := HV8.out.range
  have hc7 : w8.cell? ⟨p, 7, none⟩ = some (.pointer (some ⟨d, 0, none⟩)) := HS8.out.cell 7
  have hu65 := Tryz.underlying151
  have hu26 := Tryz.underlying84
  have hs65 : (Tryz.prog.info? 151).map (·.size) = some (turC a b g' r' v' f' (nxt t)).toList.length := size_tur
  have hs26 : (Tryz.prog.info? 84).map (·.size) = some (sl.map (Value.int .u8)).length := by rw [size_blk, List.length_map, HSL.out]
  refine wp_region_noPanic ?_
  refine Tillst.region (fun W => W.cell? ⟨p, 7, none⟩ = some (.pointer (some ⟨d, 0, none⟩)) ∧ W.rangeAt w2.heap.size 0 (turC a b g' r' v' f' (nxt t)).toList ∧ W.rangeAt w5.heap.size 0 (sl.map (Value.int .u8))) [] (by kernel_rfl) ⟨hc7, hr1, hr2⟩ (fun hHeld => ?_)
  refine Tillst.take (i := 0) (oi := sbzg0) (v := ?_) rfl (by kernel_rfl) (by kernel_rfl) (by kernel_rfl) (by kernel_rfl) (fun _ _ _ h => h) (by rfl) ?_ hHeld ?_
  rotate_left
  · intro W hSW; (try dsimp only at hSW); unfold sbzg0; go_simp; with_reducible rfl
  simp only [sbzg0, Act.put, List.setIfInBounds_toArray, List.set_cons_zero, List.set_cons_succ]
  refine Tillst.take (i := 1) (oi := sbzg1) (v := ?_) rfl (by kernel_rfl) (by kernel_rfl) (by kernel_rfl) (by kernel_rfl) (fun _ _ _ h => h) (by rfl) ?_ hHeld ?_
  rotate_left
  · intro W hSW; (try dsimp only at hSW); unfold sbzg1; go_simp; with_reducible rfl
  simp only [sbzg1, Act.put, List.setIfInBounds_toArray, List.set_cons_zero, List.set_cons_succ]
  refine Tillst.take (i := 2) (oi := sbzg2) (v := ?_) rfl (by kernel_rfl) (by kernel_rfl) (by kernel_rfl) (by kernel_rfl) (fun _ _ _ h => h) (by rfl) ?_ hHeld ?_
  rotate_left
  · intro W hSW; (try dsimp only at hSW); unfold sbzg2; go_simp; with_reducible rfl
  simp only [sbzg2, Act.put, List.setIfInBounds_toArray, List.set_cons_zero, List.set_cons_succ]
  refine Tillst.take (i := 3) (oi := sbzg3) (v := ?_) rfl (by kernel_rfl) (by kernel_rfl) (by kernel_rfl) (by kernel_rfl) (fun _ _ _ h => h) (by rfl) ?_ hHeld ?_
  rotate_left
  · intro W hSW; have hc := hSW.1; unfold sbzg3; go_simp; with_reducible rfl
  simp only [sbzg3, Act.put, List.setIfInBounds_toArray, List.set_cons_zero, List.set_cons_succ]
  refine Tillst.take (i := 4) (oi := sbzg4) (v := ?_) rfl (by kernel_rfl) (by kernel_rfl) (by kernel_rfl) (by kernel_rfl) (fun _ _ _ h => h) (by rfl) ?_ hHeld ?_
  rotate_left
  · intro W hSW; refine exec_load_row (.tmp 5) 151 ?_ w2.heap.size 0 ?_ (turC a b g' r' v' f' (nxt t)).toList _ hu65 rfl hs65 hSW.2.1 <;> rfl
  simp only [sbzg4, Act.put, List.setIfInBounds_toArray, List.set_cons_zero, List.set_cons_succ]
  refine Tillst.take (i := 6) (oi := sbzg6) (v := ?_) rfl (by kernel_rfl) (by kernel_rfl) (by kernel_rfl) (by kernel_rfl) (fun _ _ _ h => h) (by rfl) ?_ hHeld ?_
  rotate_left
  · intro W hSW; refine exec_load_row (.tmp 6) 84 ?_ w5.heap.size 0 ?_ (sl.map (Value.int .u8)) _ hu26 rfl hs26 hSW.2.2 <;> rfl
  simp only [sbzg6, Act.put, List.setIfInBounds_toArray, List.set_cons_zero, List.set_cons_succ]
  refine Tillst.one (i := 5) (o := sbzg5) (by kernel_rfl) rfl ?_
  intro K hK
  refine step_call 94 #[.tmp 61] #[151] rfl rfl Tryz.func94 rfl rfl [.agg (turC a b g' r' v' f' (nxt t))] rfl ?_
  refine (sector_any a b g' r' v' f' (nxt t) w8.drew (nxt_in t).1 (nxt_in t).2).mono ?_
  rintro e w9 ⟨rfl, hb⟩
  rw [HSEC.out]
  have hb9 : Below w8.heap.size w8 w9 := (Below.refl _ _).drew.trans hb
  have HS9 := Lib.hid (HS8.out.below hb9 HS8.out.lt)
  have HT9 := Lib.hid (HT8.out.below hb9 HT8.out.lt)
  have HV9 := Lib.hid (show ArrB w9 w5.heap.size sl from Arr.below HV8.out hb9 HV8.out.lt)
  have HB9 := Lib.hid (HB8.out.trans (hb9.mono HB8.out.size))
  have HZ9 := Lib.hid (show w5.heap.size < w9.heap.size from HV9.out.lt)
  have HD9 := Lib.hid (show DiskM w9 (fun c => X c ∨ c = p ∨ c = w2.heap.size ∨ c = w5.heap.size) d n k from HD.out.below HB9.out (fun c hc h => by rcases h with h | h | h | h; exact .inl h; exact .inr h; have := HZ2.out; omega; have := HZ2.out; have := HZ5.out; omega))
  have hS := And.intro (show w9.cell? ⟨p, 7, none⟩ = some (.pointer (some ⟨d, 0, none⟩)) from HS9.out.cell 7) (And.intro (Blk.rangeL (cs := (turC a b g' r' v' f' (nxt t)).toList) HT9.out) HV9.out.range)
  clear hb hb9 hr1 hr2 hc7
  refine ⟨_, rfl, ?_⟩
  simp only [sbzg5, Act.put, List.setIfInBounds_toArray, List.set_cons_zero, List.set_cons_succ]
  refine hK.out _ _ (fun _ => hS) (fun hHeld => ?_)
  replace hHeld := hHeld (by decide)
  clear hK K hS
  refine Tillst.one (i := 7) (o := sbzg7) (by kernel_rfl) rfl ?_
  intro K hK
  refine step_call 32 #[.tmp 60, .tmp 62, .tmp 63] #[27, 3, 84] rfl rfl Tryz.func32 rfl rfl [.pointer (some ⟨d, 0, none⟩), .int .i64 (secOf t : Nat), .agg (cells8 sl)] rfl ?_
  refine (write_k HD9.out (fun c h => by rcases h with h | h | h | h; exact Nat.lt_of_lt_of_le (HX.out c h) HB9.out.size; rw [h]; exact HS9.out.lt; rw [h]; exact HT9.out.lt; rw [h]; exact HV9.out.lt) (secOf t) (Nat.lt_of_lt_of_le (secOf_lt t) HN.out) sl HSL.out HSB.out HP.out).mono ?_
  rintro e wa ⟨rfl, hda, hka⟩
  rw [H0.out]
  have HDa := Lib.hid hda
  have HSa := Lib.hid (HS9.out.kept hka (.inr (.inl rfl)))
  have HTa := Lib.hid (HT9.out.kept hka (.inr (.inr (.inl rfl))))
  have HVa := Lib.hid (show ArrB wa w5.heap.size sl from Arr.kept HV9.out hka (.inr (.inr (.inr rfl))))
  have HKa := Lib.hid (show Kept X w wa from (Kept.of_below HB9.out HX.out).trans hka (fun c h => .inl h))
  have hS := And.intro (show wa.cell? ⟨p, 7, none⟩ = some (.pointer (some ⟨d, 0, none⟩)) from HSa.out.cell 7) (And.intro (Blk.rangeL (cs := (turC a b g' r' v' f' (nxt t)).toList) HTa.out) HVa.out.range)
  clear hda hka
  refine ⟨_, rfl, ?_⟩
  simp only [sbzg7, Act.put, List.setIfInBounds_toArray, List.set_cons_zero, List.set_cons_succ]
  refine hK.out _ _ (fun _ => hS) (fun hHeld => ?_)
  replace hHeld := hHeld (by decide)
  clear hK K hS
  refine Tillst.one (i := 8) (o := sbzg8) (by kernel_rfl) rfl ?_
  intro K hK
  refine step_value ?_ rfl ?_ ?_
  rotate_left
  · unfold sbzg8; go_simp; with_reducible rfl
  simp only [sbzg8, Act.put, List.setIfInBounds_toArray, List.set_cons_zero, List.set_cons_succ]
  refine hK.out _ _ (fun _ => hHeld) (fun hHeld => ?_)
  replace hHeld := hHeld (by decide)
  clear hK K
  refine Tillst.done (by kernel_rfl) ?_ _
  refine NoPanic.normal ?_
  clear hHeld hu65 hu26 hs65 hs26
  have hc7 : wa.cell? ⟨p, 7, none⟩ = some (.pointer (some ⟨d, 0, none⟩)) := HSa.out.cell 7
  go_wp2_with fail
  clear hc7
  refine (sync_k (HDa.out.mono (Y := fun c => X c ∨ c = p ∨ c = w2.heap.size) (fun c _ h => by rcases h with h | h | h; exact .inl h; exact .inr (.inl h); exact .inr (.inr (.inl h)))) (fun c h => by rcases h with h | h | h; exact Nat.lt_of_lt_of_le (HX.out c h) HKa.out.size; rw [h]; exact HSa.out.lt; rw [h]; exact HTa.out.lt)).mono ?_
  rintro e wb ⟨rfl, hdb, hkb⟩
  rw [H1.out]
  have HDb := Lib.hid hdb
  have HSb := Lib.hid (HSa.out.kept hkb (.inr (.inl rfl)))
  have HTb := Lib.hid (HTa.out.kept hkb (.inr (.inr rfl)))
  have HKb := Lib.hid (show Kept X w wb from HKa.out.trans hkb (fun c h => .inl h))
  clear hdb hkb
  have e1 := HNE1.out
  go_wp2
  go_ret
  exact ⟨rfl, ⟨HSb.out, HDb.out.mono (fun c _ h => by rcases h with h | h; exact .inl h; exact .inr (.inl h)), HXP.out⟩, HKb.out⟩
end Go.Proofs.YtodcohkblgjfeaaGreat

namespace Go.Proofs.YtodcohkblgjfeaaGreat
set_option maxRecDepth 100000
open Go.RowKit
set_option linter.unusedVariables false
set_option linter.unusedSimpArgs false
theorem new_i (w : World) (x : Int) (n : Nat) (hx : x = n) (h1 : 1 ≤ n) (h2 : n ≤ 2048) :
    Calls Tryz.prog 43 #[.int .i64 x] w fun e w' => ∃ d, e = .returned (.tuple #[.pointer (some ⟨d, 0, none⟩), .int .i64 0]) ∧ DiskM w' (fun b => b < w.heap.size) d n (Dk.fresh n) ∧ Below w.heap.size w w' := by
  subst hx
  exact new_k w n h1 h2
def Good (k : Dk) : Prop := k.dead = false ∧ k.fails = -1 ∧ k.armed = -1
theorem Good.fresh (n : Nat) : Good (Dk.fresh n) := ⟨rfl, rfl, rfl⟩
theorem Good.wre {k : Dk} (h : Good k) : k.wre = 0 := by
  obtain ⟨h1, h2, h3⟩ := h
  unfold Dk.wre
  rw [h1, h2, h3]
  rfl
theorem Good.rde {k : Dk} (h : Good k) : k.rde = 0 := by
  obtain ⟨h1, h2, h3⟩ := h
  unfold Dk.rde
  rw [h1, h2]
  rfl
theorem Good.wr {k : Dk} (h : Good k) (f : Dk → Dk) : k.wr f = f { k with ops := wrap64 (k.ops + 1) } := by
  obtain ⟨h1, h2, h3⟩ := h
  obtain ⟨safe, pend, armed, fails, dead, ops⟩ := k
  simp only [] at h1 h2 h3
  subst h1 h2 h3
  rfl
theorem Good.rd {k : Dk} (h : Good k) : k.rd = { k with ops := wrap64 (k.ops + 1) } := by
  obtain ⟨h1, h2, h3⟩ := h
  obtain ⟨safe, pend, armed, fails, dead, ops⟩ := k
  simp only [] at h1 h2 h3
  subst h1 h2 h3
  rfl
theorem Good.rdv {k : Dk} (h : Good k) (i : Nat) : k.rdv i = k.held.getD i [] := by
  obtain ⟨h1, h2, h3⟩ := h
  unfold Dk.rdv
  rw [h1, h2]
  rfl
theorem Good.put {k : Dk} (h : Good k) (i : Nat) (ys : List Int) : Good (k.wr (Dk.put i ys)) := by
  rw [h.wr]
  exact h
theorem Good.sync {k : Dk} (h : Good k) : Good (k.wr Dk.sync) := by
  rw [h.wr]
  exact h
theorem Good.read {k : Dk} (h : Good k) : Good k.rd := by
  rw [h.rd]
  exact h
theorem Good.pend_sync {k : Dk} (h : Good k) : (k.wr Dk.sync).pend = [] := by
  rw [h.wr]
  rfl
theorem Good.held_put {k : Dk} (h : Good k) (i : Nat) (ys : List Int) : (k.wr (Dk.put i ys)).held = k.held.set i ys := by
  rw [h.wr]
  exact over_snoc _ _ _
theorem Good.held_sync {k : Dk} (h : Good k) : (k.wr Dk.sync).held = k.held := by
  rw [h.wr]
  rfl
theorem Good.safe_sync {k : Dk} (h : Good k) : (k.wr Dk.sync).safe = k.held := by
  rw [h.wr]
  rfl
theorem get_any {w : World} {X : Nat → Prop} {p d n : Nat} {a b g r v f t : Int} {k : Dk} (hs : StoreM w X p d n a b g r v f t k) :
    Calls Tryz.prog 27 #[.pointer (some ⟨p, 0, none⟩)] w fun e w' => e = .returned (.agg (supC a b g r v f)) ∧ Below w.heap.size w w' := by
  have HS := Lib.hid (hs.1.alloc (.cells (supC 0 0 0 0 0 0) 32))
  obtain ⟨s0, s1, s2, s3, s4, s5⟩ : _ ∧ _ ∧ _ ∧ _ ∧ _ ∧ _ := ⟨HS.out.cell 0, HS.out.cell 1, HS.out.cell 2, HS.out.cell 3, HS.out.cell 4, HS.out.cell 5⟩
  simp only [List.getElem?_toArray, List.getElem?_cons_zero, List.getElem?_cons_succ] at s0 s1 s2 s3 s4 s5
  clear hs
  go_enter Tryz.func27, Tryz.ntmps27
  go_wp2_with (first
    | (refine wpList_store_fresh_s7 (.tmp 2) (.tmp 10) 32 rfl rfl w (supC 0 0 0 0 0 0) (supC a b g r v f) rfl rfl 32 rfl size_sup rfl (one_sup _ _ _ _ _ _) ?_)
    | (with_reducible refine halt_end ?_))
  exact Halt.ret (results_row1 (p := 2) rfl _ _ w.heap.size 32 (supC a b g r v f) _ rfl (Blk.new w _ _) Tryz.underlying32 rfl size_sup) rfl ⟨rfl, (Below.refl _ _).alloc (Nat.le_refl _) _⟩
theorem run_field2 (a b g r v f : Int) (w : World) : (Instr.field 32 (.agg (supC a b g r v f)) 2).run Tryz.prog w = .ok (.int .u64 g) w := by
  unfold Instr.field
  simp [Sem.run_bind, run_underlying (Tryz.underlying32), asAgg, part, isAgg, run_underlying (Tryz.underlying30)]
def Tidy (k : Dk) : Prop := Good k ∧ k.pend = []
theorem tidy_format (n : Nat) (B : List Int) : Tidy ((((Dk.fresh n).wr (Dk.put 0 B)).wr (Dk.put 1 (noughts 64))).wr Dk.sync) :=
  ⟨(((Good.fresh n).put 0 B).put 1 _).sync, (((Good.fresh n).put 0 B).put 1 _).pend_sync⟩
theorem tidy_set {k : Dk} (h : Tidy k) (i : Nat) (B : List Int) : Tidy ((k.wr (Dk.put i B)).wr Dk.sync) := ⟨(h.1.put i B).sync, (h.1.put i B).pend_sync⟩
theorem format_fresh {w : World} {X : Nat → Prop} {d n : Nat} (hd : DiskM w X d n (Dk.fresh n)) (hX : ∀ c, X c → c < w.heap.size) (a b : Int) (h : MayS a b 0 0) (hr : 2 + a * b ≤ (n : Int)) :
    Calls Tryz.prog 44 #[.pointer (some ⟨d, 0, none⟩), .int .i64 a, .int .i64 b] w fun e w' => ∃ p, e = .returned (.tuple #[.pointer (some ⟨p, 0, none⟩), .int .i64 0]) ∧
      StoreM w' X p d n a b 0 0 0 0 0 ((((Dk.fresh n).wr (Dk.put 0 (supL a b 0 0 0 0 0))).wr (Dk.put 1 (noughts 64))).wr Dk.sync) ∧ Kept X w w' :=
  format_go hd hX a b h hr (by simp [Dk.fresh]) (Good.fresh n).wre ((Good.fresh n).put 0 _).wre (((Good.fresh n).put 0 _).put 1 _).wre
theorem set_tidy {w : World} {X : Nat → Prop} {p d n : Nat} {a b g r v f t : Int} {k : Dk} (hs : StoreM w X p d n a b g r v f t k) (hX : ∀ c, X c → c < w.heap.size) (g' r' v' f' : Int) (h : MayS a b g' r') (hin : InS a b g' r' v' f') (hbk : ¬ BackS g r v f g' r' v' f') (hn : 2 ≤ n) (hk : Tidy k) :
    Calls Tryz.prog 70 #[.pointer (some ⟨p, 0, none⟩), .agg (supC a b g' r' v' f')] w fun e w' => e = .returned (.int .i64 0) ∧ StoreM w' X p d n a b g' r' v' f' (nxt t) ((k.wr (Dk.put (secOf t) (supL a b g' r' v' f' (nxt t)))).wr Dk.sync) ∧ Kept X w w' :=
  set_go hs hX g' r' v' f' h hin hbk hn (by rw [hk.2]; simp) hk.1.wre (hk.1.put _ _).wre
end Go.Proofs.YtodcohkblgjfeaaGreat

namespace Go.Proofs.YtodcohkblgjfeaaGreat
set_option maxRecDepth 100000
open Go.RowKit Go.ChangeShapes Go.WideShapes Go.Deep Go.Joins
set_option linter.unusedVariables false
section
variable {H : Type} {enc : TypeId × Value → H} {w : World} {held : Bool}
set_option maxRecDepth 100000 in
theorem trod_sup {fuel : Nat} {l : List Value} {y : DataW H × List MemPlace} (hl6 : l.length = 6) (h : DataW.trod enc Tryz.prog w 0 (fun _ => true) held fuel 32 l = some y) :
    ∃ a b g r v f : Int, l = [.int .i64 a, .int .i64 b, .int .u64 g, .int .u64 r, .int .u64 v, .int .u64 f] ∧ InS a b g r v f := by
  obtain ⟨ys, fu, _, _, _, hyl, hg⟩ := DataW.trod_struct Tryz.underlying32 h
  have hone : ∀ t, t = 3 ∨ t = 30 → Tryz.prog.cellsOf t = 1 := by
    rintro t (rfl | rfl) <;> kernel_rfl
  have hy6 : ys.length = 6 := hyl
  match l, hl6 with
  | [v0, v1, v2, v3, v4, v5], _ =>
    have g0 : DataW.trod enc Tryz.prog w 0 (fun _ => true) held fu 3 (([v0, v1, v2, v3, v4, v5].drop 0).take (Tryz.prog.cellsOf 3)) = ys[0]? := hg 0 _ rfl
    have g1 : DataW.trod enc Tryz.prog w 0 (fun _ => true) held fu 3 (([v0, v1, v2, v3, v4, v5].drop 1).take (Tryz.prog.cellsOf 3)) = ys[1]? := hg 1 _ rfl
    have g2 : DataW.trod enc Tryz.prog w 0 (fun _ => true) held fu 30 (([v0, v1, v2, v3, v4, v5].drop 2).take (Tryz.prog.cellsOf 30)) = ys[2]? := hg 2 _ rfl
    have g3 : DataW.trod enc Tryz.prog w 0 (fun _ => true) held fu 30 (([v0, v1, v2, v3, v4, v5].drop 3).take (Tryz.prog.cellsOf 30)) = ys[3]? := hg 3 _ rfl
    have g4 : DataW.trod enc Tryz.prog w 0 (fun _ => true) held fu 30 (([v0, v1, v2, v3, v4, v5].drop 4).take (Tryz.prog.cellsOf 30)) = ys[4]? := hg 4 _ rfl
    have g5 : DataW.trod enc Tryz.prog w 0 (fun _ => true) held fu 30 (([v0, v1, v2, v3, v4, v5].drop 5).take (Tryz.prog.cellsOf 30)) = ys[5]? := hg 5 _ rfl
    simp only [hone _ (.inl rfl), hone _ (.inr rfl), List.drop_zero, List.drop_succ_cons, List.take_succ_cons, List.take_zero] at g0 g1 g2 g3 g4 g5
    rw [List.getElem?_eq_getElem (by omega)] at g0 g1 g2 g3 g4 g5
    obtain ⟨a, ea, _, wa⟩ := DataW.trod_int Tryz.underlying3 g0
    obtain ⟨b, eb, _, wb⟩ := DataW.trod_int Tryz.underlying3 g1
    obtain ⟨g, eg, _, wg⟩ := DataW.trod_int Tryz.underlying30 g2
    obtain ⟨r, er, _, wr⟩ := DataW.trod_int Tryz.underlying30 g3
    obtain ⟨v, ev, _, wv⟩ := DataW.trod_int Tryz.underlying30 g4
    obtain ⟨f, ef, _, wf⟩ := DataW.trod_int Tryz.underlying30 g5
    injection ea with ea _
    injection eb with eb _
    injection eg with eg _
    injection er with er _
    injection ev with ev _
    injection ef with ef _
    subst ea eb eg er ev ef
    have ia : -9223372036854775808 ≤ a ∧ a ≤ 9223372036854775807 := by simpa [Lit.wf, IntKind.min, IntKind.max, IntKind.signed, IntKind.bits] using wa
    have ib : -9223372036854775808 ≤ b ∧ b ≤ 9223372036854775807 := by simpa [Lit.wf, IntKind.min, IntKind.max, IntKind.signed, IntKind.bits] using wb
    have ig : 0 ≤ g ∧ g ≤ 18446744073709551615 := by simpa [Lit.wf, IntKind.min, IntKind.max, IntKind.signed, IntKind.bits] using wg
    have ir : 0 ≤ r ∧ r ≤ 18446744073709551615 := by simpa [Lit.wf, IntKind.min, IntKind.max, IntKind.signed, IntKind.bits] using wr
    have iv : 0 ≤ v ∧ v ≤ 18446744073709551615 := by simpa [Lit.wf, IntKind.min, IntKind.max, IntKind.signed, IntKind.bits] using wv
    have if_ : 0 ≤ f ∧ f ≤ 18446744073709551615 := by simpa [Lit.wf, IntKind.min, IntKind.max, IntKind.signed, IntKind.bits] using wf
    exact ⟨a, b, g, r, v, f, rfl, by unfold InS; omega⟩
set_option maxRecDepth 100000 in
theorem open_sup {r : Reach} {b0 : Nat} {v : Value} {d : DataW H} {p : List MemPlace} (hv : Value.okWide Tryz.prog w r b0 32 v) (h : DataW.Trod enc Tryz.prog w 0 (fun _ => true) held 32 v d p) :
    ∃ a b g r v' f : Int, v = .agg (supC a b g r v' f) ∧ InS a b g r v' f := by
  obtain ⟨cs, rfl, hsz⟩ := okWide_struct Tryz.underlying32 hv
  obtain ⟨fuel, hf⟩ := h
  have hc6 : Tryz.prog.cellsOf 32 = 6 := by kernel_rfl
  obtain ⟨l⟩ := cs
  have hl6 : l.length = 6 := by simpa using hsz.trans hc6
  simp only [Value.cells] at hf
  obtain ⟨a, b, g, r, v', f, rfl, hin⟩ := trod_sup hl6 hf
  exact ⟨a, b, g, r, v', f, rfl, hin⟩
end
end Go.Proofs.YtodcohkblgjfeaaGreat

namespace Go.Proofs.YtodcohkblgjfeaaGreat
set_option maxRecDepth 100000
open Go.RowKit Go.ChangeShapes Go.WideShapes Go.Deep Go.Joins
set_option linter.unusedVariables false
structure Sup where
  a : Int
  b : Int
  g : Int
  r : Int
  v : Int
  f : Int
def Sup.zero : Sup := ⟨0, 0, 0, 0, 0, 0⟩
def Sup.c (s : Sup) : Array Value := supC s.a s.b s.g s.r s.v s.f
def Sup.In (s : Sup) : Prop := InS s.a s.b s.g s.r s.v s.f
theorem Sup.size (s : Sup) : s.c.toList.length = 6 := rfl
def IsSups (w : World) (a : Option Addr) (len cap : Nat) (zs : List Sup) : Prop :=
  (a = none ∧ len = 0 ∧ cap = 0 ∧ zs = []) ∨
  ∃ x : Addr, a = some x ∧ len ≤ cap ∧ cap ≤ maxLen ∧ zs.length = cap ∧ ∀ i, i < cap → (zs.getD i Sup.zero).In ∧ ∀ j, j < 6 → w.cell? (x.add (i * 6 + j)) = (zs.getD i Sup.zero).c.toList[j]?
section
variable {H : Type} {enc : TypeId × Value → H} {w : World} {held : Bool} {base : Nat}
theorem open_sups {t : TypeId} {fuel : Nat} {cs : List Value} {x : DataW H × List MemPlace} (ht : Tryz.prog.underlying t = some (.slice 32))
    (h : DataW.trod enc Tryz.prog w 0 (fun _ => true) held fuel t cs = some x) :
    ∃ a len cap zs, cs = [.slice a len cap] ∧ IsSups w a len cap zs ∧ (cap = 0 ∨ ∃ el sp : List (DataW H), x.1 = .slice el sp ∧ el.length + sp.length = cap) := by
  have hc6 : Tryz.prog.cellsOf 32 = 6 := by kernel_rfl
  rcases open_slice ht h with ⟨rfl, _⟩ | ⟨a, len, cap, m, n, D, Pl, rfl, hb, hl, hm, hmm, rfl, hi⟩
  · exact ⟨none, 0, 0, [], rfl, .inl ⟨rfl, rfl, rfl, rfl⟩, .inl rfl⟩
  · simp only [if_true] at hmm
    subst hmm
    have key : ∀ i, i < m → ∃ z : Sup, z.In ∧ ∀ j, j < 6 → w.cell? (a.add (i * 6 + j)) = z.c.toList[j]? := by
      intro i him
      obtain ⟨cs', hc, ht'⟩ := hi i him
      rw [hc6] at hc
      obtain ⟨_, hcl, hat⟩ := World.cells?_some hc
      obtain ⟨a', b, g, r, v, f, rfl, hin⟩ := trod_sup hcl ht'
      refine ⟨⟨a', b, g, r, v, f⟩, hin, fun j hj => ?_⟩
      have h1 := hat j hj
      rw [Go.Deep.add_add] at h1
      exact h1
    have : ∀ k, k ≤ m → ∃ zs : List Sup, zs.length = k ∧ ∀ i, i < k → (zs.getD i Sup.zero).In ∧ ∀ j, j < 6 → w.cell? (a.add (i * 6 + j)) = (zs.getD i Sup.zero).c.toList[j]? := by
      intro k
      induction k with
      | zero => intro _; exact ⟨[], rfl, fun i hi => by omega⟩
      | succ k ih =>
        intro hk
        obtain ⟨zs, hzl, hz⟩ := ih (by omega)
        obtain ⟨z, h1, h2⟩ := key k (by omega)
        refine ⟨zs ++ [z], by simp [hzl], fun i hi => ?_⟩
        by_cases e : i < k
        · have e2 : (zs ++ [z]).getD i Sup.zero = zs.getD i Sup.zero := by simp [List.getD, List.getElem?_append_left (show i < zs.length by omega)]
          rw [e2]
          exact hz i e
        · obtain rfl : i = k := by omega
          have e2 : (zs ++ [z]).getD i Sup.zero = z := by simp [List.getD, List.getElem?_append_right (show zs.length ≤ i by omega), hzl]
          rw [e2]
          exact ⟨h1, h2⟩
    obtain ⟨zs, hzl, hz⟩ := this m (Nat.le_refl _)
    exact ⟨some a, len, m, zs, rfl, .inr ⟨a, rfl, hl, hm, hzl, hz⟩, .inr ⟨_, _, rfl, by simp; omega⟩⟩
end
def RowS (w : World) (S : Nat → Prop) (A : Option Addr) (n : Nat) (zs : List Sup) : Prop :=
  zs.length = n ∧ (0 < n → ∃ b off, A = some ⟨b, off, none⟩ ∧ S b ∧ ∀ i, i < n → w.rangeAt b (off + i * 6) (zs.getD i Sup.zero).c.toList)
theorem RowS.keep {w w' : World} {S : Nat → Prop} {A : Option Addr} {n : Nat} {zs : List Sup} (h : RowS w S A n zs) (hk : ∀ p : Addr, S p.block → w'.cell? p = w.cell? p) : RowS w' S A n zs :=
  ⟨h.1, fun hn => by
    obtain ⟨b, off, e, hb, hc⟩ := h.2 hn
    exact ⟨b, off, e, hb, fun i hi j v hv => by rw [hk _ hb]; exact hc i hi j v hv⟩⟩
theorem sups_of {w : World} {a : Option Addr} {len cap : Nat} {zs : List Sup} (h : IsSups w a len cap zs) :
    RowS w (· < w.heap.size) a len (zs.take len) ∧ (∀ i, i < len → ((zs.take len).getD i Sup.zero).In) ∧ len ≤ cap ∧ (a = none → cap = 0) ∧ len ≤ maxLen := by
  rcases h with ⟨rfl, rfl, rfl, rfl⟩ | ⟨x, rfl, hl, hm, hz, hc⟩
  · exact ⟨⟨rfl, fun h => absurd h (by omega)⟩, fun i hi => absurd hi (by omega), Nat.le_refl _, fun _ => rfl, Nat.zero_le _⟩
  · have hget : ∀ i, i < len → (zs.take len).getD i Sup.zero = zs.getD i Sup.zero := fun i hi => by simp [List.getD, List.getElem?_take, hi]
    refine ⟨⟨by simp; omega, fun hn => ?_⟩, fun i hi => ?_, hl, (by intro h; cases h), by omega⟩
    · obtain ⟨b, off, spot⟩ := x
      have h0 := (hc 0 (by omega)).2 0 (by omega)
      have h0' : w.cell? ⟨b, off, spot⟩ = some (.int .i64 (zs.getD 0 Sup.zero).a) := by simpa [Addr.add, Sup.c, supC] using h0
      have hspot : spot = none := World.cell?_spot h0'
      subst hspot
      refine ⟨b, off, rfl, block_lt_of_cell h0', fun i hi j v hv => ?_⟩
      rw [hget i hi] at hv
      have hj : j < 6 := by
        have := (List.getElem?_eq_some_iff.1 hv).1
        rwa [Sup.size] at this
      have h2 := (hc i (by omega)).2 j hj
      rw [add_plain] at h2
      rw [Nat.add_assoc, h2, hv]
    · rw [hget i hi]
      exact (hc i (by omega)).1
end Go.Proofs.YtodcohkblgjfeaaGreat

namespace Go.Proofs.YtodcohkblgjfeaaGreat
set_option maxRecDepth 100000
open Go.RowKit
set_option linter.unusedVariables false
def Sup.May (s : Sup) : Prop := MayS s.a s.b s.g s.r
def Sup.Back (o s : Sup) : Prop := BackS o.g o.r o.v o.f s.g s.r s.v s.f
def Sup.L (s : Sup) (t : Int) : List Int := supL s.a s.b s.g s.r s.v s.f t
instance aI7SetAll0 (s : Sup) : Decidable s.May := by unfold Sup.May; infer_instance
instance aI7SetAll1 (o s : Sup) : Decidable (o.Back s) := by unfold Sup.Back; infer_instance
def setE (o s : Sup) : Int := if ¬ s.May ∨ s.a ≠ o.a ∨ s.b ≠ o.b then 2 else if o.Back s then 171 else 0
def Holds (s : Sup) (t : Int) (n : Nat) (k : Dk) : Prop :=
  Tidy k ∧ k.held.length = n ∧ k.held.getD (t % 2).toNat [] = s.L t
theorem Holds.read {s : Sup} {t : Int} {n : Nat} {k : Dk} (h : Holds s t n k) : Holds s t n k.rd := by
  have e := h.1.1.rd
  refine ⟨⟨h.1.1.read, ?_⟩, ?_, ?_⟩
  · rw [e]; exact h.1.2
  · rw [e]; exact h.2.1
  · rw [e]; exact h.2.2
theorem Holds.rdv {s : Sup} {t : Int} {n : Nat} {k : Dk} (h : Holds s t n k) : k.rdv (t % 2).toNat = s.L t := by
  rw [h.1.1.rdv, h.2.2]
theorem Holds.set {s x : Sup} {t : Int} {n : Nat} {k : Dk} (h : Holds s t n k) (hn : 2 ≤ n) : Holds x (nxt t) n ((k.wr (Dk.put (secOf t) (x.L (nxt t)))).wr Dk.sync) := by
  have hg := h.1.1.put (secOf t) (x.L (nxt t))
  have hl := secOf_lt t
  refine ⟨tidy_set h.1 _ _, ?_, ?_⟩
  · rw [hg.held_sync, h.1.1.held_put, List.length_set, h.2.1]
  · rw [hg.held_sync, h.1.1.held_put]
    show (k.held.set (secOf t) (x.L (nxt t))).getD (secOf t) [] = _
    simp [List.getD, List.getElem?_set, h.2.1, show secOf t < n by omega]
theorem set_no {w : World} {X : Nat → Prop} {p d n : Nat} {o : Sup} {t : Int} {k : Dk} (hs : StoreM w X p d n o.a o.b o.g o.r o.v o.f t k) (hX : ∀ c, X c → c < w.heap.size) (x : Sup) (hin : x.In) (h : setE o x ≠ 0) :
    Calls Tryz.prog 70 #[.pointer (some ⟨p, 0, none⟩), .agg x.c] w fun e w' => e = .returned (.int .i64 (setE o x)) ∧ StoreM w' X p d n o.a o.b o.g o.r o.v o.f t k ∧ Kept X w w' := by
  obtain ⟨a, b, g, r, v, f⟩ := o
  obtain ⟨a', b', g', r', v', f'⟩ := x
  by_cases hm : MayS a' b' g' r'
  · by_cases ha : a' = a
    · subst ha
      by_cases hb : b' = b
      · subst hb
        have h1 : ¬ (¬ (Sup.mk a' b' g' r' v' f').May ∨ a' ≠ a' ∨ b' ≠ b') := by
          rintro (c | c | c)
          · exact c hm
          · exact c rfl
          · exact c rfl
        by_cases hbk : (Sup.mk a' b' g r v f).Back ⟨a', b', g', r', v', f'⟩
        · have e : setE ⟨a', b', g, r, v, f⟩ ⟨a', b', g', r', v', f'⟩ = 171 := by
            unfold setE
            rw [if_neg h1, if_pos hbk]
          rw [e]
          exact set_back hs hX g' r' v' f' hm hin hbk
        · refine absurd ?_ h
          unfold setE
          rw [if_neg h1, if_neg hbk]
      · have e : setE ⟨a', b, g, r, v, f⟩ ⟨a', b', g', r', v', f'⟩ = 2 := by
          unfold setE
          rw [if_pos (.inr (.inr hb))]
        rw [e]
        exact set_b hs hX b' g' r' v' f' hm hin hb
    · have e : setE ⟨a, b, g, r, v, f⟩ ⟨a', b', g', r', v', f'⟩ = 2 := by
        unfold setE
        rw [if_pos (.inr (.inl ha))]
      rw [e]
      exact set_a hs hX a' b' g' r' v' f' hm hin ha
  · have e : setE ⟨a, b, g, r, v, f⟩ ⟨a', b', g', r', v', f'⟩ = 2 := by
      unfold setE
      rw [if_pos (.inl hm)]
    rw [e]
    exact set_arg hs hX a' b' g' r' v' f' hm
theorem setE_ok {o x : Sup} (h : setE o x = 0) : x.May ∧ x.a = o.a ∧ x.b = o.b ∧ ¬ o.Back x := by
  unfold setE at h
  split at h
  · cases h
  · rename_i h1
    split at h
    · cases h
    · rename_i h2
      exact ⟨Decidable.byContradiction fun c => h1 (.inl c), Decidable.byContradiction fun c => h1 (.inr (.inl c)), Decidable.byContradiction fun c => h1 (.inr (.inr c)), h2⟩
theorem set_yes {w : World} {X : Nat → Prop} {p d n : Nat} {o : Sup} {t : Int} {k : Dk} (hs : StoreM w X p d n o.a o.b o.g o.r o.v o.f t k) (hX : ∀ c, X c → c < w.heap.size) (x : Sup) (hin : x.In) (h : setE o x = 0) (hn : 2 ≤ n) (hk : Tidy k) :
    Calls Tryz.prog 70 #[.pointer (some ⟨p, 0, none⟩), .agg x.c] w fun e w' => e = .returned (.int .i64 0) ∧ StoreM w' X p d n x.a x.b x.g x.r x.v x.f (nxt t) ((k.wr (Dk.put (secOf t) (x.L (nxt t)))).wr Dk.sync) ∧ Kept X w w' := by
  obtain ⟨hm, ha, hb, hbk⟩ := setE_ok h
  obtain ⟨a, b, g, r, v, f⟩ := o
  obtain ⟨a', b', g', r', v', f'⟩ := x
  simp only [] at ha hb
  subst ha hb
  exact set_tidy hs hX g' r' v' f' hm hin hbk hn hk
theorem set_all {w : World} {X : Nat → Prop} {p d n : Nat} {o : Sup} {t : Int} {k : Dk} (hs : StoreM w X p d n o.a o.b o.g o.r o.v o.f t k) (hX : ∀ c, X c → c < w.heap.size) (x : Sup) (hin : x.In) (hn : 2 ≤ n) (hk : Holds o t n k) :
    Calls Tryz.prog 70 #[.pointer (some ⟨p, 0, none⟩), .agg x.c] w fun e w' => e = .returned (.int .i64 (setE o x)) ∧ Kept X w w' ∧
      ∃ k', StoreM w' X p d n (if setE o x = 0 then x else o).a (if setE o x = 0 then x else o).b (if setE o x = 0 then x else o).g (if setE o x = 0 then x else o).r (if setE o x = 0 then x else o).v (if setE o x = 0 then x else o).f (if setE o x = 0 then nxt t else t) k' ∧
        Holds (if setE o x = 0 then x else o) (if setE o x = 0 then nxt t else t) n k' := by
  by_cases h : setE o x = 0
  · simp only [if_pos h]
    refine (set_yes hs hX x hin h hn hk.1).mono ?_
    rintro e w' ⟨he, h1, h2⟩
    exact ⟨by rw [h]; exact he, h2, _, h1, hk.set hn⟩
  · simp only [if_neg h]
    refine (set_no hs hX x hin h).mono ?_
    rintro e w' ⟨he, h1, h2⟩
    exact ⟨he, h2, _, h1, hk⟩
theorem StoreM.kept {w w' : World} {X Y Z : Nat → Prop} {p d n : Nat} {a b g r v f t : Int} {k : Dk} (h : StoreM w X p d n a b g r v f t k) (hk : Kept Z w w') (hZ : ∀ b, b < w.heap.size → ¬ X b → Z b) (hY : ∀ b, b < w.heap.size → Y b → X b) : StoreM w' Y p d n a b g r v f t k :=
  ⟨h.1.kept hk (hZ p h.1.lt h.2.2), h.2.1.kept hk (fun b hb hx => hZ b hb (fun c => hx (.inl c))) (fun b hb hy => hy.elim (fun c => .inl (hY b hb c)) .inr), fun c => h.2.2 (hY p h.1.lt c)⟩
theorem wpList_load_part_s7 {ops : Array Oper} {rest : List Oper} {o : Oper} {a : Act} {Q : Exit → Act → World → Prop} {w : World} (x : Operand) (ty : TypeId) (ho : o.op = .load ty x) (hgd : Region.wanted o (yielded ops a.tmps) = true) (b off : Nat) (hx : a.eval x = .pointer (some ⟨b, off, none⟩))
    (cs : List Value) (d : TypeDesc) (hu : Tryz.prog.underlying ty = some d) (hd : d.isRow = true) (hi : (Tryz.prog.info? ty).map (·.size) = some cs.length) (hc : w.rangeAt b off cs)
    (h : wpList Tryz.prog ops Q rest (a.put o.dst (.agg cs.toArray)) w) : wpList Tryz.prog ops Q (o :: rest) a w := by
  refine wpList_step fun K hK => ?_
  rw [if_pos hgd]
  exact wp_load_mid ty x ho b off hx cs d hc hu hd hi (hK _ _ h)
theorem holds_format (n : Nat) (hn : 2 ≤ n) (a b : Int) : Holds ⟨a, b, 0, 0, 0, 0⟩ 0 n ((((Dk.fresh n).wr (Dk.put 0 (supL a b 0 0 0 0 0))).wr (Dk.put 1 (noughts 64))).wr Dk.sync) := by
  have g0 := Good.fresh n
  have g1 := g0.put 0 (supL a b 0 0 0 0 0)
  have g2 := g1.put 1 (noughts 64)
  have hl : (Dk.fresh n).held.length = n := by simp [Dk.fresh, Dk.held, over, sec0]
  refine ⟨tidy_format n _, ?_, ?_⟩
  · rw [g2.held_sync, g1.held_put, g0.held_put, List.length_set, List.length_set, hl]
  · rw [g2.held_sync, g1.held_put, g0.held_put]
    show ((((Dk.fresh n).held.set 0 _).set 1 _).getD 0 []) = _
    simp [List.getD, List.getElem?_set, hl, show 0 < n by omega, Sup.L]
end Go.Proofs.YtodcohkblgjfeaaGreat

namespace Go.Proofs.YtodcohkblgjfeaaGreat
set_option maxRecDepth 100000
open Go.RowKit
set_option linter.unusedVariables false
set_option linter.unusedSimpArgs false
theorem take_set (sl : List Int) (k : Nat) (hk : k < sl.length) (m : Nat) (hm : 0 < m) : (sl.take k ++ noughts m).set k (sl.getD k 0) = sl.take (k + 1) ++ noughts (m - 1) := by
  obtain ⟨q, rfl⟩ : ∃ q, m = q + 1 := ⟨m - 1, by omega⟩
  have hl : (sl.take k).length = k := by simp; omega
  rw [take_snoc sl k hk, List.set_append_right _ _ (by omega), hl]
  simp [noughts, List.replicate_succ]
def lenOf : Value → Nat
  | .slice _ n _ => n
  | _ => 0
theorem own_lenOf {w : World} {base n size : Nat} {e : TypeId} {v : Value} {xs : List Value} (h : w.ownsRow base e size v n xs) : lenOf v = n := by
  rcases h.2 with ⟨rfl, rfl⟩ | ⟨g, cap, cur, rfl, _⟩ <;> rfl
end Go.Proofs.YtodcohkblgjfeaaGreat
