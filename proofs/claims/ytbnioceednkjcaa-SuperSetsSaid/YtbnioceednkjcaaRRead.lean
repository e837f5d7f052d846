/- The document's answers of layer 7: Read. -/
import Derived.Test.YtbnioceednkjcaaRBlock
import Derived.Test.YtbnioceednkjcaaRead
import Derived.Test.YtbnioceednkjcaaTill
import Derived.Test.YtbnioceednkjcaaNum1
import Derived.Deep.DeepCutAuto
namespace Go.Proofs.Ytbnioceednkjcaa
open Go.RowKit
set_option linter.unusedVariables false
set_option linter.unusedSimpArgs false

theorem zero_sup (w : World) : (zeroValue 24).run Try.prog w = .ok (.agg (supC 0 0 0 0 0 0)) w := (Try.zeroValue24 w).trans rfl
theorem sup_one (a b g r v f : Int) : (supC a b g r v f).all (·.oneCell') = true := by simp [supC, Value.oneCell']
theorem sup_ones (a b g r v f : Int) : ∀ u ∈ (supC a b g r v f).toList, u.oneCell' = true := by
  intro u hu
  simp [supC] at hu
  rcases hu with rfl | rfl | rfl | rfl | rfl | rfl <;> rfl
section
variable {P : Program} {w : World} {o : Oper} {a : Act} {Q : Exit → Act → World → Prop} {K : Act → World → Prop} {E : Prop} {ops : Array Oper}
theorem step_alloc_row (ty : TypeId) (ho : o.op = .alloc ty) (hgd : Region.wanted o (yielded ops a.tmps) = true) (zs : Array Value) (hz : ∀ w, (zeroValue ty).run P w = .ok (.agg zs) w)
    (h : K (a.put o.dst (.pointer (some ⟨w.heap.size, 0, none⟩))) (w.alloc (.cells zs ty))) : if Region.wanted o (yielded ops a.tmps) = true then Oper.wp P o a w K Q else E := by
  rw [if_pos hgd]
  unfold Oper.wp execOp
  simp only [ho, Instr.alloc, Sem.run_bind, hz, Result.andThen_ok]
  exact h
variable {md : Region.Mode} {S : World → Prop} {st : List Nat}
/-- An operation that is not wanted. -/
theorem Tillst.skip {i : Nat} {oi : Oper} {k : Nat} {l : Array Bool} {a : Act} {w : World} (hi : ops[i]? = some oi) (hs : Region.noSelect ops = true) (hf : Region.free md ops l i = true) (hr : (Region.ready md ops l).contains i = true)
    (hw : waitsFor md ops st i = true) (hQ : ∀ c a w, Q (.panic c) (a.put oi.dst undef) w → Q (.panic c) a w) (hg : Region.wanted oi (yielded ops a.tmps) = false) (hS : S w)
    (h : Tillst P md ops Q S st k (l.setIfInBounds i true) (a.put oi.dst undef) w) : Tillst P md ops Q S st (k + 1) l a w :=
  Tillst.first hi (Region.noSelect_spec hs) hQ hw k l a w (Region.free_spec hi hf) (by simpa using hr) (.inr ⟨hg, rfl⟩) hS h
end

theorem exec_neq_blk {o : Oper} {a : Act} {w : World} (x y : Operand) (z : TypeId) (ho : o.op = .binOp .neq 26 x y z) (xs ys : List Int) (hx : a.eval x = .agg (cells8 xs)) (hy : a.eval y = .agg (cells8 ys)) (hl : xs.length = 64) (hl' : ys.length = 64) :
    (execOp a.eval o).run Try.prog w = .ok (.value (.bool (!(xs == ys)))) w := by
  unfold execOp
  simp only [ho, hx, hy, Sem.run_bind, run_eqGuard_blk, Result.andThen_ok, run_neq_struct, Sem.run_pure,
    run_equalIn_ints w 9998 26 5 64 Try.underlying26 Try.underlying5 Try.sizeOf5 xs ys hl hl']
/-- What the document's Read leaves of its first statement. -/
def RHalf (xs : List Int) (w wx : World) (s : Value) : Prop :=
  ∃ q, s = .pointer (some ⟨q, 0, none⟩) ∧ w.heap.size + 1 < q ∧ ArrB wx w.heap.size xs ∧ Blk wx (w.heap.size + 1) 24 (supC 0 0 0 0 0 0) ∧
    Blk wx q 24 (supC (numAt xs 16 2) (numAt xs 18 2) (numAt xs 20 8) (numAt xs 28 8) (numAt xs 36 8) (numAt xs 44 8)) ∧ Below w.heap.size w wx

abbrev rr0 : Oper := { dst := some 7, op := Go.Op.slice 26 (Go.Operand.tmp 1) (some (Go.Operand.const (Go.Value.int Go.IntKind.i64 16))) (some (Go.Operand.const (Go.Value.int Go.IntKind.i64 18))) none, type := 91, pos := "ref.go:37", after := #[], guard := none }
abbrev rr1 : Oper := { dst := some 8, op := Go.Op.call { callee := Go.Callee.value (Go.Operand.func 70), args := #[Go.Operand.tmp 7], argTypes := #[91] }, type := 22, pos := "ref.go:37", after := #[{ on := 0, ground := Go.Ground.data }], guard := none }
abbrev rr2 : Oper := { dst := some 9, op := Go.Op.convert 22 3 (Go.Operand.tmp 8), type := 3, pos := "ref.go:37", after := #[{ on := 1, ground := Go.Ground.data }], guard := none }
abbrev rr3 : Oper := { dst := some 10, op := Go.Op.slice 26 (Go.Operand.tmp 1) (some (Go.Operand.const (Go.Value.int Go.IntKind.i64 18))) (some (Go.Operand.const (Go.Value.int Go.IntKind.i64 20))) none, type := 91, pos := "ref.go:37", after := #[], guard := none }
abbrev rr4 : Oper := { dst := some 11, op := Go.Op.call { callee := Go.Callee.value (Go.Operand.func 70), args := #[Go.Operand.tmp 10], argTypes := #[91] }, type := 22, pos := "ref.go:37", after := #[{ on := 3, ground := Go.Ground.data }, { on := 1, ground := Go.Ground.chain }], guard := none }
abbrev rr5 : Oper := { dst := some 12, op := Go.Op.convert 22 3 (Go.Operand.tmp 11), type := 3, pos := "ref.go:37", after := #[{ on := 4, ground := Go.Ground.data }], guard := none }
abbrev rr6 : Oper := { dst := some 13, op := Go.Op.slice 26 (Go.Operand.tmp 1) (some (Go.Operand.const (Go.Value.int Go.IntKind.i64 20))) (some (Go.Operand.const (Go.Value.int Go.IntKind.i64 28))) none, type := 91, pos := "ref.go:37", after := #[], guard := none }
abbrev rr7 : Oper := { dst := some 14, op := Go.Op.call { callee := Go.Callee.value (Go.Operand.func 70), args := #[Go.Operand.tmp 13], argTypes := #[91] }, type := 22, pos := "ref.go:37", after := #[{ on := 6, ground := Go.Ground.data }, { on := 4, ground := Go.Ground.chain }], guard := none }
abbrev rr8 : Oper := { dst := some 15, op := Go.Op.slice 26 (Go.Operand.tmp 1) (some (Go.Operand.const (Go.Value.int Go.IntKind.i64 28))) (some (Go.Operand.const (Go.Value.int Go.IntKind.i64 36))) none, type := 91, pos := "ref.go:37", after := #[], guard := none }
abbrev rr9 : Oper := { dst := some 16, op := Go.Op.call { callee := Go.Callee.value (Go.Operand.func 70), args := #[Go.Operand.tmp 15], argTypes := #[91] }, type := 22, pos := "ref.go:37", after := #[{ on := 8, ground := Go.Ground.data }, { on := 7, ground := Go.Ground.chain }], guard := none }
abbrev rr10 : Oper := { dst := some 17, op := Go.Op.slice 26 (Go.Operand.tmp 1) (some (Go.Operand.const (Go.Value.int Go.IntKind.i64 36))) (some (Go.Operand.const (Go.Value.int Go.IntKind.i64 44))) none, type := 91, pos := "ref.go:37", after := #[], guard := none }
abbrev rr11 : Oper := { dst := some 18, op := Go.Op.call { callee := Go.Callee.value (Go.Operand.func 70), args := #[Go.Operand.tmp 17], argTypes := #[91] }, type := 22, pos := "ref.go:37", after := #[{ on := 10, ground := Go.Ground.data }, { on := 9, ground := Go.Ground.chain }], guard := none }
abbrev rr12 : Oper := { dst := some 19, op := Go.Op.slice 26 (Go.Operand.tmp 1) (some (Go.Operand.const (Go.Value.int Go.IntKind.i64 44))) (some (Go.Operand.const (Go.Value.int Go.IntKind.i64 52))) none, type := 91, pos := "ref.go:37", after := #[], guard := none }
abbrev rr13 : Oper := { dst := some 20, op := Go.Op.call { callee := Go.Callee.value (Go.Operand.func 70), args := #[Go.Operand.tmp 19], argTypes := #[91] }, type := 22, pos := "ref.go:37", after := #[{ on := 12, ground := Go.Ground.data }, { on := 11, ground := Go.Ground.chain }], guard := none }
abbrev rr14 : Oper := { dst := some 21, op := Go.Op.build 24 #[(0, Go.Operand.tmp 9), (1, Go.Operand.tmp 12), (2, Go.Operand.tmp 14), (3, Go.Operand.tmp 16), (4, Go.Operand.tmp 18), (5, Go.Operand.tmp 20)], type := 24, pos := "ref.go:37", after := #[{ on := 2, ground := Go.Ground.data }, { on := 5, ground := Go.Ground.data }, { on := 7, ground := Go.Ground.data }, { on := 9, ground := Go.Ground.data }, { on := 11, ground := Go.Ground.data }, { on := 13, ground := Go.Ground.data }], guard := none }
abbrev rr15 : Oper := { dst := some 5, op := Go.Op.alloc 24, type := 0, pos := "ref.go:37", after := #[], guard := none }
abbrev rr16 : Oper := { dst := none, op := Go.Op.store 24 (Go.Operand.tmp 5) (Go.Operand.tmp 21), type := 0, pos := "ref.go:37", after := #[{ on := 15, ground := Go.Ground.data }, { on := 14, ground := Go.Ground.data }, { on := 13, ground := Go.Ground.chain }, { on := 0, ground := Go.Ground.phase }, { on := 1, ground := Go.Ground.phase }, { on := 2, ground := Go.Ground.phase }, { on := 3, ground := Go.Ground.phase }, { on := 4, ground := Go.Ground.phase }, { on := 5, ground := Go.Ground.phase }, { on := 6, ground := Go.Ground.phase }, { on := 7, ground := Go.Ground.phase }, { on := 8, ground := Go.Ground.phase }, { on := 9, ground := Go.Ground.phase }, { on := 10, ground := Go.Ground.phase }, { on := 11, ground := Go.Ground.phase }, { on := 12, ground := Go.Ground.phase }, { on := 13, ground := Go.Ground.phase }, { on := 14, ground := Go.Ground.phase }, { on := 15, ground := Go.Ground.phase }], guard := none }
abbrev rs0 : Oper := { dst := some 24, op := Go.Op.load 24 (Go.Operand.tmp 5), type := 24, pos := "ref.go:39", after := #[], guard := none }
abbrev rs1 : Oper := { dst := some 25, op := Go.Op.call { callee := Go.Callee.value (Go.Operand.func 16), args := #[Go.Operand.tmp 24], argTypes := #[24] }, type := 4, pos := "ref.go:39", after := #[{ on := 0, ground := Go.Ground.data }], guard := none }
abbrev rs2 : Oper := { dst := some 26, op := Go.Op.unOp Go.UnOp.not 4 (Go.Operand.tmp 25), type := 4, pos := "ref.go:39", after := #[{ on := 1, ground := Go.Ground.data }], guard := none }
abbrev rs3 : Oper := { dst := some 27, op := Go.Op.move (Go.Operand.tmp 26), type := 4, pos := "ref.go:39", after := #[{ on := 2, ground := Go.Ground.data }, { on := 1, ground := Go.Ground.chain }], guard := none }
abbrev rs4 : Oper := { dst := some 28, op := Go.Op.load 24 (Go.Operand.tmp 5), type := 24, pos := "ref.go:39", after := #[{ on := 3, ground := Go.Ground.guard }], guard := some (3, false) }
abbrev rs5 : Oper := { dst := some 29, op := Go.Op.move (Go.Operand.tmp 6), type := 22, pos := "ref.go:39", after := #[{ on := 3, ground := Go.Ground.guard }], guard := some (3, false) }
abbrev rs6 : Oper := { dst := some 30, op := Go.Op.call { callee := Go.Callee.value (Go.Operand.func 17), args := #[Go.Operand.tmp 28, Go.Operand.tmp 29], argTypes := #[24, 22] }, type := 26, pos := "ref.go:39", after := #[{ on := 4, ground := Go.Ground.data }, { on := 5, ground := Go.Ground.data }, { on := 3, ground := Go.Ground.chain }, { on := 3, ground := Go.Ground.guard }], guard := some (3, false) }
abbrev rs7 : Oper := { dst := some 31, op := Go.Op.load 26 (Go.Operand.tmp 1), type := 26, pos := "ref.go:39", after := #[{ on := 3, ground := Go.Ground.guard }], guard := some (3, false) }
abbrev rs8 : Oper := { dst := some 32, op := Go.Op.binOp Go.BinOp.neq 26 (Go.Operand.tmp 30) (Go.Operand.tmp 31) 26, type := 4, pos := "ref.go:39", after := #[{ on := 6, ground := Go.Ground.data }, { on := 7, ground := Go.Ground.data }, { on := 3, ground := Go.Ground.guard }], guard := some (3, false) }
abbrev rs9 : Oper := { dst := some 33, op := Go.Op.pick (Go.Operand.tmp 27) (Go.Operand.const (Go.Value.bool true)) (Go.Operand.tmp 32), type := 4, pos := "ref.go:39", after := #[{ on := 3, ground := Go.Ground.data }, { on := 8, ground := Go.Ground.data }], guard := none }

set_option maxHeartbeats 4000000 in
set_option maxRecDepth 100000 in
theorem rread_any (xs : List Int) (w : World) (hl : xs.length = 64) (hb : Bytes xs) :
    Calls Try.prog 19 #[.agg (cells8 xs)] w fun e w' =>
      (rightS xs = true → e = .returned (.tuple #[.agg (supC (numAt xs 16 2) (numAt xs 18 2) (numAt xs 20 8) (numAt xs 28 8) (numAt xs 36 8) (numAt xs 44 8)), .int .u64 (numAt xs 8 8), .bool true]) ∧ Below w.heap.size w w') ∧
      (rightS xs = false → e = .returned (.tuple #[.agg (supC 0 0 0 0 0 0), .int .u64 0, .bool false]) ∧ Below w.heap.size w w') := by
  have hin := sup_inS hb
  have ht := num_in hb 8
  have hna2 := num_in2 hb 16
  have hnb2 := num_in2 hb 18
  have hwa : IntKind.i64.wrap (numAt xs 16 2) = numAt xs 16 2 := IntWalk.i64_in _ ⟨by omega, by omega⟩
  have hwb : IntKind.i64.wrap (numAt xs 18 2) = numAt xs 18 2 := IntWalk.i64_in _ ⟨by omega, by omega⟩
  have HIN := Lib.hid hin
  have HTT := Lib.hid ht
  have HL := Lib.hid hl
  have HBY := Lib.hid hb
  clear hin ht hna2 hnb2 hl hb
  go_enter Try.func19, Try.ntmps19
  go_upto_region 1 with fail
  have HX1 := Lib.hid (show ArrB ((w.alloc (.cells (cells8 xs) 26)).alloc (.cells (supC 0 0 0 0 0 0) 24)) w.heap.size xs from (Blk.new w _ _).alloc _)
  have HR1 := Lib.hid (show Blk ((w.alloc (.cells (cells8 xs) 26)).alloc (.cells (supC 0 0 0 0 0 0) 24)) (w.heap.size + 1) 24 (supC 0 0 0 0 0 0) from blk_new2 w _ _ _)
  have HBW := Lib.hid (show Below w.heap.size w ((w.alloc (.cells (cells8 xs) 26)).alloc (.cells (supC 0 0 0 0 0 0) 24)) from ((Below.refl _ _).alloc (Nat.le_refl _) _).alloc (by simp) _)
  generalize hw1 : ((w.alloc (.cells (cells8 xs) 26)).alloc (.cells (supC 0 0 0 0 0 0) 24)) = w1 at *
  clear hw1
  go_cut [5] (fun s wx => RHalf xs w wx s)
  case first =>
    have HQ1 := Lib.hid (show numOf ((xs.drop 16).take 2) = numAt xs 16 2 from rfl)
    have HQ2 := Lib.hid (show numOf ((xs.drop 18).take 2) = numAt xs 18 2 from rfl)
    have HQ3 := Lib.hid (show numOf ((xs.drop 20).take 8) = numAt xs 20 8 from rfl)
    have HQ4 := Lib.hid (show numOf ((xs.drop 28).take 8) = numAt xs 28 8 from rfl)
    have HQ5 := Lib.hid (show numOf ((xs.drop 36).take 8) = numAt xs 36 8 from rfl)
    have HQ6 := Lib.hid (show numOf ((xs.drop 44).take 8) = numAt xs 44 8 from rfl)
    have hzs : ∀ w, (sizeOf 24).run Try.prog w = .ok 6 w := Try.sizeOf24
    have HZS := Lib.hid hzs
    have he : (List.take 0 (supC 0 0 0 0 0 0).toList ++ (supC (numAt xs 16 2) (numAt xs 18 2) (numAt xs 20 8) (numAt xs 28 8) (numAt xs 36 8) (numAt xs 44 8)).toList ++ List.drop (0 + 6) (supC 0 0 0 0 0 0).toList).toArray = supC (numAt xs 16 2) (numAt xs 18 2) (numAt xs 20 8) (numAt xs 28 8) (numAt xs 36 8) (numAt xs 44 8) := by simp [supC]
    have HE := Lib.hid he
    clear hzs he
    refine wp_region_noPanic ?_
    refine Tillst.region (fun _ => True) [] (by kernel_rfl) trivial (fun hHeld => ?_)
    have HXU := Lib.hid (show ArrB w1.drew w.heap.size xs from HX1.out)
    have HRU := Lib.hid (show Blk w1.drew (w.heap.size + 1) 24 (supC 0 0 0 0 0 0) from HR1.out)
    have HBU := Lib.hid (show Below w.heap.size w w1.drew from HBW.out.drew)
    generalize w1.drew = u at *
    obtain ⟨ua, hua⟩ : ∃ ua, ua = u.alloc (.cells (supC 0 0 0 0 0 0) 24) := ⟨_, rfl⟩
    have HUA := Lib.hid hua
    have HXA := Lib.hid (show ArrB ua w.heap.size xs by rw [hua]; exact Blk.alloc HXU.out _)
    have HRA := Lib.hid (show Blk ua (w.heap.size + 1) 24 (supC 0 0 0 0 0 0) by rw [hua]; exact HRU.out.alloc _)
    have HTA := Lib.hid (show Blk ua u.heap.size 24 (supC 0 0 0 0 0 0) by rw [hua]; exact Blk.new u _ _)
    have HBA := Lib.hid (show Below w.heap.size w ua by rw [hua]; exact HBU.out.alloc HBU.out.size _)
    have HZU := Lib.hid (show w.heap.size + 1 < u.heap.size from HRU.out.lt)
    have hkf : Kept (fun c => c ≠ u.heap.size) ua (ua.setRow u.heap.size (supC (numAt xs 16 2) (numAt xs 18 2) (numAt xs 20 8) (numAt xs 28 8) (numAt xs 36 8) (numAt xs 44 8))) := (Kept.refl _ ua).setRow (fun h => h rfl) _
    have HXF := Lib.hid (show ArrB (ua.setRow u.heap.size (supC (numAt xs 16 2) (numAt xs 18 2) (numAt xs 20 8) (numAt xs 28 8) (numAt xs 36 8) (numAt xs 44 8))) w.heap.size xs from Arr.kept HXA.out hkf (by have := HZU.out; omega))
    have HRF := Lib.hid (HRA.out.kept hkf (by have := HZU.out; omega))
    have HTF := Lib.hid (show Blk (ua.setRow u.heap.size (supC (numAt xs 16 2) (numAt xs 18 2) (numAt xs 20 8) (numAt xs 28 8) (numAt xs 36 8) (numAt xs 44 8))) u.heap.size 24 (supC (numAt xs 16 2) (numAt xs 18 2) (numAt xs 20 8) (numAt xs 28 8) (numAt xs 36 8) (numAt xs 44 8)) from setRow_heap _ _ _ _ _ _ HTA.out)
    have HBF := Lib.hid (show Below w.heap.size w (ua.setRow u.heap.size (supC (numAt xs 16 2) (numAt xs 18 2) (numAt xs 20 8) (numAt xs 28 8) (numAt xs 36 8) (numAt xs 44 8))) from below_setRow HBA.out (by have := HZU.out; omega) _)
    clear hua hkf
    refine Tillst.take (i := 0) (oi := rr0) (v := ?_) rfl (by kernel_rfl) (by kernel_rfl) (by kernel_rfl) (by kernel_rfl) (fun _ _ _ h => h) (by rfl) ?_ hHeld ?_
    rotate_left
    · intro W hSW; (try dsimp only at hSW); unfold rr0; go_simp; with_reducible rfl
    simp only [rr0, Act.put, List.setIfInBounds_toArray, List.set_cons_zero, List.set_cons_succ]
    refine Tillst.take (i := 3) (oi := rr3) (v := ?_) rfl (by kernel_rfl) (by kernel_rfl) (by kernel_rfl) (by kernel_rfl) (fun _ _ _ h => h) (by rfl) ?_ hHeld ?_
    rotate_left
    · intro W hSW; (try dsimp only at hSW); unfold rr3; go_simp; with_reducible rfl
    simp only [rr3, Act.put, List.setIfInBounds_toArray, List.set_cons_zero, List.set_cons_succ]
    refine Tillst.take (i := 6) (oi := rr6) (v := ?_) rfl (by kernel_rfl) (by kernel_rfl) (by kernel_rfl) (by kernel_rfl) (fun _ _ _ h => h) (by rfl) ?_ hHeld ?_
    rotate_left
    · intro W hSW; (try dsimp only at hSW); unfold rr6; go_simp; with_reducible rfl
    simp only [rr6, Act.put, List.setIfInBounds_toArray, List.set_cons_zero, List.set_cons_succ]
    refine Tillst.take (i := 8) (oi := rr8) (v := ?_) rfl (by kernel_rfl) (by kernel_rfl) (by kernel_rfl) (by kernel_rfl) (fun _ _ _ h => h) (by rfl) ?_ hHeld ?_
    rotate_left
    · intro W hSW; (try dsimp only at hSW); unfold rr8; go_simp; with_reducible rfl
    simp only [rr8, Act.put, List.setIfInBounds_toArray, List.set_cons_zero, List.set_cons_succ]
    refine Tillst.take (i := 10) (oi := rr10) (v := ?_) rfl (by kernel_rfl) (by kernel_rfl) (by kernel_rfl) (by kernel_rfl) (fun _ _ _ h => h) (by rfl) ?_ hHeld ?_
    rotate_left
    · intro W hSW; (try dsimp only at hSW); unfold rr10; go_simp; with_reducible rfl
    simp only [rr10, Act.put, List.setIfInBounds_toArray, List.set_cons_zero, List.set_cons_succ]
    refine Tillst.take (i := 12) (oi := rr12) (v := ?_) rfl (by kernel_rfl) (by kernel_rfl) (by kernel_rfl) (by kernel_rfl) (fun _ _ _ h => h) (by rfl) ?_ hHeld ?_
    rotate_left
    · intro W hSW; (try dsimp only at hSW); unfold rr12; go_simp; with_reducible rfl
    simp only [rr12, Act.put, List.setIfInBounds_toArray, List.set_cons_zero, List.set_cons_succ]
    refine Tillst.two (i := 1) (j := 15) (o := rr1) (o' := rr15) (by kernel_rfl) rfl rfl ?_ ?_
    · intro K hK
      refine step_call 70 #[.tmp 7] #[91] rfl rfl Try.func70 rfl rfl [.slice (some ⟨w.heap.size, 16, none⟩) 2 48] rfl ?_
      refine (num_any _ 2 _ _ (fun _ => True) _ (HXU.out.part 16 2 (by rw [HL.out]; omega) trivial) (bytes_part HBY.out 16 2) (by omega)).mono ?_
      rintro e w' ⟨rfl, rfl⟩
      rw [HQ1.out]
      refine ⟨_, rfl, ?_⟩
      simp only [rr1, Act.put, List.setIfInBounds_toArray, List.set_cons_zero, List.set_cons_succ]
      refine hK.out _ _ (fun _ => trivial) (fun hHeld => ?_)
      replace hHeld := hHeld (by decide)
      clear hK K
      refine Tillst.take (i := 2) (oi := rr2) (v := ?_) rfl (by kernel_rfl) (by kernel_rfl) (by kernel_rfl) (by kernel_rfl) (fun _ _ _ h => h) (by rfl) ?_ hHeld ?_
      rotate_left
      · intro W hSW; (try dsimp only at hSW); unfold rr2; go_simp; with_reducible rfl
      simp only [rr2, Act.put, List.setIfInBounds_toArray, List.set_cons_zero, List.set_cons_succ]
      refine Tillst.two (i := 4) (j := 15) (o := rr4) (o' := rr15) (by kernel_rfl) rfl rfl ?_ ?_
      · intro K hK
        refine step_call 70 #[.tmp 10] #[91] rfl rfl Try.func70 rfl rfl [.slice (some ⟨w.heap.size, 18, none⟩) 2 46] rfl ?_
        refine (num_any _ 2 _ _ (fun _ => True) _ (HXU.out.part 18 2 (by rw [HL.out]; omega) trivial) (bytes_part HBY.out 18 2) (by omega)).mono ?_
        rintro e w' ⟨rfl, rfl⟩
        rw [HQ2.out]
        refine ⟨_, rfl, ?_⟩
        simp only [rr4, Act.put, List.setIfInBounds_toArray, List.set_cons_zero, List.set_cons_succ]
        refine hK.out _ _ (fun _ => trivial) (fun hHeld => ?_)
        replace hHeld := hHeld (by decide)
        clear hK K
        refine Tillst.take (i := 5) (oi := rr5) (v := ?_) rfl (by kernel_rfl) (by kernel_rfl) (by kernel_rfl) (by kernel_rfl) (fun _ _ _ h => h) (by rfl) ?_ hHeld ?_
        rotate_left
        · intro W hSW; (try dsimp only at hSW); unfold rr5; go_simp; with_reducible rfl
        simp only [rr5, Act.put, List.setIfInBounds_toArray, List.set_cons_zero, List.set_cons_succ]
        refine Tillst.two (i := 7) (j := 15) (o := rr7) (o' := rr15) (by kernel_rfl) rfl rfl ?_ ?_
        · intro K hK
          refine step_call 70 #[.tmp 13] #[91] rfl rfl Try.func70 rfl rfl [.slice (some ⟨w.heap.size, 20, none⟩) 8 44] rfl ?_
          refine (num_any _ 8 _ _ (fun _ => True) _ (HXU.out.part 20 8 (by rw [HL.out]; omega) trivial) (bytes_part HBY.out 20 8) (by omega)).mono ?_
          rintro e w' ⟨rfl, rfl⟩
          rw [HQ3.out]
          refine ⟨_, rfl, ?_⟩
          simp only [rr7, Act.put, List.setIfInBounds_toArray, List.set_cons_zero, List.set_cons_succ]
          refine hK.out _ _ (fun _ => trivial) (fun hHeld => ?_)
          replace hHeld := hHeld (by decide)
          clear hK K
          refine Tillst.two (i := 9) (j := 15) (o := rr9) (o' := rr15) (by kernel_rfl) rfl rfl ?_ ?_
          · intro K hK
            refine step_call 70 #[.tmp 15] #[91] rfl rfl Try.func70 rfl rfl [.slice (some ⟨w.heap.size, 28, none⟩) 8 36] rfl ?_
            refine (num_any _ 8 _ _ (fun _ => True) _ (HXU.out.part 28 8 (by rw [HL.out]; omega) trivial) (bytes_part HBY.out 28 8) (by omega)).mono ?_
            rintro e w' ⟨rfl, rfl⟩
            rw [HQ4.out]
            refine ⟨_, rfl, ?_⟩
            simp only [rr9, Act.put, List.setIfInBounds_toArray, List.set_cons_zero, List.set_cons_succ]
            refine hK.out _ _ (fun _ => trivial) (fun hHeld => ?_)
            replace hHeld := hHeld (by decide)
            clear hK K
            refine Tillst.two (i := 11) (j := 15) (o := rr11) (o' := rr15) (by kernel_rfl) rfl rfl ?_ ?_
            · intro K hK
              refine step_call 70 #[.tmp 17] #[91] rfl rfl Try.func70 rfl rfl [.slice (some ⟨w.heap.size, 36, none⟩) 8 28] rfl ?_
              refine (num_any _ 8 _ _ (fun _ => True) _ (HXU.out.part 36 8 (by rw [HL.out]; omega) trivial) (bytes_part HBY.out 36 8) (by omega)).mono ?_
              rintro e w' ⟨rfl, rfl⟩
              rw [HQ5.out]
              refine ⟨_, rfl, ?_⟩
              simp only [rr11, Act.put, List.setIfInBounds_toArray, List.set_cons_zero, List.set_cons_succ]
              refine hK.out _ _ (fun _ => trivial) (fun hHeld => ?_)
              replace hHeld := hHeld (by decide)
              clear hK K
              refine Tillst.two (i := 13) (j := 15) (o := rr13) (o' := rr15) (by kernel_rfl) rfl rfl ?_ ?_
              · intro K hK
                refine step_call 70 #[.tmp 19] #[91] rfl rfl Try.func70 rfl rfl [.slice (some ⟨w.heap.size, 44, none⟩) 8 20] rfl ?_
                refine (num_any _ 8 _ _ (fun _ => True) _ (HXU.out.part 44 8 (by rw [HL.out]; omega) trivial) (bytes_part HBY.out 44 8) (by omega)).mono ?_
                rintro e w' ⟨rfl, rfl⟩
                rw [HQ6.out]
                refine ⟨_, rfl, ?_⟩
                simp only [rr13, Act.put, List.setIfInBounds_toArray, List.set_cons_zero, List.set_cons_succ]
                refine hK.out _ _ (fun _ => trivial) (fun hHeld => ?_)
                replace hHeld := hHeld (by decide)
                clear hK K
                refine Tillst.take (i := 14) (oi := rr14) (v := ?_) rfl (by kernel_rfl) (by kernel_rfl) (by kernel_rfl) (by kernel_rfl) (fun _ _ _ h => h) (by rfl) ?_ hHeld ?_
                rotate_left
                · intro W hSW; (try dsimp only at hSW); unfold rr14; go_simp; with_reducible rfl
                simp only [rr14, Act.put, List.setIfInBounds_toArray, List.set_cons_zero, List.set_cons_succ]
                refine Tillst.one (i := 15) (o := rr15) (by kernel_rfl) rfl ?_
                intro K hK
                refine step_alloc_row 24 rfl rfl (supC 0 0 0 0 0 0) zero_sup ?_
                rw [← HUA.out]
                simp only [rr15, Act.put, List.setIfInBounds_toArray, List.set_cons_zero, List.set_cons_succ]
                refine hK.out _ _ (fun _ => trivial) (fun hHeld => ?_)
                replace hHeld := hHeld (by decide)
                clear hK K
                refine Tillst.one (i := 16) (o := rr16) (by kernel_rfl) rfl ?_
                intro K hK
                refine step_store_part (.tmp 5) (.tmp 21) 24 rfl rfl HZS.out u.heap.size 0 (supC (numAt xs 16 2) (numAt xs 18 2) (numAt xs 20 8) (numAt xs 28 8) (numAt xs 36 8) (numAt xs 44 8)).toList rfl rfl 24 (supC 0 0 0 0 0 0).toList HTA.out rfl (sup_ones _ _ _ _ _ _) (by simp [supC]) ?_
                rw [HE.out]
                simp only [rr16, Act.put, List.setIfInBounds_toArray, List.set_cons_zero, List.set_cons_succ]
                refine hK.out _ _ (fun _ => trivial) (fun hHeld => ?_)
                clear hK K
                refine Tillst.done (by kernel_rfl) ?_ _
                refine NoPanic.normal ?_
                clear hHeld
                go_wp2_with fail
                go_meet
                exact ⟨_, rfl, HZU.out, HXF.out, HRF.out, HTF.out, HBF.out⟩
              · intro K hK
                refine step_alloc_row 24 rfl rfl (supC 0 0 0 0 0 0) zero_sup ?_
                rw [← HUA.out]
                simp only [rr15, Act.put, List.setIfInBounds_toArray, List.set_cons_zero, List.set_cons_succ]
                refine hK.out _ _ (fun _ => trivial) (fun hHeld => ?_)
                replace hHeld := hHeld (by decide)
                clear hK K
                refine Tillst.one (i := 13) (o := rr13) (by kernel_rfl) rfl ?_
                intro K hK
                refine step_call 70 #[.tmp 19] #[91] rfl rfl Try.func70 rfl rfl [.slice (some ⟨w.heap.size, 44, none⟩) 8 20] rfl ?_
                refine (num_any _ 8 _ _ (fun _ => True) _ (HXA.out.part 44 8 (by rw [HL.out]; omega) trivial) (bytes_part HBY.out 44 8) (by omega)).mono ?_
                rintro e w' ⟨rfl, rfl⟩
                rw [HQ6.out]
                refine ⟨_, rfl, ?_⟩
                simp only [rr13, Act.put, List.setIfInBounds_toArray, List.set_cons_zero, List.set_cons_succ]
                refine hK.out _ _ (fun _ => trivial) (fun hHeld => ?_)
                replace hHeld := hHeld (by decide)
                clear hK K
                refine Tillst.take (i := 14) (oi := rr14) (v := ?_) rfl (by kernel_rfl) (by kernel_rfl) (by kernel_rfl) (by kernel_rfl) (fun _ _ _ h => h) (by rfl) ?_ hHeld ?_
                rotate_left
                · intro W hSW; (try dsimp only at hSW); unfold rr14; go_simp; with_reducible rfl
                simp only [rr14, Act.put, List.setIfInBounds_toArray, List.set_cons_zero, List.set_cons_succ]
                refine Tillst.one (i := 16) (o := rr16) (by kernel_rfl) rfl ?_
                intro K hK
                refine step_store_part (.tmp 5) (.tmp 21) 24 rfl rfl HZS.out u.heap.size 0 (supC (numAt xs 16 2) (numAt xs 18 2) (numAt xs 20 8) (numAt xs 28 8) (numAt xs 36 8) (numAt xs 44 8)).toList rfl rfl 24 (supC 0 0 0 0 0 0).toList HTA.out rfl (sup_ones _ _ _ _ _ _) (by simp [supC]) ?_
                rw [HE.out]
                simp only [rr16, Act.put, List.setIfInBounds_toArray, List.set_cons_zero, List.set_cons_succ]
                refine hK.out _ _ (fun _ => trivial) (fun hHeld => ?_)
                clear hK K
                refine Tillst.done (by kernel_rfl) ?_ _
                refine NoPanic.normal ?_
                clear hHeld
                go_wp2_with fail
                go_meet
                exact ⟨_, rfl, HZU.out, HXF.out, HRF.out, HTF.out, HBF.out⟩
            · intro K hK
              refine step_alloc_row 24 rfl rfl (supC 0 0 0 0 0 0) zero_sup ?_
              rw [← HUA.out]
              simp only [rr15, Act.put, List.setIfInBounds_toArray, List.set_cons_zero, List.set_cons_succ]
              refine hK.out _ _ (fun _ => trivial) (fun hHeld => ?_)
              replace hHeld := hHeld (by decide)
              clear hK K
              refine Tillst.one (i := 11) (o := rr11) (by kernel_rfl) rfl ?_
              intro K hK
              refine step_call 70 #[.tmp 17] #[91] rfl rfl Try.func70 rfl rfl [.slice (some ⟨w.heap.size, 36, none⟩) 8 28] rfl ?_
              refine (num_any _ 8 _ _ (fun _ => True) _ (HXA.out.part 36 8 (by rw [HL.out]; omega) trivial) (bytes_part HBY.out 36 8) (by omega)).mono ?_
              rintro e w' ⟨rfl, rfl⟩
              rw [HQ5.out]
              refine ⟨_, rfl, ?_⟩
              simp only [rr11, Act.put, List.setIfInBounds_toArray, List.set_cons_zero, List.set_cons_succ]
              refine hK.out _ _ (fun _ => trivial) (fun hHeld => ?_)
              replace hHeld := hHeld (by decide)
              clear hK K
              refine Tillst.one (i := 13) (o := rr13) (by kernel_rfl) rfl ?_
              intro K hK
              refine step_call 70 #[.tmp 19] #[91] rfl rfl Try.func70 rfl rfl [.slice (some ⟨w.heap.size, 44, none⟩) 8 20] rfl ?_
              refine (num_any _ 8 _ _ (fun _ => True) _ (HXA.out.part 44 8 (by rw [HL.out]; omega) trivial) (bytes_part HBY.out 44 8) (by omega)).mono ?_
              rintro e w' ⟨rfl, rfl⟩
              rw [HQ6.out]
              refine ⟨_, rfl, ?_⟩
              simp only [rr13, Act.put, List.setIfInBounds_toArray, List.set_cons_zero, List.set_cons_succ]
              refine hK.out _ _ (fun _ => trivial) (fun hHeld => ?_)
              replace hHeld := hHeld (by decide)
              clear hK K
              refine Tillst.take (i := 14) (oi := rr14) (v := ?_) rfl (by kernel_rfl) (by kernel_rfl) (by kernel_rfl) (by kernel_rfl) (fun _ _ _ h => h) (by rfl) ?_ hHeld ?_
              rotate_left
              · intro W hSW; (try dsimp only at hSW); unfold rr14; go_simp; with_reducible rfl
              simp only [rr14, Act.put, List.setIfInBounds_toArray, List.set_cons_zero, List.set_cons_succ]
              refine Tillst.one (i := 16) (o := rr16) (by kernel_rfl) rfl ?_
              intro K hK
              refine step_store_part (.tmp 5) (.tmp 21) 24 rfl rfl HZS.out u.heap.size 0 (supC (numAt xs 16 2) (numAt xs 18 2) (numAt xs 20 8) (numAt xs 28 8) (numAt xs 36 8) (numAt xs 44 8)).toList rfl rfl 24 (supC 0 0 0 0 0 0).toList HTA.out rfl (sup_ones _ _ _ _ _ _) (by simp [supC]) ?_
              rw [HE.out]
              simp only [rr16, Act.put, List.setIfInBounds_toArray, List.set_cons_zero, List.set_cons_succ]
              refine hK.out _ _ (fun _ => trivial) (fun hHeld => ?_)
              clear hK K
              refine Tillst.done (by kernel_rfl) ?_ _
              refine NoPanic.normal ?_
              clear hHeld
              go_wp2_with fail
              go_meet
              exact ⟨_, rfl, HZU.out, HXF.out, HRF.out, HTF.out, HBF.out⟩
          · intro K hK
            refine step_alloc_row 24 rfl rfl (supC 0 0 0 0 0 0) zero_sup ?_
            rw [← HUA.out]
            simp only [rr15, Act.put, List.setIfInBounds_toArray, List.set_cons_zero, List.set_cons_succ]
            refine hK.out _ _ (fun _ => trivial) (fun hHeld => ?_)
            replace hHeld := hHeld (by decide)
            clear hK K
            refine Tillst.one (i := 9) (o := rr9) (by kernel_rfl) rfl ?_
            intro K hK
            refine step_call 70 #[.tmp 15] #[91] rfl rfl Try.func70 rfl rfl [.slice (some ⟨w.heap.size, 28, none⟩) 8 36] rfl ?_
            refine (num_any _ 8 _ _ (fun _ => True) _ (HXA.out.part 28 8 (by rw [HL.out]; omega) trivial) (bytes_part HBY.out 28 8) (by omega)).mono ?_
            rintro e w' ⟨rfl, rfl⟩
            rw [HQ4.out]
            refine ⟨_, rfl, ?_⟩
            simp only [rr9, Act.put, List.setIfInBounds_toArray, List.set_cons_zero, List.set_cons_succ]
            refine hK.out _ _ (fun _ => trivial) (fun hHeld => ?_)
            replace hHeld := hHeld (by decide)
            clear hK K
            refine Tillst.one (i := 11) (o := rr11) (by kernel_rfl) rfl ?_
            intro K hK
            refine step_call 70 #[.tmp 17] #[91] rfl rfl Try.func70 rfl rfl [.slice (some ⟨w.heap.size, 36, none⟩) 8 28] rfl ?_
            refine (num_any _ 8 _ _ (fun _ => True) _ (HXA.out.part 36 8 (by rw [HL.out]; omega) trivial) (bytes_part HBY.out 36 8) (by omega)).mono ?_
            rintro e w' ⟨rfl, rfl⟩
            rw [HQ5.out]
            refine ⟨_, rfl, ?_⟩
            simp only [rr11, Act.put, List.setIfInBounds_toArray, List.set_cons_zero, List.set_cons_succ]
            refine hK.out _ _ (fun _ => trivial) (fun hHeld => ?_)
            replace hHeld := hHeld (by decide)
            clear hK K
            refine Tillst.one (i := 13) (o := rr13) (by kernel_rfl) rfl ?_
            intro K hK
            refine step_call 70 #[.tmp 19] #[91] rfl rfl Try.func70 rfl rfl [.slice (some ⟨w.heap.size, 44, none⟩) 8 20] rfl ?_
            refine (num_any _ 8 _ _ (fun _ => True) _ (HXA.out.part 44 8 (by rw [HL.out]; omega) trivial) (bytes_part HBY.out 44 8) (by omega)).mono ?_
            rintro e w' ⟨rfl, rfl⟩
            rw [HQ6.out]
            refine ⟨_, rfl, ?_⟩
            simp only [rr13, Act.put, List.setIfInBounds_toArray, List.set_cons_zero, List.set_cons_succ]
            refine hK.out _ _ (fun _ => trivial) (fun hHeld => ?_)
            replace hHeld := hHeld (by decide)
            clear hK K
            refine Tillst.take (i := 14) (oi := rr14) (v := ?_) rfl (by kernel_rfl) (by kernel_rfl) (by kernel_rfl) (by kernel_rfl) (fun _ _ _ h => h) (by rfl) ?_ hHeld ?_
            rotate_left
            · intro W hSW; (try dsimp only at hSW); unfold rr14; go_simp; with_reducible rfl
            simp only [rr14, Act.put, List.setIfInBounds_toArray, List.set_cons_zero, List.set_cons_succ]
            refine Tillst.one (i := 16) (o := rr16) (by kernel_rfl) rfl ?_
            intro K hK
            refine step_store_part (.tmp 5) (.tmp 21) 24 rfl rfl HZS.out u.heap.size 0 (supC (numAt xs 16 2) (numAt xs 18 2) (numAt xs 20 8) (numAt xs 28 8) (numAt xs 36 8) (numAt xs 44 8)).toList rfl rfl 24 (supC 0 0 0 0 0 0).toList HTA.out rfl (sup_ones _ _ _ _ _ _) (by simp [supC]) ?_
            rw [HE.out]
            simp only [rr16, Act.put, List.setIfInBounds_toArray, List.set_cons_zero, List.set_cons_succ]
            refine hK.out _ _ (fun _ => trivial) (fun hHeld => ?_)
            clear hK K
            refine Tillst.done (by kernel_rfl) ?_ _
            refine NoPanic.normal ?_
            clear hHeld
            go_wp2_with fail
            go_meet
            exact ⟨_, rfl, HZU.out, HXF.out, HRF.out, HTF.out, HBF.out⟩
        · intro K hK
          refine step_alloc_row 24 rfl rfl (supC 0 0 0 0 0 0) zero_sup ?_
          rw [← HUA.out]
          simp only [rr15, Act.put, List.setIfInBounds_toArray, List.set_cons_zero, List.set_cons_succ]
          refine hK.out _ _ (fun _ => trivial) (fun hHeld => ?_)
          replace hHeld := hHeld (by decide)
          clear hK K
          refine Tillst.one (i := 7) (o := rr7) (by kernel_rfl) rfl ?_
          intro K hK
          refine step_call 70 #[.tmp 13] #[91] rfl rfl Try.func70 rfl rfl [.slice (some ⟨w.heap.size, 20, none⟩) 8 44] rfl ?_
          refine (num_any _ 8 _ _ (fun _ => True) _ (HXA.out.part 20 8 (by rw [HL.out]; omega) trivial) (bytes_part HBY.out 20 8) (by omega)).mono ?_
          rintro e w' ⟨rfl, rfl⟩
          rw [HQ3.out]
          refine ⟨_, rfl, ?_⟩
          simp only [rr7, Act.put, List.setIfInBounds_toArray, List.set_cons_zero, List.set_cons_succ]
          refine hK.out _ _ (fun _ => trivial) (fun hHeld => ?_)
          replace hHeld := hHeld (by decide)
          clear hK K
          refine Tillst.one (i := 9) (o := rr9) (by kernel_rfl) rfl ?_
          intro K hK
          refine step_call 70 #[.tmp 15] #[91] rfl rfl Try.func70 rfl rfl [.slice (some ⟨w.heap.size, 28, none⟩) 8 36] rfl ?_
          refine (num_any _ 8 _ _ (fun _ => True) _ (HXA.out.part 28 8 (by rw [HL.out]; omega) trivial) (bytes_part HBY.out 28 8) (by omega)).mono ?_
          rintro e w' ⟨rfl, rfl⟩
          rw [HQ4.out]
          refine ⟨_, rfl, ?_⟩
          simp only [rr9, Act.put, List.setIfInBounds_toArray, List.set_cons_zero, List.set_cons_succ]
          refine hK.out _ _ (fun _ => trivial) (fun hHeld => ?_)
          replace hHeld := hHeld (by decide)
          clear hK K
          refine Tillst.one (i := 11) (o := rr11) (by kernel_rfl) rfl ?_
          intro K hK
          refine step_call 70 #[.tmp 17] #[91] rfl rfl Try.func70 rfl rfl [.slice (some ⟨w.heap.size, 36, none⟩) 8 28] rfl ?_
          refine (num_any _ 8 _ _ (fun _ => True) _ (HXA.out.part 36 8 (by rw [HL.out]; omega) trivial) (bytes_part HBY.out 36 8) (by omega)).mono ?_
          rintro e w' ⟨rfl, rfl⟩
          rw [HQ5.out]
          refine ⟨_, rfl, ?_⟩
          simp only [rr11, Act.put, List.setIfInBounds_toArray, List.set_cons_zero, List.set_cons_succ]
          refine hK.out _ _ (fun _ => trivial) (fun hHeld => ?_)
          replace hHeld := hHeld (by decide)
          clear hK K
          refine Tillst.one (i := 13) (o := rr13) (by kernel_rfl) rfl ?_
          intro K hK
          refine step_call 70 #[.tmp 19] #[91] rfl rfl Try.func70 rfl rfl [.slice (some ⟨w.heap.size, 44, none⟩) 8 20] rfl ?_
          refine (num_any _ 8 _ _ (fun _ => True) _ (HXA.out.part 44 8 (by rw [HL.out]; omega) trivial) (bytes_part HBY.out 44 8) (by omega)).mono ?_
          rintro e w' ⟨rfl, rfl⟩
          rw [HQ6.out]
          refine ⟨_, rfl, ?_⟩
          simp only [rr13, Act.put, List.setIfInBounds_toArray, List.set_cons_zero, List.set_cons_succ]
          refine hK.out _ _ (fun _ => trivial) (fun hHeld => ?_)
          replace hHeld := hHeld (by decide)
          clear hK K
          refine Tillst.take (i := 14) (oi := rr14) (v := ?_) rfl (by kernel_rfl) (by kernel_rfl) (by kernel_rfl) (by kernel_rfl) (fun _ _ _ h => h) (by rfl) ?_ hHeld ?_
          rotate_left
          · intro W hSW; (try dsimp only at hSW); unfold rr14; go_simp; with_reducible rfl
          simp only [rr14, Act.put, List.setIfInBounds_toArray, List.set_cons_zero, List.set_cons_succ]
          refine Tillst.one (i := 16) (o := rr16) (by kernel_rfl) rfl ?_
          intro K hK
          refine step_store_part (.tmp 5) (.tmp 21) 24 rfl rfl HZS.out u.heap.size 0 (supC (numAt xs 16 2) (numAt xs 18 2) (numAt xs 20 8) (numAt xs 28 8) (numAt xs 36 8) (numAt xs 44 8)).toList rfl rfl 24 (supC 0 0 0 0 0 0).toList HTA.out rfl (sup_ones _ _ _ _ _ _) (by simp [supC]) ?_
          rw [HE.out]
          simp only [rr16, Act.put, List.setIfInBounds_toArray, List.set_cons_zero, List.set_cons_succ]
          refine hK.out _ _ (fun _ => trivial) (fun hHeld => ?_)
          clear hK K
          refine Tillst.done (by kernel_rfl) ?_ _
          refine NoPanic.normal ?_
          clear hHeld
          go_wp2_with fail
          go_meet
          exact ⟨_, rfl, HZU.out, HXF.out, HRF.out, HTF.out, HBF.out⟩
      · intro K hK
        refine step_alloc_row 24 rfl rfl (supC 0 0 0 0 0 0) zero_sup ?_
        rw [← HUA.out]
        simp only [rr15, Act.put, List.setIfInBounds_toArray, List.set_cons_zero, List.set_cons_succ]
        refine hK.out _ _ (fun _ => trivial) (fun hHeld => ?_)
        replace hHeld := hHeld (by decide)
        clear hK K
        refine Tillst.one (i := 4) (o := rr4) (by kernel_rfl) rfl ?_
        intro K hK
        refine step_call 70 #[.tmp 10] #[91] rfl rfl Try.func70 rfl rfl [.slice (some ⟨w.heap.size, 18, none⟩) 2 46] rfl ?_
        refine (num_any _ 2 _ _ (fun _ => True) _ (HXA.out.part 18 2 (by rw [HL.out]; omega) trivial) (bytes_part HBY.out 18 2) (by omega)).mono ?_
        rintro e w' ⟨rfl, rfl⟩
        rw [HQ2.out]
        refine ⟨_, rfl, ?_⟩
        simp only [rr4, Act.put, List.setIfInBounds_toArray, List.set_cons_zero, List.set_cons_succ]
        refine hK.out _ _ (fun _ => trivial) (fun hHeld => ?_)
        replace hHeld := hHeld (by decide)
        clear hK K
        refine Tillst.take (i := 5) (oi := rr5) (v := ?_) rfl (by kernel_rfl) (by kernel_rfl) (by kernel_rfl) (by kernel_rfl) (fun _ _ _ h => h) (by rfl) ?_ hHeld ?_
        rotate_left
        · intro W hSW; (try dsimp only at hSW); unfold rr5; go_simp; with_reducible rfl
        simp only [rr5, Act.put, List.setIfInBounds_toArray, List.set_cons_zero, List.set_cons_succ]
        refine Tillst.one (i := 7) (o := rr7) (by kernel_rfl) rfl ?_
        intro K hK
        refine step_call 70 #[.tmp 13] #[91] rfl rfl Try.func70 rfl rfl [.slice (some ⟨w.heap.size, 20, none⟩) 8 44] rfl ?_
        refine (num_any _ 8 _ _ (fun _ => True) _ (HXA.out.part 20 8 (by rw [HL.out]; omega) trivial) (bytes_part HBY.out 20 8) (by omega)).mono ?_
        rintro e w' ⟨rfl, rfl⟩
        rw [HQ3.out]
        refine ⟨_, rfl, ?_⟩
        simp only [rr7, Act.put, List.setIfInBounds_toArray, List.set_cons_zero, List.set_cons_succ]
        refine hK.out _ _ (fun _ => trivial) (fun hHeld => ?_)
        replace hHeld := hHeld (by decide)
        clear hK K
        refine Tillst.one (i := 9) (o := rr9) (by kernel_rfl) rfl ?_
        intro K hK
        refine step_call 70 #[.tmp 15] #[91] rfl rfl Try.func70 rfl rfl [.slice (some ⟨w.heap.size, 28, none⟩) 8 36] rfl ?_
        refine (num_any _ 8 _ _ (fun _ => True) _ (HXA.out.part 28 8 (by rw [HL.out]; omega) trivial) (bytes_part HBY.out 28 8) (by omega)).mono ?_
        rintro e w' ⟨rfl, rfl⟩
        rw [HQ4.out]
        refine ⟨_, rfl, ?_⟩
        simp only [rr9, Act.put, List.setIfInBounds_toArray, List.set_cons_zero, List.set_cons_succ]
        refine hK.out _ _ (fun _ => trivial) (fun hHeld => ?_)
        replace hHeld := hHeld (by decide)
        clear hK K
        refine Tillst.one (i := 11) (o := rr11) (by kernel_rfl) rfl ?_
        intro K hK
        refine step_call 70 #[.tmp 17] #[91] rfl rfl Try.func70 rfl rfl [.slice (some ⟨w.heap.size, 36, none⟩) 8 28] rfl ?_
        refine (num_any _ 8 _ _ (fun _ => True) _ (HXA.out.part 36 8 (by rw [HL.out]; omega) trivial) (bytes_part HBY.out 36 8) (by omega)).mono ?_
        rintro e w' ⟨rfl, rfl⟩
        rw [HQ5.out]
        refine ⟨_, rfl, ?_⟩
        simp only [rr11, Act.put, List.setIfInBounds_toArray, List.set_cons_zero, List.set_cons_succ]
        refine hK.out _ _ (fun _ => trivial) (fun hHeld => ?_)
        replace hHeld := hHeld (by decide)
        clear hK K
        refine Tillst.one (i := 13) (o := rr13) (by kernel_rfl) rfl ?_
        intro K hK
        refine step_call 70 #[.tmp 19] #[91] rfl rfl Try.func70 rfl rfl [.slice (some ⟨w.heap.size, 44, none⟩) 8 20] rfl ?_
        refine (num_any _ 8 _ _ (fun _ => True) _ (HXA.out.part 44 8 (by rw [HL.out]; omega) trivial) (bytes_part HBY.out 44 8) (by omega)).mono ?_
        rintro e w' ⟨rfl, rfl⟩
        rw [HQ6.out]
        refine ⟨_, rfl, ?_⟩
        simp only [rr13, Act.put, List.setIfInBounds_toArray, List.set_cons_zero, List.set_cons_succ]
        refine hK.out _ _ (fun _ => trivial) (fun hHeld => ?_)
        replace hHeld := hHeld (by decide)
        clear hK K
        refine Tillst.take (i := 14) (oi := rr14) (v := ?_) rfl (by kernel_rfl) (by kernel_rfl) (by kernel_rfl) (by kernel_rfl) (fun _ _ _ h => h) (by rfl) ?_ hHeld ?_
        rotate_left
        · intro W hSW; (try dsimp only at hSW); unfold rr14; go_simp; with_reducible rfl
        simp only [rr14, Act.put, List.setIfInBounds_toArray, List.set_cons_zero, List.set_cons_succ]
        refine Tillst.one (i := 16) (o := rr16) (by kernel_rfl) rfl ?_
        intro K hK
        refine step_store_part (.tmp 5) (.tmp 21) 24 rfl rfl HZS.out u.heap.size 0 (supC (numAt xs 16 2) (numAt xs 18 2) (numAt xs 20 8) (numAt xs 28 8) (numAt xs 36 8) (numAt xs 44 8)).toList rfl rfl 24 (supC 0 0 0 0 0 0).toList HTA.out rfl (sup_ones _ _ _ _ _ _) (by simp [supC]) ?_
        rw [HE.out]
        simp only [rr16, Act.put, List.setIfInBounds_toArray, List.set_cons_zero, List.set_cons_succ]
        refine hK.out _ _ (fun _ => trivial) (fun hHeld => ?_)
        clear hK K
        refine Tillst.done (by kernel_rfl) ?_ _
        refine NoPanic.normal ?_
        clear hHeld
        go_wp2_with fail
        go_meet
        exact ⟨_, rfl, HZU.out, HXF.out, HRF.out, HTF.out, HBF.out⟩
    · intro K hK
      refine step_alloc_row 24 rfl rfl (supC 0 0 0 0 0 0) zero_sup ?_
      rw [← HUA.out]
      simp only [rr15, Act.put, List.setIfInBounds_toArray, List.set_cons_zero, List.set_cons_succ]
      refine hK.out _ _ (fun _ => trivial) (fun hHeld => ?_)
      replace hHeld := hHeld (by decide)
      clear hK K
      refine Tillst.one (i := 1) (o := rr1) (by kernel_rfl) rfl ?_
      intro K hK
      refine step_call 70 #[.tmp 7] #[91] rfl rfl Try.func70 rfl rfl [.slice (some ⟨w.heap.size, 16, none⟩) 2 48] rfl ?_
      refine (num_any _ 2 _ _ (fun _ => True) _ (HXA.out.part 16 2 (by rw [HL.out]; omega) trivial) (bytes_part HBY.out 16 2) (by omega)).mono ?_
      rintro e w' ⟨rfl, rfl⟩
      rw [HQ1.out]
      refine ⟨_, rfl, ?_⟩
      simp only [rr1, Act.put, List.setIfInBounds_toArray, List.set_cons_zero, List.set_cons_succ]
      refine hK.out _ _ (fun _ => trivial) (fun hHeld => ?_)
      replace hHeld := hHeld (by decide)
      clear hK K
      refine Tillst.take (i := 2) (oi := rr2) (v := ?_) rfl (by kernel_rfl) (by kernel_rfl) (by kernel_rfl) (by kernel_rfl) (fun _ _ _ h => h) (by rfl) ?_ hHeld ?_
      rotate_left
      · intro W hSW; (try dsimp only at hSW); unfold rr2; go_simp; with_reducible rfl
      simp only [rr2, Act.put, List.setIfInBounds_toArray, List.set_cons_zero, List.set_cons_succ]
      refine Tillst.one (i := 4) (o := rr4) (by kernel_rfl) rfl ?_
      intro K hK
      refine step_call 70 #[.tmp 10] #[91] rfl rfl Try.func70 rfl rfl [.slice (some ⟨w.heap.size, 18, none⟩) 2 46] rfl ?_
      refine (num_any _ 2 _ _ (fun _ => True) _ (HXA.out.part 18 2 (by rw [HL.out]; omega) trivial) (bytes_part HBY.out 18 2) (by omega)).mono ?_
      rintro e w' ⟨rfl, rfl⟩
      rw [HQ2.out]
      refine ⟨_, rfl, ?_⟩
      simp only [rr4, Act.put, List.setIfInBounds_toArray, List.set_cons_zero, List.set_cons_succ]
      refine hK.out _ _ (fun _ => trivial) (fun hHeld => ?_)
      replace hHeld := hHeld (by decide)
      clear hK K
      refine Tillst.take (i := 5) (oi := rr5) (v := ?_) rfl (by kernel_rfl) (by kernel_rfl) (by kernel_rfl) (by kernel_rfl) (fun _ _ _ h => h) (by rfl) ?_ hHeld ?_
      rotate_left
      · intro W hSW; (try dsimp only at hSW); unfold rr5; go_simp; with_reducible rfl
      simp only [rr5, Act.put, List.setIfInBounds_toArray, List.set_cons_zero, List.set_cons_succ]
      refine Tillst.one (i := 7) (o := rr7) (by kernel_rfl) rfl ?_
      intro K hK
      refine step_call 70 #[.tmp 13] #[91] rfl rfl Try.func70 rfl rfl [.slice (some ⟨w.heap.size, 20, none⟩) 8 44] rfl ?_
      refine (num_any _ 8 _ _ (fun _ => True) _ (HXA.out.part 20 8 (by rw [HL.out]; omega) trivial) (bytes_part HBY.out 20 8) (by omega)).mono ?_
      rintro e w' ⟨rfl, rfl⟩
      rw [HQ3.out]
      refine ⟨_, rfl, ?_⟩
      simp only [rr7, Act.put, List.setIfInBounds_toArray, List.set_cons_zero, List.set_cons_succ]
      refine hK.out _ _ (fun _ => trivial) (fun hHeld => ?_)
      replace hHeld := hHeld (by decide)
      clear hK K
      refine Tillst.one (i := 9) (o := rr9) (by kernel_rfl) rfl ?_
      intro K hK
      refine step_call 70 #[.tmp 15] #[91] rfl rfl Try.func70 rfl rfl [.slice (some ⟨w.heap.size, 28, none⟩) 8 36] rfl ?_
      refine (num_any _ 8 _ _ (fun _ => True) _ (HXA.out.part 28 8 (by rw [HL.out]; omega) trivial) (bytes_part HBY.out 28 8) (by omega)).mono ?_
      rintro e w' ⟨rfl, rfl⟩
      rw [HQ4.out]
      refine ⟨_, rfl, ?_⟩
      simp only [rr9, Act.put, List.setIfInBounds_toArray, List.set_cons_zero, List.set_cons_succ]
      refine hK.out _ _ (fun _ => trivial) (fun hHeld => ?_)
      replace hHeld := hHeld (by decide)
      clear hK K
      refine Tillst.one (i := 11) (o := rr11) (by kernel_rfl) rfl ?_
      intro K hK
      refine step_call 70 #[.tmp 17] #[91] rfl rfl Try.func70 rfl rfl [.slice (some ⟨w.heap.size, 36, none⟩) 8 28] rfl ?_
      refine (num_any _ 8 _ _ (fun _ => True) _ (HXA.out.part 36 8 (by rw [HL.out]; omega) trivial) (bytes_part HBY.out 36 8) (by omega)).mono ?_
      rintro e w' ⟨rfl, rfl⟩
      rw [HQ5.out]
      refine ⟨_, rfl, ?_⟩
      simp only [rr11, Act.put, List.setIfInBounds_toArray, List.set_cons_zero, List.set_cons_succ]
      refine hK.out _ _ (fun _ => trivial) (fun hHeld => ?_)
      replace hHeld := hHeld (by decide)
      clear hK K
      refine Tillst.one (i := 13) (o := rr13) (by kernel_rfl) rfl ?_
      intro K hK
      refine step_call 70 #[.tmp 19] #[91] rfl rfl Try.func70 rfl rfl [.slice (some ⟨w.heap.size, 44, none⟩) 8 20] rfl ?_
      refine (num_any _ 8 _ _ (fun _ => True) _ (HXA.out.part 44 8 (by rw [HL.out]; omega) trivial) (bytes_part HBY.out 44 8) (by omega)).mono ?_
      rintro e w' ⟨rfl, rfl⟩
      rw [HQ6.out]
      refine ⟨_, rfl, ?_⟩
      simp only [rr13, Act.put, List.setIfInBounds_toArray, List.set_cons_zero, List.set_cons_succ]
      refine hK.out _ _ (fun _ => trivial) (fun hHeld => ?_)
      replace hHeld := hHeld (by decide)
      clear hK K
      refine Tillst.take (i := 14) (oi := rr14) (v := ?_) rfl (by kernel_rfl) (by kernel_rfl) (by kernel_rfl) (by kernel_rfl) (fun _ _ _ h => h) (by rfl) ?_ hHeld ?_
      rotate_left
      · intro W hSW; (try dsimp only at hSW); unfold rr14; go_simp; with_reducible rfl
      simp only [rr14, Act.put, List.setIfInBounds_toArray, List.set_cons_zero, List.set_cons_succ]
      refine Tillst.one (i := 16) (o := rr16) (by kernel_rfl) rfl ?_
      intro K hK
      refine step_store_part (.tmp 5) (.tmp 21) 24 rfl rfl HZS.out u.heap.size 0 (supC (numAt xs 16 2) (numAt xs 18 2) (numAt xs 20 8) (numAt xs 28 8) (numAt xs 36 8) (numAt xs 44 8)).toList rfl rfl 24 (supC 0 0 0 0 0 0).toList HTA.out rfl (sup_ones _ _ _ _ _ _) (by simp [supC]) ?_
      rw [HE.out]
      simp only [rr16, Act.put, List.setIfInBounds_toArray, List.set_cons_zero, List.set_cons_succ]
      refine hK.out _ _ (fun _ => trivial) (fun hHeld => ?_)
      clear hK K
      refine Tillst.done (by kernel_rfl) ?_ _
      refine NoPanic.normal ?_
      clear hHeld
      go_wp2_with fail
      go_meet
      exact ⟨_, rfl, HZU.out, HXF.out, HRF.out, HTF.out, HBF.out⟩
  case rest =>
    obtain ⟨q, rfl, hql, hx, hr, hq, hbel⟩ := hcut
    have HQL := Lib.hid hql
    have HX := Lib.hid hx
    have HR := Lib.hid hr
    have HQ := Lib.hid hq
    have HBEL := Lib.hid hbel
    clear hql hx hr hq hbel
    go_wp2_with fail
    refine (num_any _ 8 _ _ (fun _ => True) _ (HX.out.part 8 8 (by rw [HL.out]; omega) trivial) (bytes_part HBY.out 8 8) (by omega)).mono ?_
    rintro e w' ⟨rfl, rfl⟩
    have hq0 : numOf ((xs.drop 8).take 8) = numAt xs 8 8 := rfl
    rw [hq0]
    clear hq0
    go_wp2_with fail
    have hr1 : wc.rangeAt q 0 (supC (numAt xs 16 2) (numAt xs 18 2) (numAt xs 20 8) (numAt xs 28 8) (numAt xs 36 8) (numAt xs 44 8)).toList := Blk.rangeL (cs := (supC (numAt xs 16 2) (numAt xs 18 2) (numAt xs 20 8) (numAt xs 28 8) (numAt xs 36 8) (numAt xs 44 8)).toList) HQ.out
    have hr2 := HX.out.range
    have hu24 := Try.underlying24
    have hu26 := Try.underlying26
    have hs24 : (Try.prog.info? 24).map (·.size) = some (supC (numAt xs 16 2) (numAt xs 18 2) (numAt xs 20 8) (numAt xs 28 8) (numAt xs 36 8) (numAt xs 44 8)).toList.length := size_sup
    have hs26 : (Try.prog.info? 26).map (·.size) = some (xs.map (Value.int .u8)).length := by rw [size_blk, List.length_map, HL.out]
    refine wp_region_noPanic ?_
    refine Tillst.region (fun W => W.rangeAt q 0 (supC (numAt xs 16 2) (numAt xs 18 2) (numAt xs 20 8) (numAt xs 28 8) (numAt xs 36 8) (numAt xs 44 8)).toList ∧ W.rangeAt w.heap.size 0 (xs.map (Value.int .u8))) [] (by kernel_rfl) ⟨hr1, hr2⟩ (fun hHeld => ?_)
    refine Tillst.take (i := 0) (oi := rs0) (v := ?_) rfl (by kernel_rfl) (by kernel_rfl) (by kernel_rfl) (by kernel_rfl) (fun _ _ _ h => h) (by rfl) ?_ hHeld ?_
    rotate_left
    · intro W hSW; refine exec_load_row (.tmp 5) 24 ?_ q 0 ?_ (supC (numAt xs 16 2) (numAt xs 18 2) (numAt xs 20 8) (numAt xs 28 8) (numAt xs 36 8) (numAt xs 44 8)).toList _ hu24 rfl hs24 hSW.1 <;> rfl
    simp only [rs0, Act.put, List.setIfInBounds_toArray, List.set_cons_zero, List.set_cons_succ]
    refine Tillst.one (i := 1) (o := rs1) (by kernel_rfl) rfl ?_
    intro K hK
    refine step_call 16 #[.tmp 24] #[24] rfl rfl Try.func16 rfl rfl [.agg (supC (numAt xs 16 2) (numAt xs 18 2) (numAt xs 20 8) (numAt xs 28 8) (numAt xs 36 8) (numAt xs 44 8))] rfl ?_
    refine (rmay_any (numAt xs 16 2) (numAt xs 18 2) (numAt xs 20 8) (numAt xs 28 8) (numAt xs 36 8) (numAt xs 44 8) wc.drew).mono ?_
    rintro e w3 ⟨rfl, hb⟩
    have hb3 : Below wc.heap.size wc w3 := (Below.refl _ _).drew.trans hb
    have HX3 := Lib.hid (show ArrB w3 w.heap.size xs from Arr.below HX.out hb3 HX.out.lt)
    have HQ3 := Lib.hid (HQ.out.below hb3 HQ.out.lt)
    have HR3 := Lib.hid (HR.out.below hb3 HR.out.lt)
    have HB3 := Lib.hid (HBEL.out.trans (hb3.mono HBEL.out.size))
    have hS := And.intro (range_below hr1 hb3 HQ.out.lt) (range_below hr2 hb3 HX.out.lt)
    clear hb hb3 hr1 hr2
    refine ⟨_, rfl, ?_⟩
    simp only [rs1, Act.put, List.setIfInBounds_toArray, List.set_cons_zero, List.set_cons_succ]
    refine hK.out _ _ (fun _ => hS) (fun hHeld => ?_)
    replace hHeld := hHeld (by decide)
    clear hK K hS
    by_cases hm : MayS (numAt xs 16 2) (numAt xs 18 2) (numAt xs 20 8) (numAt xs 28 8)
    case neg =>
      have hno : decide (MayS (numAt xs 16 2) (numAt xs 18 2) (numAt xs 20 8) (numAt xs 28 8)) = false := decide_eq_false hm
      rw [hno]
      have HNR := Lib.hid (show rightS xs = false by unfold rightS; rw [hno, Bool.false_and])
      clear hm hno
      refine Tillst.take (i := 2) (oi := rs2) (v := ?_) rfl (by kernel_rfl) (by kernel_rfl) (by kernel_rfl) (by kernel_rfl) (fun _ _ _ h => h) (by rfl) ?_ hHeld ?_
      rotate_left
      · intro W hSW; (try dsimp only at hSW); unfold rs2; go_simp; with_reducible rfl
      simp only [rs2, Act.put, List.setIfInBounds_toArray, List.set_cons_zero, List.set_cons_succ]
      refine Tillst.take (i := 3) (oi := rs3) (v := ?_) rfl (by kernel_rfl) (by kernel_rfl) (by kernel_rfl) (by kernel_rfl) (fun _ _ _ h => h) (by rfl) ?_ hHeld ?_
      rotate_left
      · intro W hSW; (try dsimp only at hSW); unfold rs3; go_simp; with_reducible rfl
      simp only [rs3, Act.put, List.setIfInBounds_toArray, List.set_cons_zero, List.set_cons_succ]
      refine Tillst.skip (i := 4) (oi := rs4) rfl (by kernel_rfl) (by kernel_rfl) (by kernel_rfl) (by kernel_rfl) (fun _ _ _ h => h) (by rfl) hHeld ?_
      simp only [rs4, Act.put, List.setIfInBounds_toArray, List.set_cons_zero, List.set_cons_succ]
      refine Tillst.skip (i := 5) (oi := rs5) rfl (by kernel_rfl) (by kernel_rfl) (by kernel_rfl) (by kernel_rfl) (fun _ _ _ h => h) (by rfl) hHeld ?_
      simp only [rs5, Act.put, List.setIfInBounds_toArray, List.set_cons_zero, List.set_cons_succ]
      refine Tillst.skip (i := 7) (oi := rs7) rfl (by kernel_rfl) (by kernel_rfl) (by kernel_rfl) (by kernel_rfl) (fun _ _ _ h => h) (by rfl) hHeld ?_
      simp only [rs7, Act.put, List.setIfInBounds_toArray, List.set_cons_zero, List.set_cons_succ]
      refine Tillst.skip (i := 6) (oi := rs6) rfl (by kernel_rfl) (by kernel_rfl) (by kernel_rfl) (by kernel_rfl) (fun _ _ _ h => h) (by rfl) hHeld ?_
      simp only [rs6, Act.put, List.setIfInBounds_toArray, List.set_cons_zero, List.set_cons_succ]
      refine Tillst.skip (i := 8) (oi := rs8) rfl (by kernel_rfl) (by kernel_rfl) (by kernel_rfl) (by kernel_rfl) (fun _ _ _ h => h) (by rfl) hHeld ?_
      simp only [rs8, Act.put, List.setIfInBounds_toArray, List.set_cons_zero, List.set_cons_succ]
      refine Tillst.take (i := 9) (oi := rs9) (v := ?_) rfl (by kernel_rfl) (by kernel_rfl) (by kernel_rfl) (by kernel_rfl) (fun _ _ _ h => h) (by rfl) ?_ hHeld ?_
      rotate_left
      · intro W hSW; (try dsimp only at hSW); unfold rs9; go_simp; with_reducible rfl
      simp only [rs9, Act.put, List.setIfInBounds_toArray, List.set_cons_zero, List.set_cons_succ]
      refine Tillst.done (by kernel_rfl) ?_ _
      refine NoPanic.normal ?_
      clear hHeld hs24 hs26 hu24 hu26
      go_wp2_with (first | (refine wpList_store_rowB (.tmp 2) (.tmp 34) 24 rfl rfl (w.heap.size + 1) (supC 0 0 0 0 0 0) rfl rfl 24 _ HR3.out size_sup rfl (sup_one _ _ _ _ _ _) ?_) | (with_reducible refine halt_end ?_))
      exact Halt.ret (results_row3 (p := 2) (u := 3) (v := 4) rfl _ _ (w.heap.size + 1) 24 (supC 0 0 0 0 0 0) _ rfl (setRow_heap _ _ _ (supC 0 0 0 0 0 0) _ _ HR3.out) Try.underlying24 rfl size_sup) rfl ⟨fun h => absurd h (by rw [HNR.out]; simp), fun _ => ⟨rfl, below_setRow HB3.out (by omega) _⟩⟩
    have hyes : decide (MayS (numAt xs 16 2) (numAt xs 18 2) (numAt xs 20 8) (numAt xs 28 8)) = true := decide_eq_true hm
    rw [hyes]
    have HBK := Lib.hid (fun u => rblock_any (numAt xs 16 2) (numAt xs 18 2) (numAt xs 20 8) (numAt xs 28 8) (numAt xs 36 8) (numAt xs 44 8) (numAt xs 8 8) u hm HIN.out HTT.out)
    have HSL := Lib.hid (supL_length (numAt xs 16 2) (numAt xs 18 2) (numAt xs 20 8) (numAt xs 28 8) (numAt xs 36 8) (numAt xs 44 8) (numAt xs 8 8))
    have HRT := Lib.hid (show rightS xs = (supL (numAt xs 16 2) (numAt xs 18 2) (numAt xs 20 8) (numAt xs 28 8) (numAt xs 36 8) (numAt xs 44 8) (numAt xs 8 8) == xs) by unfold rightS; rw [hyes, Bool.true_and])
    clear hm hyes
    generalize supL (numAt xs 16 2) (numAt xs 18 2) (numAt xs 20 8) (numAt xs 28 8) (numAt xs 36 8) (numAt xs 44 8) (numAt xs 8 8) = sl at *
    refine Tillst.take (i := 2) (oi := rs2) (v := ?_) rfl (by kernel_rfl) (by kernel_rfl) (by kernel_rfl) (by kernel_rfl) (fun _ _ _ h => h) (by rfl) ?_ hHeld ?_
    rotate_left
    · intro W hSW; (try dsimp only at hSW); unfold rs2; go_simp; with_reducible rfl
    simp only [rs2, Act.put, List.setIfInBounds_toArray, List.set_cons_zero, List.set_cons_succ]
    refine Tillst.take (i := 3) (oi := rs3) (v := ?_) rfl (by kernel_rfl) (by kernel_rfl) (by kernel_rfl) (by kernel_rfl) (fun _ _ _ h => h) (by rfl) ?_ hHeld ?_
    rotate_left
    · intro W hSW; (try dsimp only at hSW); unfold rs3; go_simp; with_reducible rfl
    simp only [rs3, Act.put, List.setIfInBounds_toArray, List.set_cons_zero, List.set_cons_succ]
    refine Tillst.take (i := 4) (oi := rs4) (v := ?_) rfl (by kernel_rfl) (by kernel_rfl) (by kernel_rfl) (by kernel_rfl) (fun _ _ _ h => h) (by rfl) ?_ hHeld ?_
    rotate_left
    · intro W hSW; refine exec_load_row (.tmp 5) 24 ?_ q 0 ?_ (supC (numAt xs 16 2) (numAt xs 18 2) (numAt xs 20 8) (numAt xs 28 8) (numAt xs 36 8) (numAt xs 44 8)).toList _ hu24 rfl hs24 hSW.1 <;> rfl
    simp only [rs4, Act.put, List.setIfInBounds_toArray, List.set_cons_zero, List.set_cons_succ]
    refine Tillst.take (i := 5) (oi := rs5) (v := ?_) rfl (by kernel_rfl) (by kernel_rfl) (by kernel_rfl) (by kernel_rfl) (fun _ _ _ h => h) (by rfl) ?_ hHeld ?_
    rotate_left
    · intro W hSW; (try dsimp only at hSW); unfold rs5; go_simp; with_reducible rfl
    simp only [rs5, Act.put, List.setIfInBounds_toArray, List.set_cons_zero, List.set_cons_succ]
    refine Tillst.take (i := 7) (oi := rs7) (v := ?_) rfl (by kernel_rfl) (by kernel_rfl) (by kernel_rfl) (by kernel_rfl) (fun _ _ _ h => h) (by rfl) ?_ hHeld ?_
    rotate_left
    · intro W hSW; refine exec_load_row (.tmp 1) 26 ?_ w.heap.size 0 ?_ (xs.map (Value.int .u8)) _ hu26 rfl hs26 hSW.2 <;> rfl
    simp only [rs7, Act.put, List.setIfInBounds_toArray, List.set_cons_zero, List.set_cons_succ]
    refine Tillst.one (i := 6) (o := rs6) (by kernel_rfl) rfl ?_
    intro K hK
    refine step_call 17 #[.tmp 28, .tmp 29] #[24, 22] rfl rfl Try.func17 rfl rfl [.agg (supC (numAt xs 16 2) (numAt xs 18 2) (numAt xs 20 8) (numAt xs 28 8) (numAt xs 36 8) (numAt xs 44 8)), .int .u64 (numAt xs 8 8)] rfl ?_
    refine (HBK.out _).mono ?_
    rintro e w4 ⟨rfl, hb⟩
    have HX4 := Lib.hid (show ArrB w4 w.heap.size xs from Arr.below HX3.out hb HX3.out.lt)
    have HQ4 := Lib.hid (HQ3.out.below hb HQ3.out.lt)
    have HR4 := Lib.hid (HR3.out.below hb HR3.out.lt)
    have HB4 := Lib.hid (HB3.out.trans (hb.mono HB3.out.size))
    have hS := And.intro (range_below hHeld.1 hb HQ3.out.lt) (range_below hHeld.2 hb HX3.out.lt)
    clear hb
    refine ⟨_, rfl, ?_⟩
    simp only [rs6, Act.put, List.setIfInBounds_toArray, List.set_cons_zero, List.set_cons_succ]
    refine hK.out _ _ (fun _ => hS) (fun hHeld => ?_)
    replace hHeld := hHeld (by decide)
    clear hK K hS
    refine Tillst.take (i := 8) (oi := rs8) (v := ?_) rfl (by kernel_rfl) (by kernel_rfl) (by kernel_rfl) (by kernel_rfl) (fun _ _ _ h => h) (by rfl) ?_ hHeld ?_
    rotate_left
    · intro W hSW; refine exec_neq_blk (.tmp 30) (.tmp 31) 26 ?_ sl xs ?_ ?_ HSL.out HL.out <;> rfl
    simp only [rs8, Act.put, List.setIfInBounds_toArray, List.set_cons_zero, List.set_cons_succ]
    cases heq : (sl == xs)
    · have HNR := Lib.hid (show rightS xs = false by rw [HRT.out, heq])
      clear heq
      refine Tillst.take (i := 9) (oi := rs9) (v := ?_) rfl (by kernel_rfl) (by kernel_rfl) (by kernel_rfl) (by kernel_rfl) (fun _ _ _ h => h) (by rfl) ?_ hHeld ?_
      rotate_left
      · intro W hSW; (try dsimp only at hSW); unfold rs9; go_simp; with_reducible rfl
      simp only [rs9, Act.put, List.setIfInBounds_toArray, List.set_cons_zero, List.set_cons_succ]
      refine Tillst.done (by kernel_rfl) ?_ _
      refine NoPanic.normal ?_
      clear hHeld hs24 hs26 hu24 hu26
      go_wp2_with (first | (refine wpList_store_rowB (.tmp 2) (.tmp 34) 24 rfl rfl (w.heap.size + 1) (supC 0 0 0 0 0 0) rfl rfl 24 _ HR4.out size_sup rfl (sup_one _ _ _ _ _ _) ?_) | (with_reducible refine halt_end ?_))
      exact Halt.ret (results_row3 (p := 2) (u := 3) (v := 4) rfl _ _ (w.heap.size + 1) 24 (supC 0 0 0 0 0 0) _ rfl (setRow_heap _ _ _ (supC 0 0 0 0 0 0) _ _ HR4.out) Try.underlying24 rfl size_sup) rfl ⟨fun h => absurd h (by rw [HNR.out]; simp), fun _ => ⟨rfl, below_setRow HB4.out (by omega) _⟩⟩
    · have HNR := Lib.hid (show rightS xs = true by rw [HRT.out, heq])
      clear heq
      refine Tillst.take (i := 9) (oi := rs9) (v := ?_) rfl (by kernel_rfl) (by kernel_rfl) (by kernel_rfl) (by kernel_rfl) (fun _ _ _ h => h) (by rfl) ?_ hHeld ?_
      rotate_left
      · intro W hSW; (try dsimp only at hSW); unfold rs9; go_simp; with_reducible rfl
      simp only [rs9, Act.put, List.setIfInBounds_toArray, List.set_cons_zero, List.set_cons_succ]
      refine Tillst.done (by kernel_rfl) ?_ _
      refine NoPanic.normal ?_
      clear hHeld hs24 hs26 hu24 hu26
      obtain ⟨c0, c1, c2, c3, c4, c5⟩ : _ ∧ _ ∧ _ ∧ _ ∧ _ ∧ _ := ⟨HQ4.out.cell 0, HQ4.out.cell 1, HQ4.out.cell 2, HQ4.out.cell 3, HQ4.out.cell 4, HQ4.out.cell 5⟩
      simp only [List.getElem?_toArray, List.getElem?_cons_zero, List.getElem?_cons_succ] at c0 c1 c2 c3 c4 c5
      go_wp2_with (first | (refine wpList_store_rowB (.tmp 2) (.tmp 35) 24 rfl rfl (w.heap.size + 1) (supC (numAt xs 16 2) (numAt xs 18 2) (numAt xs 20 8) (numAt xs 28 8) (numAt xs 36 8) (numAt xs 44 8)) rfl rfl 24 _ HR4.out size_sup rfl (sup_one _ _ _ _ _ _) ?_) | (with_reducible refine halt_end ?_))
      exact Halt.ret (results_row3 (p := 2) (u := 3) (v := 4) rfl _ _ (w.heap.size + 1) 24 (supC (numAt xs 16 2) (numAt xs 18 2) (numAt xs 20 8) (numAt xs 28 8) (numAt xs 36 8) (numAt xs 44 8)) _ rfl (setRow_heap _ _ _ (supC (numAt xs 16 2) (numAt xs 18 2) (numAt xs 20 8) (numAt xs 28 8) (numAt xs 36 8) (numAt xs 44 8)) _ _ HR4.out) Try.underlying24 rfl size_sup) rfl ⟨fun _ => ⟨rfl, below_setRow HB4.out (by omega) _⟩, fun h => absurd h (by rw [HNR.out]; simp)⟩

end Go.Proofs.Ytbnioceednkjcaa
