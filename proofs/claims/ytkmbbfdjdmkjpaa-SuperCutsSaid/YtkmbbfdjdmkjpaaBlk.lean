/- Arrays of bytes that go by value: made, loaded, stored, compared, as laws of the walk. The cells are whatever list; nothing is unrolled. -/
import Derived.Test.YtkmbbfdjdmkjpaaWalk
import Derived.Deep.MidRow
import Derived.Deep.WholeRow
import Derived.Laws.StructEq
namespace Go.Proofs.Ytkmbbfdjdmkjpaa
open Go.RowKit
set_option linter.unusedVariables false

/-- An array's cells. -/
def cells8 (xs : List Int) : Array Value := (xs.map (Value.int .u8)).toArray
theorem cells8_size (xs : List Int) : (cells8 xs).size = xs.length := by simp [cells8]
theorem cells8_list (xs : List Int) : (cells8 xs).toList = xs.map (Value.int .u8) := by simp [cells8]
theorem cells8_get (xs : List Int) (i : Nat) (h : i < xs.length) : (cells8 xs)[i]? = some (.int .u8 (xs.getD i 0)) := by
  simp [cells8, List.getD, List.getElem?_eq_getElem h]
theorem cells8_one (xs : List Int) : (cells8 xs).all (·.oneCell') = true := by
  refine Array.all_eq_true_iff_forall_mem.2 fun v hv => ?_
  simp only [cells8, List.mem_toArray, List.mem_map] at hv
  obtain ⟨x, _, rfl⟩ := hv
  rfl

/-- 64 noughts. -/
def noughts (n : Nat) : List Int := List.replicate n 0
theorem noughts_length (n : Nat) : (noughts n).length = n := by simp [noughts]
theorem noughts_get (n i : Nat) : (noughts n).getD i 0 = 0 := by
  unfold noughts
  by_cases h : i < n <;> simp [List.getD, h]
theorem noughts_bytes (n : Nat) : Bytes (noughts n) := fun j => by rw [noughts_get]; omega

theorem zero_blk (w : World) : (zeroValue 26).run Try.prog w = .ok (.agg (cells8 (noughts 64))) w := (Try.zeroValue26 w).trans rfl
theorem size_blk : (Try.prog.info? 26).map (·.size) = some 64 := by kernel_rfl
theorem info_blk : (Try.prog.info? 26).map (fun i => (i.zero, i.size, i.bytes)) = some (some (.agg (cells8 (noughts 64))), 64, 64) := by kernel_rfl
theorem built_blk : Try.prog.built 26 [] = some (cells8 (noughts 64)) := by kernel_rfl

/-- A variable that is a sector. -/
abbrev ArrB (w : World) (g : Nat) (xs : List Int) : Prop := Arr (Value.int .u8) w g 26 xs

section
variable {w : World} {ops : Array Oper} {rest : List Oper} {o : Oper} {a : Act} {Q : Exit → Act → World → Prop}

theorem wpList_alloc_blk (ho : o.op = .alloc 26) (hgd : o.guard = none)
    (h : wpList Try.prog ops Q rest (a.put o.dst (.pointer (some ⟨w.heap.size, 0, none⟩))) (w.alloc (.cells (cells8 (noughts 64)) 26))) : wpList Try.prog ops Q (o :: rest) a w := by
  refine wpList_plain hgd fun K hK => ?_
  unfold Oper.wp execOp
  simp only [ho, Instr.alloc, Sem.run_bind, zero_blk, Result.andThen_ok]
  exact hK _ _ h

theorem wpList_build_blk (ho : o.op = .build 26 #[]) (hgd : Region.wanted o (yielded ops a.tmps) = true)
    (h : wpList Try.prog ops Q rest (a.put o.dst (.agg (cells8 (noughts 64)))) w) : wpList Try.prog ops Q (o :: rest) a w := by
  refine wpList_step fun K hK => ?_
  rw [if_pos hgd]
  unfold Oper.wp execOp
  have := run_build (P := Try.prog) w 26 #[] (cells8 (noughts 64)) (by simpa using built_blk)
  simp only [ho, List.map_toArray, List.map_nil, Sem.run_bind, Result.andThen_ok, this]
  exact hK _ _ h

theorem wpList_load_blk (x : Operand) (ho : o.op = .load 26 x) (hgd : Region.wanted o (yielded ops a.tmps) = true) (b off : Nat) (hx : a.eval x = .pointer (some ⟨b, off, none⟩))
    (xs : List Int) (hl : xs.length = 64) (hc : w.rangeAt b off (xs.map (Value.int .u8)))
    (h : wpList Try.prog ops Q rest (a.put o.dst (.agg (cells8 xs))) w) : wpList Try.prog ops Q (o :: rest) a w := by
  refine wpList_step fun K hK => ?_
  rw [if_pos hgd]
  exact wp_load_mid 26 x ho b off hx _ _ hc Try.underlying26 rfl (by rw [size_blk]; simp [hl]) (hK _ _ h)

theorem wpList_store_blk (x y : Operand) (ho : o.op = .store 26 x y) (hgd : o.guard = none) (g : Nat) (ys : List Int)
    (hx : a.eval x = .pointer (some ⟨g, 0, none⟩)) (hy : a.eval y = .agg (cells8 ys)) (t : TypeId) (xs : List Int) (hg : Arr (Value.int .u8) w g t xs) (hl : xs.length = 64) (hl' : ys.length = 64)
    (h : wpList Try.prog ops Q rest (a.put o.dst undef) (w.setRow g (cells8 ys))) : wpList Try.prog ops Q (o :: rest) a w :=
  wpList_store_row hgd 26 x y ho g (cells8 ys) hx hy t (xs.map (Value.int .u8)).toArray hg (by rw [size_blk, cells8_size, hl']) (by simp [hl, cells8_size, hl']) (cells8_one ys) h

theorem wpList_store_new (x y : Operand) (ho : o.op = .store 26 x y) (hgd : o.guard = none) (w0 : World) (ys : List Int)
    (hx : a.eval x = .pointer (some ⟨w0.heap.size, 0, none⟩)) (hy : a.eval y = .agg (cells8 ys)) (xs : List Int) (hw : w = w0.alloc (.cells (cells8 xs) 26)) (hl : xs.length = 64) (hl' : ys.length = 64)
    (h : wpList Try.prog ops Q rest (a.put o.dst undef) (w0.alloc (.cells (cells8 ys) 26))) : wpList Try.prog ops Q (o :: rest) a w := by
  subst hw
  refine wpList_store_row hgd 26 x y ho w0.heap.size (cells8 ys) hx hy 26 (cells8 xs) (heap_alloc_last w0 _) (by rw [size_blk, cells8_size, hl']) (by simp [cells8_size, hl, hl']) (cells8_one ys) ?_
  rw [World.setRow_alloc_new]
  exact h
end

/-- A function's results, the first of them a sector in memory. -/
theorem results_blk2 {fn : Func} {p u : Tmp} (h : fn.results = #[.cell p 26, .tmp u]) (tmps : Array Value) (w : World) (g : Nat) (t : TypeId) (xs : List Int) (hp : tmps.getD p undef = .pointer (some ⟨g, 0, none⟩))
    (hg : Arr (Value.int .u8) w g t xs) (hl : xs.length = 64) : (results fn tmps).run Try.prog w = .ok (.tuple #[.agg (cells8 xs), tmps.getD u undef]) w := by
  have hp' : tmps[p]?.getD undef = .pointer (some ⟨g, 0, none⟩) := by simpa using hp
  have := run_loadVar_row (P := Try.prog) w g t 26 (cells8 xs) (0, 0) _ hg Try.underlying26 rfl (by rw [size_blk, cells8_size, hl])
  simp [results, h, hp', asAddr, this]

theorem results_blk1 {fn : Func} {p : Tmp} (h : fn.results = #[.cell p 26]) (tmps : Array Value) (w : World) (g : Nat) (t : TypeId) (xs : List Int) (hp : tmps.getD p undef = .pointer (some ⟨g, 0, none⟩))
    (hg : Arr (Value.int .u8) w g t xs) (hl : xs.length = 64) : (results fn tmps).run Try.prog w = .ok (.agg (cells8 xs)) w := by
  have hp' : tmps[p]?.getD undef = .pointer (some ⟨g, 0, none⟩) := by simpa using hp
  have := run_loadVar_row (P := Try.prog) w g t 26 (cells8 xs) (0, 0) _ hg Try.underlying26 rfl (by rw [size_blk, cells8_size, hl])
  simp [results, h, hp', asAddr, this]

/-- Three cells of a block are laid; what lies elsewhere is as it was. -/
theorem cell_far3 (w : World) (g : Nat) (u0 u1 u2 : Value) {p : Addr} (h : p.block ≠ g) : (((w.setCell ⟨g, 0, none⟩ u0).setCell ⟨g, 1, none⟩ u1).setCell ⟨g, 2, none⟩ u2).cell? p = w.cell? p := by
  rw [World.cell?_setCell_other _ _ _ _ (by rintro rfl; exact h rfl), World.cell?_setCell_other _ _ _ _ (by rintro rfl; exact h rfl), World.cell?_setCell_other _ _ _ _ (by rintro rfl; exact h rfl)]
theorem Blk.set3 {w : World} {g : Nat} {t : TypeId} {a0 a1 a2 : Value} (h : Blk w g t #[a0, a1, a2]) (u0 u1 u2 : Value) : Blk (((w.setCell ⟨g, 0, none⟩ u0).setCell ⟨g, 1, none⟩ u1).setCell ⟨g, 2, none⟩ u2) g t #[u0, u1, u2] := ((h.set_ 0 u0).set_ 1 u1).set_ 2 u2
theorem Kept.set3 {S : Nat → Prop} {a w : World} (h : Kept S a w) {g : Nat} (hg : ¬ S g) (u0 u1 u2 : Value) : Kept S a (((w.setCell ⟨g, 0, none⟩ u0).setCell ⟨g, 1, none⟩ u1).setCell ⟨g, 2, none⟩ u2) := ((h.setCell hg u0).setCell hg u1).setCell hg u2
theorem below_set3 {B : Nat} {a w : World} (h : Below B a w) {g : Nat} (hg : B ≤ g) (u0 u1 u2 : Value) : Below B a (((w.setCell ⟨g, 0, none⟩ u0).setCell ⟨g, 1, none⟩ u1).setCell ⟨g, 2, none⟩ u2) := ((h.setCell hg u0).setCell hg u1).setCell hg u2

/-! '==' of arrays of bytes. -/

theorem all_range_ints : ∀ (xs ys : List Int), xs.length = ys.length → ((List.range xs.length).all fun i => xs.getD i 0 == ys.getD i 0) = (xs == ys)
  | [], [], _ => rfl
  | x :: xs, y :: ys, h => by
    have ih := all_range_ints xs ys (by simpa using h)
    rw [List.length_cons, List.range_succ_eq_map, List.all_cons, List.all_map]
    simp only [List.getD_cons_zero, Function.comp_def, List.getD_cons_succ, ih]
    simp [List.cons_beq_cons]
  | [], _ :: _, h => by simp at h
  | _ :: _, [], h => by simp at h

theorem run_equalIn_ints {P : Program} (w : World) (d : Nat) (t e : TypeId) (n : Nat) (ht : P.underlying t = some (.array n e)) (he : P.underlying e = some (.int .u8)) (hsz : ∀ w, (sizeOf e).run P w = .ok 1 w)
    (xs ys : List Int) (hx : xs.length = n) (hy : ys.length = n) :
    (Op.equalIn (d + 2) t (.agg (cells8 xs)) (.agg (cells8 ys))).run P w = .ok (xs == ys) w := by
  rw [← all_range_ints xs ys (hx.trans hy.symm), hx, List.range_eq_range', Op.equalIn]
  simp only [Sem.run_bind, run_underlying ht, Result.andThen_ok, hsz, Std.Legacy.Range.forIn_eq_forIn_range', Std.Legacy.Range.size, Nat.sub_zero, Nat.add_sub_cancel, Nat.div_one]
  have hl : ∀ i ∈ List.range' 0 n 1, i < n := fun i hi => by simpa using (List.mem_range'_1.1 hi).2
  generalize List.range' 0 n 1 = l at hl ⊢
  induction l with
  | nil => simp
  | cons i l ih =>
    have hi : i < n := hl i (by simp)
    have px : (part e (cells8 xs) (i * 1)).run P w = .ok (.int .u8 (xs.getD i 0)) w := by
      simp [part, isAgg, run_underlying he, cells8_get xs i (by omega)]
    have py : (part e (cells8 ys) (i * 1)).run P w = .ok (.int .u8 (ys.getD i 0)) w := by
      simp [part, isAgg, run_underlying he, cells8_get ys i (by omega)]
    have pe := run_equalIn_int (P := P) w d e .u8 .u8 (xs.getD i 0) (ys.getD i 0) he
    simp only [List.forIn_cons, Sem.run_bind, px, py, pe, Result.andThen_ok, List.all_cons]
    cases hb : (xs.getD i 0 == ys.getD i 0)
    · simp
    · simp only [Bool.not_true, Bool.false_eq_true, if_false, Sem.run_pure, Result.andThen_ok, Bool.true_and]
      exact ih fun j hj => hl j (by simp [hj])

section
variable {w : World} {ops : Array Oper} {rest : List Oper} {o : Oper} {a : Act} {Q : Exit → Act → World → Prop}

theorem run_eqGuard_blk (op : BinOp) (x y : Operand) (u v : Array Value) (w : World) : (eqGuard op 26 x y (.agg u) (.agg v)).run Try.prog w = .ok () w := by
  have h : Try.prog.eqGuardType Try.prog.depth 26 = false := Try.eqGuardType26
  unfold eqGuard
  have hp : (program : Sem Program).run Try.prog w = .ok Try.prog w := rfl
  cases op <;> simp [h, hp, Sem.run_bind]

theorem wpList_eql_blk (x y : Operand) (z : TypeId) (ho : o.op = .binOp .eql 26 x y z) (hgd : Region.wanted o (yielded ops a.tmps) = true) (xs ys : List Int)
    (hx : a.eval x = .agg (cells8 xs)) (hy : a.eval y = .agg (cells8 ys)) (hl : xs.length = 64) (hl' : ys.length = 64)
    (h : wpList Try.prog ops Q rest (a.put o.dst (.bool (xs == ys))) w) : wpList Try.prog ops Q (o :: rest) a w := by
  refine wpList_step fun K hK => ?_
  rw [if_pos hgd]
  unfold Oper.wp execOp
  simp only [ho, hx, hy, Sem.run_bind, run_eqGuard_blk, Result.andThen_ok, run_eql_struct,
    run_equalIn_ints w 9998 26 5 64 Try.underlying26 Try.underlying5 Try.sizeOf5 xs ys hl hl']
  exact hK _ _ h

theorem wpList_neq_blk (x y : Operand) (z : TypeId) (ho : o.op = .binOp .neq 26 x y z) (hgd : Region.wanted o (yielded ops a.tmps) = true) (xs ys : List Int)
    (hx : a.eval x = .agg (cells8 xs)) (hy : a.eval y = .agg (cells8 ys)) (hl : xs.length = 64) (hl' : ys.length = 64)
    (h : wpList Try.prog ops Q rest (a.put o.dst (.bool (!(xs == ys)))) w) : wpList Try.prog ops Q (o :: rest) a w := by
  refine wpList_step fun K hK => ?_
  rw [if_pos hgd]
  unfold Oper.wp execOp
  simp only [ho, hx, hy, Sem.run_bind, run_eqGuard_blk, Result.andThen_ok, run_neq_struct,
    run_equalIn_ints w 9998 26 5 64 Try.underlying26 Try.underlying5 Try.sizeOf5 xs ys hl hl']
  exact hK _ _ h
end

/-- '==' of a sector with itself, for a region that draws its order. -/
theorem eql_self (ys : List Int) (hl : ys.length = 64) (W : World) : (binOp .eql 26 (.agg (ys.map (Value.int .u8)).toArray) (.agg (cells8 ys))).run Try.prog W = .ok (.bool true) W := by
  have h := run_equalIn_ints W 9998 26 5 64 Try.underlying26 Try.underlying5 Try.sizeOf5 ys ys hl hl
  rw [run_eql_struct]
  show ((Op.equalIn 10000 26 (.agg (cells8 ys)) (.agg (cells8 ys))).run Try.prog W).andThen _ = _
  rw [h]
  simp [Result.andThen]
theorem guard_self (x y : Operand) (ys : List Int) (W : World) : (eqGuard .eql 26 x y (.agg (ys.map (Value.int .u8)).toArray) (.agg (cells8 ys))).run Try.prog W = .ok () W := run_eqGuard_blk .eql x y _ _ W

end Go.Proofs.Ytkmbbfdjdmkjpaa
