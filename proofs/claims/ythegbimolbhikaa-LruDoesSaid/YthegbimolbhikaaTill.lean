/- More moves of a region whose last operation turns what was read (over Last): loads of many cells, structs built, a cell laid. -/
import Derived.Test.YthegbimolbhikaaLast
import Derived.Test.YthegbimolbhikaaBlk
import Derived.Test.YthegbimolbhikaaCalm
namespace Go.Proofs.Ythegbimolbhikaa
open Go.RowKit
set_option linter.unusedVariables false

section
variable {P : Program} {w : World} {o : Oper} {a : Act} {Q : Exit → Act → World → Prop} {K : Act → World → Prop} {E : Prop} {ops : Array Oper}
theorem exec_load_row (x : Operand) (ty : TypeId) (ho : o.op = .load ty x) (b off : Nat) (hx : a.eval x = .pointer (some ⟨b, off, none⟩)) (cs : List Value) (d : TypeDesc) (hu : P.underlying ty = some d) (hd : d.isRow = true)
    (hi : (P.info? ty).map (·.size) = some cs.length) (hc : w.rangeAt b off cs) : (execOp a.eval o).run P w = .ok (.value (.agg cs.toArray)) w := by
  have hr := run_loadAt_mid (P := P) w b off ty cs d hc hu hd hi
  unfold execOp
  simp only [ho, hx, Sem.run_bind, hr, Result.andThen_ok, Sem.run_pure]
theorem exec_build (ty : TypeId) (parts : Array (Nat × Operand)) (ho : o.op = .build ty parts) (vs : List (Nat × Value)) (hv : (parts.map fun (i, x) => (i, a.eval x)).toList = vs) (cells : Array Value) (hb : P.built ty vs = some cells) :
    (execOp a.eval o).run P w = .ok (.value (.agg cells)) w := by
  have := run_build (P := P) w ty (parts.map fun (i, x) => (i, a.eval x)) cells (by rw [hv]; exact hb)
  unfold execOp
  simp only [ho, Sem.run_bind, this, Result.andThen_ok, Sem.run_pure]
theorem step_store_cell (x y : Operand) (ty : TypeId) (ho : o.op = .store ty x y) (hgd : Region.wanted o (yielded ops a.tmps) = true) (p : Addr) (v : Value) (hx : a.eval x = .pointer (some p)) (hy : a.eval y = v)
    (hr : (Instr.storeAt ty (.pointer (some p)) v).run P w = .ok () (w.setCell p v)) (h : K (a.put o.dst undef) (w.setCell p v)) : if Region.wanted o (yielded ops a.tmps) = true then Oper.wp P o a w K Q else E := by
  rw [if_pos hgd]
  unfold Oper.wp execOp
  simp only [ho, hx, hy, hr, Sem.run_bind, Result.andThen_ok]
  exact h
theorem step_call (f : FuncId) (xs : Array Operand) (ts : Array TypeId) (ho : o.op = .call { callee := .value (.func f), args := xs, argTypes := ts }) (hgd : Region.wanted o (yielded ops a.tmps) = true)
    {fn : Func} (hf : P.funcs[f]? = some fn) (hn : (fn.name == "runtime.NumGoroutine") = false) (hb : fn.body.isNone = false)
    (vs : List Value) (hxs : xs.toList.map a.eval = vs) (h : Calls P f vs.toArray w fun e w' => ∃ v, e = .returned v ∧ K (a.put o.dst v) w') :
    if Region.wanted o (yielded ops a.tmps) = true then Oper.wp P o a w K Q else E := by
  have e : (xs.map a.eval) = (xs.toList.map a.eval).toArray := by cases xs; simp
  have hc := run_callFunc_body (P := P) hf hn hb vs.toArray w
  rw [if_pos hgd]
  unfold Oper.wp execOp
  simp only [ho, resolve, e, hxs]
  simp [go_sem, invoke, Act.eval, hc]
  refine Calls.mono (by simpa using h) fun e w' hh => ?_
  obtain ⟨v, rfl, hk⟩ := hh
  exact hk
theorem step_value (v : Value) (hgd : Region.wanted o (yielded ops a.tmps) = true) (hr : (execOp a.eval o).run P w = .ok (.value v) w) (h : K (a.put o.dst v) w) : if Region.wanted o (yielded ops a.tmps) = true then Oper.wp P o a w K Q else E := by
  rw [if_pos hgd]
  unfold Oper.wp
  rw [hr]
  exact h
end

theorem range_below {w w' : World} {b off B : Nat} {cs : List Value} (h : w.rangeAt b off cs) (hb : Below B w w') (hB : b < B) : w'.rangeAt b off cs :=
  fun j v hv => (hb.cell (p := ⟨b, off + j, none⟩) hB).trans (h j v hv)
theorem range_kept {w w' : World} {b off : Nat} {X : Nat → Prop} {cs : List Value} (h : w.rangeAt b off cs) (hk : Kept X w w') (hX : X b) : w'.rangeAt b off cs :=
  fun j v hv => (hk.cell (p := ⟨b, off + j, none⟩) hX).trans (h j v hv)

end Go.Proofs.Ythegbimolbhikaa
