/- Single steps of a region that draws its order: a row of cells loaded or stored, a function called. Nothing of the program is spoken of here. -/
import Derived.Test.YtehldhdpeefljaaCalm
import Derived.Deep.RegionHeld3
namespace Go.Proofs.Ytehldhdpeefljaa
open Go.RowKit
set_option linter.unusedVariables false

section
variable {P : Program} {w : World} {ops : Array Oper} {o : Oper} {a : Act} {Q : Exit → Act → World → Prop} {K : Act → World → Prop} {E : Prop}
theorem step_load_row (x : Operand) (ty : TypeId) (ho : o.op = .load ty x) (hgd : Region.wanted o (yielded ops a.tmps) = true) (b : Nat) (hx : a.eval x = .pointer (some ⟨b, 0, none⟩))
    (t : TypeId) (cs : List Value) (d : TypeDesc) (hu : P.underlying ty = some d) (hd : d.isRow = true) (hi : (P.info? ty).map (·.size) = some cs.length) (hc : Blk w b t cs.toArray)
    (h : K (a.put o.dst (.agg cs.toArray)) w) : if Region.wanted o (yielded ops a.tmps) = true then Oper.wp P o a w K Q else E := by
  rw [if_pos hgd]
  exact wp_load_mid ty x ho b 0 hx cs d hc.rangeL hu hd hi h
theorem step_store_row (x y : Operand) (ty : TypeId) (ho : o.op = .store ty x y) (hgd : Region.wanted o (yielded ops a.tmps) = true) (g : Nat) (cs : Array Value) (hx : a.eval x = .pointer (some ⟨g, 0, none⟩)) (hy : a.eval y = .agg cs)
    (t : TypeId) (cs0 : Array Value) (hg : Blk w g t cs0) (hi : (P.info? ty).map (·.size) = some cs.size) (hl : cs0.size = cs.size) (hone : cs.all (·.oneCell') = true)
    (h : K (a.put o.dst undef) (w.setRow g cs)) : if Region.wanted o (yielded ops a.tmps) = true then Oper.wp P o a w K Q else E := by
  rw [if_pos hgd]
  exact wp_store_row ty x y ho g cs hx hy t cs0 hg hi hl hone h
theorem step_call (f : FuncId) (xs : Array Operand) (ts : Array TypeId) (ho : o.op = .call { callee := .value (.func f), args := xs, argTypes := ts }) (hgd : Region.wanted o (yielded ops a.tmps) = true)
    {fn : Func} (hf : P.funcs[f]? = some fn) (hn : (fn.name == "runtime.NumGoroutine") = false) (hb : fn.body.isNone = false)
    (vs : List Value) (hxs : xs.toList.map a.eval = vs) (h : Calls P f vs.toArray w fun e w' => ∃ v, e = .returned v ∧ K (a.put o.dst v) w') :
    if Region.wanted o (yielded ops a.tmps) = true then Oper.wp P o a w K Q else E := by
  have e : (xs.map a.eval) = (xs.toList.map a.eval).toArray := by cases xs; simp
  have hc := run_callFunc_body (P := P) hf hn hb vs.toArray w
  rw [if_pos hgd]
  unfold Oper.wp execOp
  simp only [ho, resolve, e, hxs]
  simp [go_sem, invoke, Act.eval, hc]
  refine Calls.mono (by simpa using h) fun e w' hh => ?_
  obtain ⟨v, rfl, hk⟩ := hh
  exact hk
theorem row_runs {o : Oper} {a : Act} {W : World} (x : Operand) (ty : TypeId) (ho : o.op = .load ty x) (b : Nat) (hx : a.eval x = .pointer (some ⟨b, 0, none⟩))
    (t : TypeId) (cs : List Value) (d : TypeDesc) (hu : P.underlying ty = some d) (hd : d.isRow = true) (hi : (P.info? ty).map (·.size) = some cs.length) (hc : Blk W b t cs.toArray) :
    (execOp a.eval o).run P W = .ok (.value (.agg cs.toArray)) W := by
  have hr := run_loadAt_mid (P := P) W b 0 ty cs d hc.rangeL hu hd hi
  unfold execOp
  simp only [ho, hx, Sem.run_bind, hr, Result.andThen_ok, Sem.run_pure]
end

end Go.Proofs.Ytehldhdpeefljaa
