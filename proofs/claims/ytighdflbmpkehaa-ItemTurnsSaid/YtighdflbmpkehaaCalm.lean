/- A region that draws its order and whose operations each yield one value in every world of a class, which they keep (they may make memory of their own): laws for a walk of it in the order of the text. Nothing of the program is spoken of here. -/
import Derived.Test.YtighdflbmpkehaaWalk
import Derived.Deep.QuietTactic
import Derived.BigQuiet
namespace Go.Proofs.Ytighdflbmpkehaa
open Go.RowKit
set_option linter.unusedVariables false

section
variable {P : Program} {ops : Array Oper} {C : World → Prop} {rest : List Oper} {o : Oper} {a : Act} {Q : Act → Prop}

/-- The region's beginning, at whatever class. -/
theorem calm_region {id : Nat} {l : List Oper} {Q : Exit → Act → World → Prop} {a : Act} {w : World} (C : World → Prop) (hm : P.follows .mixedOrders = true) (hB : Region.lexB .any l.toArray = true) (hC : C w.drew)
    (h : wpQuiet P l.toArray C (fun a' => ∀ w', C w' → Q .normal a' w') l a) : (Code.region id l.toArray true).wp P Q a w :=
  wp_region_quiet (C := C) hm hB hC (by simpa using h)

/-- An operation that leaves the world alone. -/
theorem calm_by (v : Value) (hgd : Region.wanted o (yielded ops a.tmps) = true) (h : ∀ W, C W → (execOp a.eval o).run P W = .ok (.value v) W) (hk : wpQuiet P ops C Q rest (a.put o.dst v)) : wpQuiet P ops C Q (o :: rest) a :=
  BigFrame.wpQuiet_want hgd fun K hK => ⟨v, fun W hW => by unfold Oper.quietAt; rw [h W hW]; exact ⟨rfl, rfl⟩, hK _ hk⟩

/-- A variable of many cells is loaded. -/
theorem calm_load_row (x : Operand) (ty : TypeId) (ho : o.op = .load ty x) (hgd : Region.wanted o (yielded ops a.tmps) = true) (b : Nat) (hx : a.eval x = .pointer (some ⟨b, 0, none⟩))
    (t : TypeId) (cs : List Value) (d : TypeDesc) (hu : P.underlying ty = some d) (hd : d.isRow = true) (hi : (P.info? ty).map (·.size) = some cs.length) (hc : ∀ W, C W → Blk W b t cs.toArray)
    (h : wpQuiet P ops C Q rest (a.put o.dst (.agg cs.toArray))) : wpQuiet P ops C Q (o :: rest) a :=
  calm_by (.agg cs.toArray) hgd (fun W hW => by
    have hr := run_loadAt_mid (P := P) W b 0 ty cs d (hc W hW).rangeL hu hd hi
    unfold execOp
    simp only [ho, hx, Sem.run_bind, hr, Result.andThen_ok, Sem.run_pure]) h

/-- A cell is loaded. -/
theorem calm_load_cell (x : Operand) (ty : TypeId) (ho : o.op = .load ty x) (hgd : Region.wanted o (yielded ops a.tmps) = true) (p : Addr) (hx : a.eval x = .pointer (some p)) (v : Value)
    (hr : ∀ W, W.cell? p = some v → (Instr.loadAt ty (.pointer (some p))).run P W = .ok v W) (hc : ∀ W, C W → W.cell? p = some v)
    (h : wpQuiet P ops C Q rest (a.put o.dst v)) : wpQuiet P ops C Q (o :: rest) a :=
  calm_by v hgd (fun W hW => by
    have hr := hr W (hc W hW)
    unfold execOp
    simp only [ho, hx, Sem.run_bind, hr, Result.andThen_ok, Sem.run_pure]) h

/-- Two values are compared. -/
theorem calm_cmp (op : BinOp) (ty z : TypeId) (x y : Operand) (ho : o.op = .binOp op ty x y z) (hgd : Region.wanted o (yielded ops a.tmps) = true) (u v r : Value) (hx : a.eval x = u) (hy : a.eval y = v)
    (hg : ∀ W, (eqGuard op ty x y u v).run P W = .ok () W) (hq : ∀ W, (binOp op ty u v).run P W = .ok r W) (h : wpQuiet P ops C Q rest (a.put o.dst r)) : wpQuiet P ops C Q (o :: rest) a :=
  calm_by r hgd (fun W _ => by
    unfold execOp
    simp only [ho, hx, hy, Sem.run_bind, hg, hq, Result.andThen_ok, Sem.run_pure]) h

theorem run_callFunc_body {P : Program} {f : FuncId} {fn : Func} (hf : P.funcs[f]? = some fn) (hn : (fn.name == "runtime.NumGoroutine") = false) (hb : fn.body.isNone = false) (args : Array Value) (W : World) :
    (callFunc f args).run P W = .ok (.enter f args) W := by
  have hn' : fn.name ≠ "runtime.NumGoroutine" := by simpa using hn
  have hb' : fn.body ≠ none := by intro h; rw [h] at hb; cases hb
  unfold callFunc
  simp [Sem.run_bind, run_program, hf, hn', hb']

/-- A function is called, which answers the same in every world of the class, and keeps it. -/
theorem calm_call (f : FuncId) (xs : Array Operand) (ts : Array TypeId) (ho : o.op = .call { callee := .value (.func f), args := xs, argTypes := ts }) (hgd : Region.wanted o (yielded ops a.tmps) = true)
    {fn : Func} (hf : P.funcs[f]? = some fn) (hn : (fn.name == "runtime.NumGoroutine") = false) (hb : fn.body.isNone = false)
    (v : Value) (vs : List Value) (hxs : xs.toList.map a.eval = vs) (h : ∀ W, C W → Calls P f vs.toArray W fun e W' => e = .returned v ∧ C W')
    (hk : wpQuiet P ops C Q rest (a.put o.dst v)) : wpQuiet P ops C Q (o :: rest) a :=
  BigFrame.wpQuiet_want hgd fun K hK => ⟨v, fun W hW => by
    have := h W hW
    have e : (xs.map a.eval) = (xs.toList.map a.eval).toArray := by cases xs; simp
    have hc := run_callFunc_body (P := P) hf hn hb vs.toArray W
    unfold Oper.quietAt execOp
    simp only [ho, resolve, e, hxs]
    simp [go_sem, invoke, Act.eval, Oper.quietUpon, hc]
    simpa using this, hK _ hk⟩
end

end Go.Proofs.Ytighdflbmpkehaa
