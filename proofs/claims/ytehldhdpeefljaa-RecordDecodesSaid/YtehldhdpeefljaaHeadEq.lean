/- Package record: '==' of heads. -/
import Derived.Test.YtehldhdpeefljaaHead
import Derived.Laws.StructEq
namespace Go.Proofs.Ytehldhdpeefljaa
open Go.RowKit
set_option linter.unusedVariables false

/-- Whether two heads are one. -/
def headSame (k f x s n m k' f' x' s' n' m' : Int) : Bool := k == k' && (f == f' && (x == x' && (s == s' && (n == n' && (m == m' && true)))))
theorem headSame_self (k f x s n m : Int) : headSame k f x s n m k f x s n m = true := by simp [headSame]
theorem headSame_iff (k f x s n m k' f' x' s' n' m' : Int) : headSame k f x s n m k' f' x' s' n' m' = true ↔ k = k' ∧ f = f' ∧ x = x' ∧ s = s' ∧ n = n' ∧ m = m' := by
  simp [headSame]

theorem fields_head : Try.prog.underlying 51 = some (.struct (Try.prog.fieldsOf 51)) := by kernel_rfl
theorem held_head : Try.prog.stoodInHeld 51 = false := by kernel_rfl
theorem guard_head : Try.prog.eqGuardType Try.prog.depth 51 = false := by kernel_rfl

theorem eqF_int {P : Program} (W : World) (d : Nat) (f : Field) (fs : List Field) (xs ys : Array Value) (kk kk' : IntKind) (a b : Int) (hn : f.name ≠ "_") (hu : P.underlying f.type = some (.int kk'))
    (hx : xs[f.offset]? = some (.int kk a)) (hy : ys[f.offset]? = some (.int kk b)) (r : Bool) (h : (Op.eqFields (d + 1) xs ys fs).run P W = .ok r W) :
    (Op.eqFields (d + 1) xs ys (f :: fs)).run P W = .ok (a == b && r) W := by
  have px : (part f.type xs f.offset).run P W = .ok (.int kk a) W := by simp [part, isAgg, run_underlying hu, hx]
  have py : (part f.type ys f.offset).run P W = .ok (.int kk b) W := by simp [part, isAgg, run_underlying hu, hy]
  have pe := run_equalIn_int (P := P) W d f.type kk kk' a b hu
  rw [Op.eqFields, if_pos hn]
  simp only [Sem.run_bind, px, py, pe, Result.andThen_ok]
  cases hb : (a == b)
  · simp
  · simpa using h

theorem eql_heads (k f x s n m k' f' x' s' n' m' : Int) (W : World) :
    (binOp .eql 51 (.agg #[.int .i64 k, .int .u32 f, .int .u32 x, .int .u64 s, .int .i64 n, .int .i64 m]) (.agg #[.int .i64 k', .int .u32 f', .int .u32 x', .int .u64 s', .int .i64 n', .int .i64 m'])).run Try.prog W = .ok (.bool (headSame k f x s n m k' f' x' s' n' m')) W := by
  rw [run_eql_struct, run_equalIn_struct W 9999 _ _ _ fields_head held_head]
  rw [show Try.prog.fieldsOf 51 = _ by unfold Program.fieldsOf; rw [Try.underlying51]]
  rw [eqF_int W 9998 _ _ _ _ .i64 .i64 k k' (by decide) Try.underlying3 rfl rfl _
    (eqF_int W 9998 _ _ _ _ .u32 .u32 f f' (by decide) Try.underlying22 rfl rfl _
    (eqF_int W 9998 _ _ _ _ .u32 .u32 x x' (by decide) Try.underlying22 rfl rfl _
    (eqF_int W 9998 _ _ _ _ .u64 .u64 s s' (by decide) Try.underlying23 rfl rfl _
    (eqF_int W 9998 _ _ _ _ .i64 .i64 n n' (by decide) Try.underlying3 rfl rfl _
    (eqF_int W 9998 _ _ _ _ .i64 .i64 m m' (by decide) Try.underlying3 rfl rfl true rfl)))))]
  rfl

theorem eqg_heads (x y : Operand) (u v : Array Value) (W : World) : (eqGuard .eql 51 x y (.agg u) (.agg v)).run Try.prog W = .ok () W := run_eqGuard_agg W .eql _ x y u v guard_head

end Go.Proofs.Ytehldhdpeefljaa
