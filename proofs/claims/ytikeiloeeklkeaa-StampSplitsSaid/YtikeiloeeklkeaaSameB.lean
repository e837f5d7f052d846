/- The laws of layer 5: same. -/
import Derived.Test.YtikeiloeeklkeaaBks
import Derived.Deep.QuietTactic
import Derived.BigQuiet
namespace Go.Proofs.Ytikeiloeeklkeaa
open Go.RowKit
set_option linter.unusedVariables false

theorem neq_self (ys : List Int) (hl : ys.length = 64) (W : World) : (binOp .neq 27 (.agg (ys.map (Value.int .u8)).toArray) (.agg (ys.map (Value.int .u8)).toArray)).run Try.prog W = .ok (.bool false) W := by
  have h := run_equalIn_ints W 9998 27 5 64 Try.underlying27 Try.underlying5 Try.sizeOf5 ys ys hl hl
  rw [run_neq_struct]
  show ((Op.equalIn 10000 27 (.agg (cells8 ys)) (.agg (cells8 ys))).run Try.prog W).andThen _ = _
  rw [h]
  simp [Result.andThen]

section
variable {ops : Array Oper} {C : World → Prop} {rest : List Oper} {o : Oper} {a : Act} {Q : Act → Prop}
/-- A sector is loaded, in a region that draws its order and only reads. -/
theorem wpQuiet_load_blk (x : Operand) (ho : o.op = .load 27 x) (hgd : Region.wanted o (yielded ops a.tmps) = true) (b off : Nat) (hx : a.eval x = .pointer (some ⟨b, off, none⟩))
    (xs : List Int) (hl : xs.length = 64) (hc : ∀ W, C W → W.rangeAt b off (xs.map (Value.int .u8))) (h : wpQuiet Try.prog ops C Q rest (a.put o.dst (.agg (cells8 xs)))) : wpQuiet Try.prog ops C Q (o :: rest) a :=
  BigFrame.wpQuiet_want hgd fun K hK => ⟨.agg (cells8 xs), fun W hW => by
    have hr := run_loadAt_mid (P := Try.prog) W b off 27 (xs.map (Value.int .u8)) _ (hc W hW) Try.underlying27 rfl (by rw [size_blk]; simp [hl])
    unfold Oper.quietAt execOp
    simp only [ho, hx, Sem.run_bind, hr, Result.andThen_ok, Sem.run_pure, Oper.quietUpon]
    exact ⟨trivial, rfl⟩, hK _ h⟩
theorem wpQuiet_neq_blk (x y : Operand) (z : TypeId) (ho : o.op = .binOp .neq 27 x y z) (hgd : Region.wanted o (yielded ops a.tmps) = true) (xs ys : List Int)
    (hx : a.eval x = .agg (cells8 xs)) (hy : a.eval y = .agg (cells8 ys)) (hl : xs.length = 64) (hl' : ys.length = 64) (h : wpQuiet Try.prog ops C Q rest (a.put o.dst (.bool (!(xs == ys))))) : wpQuiet Try.prog ops C Q (o :: rest) a :=
  BigFrame.wpQuiet_want hgd fun K hK => ⟨.bool (!(xs == ys)), fun W hW => by
    unfold Oper.quietAt execOp
    simp only [ho, hx, hy, Sem.run_bind, run_eqGuard_blk, Result.andThen_ok, run_neq_struct,
      run_equalIn_ints W 9998 27 5 64 Try.underlying27 Try.underlying5 Try.sizeOf5 xs ys hl hl', Sem.run_pure, Oper.quietUpon, and_self], hK _ h⟩
end

set_option maxHeartbeats 1000000 in
theorem same_secs (A A' : Option Addr) (n c c' : Nat) (xss : List (List Int)) (S S' : Nat → Prop) (w : World) (hx : RowK w S A n xss) (hy : RowK w S' A' n xss) (hs : Secs xss) (hn : n ≤ 2199023255552) :
    Calls Try.prog 18 #[.slice A n c, .slice A' n c'] w fun e w' => e = .returned (.bool true) ∧ ∃ k, w.drewN k = w' := by
  have HX := Lib.hid hx
  have HY := Lib.hid hy
  have HL := Lib.hid hx.1
  have HS := Lib.hid hs
  clear hx hy hs
  go_enter Try.func18, Try.ntmps18
  go_wp2
  go_loopw [13] (fun i wr => ∃ k d : Nat, k ≤ n ∧ i = .int .i64 k ∧ wr = w.drewN d) (fun i _ => n - (intOf i).toNat)
  case atStart => exact ⟨0, 0, by omega, rfl, rfl⟩
  case round =>
    obtain ⟨k, d, hk, rfl, rfl⟩ := hrel
    by_cases hlt : k < n
    · obtain ⟨b, off, rfl, _, hc⟩ := HX.out.2 (by omega)
      obtain ⟨b', off', rfl, _, hc'⟩ := HY.out.2 (by omega)
      have hr := hc k hlt
      have hr' := hc' k hlt
      have hl := HS.out.get k (by have := HL.out; omega)
      generalize xss.getD k [] = ys at *
      clear hc hc'
      go_wp2
      have hne : (!(ys == ys)) = false := by simp
      have HNE := Lib.hid hne
      have HR := Lib.hid hr
      have HR' := Lib.hid hr'
      have HYL := Lib.hid hl
      clear hne hr hr' hl
      refine wp_region_quiet_lit (by kernel_rfl) (by kernel_rfl) ?_
      go_big_quiet_step (fail)
      go_big_quiet_step (fail)
      go_big_quiet_step (fail)
      refine wpQuiet_load_blk (.tmp 18) rfl rfl b (off + k * 64) rfl ys HYL.out (by rintro W ⟨m, rfl⟩; exact HR.out) ?_
      simp only [Act.put, List.setIfInBounds_toArray, List.set_cons_zero, List.set_cons_succ]
      go_big_quiet_step (fail)
      go_big_quiet_step (fail)
      go_big_quiet_step (fail)
      refine wpQuiet_load_blk (.tmp 22) rfl rfl b' (off' + k * 64) rfl ys HYL.out (by rintro W ⟨m, rfl⟩; exact HR'.out) ?_
      simp only [Act.put, List.setIfInBounds_toArray, List.set_cons_zero, List.set_cons_succ]
      refine wpQuiet_neq_blk (.tmp 19) (.tmp 23) _ rfl rfl ys ys rfl rfl HYL.out HYL.out ?_
      rw [HNE.out]
      simp only [Act.put, List.setIfInBounds_toArray, List.set_cons_zero, List.set_cons_succ]
      refine wpQuiet_nil ?_
      rintro _ ⟨m, rfl⟩
      go_wp2
      go_roundw
      case rel => exact ⟨k + 1, _, by omega, by go_num, rfl⟩
      case measure => (simp [intOf] <;> omega)
    · obtain rfl : k = n := by omega
      go_wp2
      go_ret
      exact ⟨rfl, _, rfl⟩

end Go.Proofs.Ytikeiloeeklkeaa
