/- Package ring: the iterator that rising answers: it hands the segments over, in order, till it is told to stop. -/
import Derived.Test.YtkmbbfdjdmkjpaaRising
import Derived.RangeFuncNested
import Derived.RangeFuncBound
import Derived.RangeFuncCalls
import Derived.RangeFuncLeaves
import Derived.RangeFuncFrom
import Derived.Shelf.Abstract
import Derived.Shelf.RegionOpen
import Derived.WalkKit
import Derived.OwnWalkIn
import Derived.TacticsInMore
import Derived.LoopNIn
import Derived.LoopIn
namespace Go.Proofs.Ytkmbbfdjdmkjpaa
open Go.RowKit Go.Shelf
attribute [local go_sem] Oper.semAt_some
set_option linter.unusedVariables false

abbrev numA (x : Num) : Array Value := #[.int .i64 x.1, .agg (segC x.2).toArray]
theorem take_one (L : List Num) (k : Nat) (h : k < L.length) : L.take (k + 1) = L.take k ++ [L.getD k num0] := by
  rw [List.take_add_one]
  simp [List.getD, List.getElem?_eq_getElem h]

set_option maxRecDepth 100000 in
set_option maxHeartbeats 2000000 in
theorem rise1_in (F : Fence) (n : Nat) (h7 : F.fn 114) (hro : F.round = none) (hn : 1 ≤ n) (l Bs b off cap : Nat) (S : Nat → Prop) (L : List Num) (hL : L.length ≤ 16) (hb : S b) (J Jx : List Num → World → Prop) (W : World) (hS : ∀ b, S b → b < W.heap.size) (hJ : AbidesFrom W.heap.size J)
    (hY : ∀ pre x W, J pre W → pre.length < L.length → YieldAt F (n - 1) Try.prog l (numA x) W fun e W' =>
      (e = .returned (.bool true) ∧ J (pre ++ [x]) W' ∧ Kept S W W') ∨ (e = .returned (.bool false) ∧ Jx (pre ++ [x]) W'))
    (hBs : W.cell? ⟨Bs, 0, none⟩ = some (.slice (some ⟨b, off, none⟩) L.length cap)) (hc : ∀ j, j < L.length → W.rangeAt b (off + j * 4) (numC (L.getD j num0))) (h0 : J [] W) :
    CallsIn F n Try.prog 114 #[.func (.yield l) #[] #[], .pointer (some ⟨Bs, 0, none⟩)] W fun e W' => (∃ v, e = .returned v) ∧
      ((∃ ys, ys = L ∧ J ys W') ∨ (∃ pre, (∃ k, k ≤ L.length ∧ pre = L.take k) ∧ Jx pre W')) := by
  refine callsIn_of_wp Try.func114 rfl h7 ?_ hro
  simp only [Try.ntmps114, List.size_toArray, List.length_cons, List.length_nil, Nat.reduceAdd, Nat.reduceSub, Array.replicate_succ, Array.replicate_zero, List.push_toArray, List.append_toArray, List.nil_append, List.cons_append]
  gi_wp2
  gi_loopw [7] (fun i wr => ∃ k : Nat, k ≤ L.length ∧ i = .int .i64 k ∧ J (L.take k) wr ∧ Kept S W wr)
    (fun i _ => L.length - (intOf i).toNat)
  case atStart => exact ⟨0, Nat.zero_le _, rfl, h0, Kept.refl _ _⟩
  case round =>
    obtain ⟨k, hk, rfl, hJs, hnx⟩ := hrel
    by_cases hlt : k < L.length
    · have hr := hc k hlt
      obtain ⟨i, st, g, u, hx⟩ : ∃ i st g u, L.getD k num0 = (i, st, g, u) := ⟨_, _, _, _, rfl⟩
      rw [hx] at hr
      have hJ2 := hJ _ _ (wr.alloc (.cells (numC (i, st, g, u)).toArray 139)) none hJs (World.grownBy_alloc _ _ none) (fun r e => by cases e)
      obtain ⟨fn, tmps, assign, body, hy, hR⟩ := hY _ (i, st, g, u) _ hJ2 (by rw [List.length_take]; omega)
      obtain ⟨c0, c1, c2, c3⟩ : wr.cell? ⟨b, off + k * 4, none⟩ = some (.int .i64 i) ∧ wr.cell? ⟨b, off + k * 4 + 1, none⟩ = some (.int .i64 st) ∧ wr.cell? ⟨b, off + k * 4 + 2, none⟩ = some (.int .u64 g) ∧ wr.cell? ⟨b, off + k * 4 + 3, none⟩ = some (.int .i64 u) :=
        ⟨(hnx.cell (p := ⟨b, _, none⟩) hb).trans (hr 0 _ rfl), (hnx.cell (p := ⟨b, _, none⟩) hb).trans (hr 1 _ rfl), (hnx.cell (p := ⟨b, _, none⟩) hb).trans (hr 2 _ rfl), (hnx.cell (p := ⟨b, _, none⟩) hb).trans (hr 3 _ rfl)⟩
      have hX := Lib.hid hx
      have HJ := Lib.hid hJ
      clear hx hr hJ2 hJ
      gi_wp2
      refine hR.mono ?_
      rintro e W3 (⟨rfl, hJ3, hk3⟩ | ⟨rfl, hJx3⟩)
      · gi_wp2
        go_roundw
        case rel => exact ⟨k + 1, by omega, by simp, by rw [take_one L k hlt, hX.out]; exact hJ3, (hnx.alloc (fun b h => Nat.lt_of_lt_of_le (hS b h) hnx.size) _).trans hk3 (fun b h => h)⟩
        case measure => simp [intOf]; omega
      · gi_wp2
        refine bodyPost_ret (results_none rfl _ _ _) rfl ?_
        exact ⟨⟨_, rfl⟩, .inr ⟨_, ⟨k + 1, by omega, rfl⟩, by rw [take_one L k hlt, hX.out]; exact hJx3⟩⟩
    · obtain rfl : k = L.length := by omega
      rw [List.take_length] at hJs
      gi_wp2
      go_end0
      exact ⟨⟨_, rfl⟩, .inl ⟨_, rfl, hJs⟩⟩

set_option maxRecDepth 100000 in
set_option maxHeartbeats 1000000 in
/-- .. of no segment: no round. -/
theorem rise1_nil (F : Fence) (n : Nat) (h7 : F.fn 114) (hro : F.round = none) (l Bs cap : Nat) (A : Option Addr) (J : List Num → World → Prop) (W : World) (hBs : W.cell? ⟨Bs, 0, none⟩ = some (.slice A 0 cap)) (h0 : J [] W) :
    CallsIn F n Try.prog 114 #[.func (.yield l) #[] #[], .pointer (some ⟨Bs, 0, none⟩)] W fun e W' => (∃ v, e = .returned v) ∧ J [] W' := by
  refine callsIn_of_wp Try.func114 rfl h7 ?_ hro
  simp only [Try.ntmps114, List.size_toArray, List.length_cons, List.length_nil, Nat.reduceAdd, Nat.reduceSub, Array.replicate_succ, Array.replicate_zero, List.push_toArray, List.append_toArray, List.nil_append, List.cons_append]
  gi_wp2
  gi_loopw [7] (fun i wr => i = .int .i64 0 ∧ J [] wr) (fun _ _ => 0)
  case atStart => exact ⟨rfl, h0⟩
  case round =>
    obtain ⟨rfl, hJs⟩ := hrel
    gi_wp2
    go_end0
    exact ⟨⟨_, rfl⟩, hJs⟩

/-- What rising answers stops when it is told to; the body keeps the memory that rising made. -/
theorem rise_stops (F : Fence) (n : Nat) (h7 : F.fn 114) (hro : F.round = none) (hn : 1 ≤ n) (B n₁ n₂ : Nat) (L : List Num) (hL : L.length ≤ 16) (w : World) (hs : SeqM w n₁ B L) (hn₂ : n₂ = w.heap.size) :
    SeqStopsK F n Try.prog 114 #[.pointer (some ⟨B, 0, none⟩)] numA (Kept (fun b => n₁ ≤ b ∧ b < n₂)) (fun ys => ys = L) (fun pre => ∃ k, k ≤ L.length ∧ pre = L.take k) L.length w := fun l J Jx W hW hJ hJx hY h0 => by
  subst hn₂
  obtain ⟨_, hB, A, cap, hc, hrow⟩ := hs
  have hc' := (hW.cell (p := ⟨B, 0, none⟩) hB).trans hc
  rcases Nat.eq_zero_or_pos L.length with hz | hp
  · obtain rfl : L = [] := List.length_eq_zero_iff.1 hz
    exact (rise1_nil F n h7 hro l B cap A J W hc' h0).mono fun e W' ⟨he, hj⟩ => ⟨he, .inl ⟨_, rfl, hj⟩⟩
  · obtain ⟨b, off, rfl, hb, hcs⟩ := (hrow.below hW (fun b h => h.2)).2 hp
    exact rise1_in F n h7 hro hn l B b off cap _ L hL hb J Jx W (fun b h => Nat.lt_of_lt_of_le h.2 hW.size) hJ hY hc' hcs h0
theorem keptK_t {S : Nat → Prop} {A B C : World} (h : Kept S A B) (k : Kept S B C) : Kept S A C := h.trans k (fun _ h => h)
theorem keptK_b {n₁ n₂ : Nat} {w : World} (hn : n₂ ≤ w.heap.size) (W : World) (l : Nat) (o o' : Obj) (hl : w.heap.size ≤ l) (h : W.heap[l]? = some o) (_ : o.isCells = false) (_ : o.isWalk = false) : Kept (fun b => n₁ ≤ b ∧ b < n₂) W (W.putObj l o') :=
  (Kept.refl _ W).grown (grownBy_putObj' W l o') (fun b hb => Nat.lt_of_lt_of_le hb.2 (Nat.le_trans hn (Nat.le_trans hl (Nat.le_of_lt (Array.getElem?_eq_some_iff.1 h).1)))) (fun g e hg => by cases e; omega)

end Go.Proofs.Ytkmbbfdjdmkjpaa
