/- Texts of LogOpens, packed. -/
import Derived.Test.YtodcohkblgjfeaaGreatPackLogOpens7
import Derived.Deep.DeepCutAuto
import Derived.Deep.MidRow
import Derived.Shelf.SlSortCmp.WholeK
import Derived.Ground.SlsfProg
import Derived.Test.YtodcohkblgjfeaaGreatProg
import Derived.Lib.Hide
import Derived.Shelf.SlSortCmp.NoneTotal
import Derived.Great.BuildSlice
import Derived.RangeFuncBox
import Derived.OneCell
import Derived.RangeFuncNested
import Derived.RangeFuncBound
import Derived.RangeFuncCalls
import Derived.RangeFuncLeaves
import Derived.RangeFuncFrom
import Derived.Shelf.Abstract
import Derived.Shelf.RegionOpen
import Derived.WalkKit
import Derived.OwnWalkIn
import Derived.TacticsInMore
import Derived.LoopNIn
import Derived.LoopIn
import Derived.Deep.RegionHeld3
set_option linter.unusedVariables false
set_option linter.unusedSimpArgs false
namespace Go.Proofs.YtodcohkblgjfeaaGreat
set_option maxRecDepth 100000
open Go.RowKit
set_option linter.unusedVariables false
set_option linter.unusedSimpArgs false
theorem zero_sup (w : World) : (zeroValue 32).run Tryz.prog w = .ok (.agg (supC 0 0 0 0 0 0)) w := (Tryz.zeroValue32 w).trans rfl
theorem sup_one (a b g r v f : Int) : (supC a b g r v f).all (·.oneCell') = true := by simp [supC, Value.oneCell']
theorem sup_ones (a b g r v f : Int) : ∀ u ∈ (supC a b g r v f).toList, u.oneCell' = true := by
  intro u hu
  simp [supC] at hu
  rcases hu with rfl | rfl | rfl | rfl | rfl | rfl <;> rfl
section
variable {P : Program} {w : World} {o : Oper} {a : Act} {Q : Exit → Act → World → Prop} {K : Act → World → Prop} {E : Prop} {ops : Array Oper}
theorem step_alloc_row (ty : TypeId) (ho : o.op = .alloc ty) (hgd : Region.wanted o (yielded ops a.tmps) = true) (zs : Array Value) (hz : ∀ w, (zeroValue ty).run P w = .ok (.agg zs) w)
    (h : K (a.put o.dst (.pointer (some ⟨w.heap.size, 0, none⟩))) (w.alloc (.cells zs ty))) : if Region.wanted o (yielded ops a.tmps) = true then Oper.wp P o a w K Q else E := by
  rw [if_pos hgd]
  unfold Oper.wp execOp
  simp only [ho, Instr.alloc, Sem.run_bind, hz, Result.andThen_ok]
  exact h
variable {md : Region.Mode} {S : World → Prop} {st : List Nat}
theorem Tillst.skip {i : Nat} {oi : Oper} {k : Nat} {l : Array Bool} {a : Act} {w : World} (hi : ops[i]? = some oi) (hs : Region.noSelect ops = true) (hf : Region.free md ops l i = true) (hr : (Region.ready md ops l).contains i = true)
    (hw : waitsFor md ops st i = true) (hQ : ∀ c a w, Q (.panic c) (a.put oi.dst undef) w → Q (.panic c) a w) (hg : Region.wanted oi (yielded ops a.tmps) = false) (hS : S w)
    (h : Tillst P md ops Q S st k (l.setIfInBounds i true) (a.put oi.dst undef) w) : Tillst P md ops Q S st (k + 1) l a w :=
  Tillst.first hi (Region.noSelect_spec hs) hQ hw k l a w (Region.free_spec hi hf) (by simpa using hr) (.inr ⟨hg, rfl⟩) hS h
end
theorem exec_neq_blk {o : Oper} {a : Act} {w : World} (x y : Operand) (z : TypeId) (ho : o.op = .binOp .neq 84 x y z) (xs ys : List Int) (hx : a.eval x = .agg (cells8 xs)) (hy : a.eval y = .agg (cells8 ys)) (hl : xs.length = 64) (hl' : ys.length = 64) :
    (execOp a.eval o).run Tryz.prog w = .ok (.value (.bool (!(xs == ys)))) w := by
  unfold execOp
  simp only [ho, hx, hy, Sem.run_bind, run_eqGuard_blk, Result.andThen_ok, run_neq_struct, Sem.run_pure,
    run_equalIn_ints w 9998 84 5 64 Tryz.underlying84 Tryz.underlying5 Tryz.sizeOf5 xs ys hl hl']
def RHalf (xs : List Int) (w wx : World) (s : Value) : Prop :=
  ∃ q, s = .pointer (some ⟨q, 0, none⟩) ∧ w.heap.size + 1 < q ∧ ArrB wx w.heap.size xs ∧ Blk wx (w.heap.size + 1) 32 (supC 0 0 0 0 0 0) ∧
    Blk wx q 32 (supC (numAt xs 16 2) (numAt xs 18 2) (numAt xs 20 8) (numAt xs 28 8) (numAt xs 36 8) (numAt xs 44 8)) ∧ Below w.heap.size w wx
abbrev rrzg0 : Oper := { dst := some 7, op := Go.Op.slice 26 (Go.Operand.tmp 1) (some (Go.Operand.const (Go.Value.int Go.IntKind.i64 16))) (some (Go.Operand.const (Go.Value.int Go.IntKind.i64 18))) none, type := 91, pos := "ref.go:37", after := #[], guard := none }
abbrev rrzg1 : Oper := { dst := some 8, op := Go.Op.call { callee := Go.Callee.value (Go.Operand.func 70), args := #[Go.Operand.tmp 7], argTypes := #[91] }, type := 22, pos := "ref.go:37", after := #[{ on := 0, ground := Go.Ground.data }], guard := none }
abbrev rrzg2 : Oper := { dst := some 9, op := Go.Op.convert 22 3 (Go.Operand.tmp 8), type := 3, pos := "ref.go:37", after := #[{ on := 1, ground := Go.Ground.data }], guard := none }
abbrev rrzg3 : Oper := { dst := some 10, op := Go.Op.slice 26 (Go.Operand.tmp 1) (some (Go.Operand.const (Go.Value.int Go.IntKind.i64 18))) (some (Go.Operand.const (Go.Value.int Go.IntKind.i64 20))) none, type := 91, pos := "ref.go:37", after := #[], guard := none }
abbrev rrzg4 : Oper := { dst := some 11, op := Go.Op.call { callee := Go.Callee.value (Go.Operand.func 70), args := #[Go.Operand.tmp 10], argTypes := #[91] }, type := 22, pos := "ref.go:37", after := #[{ on := 3, ground := Go.Ground.data }, { on := 1, ground := Go.Ground.chain }], guard := none }
abbrev rrzg5 : Oper := { dst := some 12, op := Go.Op.convert 22 3 (Go.Operand.tmp 11), type := 3, pos := "ref.go:37", after := #[{ on := 4, ground := Go.Ground.data }], guard := none }
abbrev rrzg6 : Oper := { dst := some 13, op := Go.Op.slice 26 (Go.Operand.tmp 1) (some (Go.Operand.const (Go.Value.int Go.IntKind.i64 20))) (some (Go.Operand.const (Go.Value.int Go.IntKind.i64 28))) none, type := 91, pos := "ref.go:37", after := #[], guard := none }
abbrev rrzg7 : Oper := { dst := some 14, op := Go.Op.call { callee := Go.Callee.value (Go.Operand.func 70), args := #[Go.Operand.tmp 13], argTypes := #[91] }, type := 22, pos := "ref.go:37", after := #[{ on := 6, ground := Go.Ground.data }, { on := 4, ground := Go.Ground.chain }], guard := none }
abbrev rrzg8 : Oper := { dst := some 15, op := Go.Op.slice 26 (Go.Operand.tmp 1) (some (Go.Operand.const (Go.Value.int Go.IntKind.i64 28))) (some (Go.Operand.const (Go.Value.int Go.IntKind.i64 36))) none, type := 91, pos := "ref.go:37", after := #[], guard := none }
abbrev rrzg9 : Oper := { dst := some 16, op := Go.Op.call { callee := Go.Callee.value (Go.Operand.func 70), args := #[Go.Operand.tmp 15], argTypes := #[91] }, type := 22, pos := "ref.go:37", after := #[{ on := 8, ground := Go.Ground.data }, { on := 7, ground := Go.Ground.chain }], guard := none }
abbrev rrzg10 : Oper := { dst := some 17, op := Go.Op.slice 26 (Go.Operand.tmp 1) (some (Go.Operand.const (Go.Value.int Go.IntKind.i64 36))) (some (Go.Operand.const (Go.Value.int Go.IntKind.i64 44))) none, type := 91, pos := "ref.go:37", after := #[], guard := none }
abbrev rrzg11 : Oper := { dst := some 18, op := Go.Op.call { callee := Go.Callee.value (Go.Operand.func 70), args := #[Go.Operand.tmp 17], argTypes := #[91] }, type := 22, pos := "ref.go:37", after := #[{ on := 10, ground := Go.Ground.data }, { on := 9, ground := Go.Ground.chain }], guard := none }
abbrev rrzg12 : Oper := { dst := some 19, op := Go.Op.slice 26 (Go.Operand.tmp 1) (some (Go.Operand.const (Go.Value.int Go.IntKind.i64 44))) (some (Go.Operand.const (Go.Value.int Go.IntKind.i64 52))) none, type := 91, pos := "ref.go:37", after := #[], guard := none }
abbrev rrzg13 : Oper := { dst := some 20, op := Go.Op.call { callee := Go.Callee.value (Go.Operand.func 70), args := #[Go.Operand.tmp 19], argTypes := #[91] }, type := 22, pos := "ref.go:37", after := #[{ on := 12, ground := Go.Ground.data }, { on := 11, ground := Go.Ground.chain }], guard := none }
abbrev rrzg14 : Oper := { dst := some 21, op := Go.Op.build 24 #[(0, Go.Operand.tmp 9), (1, Go.Operand.tmp 12), (2, Go.Operand.tmp 14), (3, Go.Operand.tmp 16), (4, Go.Operand.tmp 18), (5, Go.Operand.tmp 20)], type := 24, pos := "ref.go:37", after := #[{ on := 2, ground := Go.Ground.data }, { on := 5, ground := Go.Ground.data }, { on := 7, ground := Go.Ground.data }, { on := 9, ground := Go.Ground.data }, { on := 11, ground := Go.Ground.data }, { on := 13, ground := Go.Ground.data }], guard := none }
abbrev rrzg15 : Oper := { dst := some 5, op := Go.Op.alloc 24, type := 0, pos := "ref.go:37", after := #[], guard := none }
abbrev rrzg16 : Oper := { dst := none, op := Go.Op.store 24 (Go.Operand.tmp 5) (Go.Operand.tmp 21), type := 0, pos := "ref.go:37", after := #[{ on := 15, ground := Go.Ground.data }, { on := 14, ground := Go.Ground.data }, { on := 13, ground := Go.Ground.chain }, { on := 0, ground := Go.Ground.phase }, { on := 1, ground := Go.Ground.phase }, { on := 2, ground := Go.Ground.phase }, { on := 3, ground := Go.Ground.phase }, { on := 4, ground := Go.Ground.phase }, { on := 5, ground := Go.Ground.phase }, { on := 6, ground := Go.Ground.phase }, { on := 7, ground := Go.Ground.phase }, { on := 8, ground := Go.Ground.phase }, { on := 9, ground := Go.Ground.phase }, { on := 10, ground := Go.Ground.phase }, { on := 11, ground := Go.Ground.phase }, { on := 12, ground := Go.Ground.phase }, { on := 13, ground := Go.Ground.phase }, { on := 14, ground := Go.Ground.phase }, { on := 15, ground := Go.Ground.phase }], guard := none }
abbrev rs0 : Oper := { dst := some 24, op := Go.Op.load 24 (Go.Operand.tmp 5), type := 24, pos := "ref.go:39", after := #[], guard := none }
abbrev rs1 : Oper := { dst := some 25, op := Go.Op.call { callee := Go.Callee.value (Go.Operand.func 16), args := #[Go.Operand.tmp 24], argTypes := #[24] }, type := 4, pos := "ref.go:39", after := #[{ on := 0, ground := Go.Ground.data }], guard := none }
abbrev rs2 : Oper := { dst := some 26, op := Go.Op.unOp Go.UnOp.not 4 (Go.Operand.tmp 25), type := 4, pos := "ref.go:39", after := #[{ on := 1, ground := Go.Ground.data }], guard := none }
abbrev rs3 : Oper := { dst := some 27, op := Go.Op.move (Go.Operand.tmp 26), type := 4, pos := "ref.go:39", after := #[{ on := 2, ground := Go.Ground.data }, { on := 1, ground := Go.Ground.chain }], guard := none }
abbrev rs4 : Oper := { dst := some 28, op := Go.Op.load 24 (Go.Operand.tmp 5), type := 24, pos := "ref.go:39", after := #[{ on := 3, ground := Go.Ground.guard }], guard := some (3, false) }
abbrev rs5 : Oper := { dst := some 29, op := Go.Op.move (Go.Operand.tmp 6), type := 22, pos := "ref.go:39", after := #[{ on := 3, ground := Go.Ground.guard }], guard := some (3, false) }
abbrev rs6 : Oper := { dst := some 30, op := Go.Op.call { callee := Go.Callee.value (Go.Operand.func 17), args := #[Go.Operand.tmp 28, Go.Operand.tmp 29], argTypes := #[24, 22] }, type := 26, pos := "ref.go:39", after := #[{ on := 4, ground := Go.Ground.data }, { on := 5, ground := Go.Ground.data }, { on := 3, ground := Go.Ground.chain }, { on := 3, ground := Go.Ground.guard }], guard := some (3, false) }
abbrev rs7 : Oper := { dst := some 31, op := Go.Op.load 26 (Go.Operand.tmp 1), type := 26, pos := "ref.go:39", after := #[{ on := 3, ground := Go.Ground.guard }], guard := some (3, false) }
abbrev rs8 : Oper := { dst := some 32, op := Go.Op.binOp Go.BinOp.neq 26 (Go.Operand.tmp 30) (Go.Operand.tmp 31) 26, type := 4, pos := "ref.go:39", after := #[{ on := 6, ground := Go.Ground.data }, { on := 7, ground := Go.Ground.data }, { on := 3, ground := Go.Ground.guard }], guard := some (3, false) }
abbrev rs9 : Oper := { dst := some 33, op := Go.Op.pick (Go.Operand.tmp 27) (Go.Operand.const (Go.Value.bool true)) (Go.Operand.tmp 32), type := 4, pos := "ref.go:39", after := #[{ on := 3, ground := Go.Ground.data }, { on := 8, ground := Go.Ground.data }], guard := none }
end Go.Proofs.YtodcohkblgjfeaaGreat

namespace Go.Proofs.YtodcohkblgjfeaaGreat
set_option maxRecDepth 100000
open Go.RowKit
set_option linter.unusedVariables false
abbrev Seg := Int × Int × Int
abbrev Num := Nat × Seg
abbrev seg0 : Seg := (0, 0, 0)
abbrev num0 : Num := (0, seg0)
abbrev segC (s : Seg) : List Value := [.int .i64 s.1, .int .u64 s.2.1, .int .i64 s.2.2]
abbrev numC (x : Num) : List Value := [.int .i64 x.1, .int .i64 x.2.1, .int .u64 x.2.2.1, .int .i64 x.2.2.2]
theorem size_seg : (Tryz.prog.info? 128).map (·.size) = some 3 := by kernel_rfl
theorem size_num : (Tryz.prog.info? 219).map (·.size) = some 4 := by kernel_rfl
theorem zero_seg (w : World) : (zeroValue 128).run Tryz.prog w = .ok (.agg (segC seg0).toArray) w := (Tryz.zeroValue128 w).trans rfl
theorem zero_num (w : World) : (zeroValue 219).run Tryz.prog w = .ok (.agg (numC num0).toArray) w := (Tryz.zeroValue219 w).trans rfl
theorem one_seg (s : Seg) : (segC s).toArray.all (·.oneCell') = true := by simp [segC, Value.oneCell']
theorem one_num (x : Num) : (numC x).toArray.all (·.oneCell') = true := by simp [numC, Value.oneCell']
theorem ones_seg (s : Seg) : ∀ v ∈ segC s, v.oneCell' = true := by
  intro v hv
  simp [segC] at hv
  rcases hv with rfl | rfl | rfl <;> rfl
theorem ones_num (x : Num) : ∀ v ∈ numC x, v.oneCell' = true := by
  intro v hv
  simp [numC] at hv
  rcases hv with rfl | rfl | rfl | rfl <;> rfl
def RowQ {α : Type} (enc : α → List Value) (k : Nat) (d : α) (w : World) (S : Nat → Prop) (A : Option Addr) (n : Nat) (xs : List α) : Prop :=
  xs.length = n ∧ (0 < n → ∃ b off, A = some ⟨b, off, none⟩ ∧ S b ∧ ∀ i, i < n → w.rangeAt b (off + i * k) (enc (xs.getD i d)))
abbrev RowZ := RowQ segC 3 seg0
abbrev RowN := RowQ numC 4 num0
section
variable {α : Type} {enc : α → List Value} {k : Nat} {d : α} {w w' : World} {S T : Nat → Prop} {A : Option Addr} {n : Nat} {xs : List α}
theorem RowQ.keep (h : RowQ enc k d w S A n xs) (hk : ∀ p : Addr, S p.block → w'.cell? p = w.cell? p) : RowQ enc k d w' S A n xs :=
  ⟨h.1, fun hn => by
    obtain ⟨b, off, e, hb, hc⟩ := h.2 hn
    exact ⟨b, off, e, hb, fun i hi j v hv => by rw [hk _ hb]; exact hc i hi j v hv⟩⟩
theorem RowQ.more (h : RowQ enc k d w S A n xs) (hs : ∀ b, S b → T b) : RowQ enc k d w T A n xs :=
  ⟨h.1, fun hn => by
    obtain ⟨b, off, e, hb, hc⟩ := h.2 hn
    exact ⟨b, off, e, hs b hb, hc⟩⟩
theorem RowQ.below {B : Nat} (h : RowQ enc k d w S A n xs) (hb : Below B w w') (hs : ∀ b, S b → b < B) : RowQ enc k d w' S A n xs := h.keep fun _ hp => hb.cell (hs _ hp)
theorem RowQ.kept (h : RowQ enc k d w S A n xs) (hb : Kept T w w') (hs : ∀ b, S b → T b) : RowQ enc k d w' S A n xs := h.keep fun _ hp => hb.cell (hs _ hp)
theorem RowQ.nil (enc : α → List Value) (k : Nat) (d : α) (w : World) (S : Nat → Prop) (A : Option Addr) : RowQ enc k d w S A 0 [] := ⟨rfl, fun h => absurd h (by omega)⟩
end
def liveTo (xs : List Seg) : Nat → List Num
  | 0 => []
  | j + 1 => liveTo xs j ++ (if (xs.getD j seg0).1 = 0 then [] else [(j, xs.getD j seg0)])
def live (xs : List Seg) : List Num := liveTo xs xs.length
theorem liveTo_length (xs : List Seg) : ∀ j, (liveTo xs j).length ≤ j
  | 0 => Nat.le_refl _
  | j + 1 => by
    have := liveTo_length xs j
    unfold liveTo
    split <;> simp <;> omega
theorem mem_liveTo (xs : List Seg) (x : Num) : ∀ j, x ∈ liveTo xs j ↔ x.1 < j ∧ x.2 = xs.getD x.1 seg0 ∧ x.2.1 ≠ 0
  | 0 => by simp [liveTo]
  | j + 1 => by
    unfold liveTo
    rw [List.mem_append, mem_liveTo xs x j]
    obtain ⟨i, s⟩ := x
    by_cases h : (xs.getD j seg0).1 = 0
    · rw [if_pos h]
      constructor
      · rintro (⟨h1, h2, h3⟩ | h1)
        · exact ⟨by simp only [] at *; omega, h2, h3⟩
        · cases h1
      · rintro ⟨h1, h2, h3⟩
        refine .inl ⟨?_, h2, h3⟩
        simp only [] at *
        rcases Nat.lt_or_ge i j with hlt | hge
        · exact hlt
        · obtain rfl : i = j := by omega
          rw [h2] at h3
          exact absurd h h3
    · rw [if_neg h]
      simp only [List.mem_singleton, Prod.mk.injEq]
      constructor
      · rintro (⟨h1, h2, h3⟩ | ⟨rfl, rfl⟩)
        · exact ⟨by omega, h2, h3⟩
        · exact ⟨by omega, rfl, h⟩
      · rintro ⟨h1, h2, h3⟩
        rcases Nat.lt_or_ge i j with hlt | hge
        · exact .inl ⟨hlt, h2, h3⟩
        · obtain rfl : i = j := by omega
          exact .inr ⟨rfl, h2⟩
theorem mem_live {xs : List Seg} {x : Num} : x ∈ live xs ↔ x.1 < xs.length ∧ x.2 = xs.getD x.1 seg0 ∧ x.2.1 ≠ 0 := mem_liveTo xs x _
section
variable {P : Program} {w : World} {ops : Array Oper} {rest : List Oper} {o : Oper} {a : Act} {Q : Exit → Act → World → Prop}
theorem wpList_alloc_row_s8 (ty : TypeId) (ho : o.op = .alloc ty) (hgd : o.guard = none) (zs : Array Value) (hz : ∀ w, (zeroValue ty).run P w = .ok (.agg zs) w)
    (h : wpList P ops Q rest (a.put o.dst (.pointer (some ⟨w.heap.size, 0, none⟩))) (w.alloc (.cells zs ty))) : wpList P ops Q (o :: rest) a w := by
  refine wpList_plain hgd fun K hK => ?_
  unfold Oper.wp execOp
  simp only [ho, Instr.alloc, Sem.run_bind, hz, Result.andThen_ok]
  exact hK _ _ h
theorem wpList_store_fresh_s8 (x y : Operand) (ty : TypeId) (ho : o.op = .store ty x y) (hgd : o.guard = none) (w0 : World) (zs cs : Array Value)
    (hx : a.eval x = .pointer (some ⟨w0.heap.size, 0, none⟩)) (hy : a.eval y = .agg cs) (t : TypeId) (hw : w = w0.alloc (.cells zs t)) (hi : (P.info? ty).map (·.size) = some cs.size) (hl : zs.size = cs.size) (hone : cs.all (·.oneCell') = true)
    (h : wpList P ops Q rest (a.put o.dst undef) (w0.alloc (.cells cs t))) : wpList P ops Q (o :: rest) a w := by
  subst hw
  refine wpList_store_row hgd ty x y ho w0.heap.size cs hx hy t zs (heap_alloc_last w0 _) hi hl hone ?_
  rw [World.setRow_alloc_new]
  exact h
theorem wpList_load_part_s8 (x : Operand) (ty : TypeId) (ho : o.op = .load ty x) (hgd : Region.wanted o (yielded ops a.tmps) = true) (b off : Nat) (hx : a.eval x = .pointer (some ⟨b, off, none⟩))
    (cs : List Value) (d : TypeDesc) (hu : P.underlying ty = some d) (hd : d.isRow = true) (hi : (P.info? ty).map (·.size) = some cs.length) (hc : w.rangeAt b off cs)
    (h : wpList P ops Q rest (a.put o.dst (.agg cs.toArray)) w) : wpList P ops Q (o :: rest) a w := by
  refine wpList_step fun K hK => ?_
  rw [if_pos hgd]
  exact wp_load_mid ty x ho b off hx cs d hc hu hd hi (hK _ _ h)
end
end Go.Proofs.YtodcohkblgjfeaaGreat

namespace Go.Proofs.YtodcohkblgjfeaaGreat
open Go.Shelf
set_option linter.unusedVariables false
def sortNum_ren : Go.Shelf.Ren := ⟨fun | 6 => 153 | 15 => 169 | 14 => 168 | 28 => 182 | 29 => 183 | 20 => 174 | 21 => 175 | 22 => 176 | 23 => 177 | 24 => 178 | 25 => 179 | 26 => 180 | 27 => 181 | 46 => 184 | 47 => 185 | 48 => 186 | 49 => 187 | 50 => 188 | 57 => 189 | n => n, fun | 22 => 217 | 24 => 219 | 25 => 222 | 3 => 3 | 39 => 226 | 0 => 0 | 53 => 41 | 55 => 30 | 4 => 4 | 46 => 245 | 45 => 244 | 50 => 249 | 5 => 5 | 9 => 9 | 66 => 253 | 70 => 256 | 76 => 258 | 77 => 24 | n => n, fun | n => n⟩
theorem sortNum : Go.Proofs.SlLaysF0.n6 Tryz.prog sortNum_ren := {
  mixed := by kernel_rfl
  f6 := ⟨Tryz.f153.name, by decide, Tryz.func153.trans (congrArg some (by kernel_rfl))⟩
  f14 := ⟨Tryz.f168.name, by decide, Tryz.func168.trans (congrArg some (by kernel_rfl))⟩
  f15 := Tryz.func169.trans (congrArg some (by kernel_rfl))
  f20 := ⟨Tryz.f174.name, by decide, Tryz.func174.trans (congrArg some (by kernel_rfl))⟩
  f21 := ⟨Tryz.f175.name, by decide, Tryz.func175.trans (congrArg some (by kernel_rfl))⟩
  f22 := ⟨Tryz.f176.name, by decide, Tryz.func176.trans (congrArg some (by kernel_rfl))⟩
  f23 := ⟨Tryz.f177.name, by decide, Tryz.func177.trans (congrArg some (by kernel_rfl))⟩
  f24 := ⟨Tryz.f178.name, by decide, Tryz.func178.trans (congrArg some (by kernel_rfl))⟩
  f25 := ⟨Tryz.f179.name, by decide, Tryz.func179.trans (congrArg some (by kernel_rfl))⟩
  f26 := ⟨Tryz.f180.name, by decide, Tryz.func180.trans (congrArg some (by kernel_rfl))⟩
  f27 := ⟨Tryz.f181.name, by decide, Tryz.func181.trans (congrArg some (by kernel_rfl))⟩
  f28 := Tryz.func182.trans (congrArg some (by kernel_rfl))
  f29 := Tryz.func183.trans (congrArg some (by kernel_rfl))
  f46 := ⟨Tryz.f184.name, by decide, Tryz.func184.trans (congrArg some (by kernel_rfl))⟩
  f47 := Tryz.func185.trans (congrArg some (by kernel_rfl))
  f48 := Tryz.func186.trans (congrArg some (by kernel_rfl))
  f49 := ⟨Tryz.f187.name, by decide, Tryz.func187.trans (congrArg some (by kernel_rfl))⟩
  f50 := ⟨Tryz.f188.name, by decide, Tryz.func188.trans (congrArg some (by kernel_rfl))⟩
  f57 := ⟨Tryz.f189.name, by decide, Tryz.func189.trans (congrArg some (by kernel_rfl))⟩
  t0 := Tryz.underlying0
  a0 := Tryz.isAgg0
  z0 := Tryz.sizeOf0
  v0 := Tryz.zeroValue0
  t3 := Tryz.underlying3
  a3 := Tryz.isAgg3
  z3 := Tryz.sizeOf3
  v3 := Tryz.zeroValue3
  t4 := Tryz.underlying4
  a4 := Tryz.isAgg4
  z4 := Tryz.sizeOf4
  v4 := Tryz.zeroValue4
  t5 := Tryz.underlying5
  a5 := Tryz.isAgg5
  z5 := Tryz.sizeOf5
  v5 := Tryz.zeroValue5
  t9 := Tryz.underlying9
  a9 := Tryz.isAgg9
  z9 := Tryz.sizeOf9
  v9 := Tryz.zeroValue9
  t22 := Tryz.underlying217
  a22 := Tryz.isAgg217
  z22 := Tryz.sizeOf217
  v22 := Tryz.zeroValue217
  t25 := Tryz.underlying222
  a25 := Tryz.isAgg222
  z25 := Tryz.sizeOf222
  v25 := Tryz.zeroValue222
  t39 := Tryz.underlying226
  a39 := Tryz.isAgg226
  z39 := Tryz.sizeOf226
  v39 := Tryz.zeroValue226
  t45 := Tryz.underlying244
  a45 := Tryz.isAgg244
  z45 := Tryz.sizeOf244
  v45 := Tryz.zeroValue244
  t46 := Tryz.underlying245
  a46 := Tryz.isAgg245
  z46 := Tryz.sizeOf245
  v46 := Tryz.zeroValue245
  t50 := Tryz.underlying249
  a50 := Tryz.isAgg249
  z50 := Tryz.sizeOf249
  v50 := Tryz.zeroValue249
  t53 := Tryz.underlying41
  a53 := Tryz.isAgg41
  z53 := Tryz.sizeOf41
  v53 := Tryz.zeroValue41
  t55 := Tryz.underlying30
  a55 := Tryz.isAgg30
  z55 := Tryz.sizeOf30
  v55 := Tryz.zeroValue30
  t66 := Tryz.underlying253
  a66 := Tryz.isAgg253
  z66 := Tryz.sizeOf253
  v66 := Tryz.zeroValue253
  t70 := Tryz.underlying256
  a70 := Tryz.isAgg256
  z70 := Tryz.sizeOf256
  v70 := Tryz.zeroValue256
  t76 := Tryz.underlying258
  a76 := Tryz.isAgg258
  z76 := Tryz.sizeOf258
  v76 := Tryz.zeroValue258
  t77 := Tryz.underlying24
  a77 := Tryz.isAgg24
  z77 := Tryz.sizeOf24
  v77 := Tryz.zeroValue24 }
end Go.Proofs.YtodcohkblgjfeaaGreat

namespace Go.Proofs.YtodcohkblgjfeaaGreat
set_option maxRecDepth 100000
open Go.RowKit Go.Shelf Go.Lib Go.Sort
set_option linter.unusedVariables false
theorem nan_any (x : Int) (w : World) : Calls Tryz.prog 170 #[.int .u64 x] w fun e w' => e = .returned (.bool false) ∧ w' = w := by
  go_enter Tryz.func170, Tryz.ntmps170
  go_wp2
  go_ret
  exact ⟨rfl, rfl⟩
def cmpG (x y : Int) : Int := if x < y then -1 else if y < x then 1 else 0
theorem cmp_any (x y : Int) (w : World) : Calls Tryz.prog 155 #[.int .u64 x, .int .u64 y] w fun e w' => e = .returned (.int .i64 (cmpG x y)) ∧ w' = w := by
  unfold cmpG
  by_cases h1 : x < y
  · rw [if_pos h1]
    have hd : decide (x < y) = true := decide_eq_true h1
    go_enter Tryz.func155, Tryz.ntmps155
    go_wp2_with (go_at_call 170; refine (nan_any _ _).mono ?_; rintro e w' ⟨rfl, rfl⟩)
    go_ret
    exact ⟨rfl, rfl⟩
  · rw [if_neg h1]
    have hd : decide (x < y) = false := decide_eq_false h1
    by_cases h2 : y < x
    · rw [if_pos h2]
      have hd2 : decide (y < x) = true := decide_eq_true h2
      go_enter Tryz.func155, Tryz.ntmps155
      go_wp2_with (go_at_call 170; refine (nan_any _ _).mono ?_; rintro e w' ⟨rfl, rfl⟩)
      go_ret
      exact ⟨rfl, rfl⟩
    · rw [if_neg h2]
      have hd2 : decide (y < x) = false := decide_eq_false h2
      go_enter Tryz.func155, Tryz.ntmps155
      go_wp2_with (go_at_call 170; refine (nan_any _ _).mono ?_; rintro e w' ⟨rfl, rfl⟩)
      go_ret
      exact ⟨rfl, rfl⟩
abbrev cmpN (x y : Num) : Int := cmpG x.2.2.1 y.2.2.1
theorem ltN (x y : Num) : ltOf cmpN x y = decide (x.2.2.1 < y.2.2.1) := by
  unfold ltOf cmpN cmpG
  by_cases h1 : x.2.2.1 < y.2.2.1
  · simp [h1]
  · by_cases h2 : y.2.2.1 < x.2.2.1 <;> simp [h1, h2]
theorem swoN : SWO (ltOf cmpN) where
  irrefl x := by rw [ltN]; simp
  trans x y z h1 h2 := by rw [ltN] at *; simp at *; omega
  ntrans x y z h1 h2 := by rw [ltN] at *; simp at *; omega
theorem closure_cmp (x y : Num) (W : World) : Calls Tryz.prog 154 #[.agg (numC x).toArray, .agg (numC y).toArray] W fun e w' => e = .returned (.int .i64 (cmpN x y)) ∧ ∃ q os', w' = grow (W.drewN q) os' := by
  obtain ⟨i, st, g, u⟩ := x
  obtain ⟨i', st', g', u'⟩ := y
  have hcon := fun W' => cmp_any g g' W'
  simp only [cmpN]
  generalize cmpG g g' = r at hcon ⊢
  go_enter Tryz.func154, Tryz.ntmps154
  go_wp2_with (go_at_call 155; refine (hcon _).mono ?_; rintro e w' ⟨rfl, rfl⟩)
  go_ret
  exact ⟨rfl, 0, _, by rw [alloc_eq_grow, alloc_eq_grow, grow_grow]; rfl⟩
theorem grownBy_sortK {α : Type} [Inhabited α] {enc : α → List Value} {k : Nat} {w : World} {g off n : Nat} {os : Array Obj} (d : Array α) : w.grownBy (sortWorldK enc k w g off n d os) (some g) := by
  unfold sortWorldK putRowK
  refine ⟨rfl, rfl, rfl, by simp, fun j hj hne => ?_⟩
  rw [heap_grow_old _ _ (by simpa using hj)]
  have : g ≠ j := fun e => hne (by rw [e])
  simp [putRow, mapBlock, Sort.ahead, Array.getElem?_modify, this]
theorem sort_num (blk off cap : Nat) (d : Array Num) (w : World) (hH : HoldsK numC 4 w blk off d) (hblk : blk < w.heap.size) (hsz : d.size < 4611686018427387904) :
    Calls Tryz.prog 153 #[.slice (some ⟨blk, off, none⟩) d.size cap, .func (.func 154) #[] #[]] w fun e w' =>
      e = .returned (.tuple #[]) ∧ ∃ d', d'.size = d.size ∧ d'.toList.Perm d.toList ∧ (∀ i j, i < j → j < d.size → (d'[i]!).2.2.1 ≤ (d'[j]!).2.2.1) ∧ HoldsK numC 4 w' blk off d' ∧ w.grownBy w' (some blk) := by
  have eg : ∀ args w, (callFunc 154 args).run Tryz.prog w = .ok (.enter 154 args) w := enters_of Tryz.func154 (by kernel_rfl) rfl
  have hcon := AnyQ.slices_SortFunc (α := Num) sortNum 4 Tryz.isAgg219 Tryz.sizeOf219 numC (fun _ => rfl) ones_num cmpN swoN 154 #[] blk off cap d w eg (fun m os dk _ x y => closure_cmp x y _) hH hblk hsz
  refine Calls.mono (hcon : Calls Tryz.prog 153 _ _ _) ?_
  rintro e w' ⟨rfl, d', n, os, hp, hs, rfl⟩
  refine ⟨rfl, d', hp.1, ?_, ?_, holdsK_sortWorldK _ _ _ _ _ _ d d' os hblk hH hp.1, grownBy_sortK d'⟩
  · have h := hp.2.2
    have e1 : d'.extract 0 d.size = d' := by rw [← hp.1]; simp
    have e2 : d.extract 0 d.size = d := by simp
    rwa [e1, e2] at h
  · intro i j hij hj
    have h := hs i j (Nat.zero_le _) hij hj
    rw [ltN] at h
    simp at h
    simpa using h
end Go.Proofs.YtodcohkblgjfeaaGreat

namespace Go.Proofs.YtodcohkblgjfeaaGreat
set_option maxRecDepth 100000
open Go.RowKit Go.Shelf Go.Lib Go.Sort
theorem sort_none (p : Option Addr) (cap : Nat) (fv : Value) (w : World) :
    Calls Tryz.prog 153 #[.slice p 0 cap, fv] w fun e w' => e = .returned (.tuple #[]) ∧ w' = w :=
  AnyF.slices_SortFunc_none sortNum p cap fv w
end Go.Proofs.YtodcohkblgjfeaaGreat

namespace Go.Proofs.YtodcohkblgjfeaaGreat
set_option maxRecDepth 100000
open Go.RowKit Go.Shelf Go.Lib Go.Sort
set_option linter.unusedVariables false
theorem built_num (i : Int) (s : Seg) : Tryz.prog.built 219 [(0, .int .i64 i), (1, .agg (segC s).toArray)] = some #[.int .i64 i, .int .i64 s.1, .int .u64 s.2.1, .int .i64 s.2.2] := by kernel_rfl
theorem info_num : (Tryz.prog.info? 219).map (fun i => (i.zero, i.size, i.bytes)) = some (some (.agg (numC num0).toArray), 4, 32) := by kernel_rfl
section
variable {w : World} {ops : Array Oper} {rest : List Oper} {o : Oper} {a : Act} {Q : Exit → Act → World → Prop}
theorem wpList_lit_num (x : Operand) (ho : o.op = .buildSlice 217 1 #[(0, x)]) (hgd : o.guard = none) (y : Num) (hx : a.eval x = .agg (numC y).toArray)
    (h : wpList Tryz.prog ops Q rest (a.put o.dst (.slice (some ⟨w.heap.size, 0, none⟩) 1 1)) (w.alloc (.cells (numC y).toArray 219))) : wpList Tryz.prog ops Q (o :: rest) a w := by
  obtain ⟨i0, hi, hz0, hz1, hz2⟩ := info_parts info_num
  refine wpList_buildSlice hgd 217 219 1 #[(0, x)] ho (numC y).toArray i0 _ Tryz.underlying217 hi hz0 (by rw [hz1]; decide) (by rw [hz1]; decide) ?_ h
  rw [hz1]
  have e : (Array.map (fun (p : Nat × Operand) => (p.1, a.eval p.2)) #[(0, x)]).toList = [(0, .agg (numC y).toArray)] := by simp [hx]
  refine (congrArg _ e).trans ?_
  obtain ⟨i, st, g, u⟩ := y
  kernel_rfl
theorem wpList_append_num (s x : Operand) (ho : o.op = .call { callee := .builtin .append, args := #[s, x], argTypes := #[217, 217] }) (hgd : o.guard = none)
    (base : Nat) (v : Value) (m : Nat) (P : List Value) (hs : a.eval s = v) (hown : w.ownsRow base 219 4 v m P) (g : Nat) (y : Num) (hx : a.eval x = .slice (some ⟨g, 0, none⟩) 1 1) (hg : Blk w g 219 (numC y).toArray)
    (hm : m ≤ 1000000) (hbase : base ≤ w.heap.size)
    (h : ∀ v' w', w'.ownsRow base 219 4 v' (m + 1) (P ++ numC y) → w.grownBy w' v.ownBlock → (v'.ownBlock = v.ownBlock ∨ v'.ownBlock = some w.heap.size) → wpList Tryz.prog ops Q rest (a.put o.dst v') w') :
    wpList Tryz.prog ops Q (o :: rest) a w := by
  obtain ⟨i0, hi, hz0, hz1, hz2⟩ := info_parts info_num
  obtain ⟨v', w', hrun, h2, h3, _, h4⟩ := run_append_own_at (P := Tryz.prog) w base 217 o.type 219 i0 _ 4 32 Tryz.underlying217 hi hz0 hz1 hz2 (by simp [Value.cells]) (by omega) v m P hown ⟨g, 0, none⟩ 1 1 (numC y) (by simp)
    (fun j u hu => by rw [add_plain, Nat.zero_add, hg.cell j]; simpa using hu) (ones_num y) (by unfold maxLen; omega) (by omega) hbase
  refine wpList_plain hgd fun K hK => ?_
  unfold Oper.wp execOp
  simp only [ho, resolve, invoke, builtin, Sem.run_bind, Sem.run_pure, Result.andThen_ok, List.map_toArray, List.map_cons, List.map_nil, hs, hx, hrun]
  exact hK _ _ (h v' w' h2 h3 h4)
end
theorem own_least {w : World} {base size n k : Nat} {e : TypeId} {v : Value} {xs : List Value} (h : w.ownsRow base e size v n xs) (hk : v.ownBlock = some k) : base ≤ k := by
  rcases h.2 with ⟨rfl, _⟩ | ⟨g, cap, cur, rfl, hb, _⟩
  · simp [Value.ownBlock] at hk
  · have : g = k := by simpa [Value.ownBlock] using hk
    omega
theorem flat_num : ∀ (L : List Num) (t : Nat), t < L.length * 4 → (L.flatMap numC)[t]? = (numC (L.getD (t / 4) num0))[t % 4]?
  | [], t, h => by simp at h
  | y :: L, t, h => by
    rw [List.flatMap_cons]
    by_cases h4 : t < 4
    · rw [List.getElem?_append_left (by simpa using h4)]
      rw [show t / 4 = 0 by omega, show t % 4 = t by omega]
      rfl
    · have e : t - (numC y).length = t - 4 := by simp
      rw [List.getElem?_append_right (by simp; omega), e, flat_num L (t - 4) (by simp at h; omega)]
      rw [show t / 4 = (t - 4) / 4 + 1 by omega, show t % 4 = (t - 4) % 4 by omega]
      rfl
theorem flat_len (L : List Num) : (L.flatMap numC).length = L.length * 4 := by
  induction L with
  | nil => rfl
  | cons y L ih => rw [List.flatMap_cons, List.length_append, ih]; simp; omega
theorem holds_own {w : World} {base m : Nat} {v : Value} {L : List Num} (h : w.ownsRow base 219 4 v m (L.flatMap numC)) (hm : m = L.length) :
    (v = .slice none 0 0 ∧ L = []) ∨ ∃ g cap, v = .slice (some ⟨g, 0, none⟩) L.length cap ∧ base ≤ g ∧ g < w.heap.size ∧ HoldsK numC 4 w g 0 L.toArray := by
  subst hm
  rcases h.2 with ⟨rfl, hn⟩ | ⟨g, cap, cur, rfl, hb, hh, h1, h2, h3, h4⟩
  · exact .inl ⟨rfl, List.length_eq_zero_iff.1 hn⟩
  · refine .inr ⟨g, cap, rfl, hb, (Array.getElem?_eq_some_iff.1 hh).1, ?_⟩
    intro t ht
    have ht' : t < L.length * 4 := by simpa using ht
    refine ⟨?_, by simp [World.frozen?, hh]⟩
    rw [get_flatK numC 4 L.toArray t (by simpa using ht')]
    have e1 : cur.toList[t]? = (L.flatMap numC)[t]? := by
      rw [← h4, List.getElem?_take_of_lt ht']
    rw [flat_num L t ht'] at e1
    simp only [World.cell?, hh, Nat.zero_add]
    simp only [Option.isSome_none, Bool.false_eq_true, if_false]
    rw [← Array.getElem?_toList, e1]
    have hlt : t / 4 < L.length := by omega
    have e2 : L.toArray[t / 4]! = L.getD (t / 4) num0 := by simp [List.getD, hlt]
    rw [e2]
    have h5 : t % 4 < (numC (L.getD (t / 4) num0)).length := by simp; omega
    rw [List.getElem?_eq_getElem h5, getElem!_pos (numC (L.getD (t / 4) num0)) (t % 4) h5]
    rfl
theorem row_holds {w : World} {g : Nat} {d : Array Num} (h : HoldsK numC 4 w g 0 d) {S : Nat → Prop} (hS : S g) : RowN w S (some ⟨g, 0, none⟩) d.size d.toList := by
  refine ⟨by simp, fun _ => ⟨g, 0, rfl, hS, fun i hi j v hv => ?_⟩⟩
  have hj : j < 4 := by
    have := (List.getElem?_eq_some_iff.1 hv).1
    simpa using this
  have hc := (HoldsK.cell h hi hj).1
  have e : d.toList.getD i num0 = d[i]! := by simp [List.getD, hi]
  rw [e] at hv
  have h5 : j < (numC d[i]!).length := by simpa using hj
  rw [List.getElem?_eq_getElem h5] at hv
  rw [hc, ← hv, getElem!_pos (numC d[i]!) j h5]
def SeqM (w : World) (n₀ B : Nat) (L : List Num) : Prop :=
  n₀ ≤ B ∧ B < w.heap.size ∧ ∃ A cap, w.cell? ⟨B, 0, none⟩ = some (.slice A L.length cap) ∧ RowN w (fun b => n₀ ≤ b ∧ b < w.heap.size) A L.length L
def Rises (L : List Num) : Prop := ∀ i j, i < j → j < L.length → (L.getD i num0).2.2.1 ≤ (L.getD j num0).2.2.1
def RisI (w : World) (xs : List Seg) (n : Nat) (wr : World) (i : Value) : Prop :=
  ∃ (j : Nat) (v : Value), j ≤ n ∧ i = .int .i64 j ∧ Blk wr w.heap.size 217 #[v] ∧ wr.ownsRow w.heap.size 219 4 v (liveTo xs j).length ((liveTo xs j).flatMap numC) ∧ Below w.heap.size w wr
set_option maxHeartbeats 1000000 in
set_option maxRecDepth 100000 in
theorem rising_any {w : World} {A : Option Addr} {n cap : Nat} {xs : List Seg} (h : RowZ w (· < w.heap.size) A n xs) (hn : n ≤ 16) :
    Calls Tryz.prog 119 #[.slice A n cap] w fun e w' => ∃ B L, e = .returned (.func (.func 156) #[] #[.pointer (some ⟨B, 0, none⟩)]) ∧ SeqM w' w.heap.size B L ∧ L.Perm (live xs) ∧ Rises L ∧ Below w.heap.size w w' := by
  have HX := Lib.hid h
  have HN := Lib.hid hn
  clear h hn
  go_enter Tryz.func119, Tryz.ntmps119
  go_wp2_with fail
  go_loopw [8] (fun i wr => RisI w xs n wr i) (fun i _ => n - (intOf i).toNat)
  case atStart => exact ⟨0, .slice none 0 0, Nat.zero_le _, rfl, Blk.new w _ _, ⟨rfl, .inl ⟨rfl, rfl⟩⟩, (Below.refl _ _).alloc (Nat.le_refl _) _⟩
  case round =>
    obtain ⟨j, v, hj, rfl, hb, ho, hbel⟩ := hrel
    have HB := Lib.hid hb
    have HO := Lib.hid ho
    have HBEL := Lib.hid hbel
    have hn16 := HN.out
    clear hb ho hbel
    by_cases hlt : j < n
    · obtain ⟨b, off, rfl, hbb, hcc⟩ := (HX.out.below HBEL.out (fun b h => h)).2 (by omega)
      have HR := Lib.hid (hcc j hlt)
      obtain ⟨w6, hw6⟩ : ∃ w6, w6 = wr.alloc (.cells (segC (xs.getD j seg0)).toArray 128) := ⟨_, rfl⟩
      have HW6 := Lib.hid hw6
      have HX6 := Lib.hid (show Blk w6 wr.heap.size 128 (segC (xs.getD j seg0)).toArray by rw [hw6]; exact Blk.new wr _ _)
      have HB6 := Lib.hid (show Blk w6 w.heap.size 217 #[v] by rw [hw6]; exact HB.out.alloc _)
      have HO6 := Lib.hid (show w6.ownsRow w.heap.size 219 4 v (liveTo xs j).length ((liveTo xs j).flatMap numC) by rw [hw6]; exact HO.out.alloc _)
      have HBE6 := Lib.hid (show Below w.heap.size w w6 by rw [hw6]; exact HBEL.out.alloc HBEL.out.size _)
      clear hcc hbb hw6
      obtain ⟨st, g, u, hx⟩ : ∃ st g u, xs.getD j seg0 = (st, g, u) := ⟨_, _, _, rfl⟩
      have HXJ := Lib.hid hx
      rw [hx] at HR HW6 HX6
      clear hx
      obtain ⟨c0, c1, c2⟩ : _ ∧ _ ∧ _ := ⟨HX6.out.cell 0, HX6.out.cell 1, HX6.out.cell 2⟩
      have cB := HB6.out.cell 0
      simp only [segC, List.getElem?_toArray, List.getElem?_cons_zero, List.getElem?_cons_succ] at c0 c1 c2 cB
      by_cases h0 : st = 0
      · subst h0
        go_wp2_with (first
          | (refine wpList_load_part_s8 (.tmp 11) 128 rfl rfl b (off + j * 3) rfl (segC (0, g, u)) _ Tryz.underlying128 rfl size_seg HR.out ?_)
          | (refine wpList_alloc_row_s8 128 rfl rfl (segC seg0).toArray zero_seg ?_)
          | (refine wpList_store_fresh_s8 (.tmp 5) (.tmp 12) 128 rfl rfl wr (segC seg0).toArray (segC (0, g, u)).toArray rfl rfl 128 rfl size_seg rfl (one_seg _) ?_; rw [← HW6.out]))
        go_roundw
        case rel =>
          have e : liveTo xs (j + 1) = liveTo xs j := by
            conv => lhs; unfold liveTo
            rw [HXJ.out, if_pos rfl, List.append_nil]
          refine ⟨j + 1, v, by omega, by simp, HB6.out, ?_, HBE6.out⟩
          rw [e]
          exact HO6.out
        case measure => simp [intOf]; omega
      · have hne : (st != 0) = true := by simpa using h0
        have hlive := liveTo_length xs j
        have HO7 := Lib.hid (HO6.out.alloc (.cells (numC (j, st, g, u)).toArray 219))
        have HB7 := Lib.hid (HB6.out.alloc (.cells (numC (j, st, g, u)).toArray 219))
        have HBE7 := Lib.hid (HBE6.out.alloc HBE6.out.size (.cells (numC (j, st, g, u)).toArray 219))
        have hmil : (liveTo xs j).length ≤ 1000000 := by omega
        have HNE := Lib.hid (own_blk_ne HO7.out HB7.out (by decide))
        have HBS := Lib.hid HBE7.out.size
        go_wp2_with (first
          | (refine wpList_load_part_s8 (.tmp 11) 128 rfl rfl b (off + j * 3) rfl (segC (st, g, u)) _ Tryz.underlying128 rfl size_seg HR.out ?_)
          | (refine wpList_load_rowB (.tmp 5) 128 rfl rfl wr.heap.size rfl 128 (segC (st, g, u)) _ Tryz.underlying128 rfl size_seg HX6.out ?_)
          | (refine wpList_alloc_row_s8 128 rfl rfl (segC seg0).toArray zero_seg ?_)
          | (refine wpList_store_fresh_s8 (.tmp 5) (.tmp 12) 128 rfl rfl wr (segC seg0).toArray (segC (st, g, u)).toArray rfl rfl 128 rfl size_seg rfl (one_seg _) ?_; rw [← HW6.out])
          | (refine wpList_lit_num (.tmp 19) rfl rfl (j, st, g, u) rfl ?_)
          | (refine wpList_append_num (.tmp 16) (.tmp 20) rfl rfl w.heap.size v (liveTo xs j).length ((liveTo xs j).flatMap numC) rfl HO7.out w6.heap.size (j, st, g, u) rfl (Blk.new w6 _ _) hmil HBS.out ?_; rintro v' w8 ho8 hg8 _; obtain ⟨g', cap', rfl⟩ := ownsRow_succ ho8; have HO8 := Lib.hid ho8; have HB8 := Lib.hid (HB7.out.grown hg8 (fun e => HNE.out e.symm)); have HBE8 := Lib.hid (HBE7.out.grown hg8 HBS.out (fun k e => own_least HO7.out e)); have c8 := HB8.out.cell 0; have f8 := HB8.out.frozen 0; simp only [List.getElem?_toArray, List.getElem?_cons_zero] at c8; clear ho8 hg8))
        go_roundw
        case rel =>
          have e : liveTo xs (j + 1) = liveTo xs j ++ [(j, st, g, u)] := by
            conv => lhs; unfold liveTo
            rw [HXJ.out, if_neg h0]
          refine ⟨j + 1, _, by omega, by simp, HB8.out.set_ 0 _, ?_, HBE8.out.setCell (p := ⟨w.heap.size, 0, none⟩) (Nat.le_refl _) _⟩
          rw [e, List.length_append, List.flatMap_append, List.flatMap_singleton]
          exact ownsRow_setCell_other HO8.out (a := ⟨w.heap.size, 0, none⟩) (fun e => own_blk_ne HO8.out HB8.out (by decide) e) _
        case measure => simp [intOf]; omega
    · obtain rfl : j = n := by omega
      have hl : live xs = liveTo xs j := by unfold live; rw [HX.out.1]
      have HLV := Lib.hid hl
      have hlen := liveTo_length xs j
      clear hl
      rcases holds_own HO.out rfl with ⟨rfl, hnil⟩ | ⟨g, cap', rfl, hg1, hg2, hH⟩
      · have HNIL := Lib.hid hnil
        clear hnil
        have cB := HB.out.cell 0
        simp only [List.getElem?_toArray, List.getElem?_cons_zero] at cB
        go_wp2_with (go_at_call 153; refine (sort_none _ _ _ _).mono ?_; rintro e w' ⟨rfl, rfl⟩)
        go_ret
        exact ⟨w.heap.size, [], rfl, ⟨Nat.le_refl _, HB.out.lt, none, 0, cB, RowQ.nil _ _ _ _ _ _⟩, (by rw [HLV.out, HNIL.out]), fun i j _ h => absurd h (by simp), HBEL.out⟩
      · have hsort := sort_num g 0 cap' (liveTo xs j).toArray wr hH hg2 (by simp; omega)
        simp only [List.size_toArray] at hsort
        have HSORT := Lib.hid hsort
        have hne : g ≠ w.heap.size := fun e => own_blk_ne HO.out HB.out (by decide) (by rw [e]; rfl)
        have cB := HB.out.cell 0
        simp only [List.getElem?_toArray, List.getElem?_cons_zero] at cB
        clear hsort hH
        go_wp2_with (go_at_call 153; refine HSORT.out.mono ?_; rintro e w9 ⟨rfl, d', hs9, hp9, hr9, hh9, hg9⟩; have HS9 := Lib.hid hs9; have HP9 := Lib.hid hp9; have HR9 := Lib.hid hr9; have HH9 := Lib.hid hh9; have HG9 := Lib.hid hg9; clear hs9 hp9 hr9 hh9 hg9)
        go_ret
        have hB9 := HB.out.grown HG9.out (fun e => by injection e with e; exact hne e.symm)
        have cB9 := hB9.cell 0
        simp only [List.getElem?_toArray, List.getElem?_cons_zero] at cB9
        refine ⟨w.heap.size, d'.toList, rfl, ⟨Nat.le_refl _, hB9.lt, some ⟨g, 0, none⟩, cap', ?_, ?_⟩, (by rw [HLV.out]; exact HP9.out), ?_, HBEL.out.grown HG9.out HBEL.out.size (fun k e => by injection e with e; omega)⟩
        · rw [cB9]
          have e : d'.toList.length = (liveTo xs j).length := HS9.out
          rw [e]
        · rw [Array.length_toList]
          exact row_holds HH9.out ⟨hg1, Nat.lt_of_lt_of_le hg2 HG9.out.size⟩
        · intro i k hik hk
          have hk' : k < d'.size := by simpa using hk
          have h1 := HR9.out i k hik (by rw [← HS9.out]; exact hk')
          have e : ∀ q, q < d'.size → d'.toList.getD q num0 = d'[q]! := fun q hq => by simp [List.getD, hq]
          rw [e i (by omega), e k hk']
          exact h1
end Go.Proofs.YtodcohkblgjfeaaGreat

namespace Go.Proofs.YtodcohkblgjfeaaGreat
set_option maxRecDepth 100000
open Go.RowKit Go.Shelf
attribute [local go_sem] Oper.semAt_some
set_option linter.unusedVariables false
abbrev numA (x : Num) : Array Value := #[.int .i64 x.1, .agg (segC x.2).toArray]
theorem take_one (L : List Num) (k : Nat) (h : k < L.length) : L.take (k + 1) = L.take k ++ [L.getD k num0] := by
  rw [List.take_add_one]
  simp [List.getD, List.getElem?_eq_getElem h]
set_option maxRecDepth 100000 in
set_option maxHeartbeats 2000000 in
theorem rise1_in (F : Fence) (n : Nat) (h7 : F.fn 156) (hro : F.round = none) (hn : 1 ≤ n) (l Bs b off cap : Nat) (S : Nat → Prop) (L : List Num) (hL : L.length ≤ 16) (hb : S b) (J Jx : List Num → World → Prop) (W : World) (hS : ∀ b, S b → b < W.heap.size) (hJ : AbidesFrom W.heap.size J)
    (hY : ∀ pre x W, J pre W → pre.length < L.length → YieldAt F (n - 1) Tryz.prog l (numA x) W fun e W' =>
      (e = .returned (.bool true) ∧ J (pre ++ [x]) W' ∧ Kept S W W') ∨ (e = .returned (.bool false) ∧ Jx (pre ++ [x]) W'))
    (hBs : W.cell? ⟨Bs, 0, none⟩ = some (.slice (some ⟨b, off, none⟩) L.length cap)) (hc : ∀ j, j < L.length → W.rangeAt b (off + j * 4) (numC (L.getD j num0))) (h0 : J [] W) :
    CallsIn F n Tryz.prog 156 #[.func (.yield l) #[] #[], .pointer (some ⟨Bs, 0, none⟩)] W fun e W' => (∃ v, e = .returned v) ∧
      ((∃ ys, ys = L ∧ J ys W') ∨ (∃ pre, (∃ k, k ≤ L.length ∧ pre = L.take k) ∧ Jx pre W')) := by
  refine callsIn_of_wp Tryz.func156 rfl h7 ?_ hro
  simp only [Tryz.ntmps156, List.size_toArray, List.length_cons, List.length_nil, Nat.reduceAdd, Nat.reduceSub, Array.replicate_succ, Array.replicate_zero, List.push_toArray, List.append_toArray, List.nil_append, List.cons_append]
  gi_wp2
  gi_loopw [7] (fun i wr => ∃ k : Nat, k ≤ L.length ∧ i = .int .i64 k ∧ J (L.take k) wr ∧ Kept S W wr)
    (fun i _ => L.length - (intOf i).toNat)
  case atStart => exact ⟨0, Nat.zero_le _, rfl, h0, Kept.refl _ _⟩
  case round =>
    obtain ⟨k, hk, rfl, hJs, hnx⟩ := hrel
    by_cases hlt : k < L.length
    · have hr := hc k hlt
      obtain ⟨i, st, g, u, hx⟩ : ∃ i st g u, L.getD k num0 = (i, st, g, u) := ⟨_, _, _, _, rfl⟩
      rw [hx] at hr
      have hJ2 := hJ _ _ (wr.alloc (.cells (numC (i, st, g, u)).toArray 219)) none hJs (World.grownBy_alloc _ _ none) (fun r e => by cases e)
      obtain ⟨fn, tmps, assign, body, hy, hR⟩ := hY _ (i, st, g, u) _ hJ2 (by rw [List.length_take]; omega)
      obtain ⟨c0, c1, c2, c3⟩ : wr.cell? ⟨b, off + k * 4, none⟩ = some (.int .i64 i) ∧ wr.cell? ⟨b, off + k * 4 + 1, none⟩ = some (.int .i64 st) ∧ wr.cell? ⟨b, off + k * 4 + 2, none⟩ = some (.int .u64 g) ∧ wr.cell? ⟨b, off + k * 4 + 3, none⟩ = some (.int .i64 u) :=
        ⟨(hnx.cell (p := ⟨b, _, none⟩) hb).trans (hr 0 _ rfl), (hnx.cell (p := ⟨b, _, none⟩) hb).trans (hr 1 _ rfl), (hnx.cell (p := ⟨b, _, none⟩) hb).trans (hr 2 _ rfl), (hnx.cell (p := ⟨b, _, none⟩) hb).trans (hr 3 _ rfl)⟩
      have hX := Lib.hid hx
      have HJ := Lib.hid hJ
      clear hx hr hJ2 hJ
      gi_wp2
      refine hR.mono ?_
      rintro e W3 (⟨rfl, hJ3, hk3⟩ | ⟨rfl, hJx3⟩)
      · gi_wp2
        go_roundw
        case rel => exact ⟨k + 1, by omega, by simp, by rw [take_one L k hlt, hX.out]; exact hJ3, (hnx.alloc (fun b h => Nat.lt_of_lt_of_le (hS b h) hnx.size) _).trans hk3 (fun b h => h)⟩
        case measure => simp [intOf]; omega
      · gi_wp2
        refine bodyPost_ret (results_none rfl _ _ _) rfl ?_
        exact ⟨⟨_, rfl⟩, .inr ⟨_, ⟨k + 1, by omega, rfl⟩, by rw [take_one L k hlt, hX.out]; exact hJx3⟩⟩
    · obtain rfl : k = L.length := by omega
      rw [List.take_length] at hJs
      gi_wp2
      go_end0
      exact ⟨⟨_, rfl⟩, .inl ⟨_, rfl, hJs⟩⟩
set_option maxRecDepth 100000 in
set_option maxHeartbeats 1000000 in
theorem rise1_nil (F : Fence) (n : Nat) (h7 : F.fn 156) (hro : F.round = none) (l Bs cap : Nat) (A : Option Addr) (J : List Num → World → Prop) (W : World) (hBs : W.cell? ⟨Bs, 0, none⟩ = some (.slice A 0 cap)) (h0 : J [] W) :
    CallsIn F n Tryz.prog 156 #[.func (.yield l) #[] #[], .pointer (some ⟨Bs, 0, none⟩)] W fun e W' => (∃ v, e = .returned v) ∧ J [] W' := by
  refine callsIn_of_wp Tryz.func156 rfl h7 ?_ hro
  simp only [Tryz.ntmps156, List.size_toArray, List.length_cons, List.length_nil, Nat.reduceAdd, Nat.reduceSub, Array.replicate_succ, Array.replicate_zero, List.push_toArray, List.append_toArray, List.nil_append, List.cons_append]
  gi_wp2
  gi_loopw [7] (fun i wr => i = .int .i64 0 ∧ J [] wr) (fun _ _ => 0)
  case atStart => exact ⟨rfl, h0⟩
  case round =>
    obtain ⟨rfl, hJs⟩ := hrel
    gi_wp2
    go_end0
    exact ⟨⟨_, rfl⟩, hJs⟩
theorem rise_stops (F : Fence) (n : Nat) (h7 : F.fn 156) (hro : F.round = none) (hn : 1 ≤ n) (B n₁ n₂ : Nat) (L : List Num) (hL : L.length ≤ 16) (w : World) (hs : SeqM w n₁ B L) (hn₂ : n₂ = w.heap.size) :
    SeqStopsK F n Tryz.prog 156 #[.pointer (some ⟨B, 0, none⟩)] numA (Kept (fun b => n₁ ≤ b ∧ b < n₂)) (fun ys => ys = L) (fun pre => ∃ k, k ≤ L.length ∧ pre = L.take k) L.length w := fun l J Jx W hW hJ hJx hY h0 => by
  subst hn₂
  obtain ⟨_, hB, A, cap, hc, hrow⟩ := hs
  have hc' := (hW.cell (p := ⟨B, 0, none⟩) hB).trans hc
  rcases Nat.eq_zero_or_pos L.length with hz | hp
  · obtain rfl : L = [] := List.length_eq_zero_iff.1 hz
    exact (rise1_nil F n h7 hro l B cap A J W hc' h0).mono fun e W' ⟨he, hj⟩ => ⟨he, .inl ⟨_, rfl, hj⟩⟩
  · obtain ⟨b, off, rfl, hb, hcs⟩ := (hrow.below hW (fun b h => h.2)).2 hp
    exact rise1_in F n h7 hro hn l B b off cap _ L hL hb J Jx W (fun b h => Nat.lt_of_lt_of_le h.2 hW.size) hJ hY hc' hcs h0
theorem keptK_t {S : Nat → Prop} {A B C : World} (h : Kept S A B) (k : Kept S B C) : Kept S A C := h.trans k (fun _ h => h)
theorem keptK_b {n₁ n₂ : Nat} {w : World} (hn : n₂ ≤ w.heap.size) (W : World) (l : Nat) (o o' : Obj) (hl : w.heap.size ≤ l) (h : W.heap[l]? = some o) (_ : o.isCells = false) (_ : o.isWalk = false) : Kept (fun b => n₁ ≤ b ∧ b < n₂) W (W.putObj l o') :=
  (Kept.refl _ W).grown (grownBy_putObj' W l o') (fun b hb => Nat.lt_of_lt_of_le hb.2 (Nat.le_trans hn (Nat.le_trans hl (Nat.le_of_lt (Array.getElem?_eq_some_iff.1 h).1)))) (fun g e hg => by cases e; omega)
end Go.Proofs.YtodcohkblgjfeaaGreat

namespace Go.Proofs.YtodcohkblgjfeaaGreat
set_option maxRecDepth 100000
open Go.RowKit
set_option linter.unusedVariables false
set_option linter.unusedSimpArgs false
theorem eql_seg (a b c a' b' c' : Int) (w : World) : (binOp .eql 128 (.agg #[.int .i64 a, .int .u64 b, .int .i64 c]) (.agg #[.int .i64 a', .int .u64 b', .int .i64 c'])).run Tryz.prog w = .ok (.bool (decide ((a, b, c) = (a', b', c')))) w := by
  by_cases h0 : a = a'
  case neg =>
    have e0 : (a == a') = false := by simpa using h0
    rw [show decide ((a, b, c) = (a', b', c')) = false from decide_eq_false (fun h => h0 (by simp only [Prod.mk.injEq] at h; first | exact h.1 | exact h.2.1 | exact h.2.2))]
    go_simp
  subst h0
  by_cases h1 : b = b'
  case neg =>
    have e1 : (b == b') = false := by simpa using h1
    rw [show decide ((a, b, c) = (a, b', c')) = false from decide_eq_false (fun h => h1 (by simp only [Prod.mk.injEq] at h; first | exact h.1 | exact h.2.1 | exact h.2.2))]
    go_simp
  subst h1
  by_cases h2 : c = c'
  case neg =>
    have e2 : (c == c') = false := by simpa using h2
    rw [show decide ((a, b, c) = (a, b, c')) = false from decide_eq_false (fun h => h2 (by simp only [Prod.mk.injEq] at h; first | exact h.1 | exact h.2.1 | exact h.2.2))]
    go_simp
  subst h2
  rw [show decide ((a, b, c) = (a, b, c)) = true from decide_eq_true rfl]
  go_simp
theorem neq_seg (a b c a' b' c' : Int) (w : World) : (binOp .neq 128 (.agg #[.int .i64 a, .int .u64 b, .int .i64 c]) (.agg #[.int .i64 a', .int .u64 b', .int .i64 c'])).run Tryz.prog w = .ok (.bool (!decide ((a, b, c) = (a', b', c')))) w := by
  by_cases h0 : a = a'
  case neg =>
    have e0 : (a == a') = false := by simpa using h0
    rw [show decide ((a, b, c) = (a', b', c')) = false from decide_eq_false (fun h => h0 (by simp only [Prod.mk.injEq] at h; first | exact h.1 | exact h.2.1 | exact h.2.2))]
    go_simp
  subst h0
  by_cases h1 : b = b'
  case neg =>
    have e1 : (b == b') = false := by simpa using h1
    rw [show decide ((a, b, c) = (a, b', c')) = false from decide_eq_false (fun h => h1 (by simp only [Prod.mk.injEq] at h; first | exact h.1 | exact h.2.1 | exact h.2.2))]
    go_simp
  subst h1
  by_cases h2 : c = c'
  case neg =>
    have e2 : (c == c') = false := by simpa using h2
    rw [show decide ((a, b, c) = (a, b, c')) = false from decide_eq_false (fun h => h2 (by simp only [Prod.mk.injEq] at h; first | exact h.1 | exact h.2.1 | exact h.2.2))]
    go_simp
  subst h2
  rw [show decide ((a, b, c) = (a, b, c)) = true from decide_eq_true rfl]
  go_simp
def SizedR (n sec : Int) : Prop := 4 ≤ n ∧ n ≤ 16 ∧ 24 ≤ sec ∧ sec ≤ 64
instance aI8Small0 (n sec : Int) : Decidable (SizedR n sec) := by unfold SizedR; infer_instance
theorem sized_any (n sec : Int) (w : World) : Calls Tryz.prog 96 #[.int .i64 n, .int .i64 sec] w fun e w' => e = .returned (.bool (decide (SizedR n sec))) ∧ w' = w := by
  by_cases h0 : (4 : Int) ≤ n
  case neg =>
    have e : decide (SizedR n sec) = false := decide_eq_false (fun h => h0 h.1)
    have d0 : decide ((4 : Int) ≤ n) = false := decide_eq_false h0
    rw [e]
    go_enter Tryz.func96, Tryz.ntmps96
    go_wp2
    go_ret
    exact ⟨rfl, rfl⟩
  have d0 : decide ((4 : Int) ≤ n) = true := decide_eq_true h0
  by_cases h1 : n ≤ 16
  case neg =>
    have e : decide (SizedR n sec) = false := decide_eq_false (fun h => h1 h.2.1)
    have d1 : decide (n ≤ 16) = false := decide_eq_false h1
    rw [e]
    go_enter Tryz.func96, Tryz.ntmps96
    go_wp2
    go_ret
    exact ⟨rfl, rfl⟩
  have d1 : decide (n ≤ 16) = true := decide_eq_true h1
  by_cases h2 : (24 : Int) ≤ sec
  case neg =>
    have e : decide (SizedR n sec) = false := decide_eq_false (fun h => h2 h.2.2.1)
    have d2 : decide ((24 : Int) ≤ sec) = false := decide_eq_false h2
    rw [e]
    go_enter Tryz.func96, Tryz.ntmps96
    go_wp2
    go_ret
    exact ⟨rfl, rfl⟩
  have d2 : decide ((24 : Int) ≤ sec) = true := decide_eq_true h2
  have e : decide (SizedR n sec) = decide (sec ≤ 64) := by
    by_cases h3 : sec ≤ 64
    · rw [decide_eq_true h3]; exact decide_eq_true ⟨h0, h1, h2, h3⟩
    · rw [decide_eq_false h3]; exact decide_eq_false (fun h => h3 h.2.2.2)
  rw [e]
  go_enter Tryz.func96, Tryz.ntmps96
  go_wp2
  go_ret
  exact ⟨rfl, rfl⟩
def MayG (s : Seg) (sec : Int) : Prop := if s.1 = 0 then s.2.1 = 0 ∧ s.2.2 = 0 else (s.1 = 1 ∨ s.1 = 2) ∧ 0 < s.2.1 ∧ 1 ≤ s.2.2 ∧ s.2.2 ≤ sec
instance aI8Small1 (s : Seg) (sec : Int) : Decidable (MayG s sec) := by unfold MayG; infer_instance
set_option maxHeartbeats 1000000 in
theorem segmay_any (s : Seg) (sec : Int) (w : World) : Calls Tryz.prog 130 #[.agg (segC s).toArray, .int .i64 sec] w fun e w' => e = .returned (.bool (decide (MayG s sec))) ∧ Below w.heap.size w w' := by
  obtain ⟨st, g, u⟩ := s
  have hb := (Below.refl w.heap.size w).alloc (Nat.le_refl _) (.cells (segC (st, g, u)).toArray 128)
  have HB := Lib.hid hb
  clear hb
  by_cases h0 : st = 0
  · subst h0
    have e : decide (MayG (0, g, u) sec) = decide (((0 : Int), g, u) = (0, 0, 0)) := by
      unfold MayG
      simp [Prod.mk.injEq]
    rw [e]
    have heq := eql_seg 0 g u 0 0 0
    generalize decide (((0 : Int), g, u) = (0, 0, 0)) = r at *
    go_enter Tryz.func130, Tryz.ntmps130
    go_wp2
    go_ret
    exact ⟨rfl, HB.out⟩
  have d0 : (st == 0) = false := by simpa using h0
  by_cases hs : st = 1 ∨ st = 2
  case neg =>
    have e : decide (MayG (st, g, u) sec) = false := decide_eq_false (fun h => by unfold MayG at h; rw [if_neg h0] at h; exact hs h.1)
    rw [e]
    have d1 : (st == 1) = false := by simp; exact fun h => hs (.inl h)
    have d2 : (st == 2) = false := by simp; exact fun h => hs (.inr h)
    go_enter Tryz.func130, Tryz.ntmps130
    go_wp2
    go_ret
    exact ⟨rfl, HB.out⟩
  have e0 : MayG (st, g, u) sec ↔ 0 < g ∧ 1 ≤ u ∧ u ≤ sec := by
    unfold MayG
    rw [if_neg h0]
    exact ⟨fun h => h.2, fun h => ⟨hs, h⟩⟩
  have E0 := Lib.hid e0
  clear e0
  have go1 : ∀ st : Int, st = 1 ∨ st = 2 → Calls Tryz.prog 130 #[.agg #[.int .i64 st, .int .u64 g, .int .i64 u], .int .i64 sec] w fun e w' => e = .returned (.bool (decide (0 < g) && decide (1 ≤ u) && decide (u ≤ sec))) ∧ Below w.heap.size w w' := by
    intro st hs
    have HB := Lib.hid ((Below.refl w.heap.size w).alloc (Nat.le_refl _) (.cells (segC (st, g, u)).toArray 128))
    cases d1 : decide (0 < g)
    · rcases hs with rfl | rfl
      · go_enter Tryz.func130, Tryz.ntmps130
        go_wp2
        go_ret
        exact ⟨rfl, HB.out⟩
      · go_enter Tryz.func130, Tryz.ntmps130
        go_wp2
        go_ret
        exact ⟨rfl, HB.out⟩
    · cases d2 : decide (1 ≤ u)
      · rcases hs with rfl | rfl
        · go_enter Tryz.func130, Tryz.ntmps130
          go_wp2
          go_ret
          exact ⟨rfl, HB.out⟩
        · go_enter Tryz.func130, Tryz.ntmps130
          go_wp2
          go_ret
          exact ⟨rfl, HB.out⟩
      · rcases hs with rfl | rfl
        · go_enter Tryz.func130, Tryz.ntmps130
          go_wp2
          go_ret
          exact ⟨rfl, HB.out⟩
        · go_enter Tryz.func130, Tryz.ntmps130
          go_wp2
          go_ret
          exact ⟨rfl, HB.out⟩
  have e : decide (MayG (st, g, u) sec) = (decide (0 < g) && decide (1 ≤ u) && decide (u ≤ sec)) := by
    rw [show decide (MayG (st, g, u) sec) = decide (0 < g ∧ 1 ≤ u ∧ u ≤ sec) from decide_eq_decide.2 E0.out]
    simp [Bool.decide_and, Bool.and_assoc]
  rw [e]
  exact go1 st hs
end Go.Proofs.YtodcohkblgjfeaaGreat

namespace Go.Proofs.YtodcohkblgjfeaaGreat
set_option maxRecDepth 100000
open Go.RowKit Go.Shelf
attribute [local go_sem] Oper.semAt_some
set_option linter.unusedVariables false
def flow (a : Seg) : List Num → Bool
  | [] => true
  | x :: r => (!(a.1 == 1 || a.2.1 == x.2.2.1)) && flow x.2 r
def lastOf (a : Seg) : List Num → Seg
  | [] => a
  | x :: r => lastOf x.2 r
theorem lastOf_snoc (x : Num) : ∀ (pre : List Num) (a : Seg), lastOf a (pre ++ [x]) = x.2
  | [], _ => rfl
  | y :: pre, _ => lastOf_snoc x pre y.2
theorem flow_snoc (x : Num) : ∀ (pre : List Num) (a : Seg), flow a (pre ++ [x]) = (flow a pre && !((lastOf a pre).1 == 1 || (lastOf a pre).2.1 == x.2.2.1))
  | [], a => by simp [flow, lastOf]
  | y :: pre, a => by
    show (_ && flow y.2 (pre ++ [x])) = _
    rw [flow_snoc x pre y.2]
    simp only [flow, lastOf, Bool.and_assoc]
theorem flow_prefix (pre r : List Num) : ∀ (a : Seg), flow a pre = false → flow a (pre ++ r) = false := by
  induction pre with
  | nil => intro a h; cases h
  | cons y pre ih =>
    intro a h
    simp only [flow, List.cons_append, Bool.and_eq_false_iff] at h ⊢
    exact h.imp id (ih y.2)
theorem blk_own {β : Type} (g : Nat) (t : TypeId) (f : β → Array Value) : Own (fun s W => Blk W g t (f s)) := fun s X Y row hs hg hrow =>
  hs.grown hg (fun e => by obtain ⟨o, ho, hc⟩ := hrow g e.symm; rw [show X.heap[g]? = _ from hs] at ho; cases ho; cases hc)
theorem own_size {β : Type} {B : Nat} (m : Nat) : OwnFrom B (fun (_ : β) W => m ≤ W.heap.size) := fun _ _ _ _ hs hg _ => Nat.le_trans hs hg.size
theorem may_next {xs : List Seg} {sec : Int} {j : Nat} (h : ∀ k, k < j → MayG (xs.getD k seg0) sec) (hm : MayG (xs.getD j seg0) sec) (k : Nat) (hk : k < j + 1) : MayG (xs.getD k seg0) sec := by
  by_cases e : k < j
  · exact h k e
  · obtain rfl : k = j := by omega
    exact hm
theorem may_all {xs : List Seg} {sec : Int} (h : ∀ k, k < xs.length → MayG (xs.getD k seg0) sec) : ∀ s ∈ xs, MayG s sec := by
  intro s hs
  obtain ⟨i, hi, rfl⟩ := List.getElem_of_mem hs
  have := h i hi
  simpa [List.getD, hi] using this
set_option maxRecDepth 100000 in
set_option maxHeartbeats 2000000 in
theorem check_walk {w : World} {A : Option Addr} {n cap : Nat} {xs : List Seg} (h : RowZ w (· < w.heap.size) A n xs) (sec : Int) (hsz : SizedR n sec) :
    Calls Tryz.prog 81 #[.agg #[.int .i64 sec, .slice A n cap]] w fun e w' => ((∃ s ∈ xs, ¬ MayG s sec) ∧ e = .returned (.int .i64 180) ∨ (∀ s ∈ xs, MayG s sec) ∧ ∃ L, L.Perm (live xs) ∧ Rises L ∧ e = .returned (.int .i64 (if flow seg0 L then 0 else 180))) ∧ Below w.heap.size w w' := by
  have HX := Lib.hid h
  have HSZ := Lib.hid hsz
  have hd : decide (SizedR (n : Int) sec) = true := decide_eq_true hsz
  have HSI := Lib.hid (fun (W : World) => by have h := sized_any n sec W; rw [hd] at h; exact h)
  clear h hsz hd
  refine (callsIn_wide (n := 5)).1 ?_
  refine callsIn_of_wp_marks Tryz.func81 rfl trivial ?_ rfl
  simp only [Tryz.ntmps81, List.size_toArray, List.length_cons, List.length_nil, Nat.reduceAdd, Nat.reduceSub, Array.replicate_succ, Array.replicate_zero, List.push_toArray, List.append_toArray, List.nil_append, List.cons_append]
  gi_wp2_with (refine ⟨trivial, ?_⟩; gi_at_call 96; refine (callsIn_wide.2 (HSI.out _)).mono ?_; rintro e w' ⟨rfl, rfl⟩)
  have HK0 := Lib.hid (Blk.new w 35 #[.int .i64 sec, .slice A n cap])
  gi_loopw [18] (fun i wr => ∃ j : Nat, i = .int .i64 j ∧ j ≤ n ∧ (∀ k, k < j → MayG (xs.getD k seg0) sec) ∧ Blk wr w.heap.size 35 #[.int .i64 sec, .slice A n cap] ∧ Blk wr (w.heap.size + 1) 49 #[.int .i64 0] ∧ Below w.heap.size w wr)
    (fun i _ => n - (intOf i).toNat)
  case atStart => exact ⟨0, rfl, Nat.zero_le _, fun k h => absurd h (by omega), HK0.out.alloc _, blk_new2 w _ _ _, ((Below.refl _ w).alloc (Nat.le_refl _) _).alloc (by simp) _⟩
  case round =>
    obtain ⟨j, rfl, hj, hmay, hb0, hb1, hbel⟩ := hrel
    have HB0 := Lib.hid hb0
    have HB1 := Lib.hid hb1
    have HBEL := Lib.hid hbel
    have HMAY := Lib.hid hmay
    have hn16 : n ≤ 16 := by have := HSZ.out.2.1; omega
    clear hb0 hb1 hbel hmay
    by_cases hlt : j < n
    · obtain ⟨b, off, rfl, hbb, hcc⟩ := (HX.out.below HBEL.out (fun b h => h)).2 (by omega)
      have hr := hcc j hlt
      have hmem : xs.getD j seg0 ∈ xs := by
        have hl : j < xs.length := by rw [HX.out.1]; exact hlt
        simp [List.getD, hl]
      have HMEM := Lib.hid hmem
      obtain ⟨st, g, u, hx⟩ : ∃ st g u, xs.getD j seg0 = (st, g, u) := ⟨_, _, _, rfl⟩
      rw [hx] at hr
      have HXJ := Lib.hid hx
      obtain ⟨c0, c1, c2⟩ : wr.cell? ⟨b, off + j * 3, none⟩ = some (.int .i64 st) ∧ wr.cell? ⟨b, off + j * 3 + 1, none⟩ = some (.int .u64 g) ∧ wr.cell? ⟨b, off + j * 3 + 2, none⟩ = some (.int .i64 u) := ⟨hr 0 _ rfl, hr 1 _ rfl, hr 2 _ rfl⟩
      obtain ⟨k0, k1⟩ : _ ∧ _ := ⟨HB0.out.cell 0, HB0.out.cell 1⟩
      have k2 := HB1.out.cell 0
      have f2 := HB1.out.frozen 0
      simp only [List.getElem?_toArray, List.getElem?_cons_zero, List.getElem?_cons_succ] at k0 k1 k2
      have HMM := Lib.hid (fun W => segmay_any (st, g, u) sec W)
      have HB0a := Lib.hid (HB0.out.alloc (.cells (segC (st, g, u)).toArray 128))
      have HB1a := Lib.hid (HB1.out.alloc (.cells (segC (st, g, u)).toArray 128))
      have HBELa := Lib.hid (HBEL.out.alloc HBEL.out.size (.cells (segC (st, g, u)).toArray 128))
      have k0a : (wr.alloc (.cells #[.int .i64 st, .int .u64 g, .int .i64 u] 128)).cell? ⟨w.heap.size, 0, none⟩ = some (.int .i64 sec) := HB0a.out.cell 0
      clear hx hr hcc hmem
      by_cases hm : MayG (st, g, u) sec
      case neg =>
        rw [decide_eq_false hm] at HMM
        gi_wp2_with (refine ⟨trivial, ?_⟩; gi_at_call 130; refine (callsIn_wide.2 (HMM.out _)).mono ?_; rintro e w5 ⟨rfl, hb5⟩; have HB0b := Lib.hid (HB0a.out.below hb5 HB0a.out.lt); have HB1b := Lib.hid (HB1a.out.below hb5 HB1a.out.lt); have HBELb := Lib.hid (HBELa.out.trans (hb5.mono HBELa.out.size)); have k2b := HB1b.out.cell 0; have f2b := HB1b.out.frozen 0; simp only [List.getElem?_toArray, List.getElem?_cons_zero, List.getElem?_cons_succ] at k2b; clear hb5)
        refine ⟨.int .i64 180, ?_, .inl ⟨⟨_, HMEM.out, by rw [HXJ.out]; exact hm⟩, rfl⟩, HBELb.out.setCell (p := ⟨w.heap.size + 1, 0, none⟩) (by simp) _⟩
        have hc := World.cell?_setCell_same' w5 ⟨w.heap.size + 1, 0, none⟩ (.int .i64 180) (by rw [k2b]; rfl)
        simp [results, Tryz.f81, go_sem, hc]
      rw [decide_eq_true hm] at HMM
      gi_wp2_with (refine ⟨trivial, ?_⟩; gi_at_call 130; refine (callsIn_wide.2 (HMM.out _)).mono ?_; rintro e w5 ⟨rfl, hb5⟩; have HB0b := Lib.hid (HB0a.out.below hb5 HB0a.out.lt); have HB1b := Lib.hid (HB1a.out.below hb5 HB1a.out.lt); have HBELb := Lib.hid (HBELa.out.trans (hb5.mono HBELa.out.size)); have k2b := HB1b.out.cell 0; have f2b := HB1b.out.frozen 0; simp only [List.getElem?_toArray, List.getElem?_cons_zero, List.getElem?_cons_succ] at k2b; clear hb5)
      exact ⟨⟨j + 1, by simp, by omega, may_next HMAY.out (by rw [HXJ.out]; exact hm), HB0b.out, HB1b.out, HBELb.out⟩, by simp [intOf]; omega⟩
    · obtain rfl : j = n := by omega
      obtain ⟨k0, k1⟩ : _ ∧ _ := ⟨HB0.out.cell 0, HB0.out.cell 1⟩
      simp only [List.getElem?_toArray, List.getElem?_cons_zero, List.getElem?_cons_succ] at k0 k1
      have HB0a := Lib.hid (HB0.out.alloc (.cells (segC seg0).toArray 128))
      have HB1a := Lib.hid (HB1.out.alloc (.cells (segC seg0).toArray 128))
      have HBELa := Lib.hid (HBEL.out.alloc HBEL.out.size (.cells (segC seg0).toArray 128))
      have hRI := fun (hh : RowZ (wr.alloc (.cells (segC seg0).toArray 128)) (· < (wr.alloc (.cells (segC seg0).toArray 128)).heap.size) A j xs) => rising_any (cap := cap) hh hn16
      have HRI := Lib.hid (hRI ((HX.out.below HBELa.out (fun b h => h)).more (fun b h => Nat.lt_of_lt_of_le h HBELa.out.size)))
      have k1a : (wr.alloc (.cells #[.int .i64 0, .int .u64 0, .int .i64 0] 128)).cell? ⟨w.heap.size, 1, none⟩ = some (.slice A j cap) := HB0a.out.cell 1
      clear hRI
      gi_wp2_with (refine ⟨trivial, ?_⟩; gi_at_call 119; refine (callsIn_wide.2 HRI.out).mono ?_; rintro e w5 ⟨B, L, rfl, hsq, hperm, hri, hb5⟩)
      have hall := may_all (fun k hk => HMAY.out k (by rw [← HX.out.1]; exact hk))
      have HALL := Lib.hid hall
      have hL16 : L.length ≤ 16 := by rw [hperm.length_eq]; have := liveTo_length xs xs.length; rw [HX.out.1] at this; unfold live; rw [HX.out.1]; omega
      have hb1 := HB1a.out.below hb5 HB1a.out.lt
      have hb2 := (Blk.new wr 128 (segC seg0).toArray).below hb5 (by simp)
      have hB5 := HBELa.out.trans (hb5.mono HBELa.out.size)
      have hH5 : w.heap.size + 1 < wr.heap.size := HB1.out.lt
      have hs5 : wr.heap.size < w5.heap.size := hb2.lt
      have hn1 : (wr.alloc (.cells (segC seg0).toArray 128)).heap.size = wr.heap.size + 1 := by simp
      rw [hn1] at hsq
      refine wpIn_rangeFunc_ownH rfl (by omega) (gf := 156) (lb := #[.pointer (some ⟨B, 0, none⟩)]) rfl trivial (enters_of Tryz.func156 (by kernel_rfl) rfl)
        (rise_stops Fence.wide 4 trivial rfl (by omega) B (wr.heap.size + 1) w5.heap.size L hL16 w5 hsq rfl) keptK_t (keptK_b (Nat.le_refl _)) (Below.refl _ _) (fun _ => rfl)
        (fun pre W => ((Blk W (w.heap.size + 1) 49 #[.int .i64 0] ∧ Blk W wr.heap.size 128 (segC (lastOf seg0 pre)).toArray) ∧ flow seg0 pre = true) ∧ Below w.heap.size w W ∧ w5.heap.size ≤ W.heap.size)
        (fun c pre W => (Blk W (w.heap.size + 1) 49 #[.int .i64 180] ∧ c = .ret ∧ flow seg0 pre = false) ∧ Below w.heap.size w W)
        (OwnFrom.and (OwnFrom.and (OwnFrom.and (Own.from (blk_own _ _ _) _) (Own.from (blk_own _ _ _) _)) (ownFrom_pure _ _)) (OwnFrom.and (ownFrom_below (Nat.le_refl _) hB5.size) (own_size _)))
        (fun c => OwnFrom.and (OwnFrom.and (Own.from (blk_own _ _ _) _) (ownFrom_pure _ _)) (ownFrom_below (Nat.le_refl _) hB5.size))
        ⟨⟨⟨hb1, hb2⟩, rfl⟩, hB5, Nat.le_refl _⟩
        (fun x a' W => ∃ Bx, wr.heap.size < Bx ∧ Blk W Bx 128 (segC x.2).toArray ∧ a' = { tmps := #[.agg #[.int .i64 sec, .slice A j cap], .pointer (some ⟨w.heap.size, 0, none⟩), .pointer (some ⟨w.heap.size + 1, 0, none⟩), undef, u4, .pointer (some ⟨wr.heap.size, 0, none⟩), undef, .pointer (some ⟨Bx, 0, none⟩), .pointer (some ⟨w.heap.size, 1, none⟩), .slice A j cap, .int .i64 j, .pointer (some ⟨w.heap.size, 0, none⟩), .int .i64 sec, .bool true, .bool false, .pointer (some ⟨w.heap.size, 1, none⟩), .slice A j cap, .int .i64 j, .int .i64 j, .bool false, u20, u21, u22, u23, u24, u25, u26, u27, .pointer (some ⟨w.heap.size, 1, none⟩), .slice A j cap, .func (.func 156) #[] #[.pointer (some ⟨B, 0, none⟩)], .int .i64 x.1, .agg (segC x.2).toArray, undef, undef, undef, undef, undef, undef, undef, undef, undef, undef, undef], defers := [] })
        (fun x a' _ X Y row hs hg hr => by obtain ⟨Bx, h1, h2, h3⟩ := hs; exact ⟨Bx, h1, blk_own Bx _ (fun (_ : Unit) => _) () X Y row h2 hg (fun r e => (hr r e).2), h3⟩)
        ?assign ?body ?done ?stop
      case assign =>
        rintro l pre x W K ⟨⟨⟨h1, h2⟩, h3⟩, hB, hsz⟩ hK
        gi_wp2
        exact hK _ _ ((KeepsOthers.alloc _ _).from _) ((Kept.refl _ W).alloc (fun b hb => Nat.lt_of_lt_of_le hb.2 hsz) _) ⟨⟨⟨h1.alloc _, h2.alloc _⟩, h3⟩, hB.alloc hB.size _, Nat.le_trans hsz (by simp)⟩ ⟨W.heap.size, h2.lt, Blk.new W _ _, rfl⟩
      case body =>
        rintro l pre ⟨i, st, g, u⟩ a' W hl ⟨r, hr⟩ ⟨⟨⟨h1, h2⟩, h3⟩, hB, hsz⟩ ⟨Bx, hBx, bX, rfl⟩ hlt
        have hfs := flow_snoc (i, st, g, u) pre seg0
        have hls := lastOf_snoc (i, st, g, u) pre seg0
        rw [h3] at hfs
        obtain ⟨ast, ag, au, ha⟩ : ∃ ast ag au, lastOf seg0 pre = (ast, ag, au) := ⟨_, _, _, rfl⟩
        rw [ha] at hfs h2
        have HFS := Lib.hid hfs
        have HLS := Lib.hid hls
        have H1 := Lib.hid h1
        have H2 := Lib.hid h2
        have HBB := Lib.hid hB
        have f1 := H1.out.frozen 0
        have c1 : W.cell? ⟨w.heap.size + 1, 0, none⟩ = some (.int .i64 0) := H1.out.cell 0
        obtain ⟨a0, a1, a2⟩ : W.cell? ⟨wr.heap.size, 0, none⟩ = some (.int .i64 ast) ∧ W.cell? ⟨wr.heap.size, 1, none⟩ = some (.int .u64 ag) ∧ W.cell? ⟨wr.heap.size, 2, none⟩ = some (.int .i64 au) := ⟨H2.out.cell 0, H2.out.cell 1, H2.out.cell 2⟩
        obtain ⟨g0, g1, g2⟩ := And.intro (H2.out.frozen 0) (And.intro (H2.out.frozen 1) (H2.out.frozen 2))
        obtain ⟨b0, b1, b2⟩ : W.cell? ⟨Bx, 0, none⟩ = some (.int .i64 st) ∧ W.cell? ⟨Bx, 1, none⟩ = some (.int .u64 g) ∧ W.cell? ⟨Bx, 2, none⟩ = some (.int .i64 u) := ⟨bX.cell 0, bX.cell 1, bX.cell 2⟩
        clear hfs hls h1 h2 hB ha h3 bX
        have hneH : ∀ b, wr.heap.size + 1 ≤ b ∧ b < w5.heap.size → b ≠ wr.heap.size := fun b h => by omega
        have hneE : ∀ b, wr.heap.size + 1 ≤ b ∧ b < w5.heap.size → b ≠ w.heap.size + 1 := fun b h => by omega
        by_cases d1 : ast = 1
        · subst d1
          gi_wp2
          exact ⟨(KeepsOthers.setCell _ _ _).from _, ⟨H1.out.set_ 0 _, rfl, by rw [HFS.out]; rfl⟩, HBB.out.setCell (p := ⟨w.heap.size + 1, 0, none⟩) (by simp) _⟩
        · have e1 : (ast == 1) = false := by simpa using d1
          by_cases d2 : ag = g
          · subst d2
            gi_wp2
            exact ⟨(KeepsOthers.setCell _ _ _).from _, ⟨H1.out.set_ 0 _, rfl, by rw [HFS.out]; simp⟩, HBB.out.setCell (p := ⟨w.heap.size + 1, 0, none⟩) (by simp) _⟩
          · have e2 : (ag == g) = false := by simpa using d2
            gi_wp2
            have hle : w.heap.size ≤ wr.heap.size := by omega
            have hno : ∀ k, ¬ ((wr.heap.size + 1 ≤ (Addr.mk wr.heap.size k none).block) ∧ (Addr.mk wr.heap.size k none).block < w5.heap.size) := fun k h => hneH _ h rfl
            have hne : w.heap.size + 1 ≠ wr.heap.size := by omega
            refine ⟨(((KeepsOthers.setCell W _ _).trans (KeepsOthers.setCell _ _ _)).trans (KeepsOthers.setCell _ _ _)).from _, (((Kept.refl _ W).setCell (hno 0) _).setCell (hno 1) _).setCell (hno 2) _,
              ⟨⟨((H1.out.far (p := ⟨wr.heap.size, 0, none⟩) hne _).far (p := ⟨wr.heap.size, 1, none⟩) hne _).far (p := ⟨wr.heap.size, 2, none⟩) hne _, ?_⟩, by rw [HFS.out, e1, e2]; rfl⟩, ((HBB.out.setCell (p := ⟨wr.heap.size, 0, none⟩) hle _).setCell (p := ⟨wr.heap.size, 1, none⟩) hle _).setCell (p := ⟨wr.heap.size, 2, none⟩) hle _, by simpa [World.setCell] using hsz⟩
            rw [HLS.out]
            exact ((H2.out.set_ 0 _).set_ 1 _).set_ 2 _
      case done =>
        rintro D ys W hD rfl ⟨⟨⟨h1, h2⟩, h3⟩, hB, hsz⟩ hK
        have f1 := h1.frozen 0
        have c1 : W.cell? ⟨w.heap.size + 1, 0, none⟩ = some (.int .i64 0) := h1.cell 0
        gi_wp2
        have hK' := (KeepsOthers.setCell W ⟨w.heap.size + 1, 0, none⟩ (.int .i64 0)).same D _ hK rfl
        refine ⟨by simp, .inl ⟨_, _, rfl, run_takeDeferred hK', ?_⟩⟩
        have hc5 := cell_kept (World.cell?_setCell_same' W ⟨w.heap.size + 1, 0, none⟩ (.int .i64 0) (by rw [c1]; rfl)) (grownBy_putObj' _ D (.deferred none)) (fun r e => by cases e; exact ⟨_, hK', rfl⟩)
        refine ⟨.int .i64 0, ?_, .inr ⟨HALL.out, _, hperm, hri, by rw [h3]; rfl⟩, (hB.setCell (p := ⟨w.heap.size + 1, 0, none⟩) (by simp) _).trans (belowK_b (w := w) (Nat.le_refl _) _ D _ _ (Nat.le_trans hB5.size hD) hK' rfl rfl)⟩
        simp [results, Tryz.f81, go_sem, hc5]
      case stop =>
        rintro D c pre W hD ⟨k, hk, rfl⟩ ⟨⟨h1, rfl, h3⟩, hB⟩ hK
        have c1 : W.cell? ⟨w.heap.size + 1, 0, none⟩ = some (.int .i64 180) := h1.cell 0
        gi_wp2
        refine ⟨by simp, .inl ⟨_, _, rfl, run_takeDeferred hK, ?_⟩⟩
        have hc5 := cell_kept c1 (grownBy_putObj' _ D (.deferred none)) (fun r e => by cases e; exact ⟨_, hK, rfl⟩)
        have hfl : flow seg0 L = false := by
          have := flow_prefix (L.take k) (L.drop k) seg0 h3
          rwa [List.take_append_drop] at this
        refine ⟨.int .i64 180, ?_, .inr ⟨HALL.out, L, hperm, hri, by rw [hfl]; rfl⟩, hB.trans (belowK_b (w := w) (Nat.le_refl _) W D _ _ (Nat.le_trans hB5.size hD) hK rfl rfl)⟩
        simp [results, Tryz.f81, go_sem, hc5]
end Go.Proofs.YtodcohkblgjfeaaGreat

namespace Go.Proofs.YtodcohkblgjfeaaGreat
set_option maxRecDepth 100000
open Go.RowKit
set_option linter.unusedVariables false
set_option linter.unusedSimpArgs false
abbrev stG (xs : List Seg) (i : Nat) : Int := (xs.getD i seg0).1
abbrev genG (xs : List Seg) (i : Nat) : Int := (xs.getD i seg0).2.1
abbrev usedG (xs : List Seg) (i : Nat) : Int := (xs.getD i seg0).2.2
def Apart (xs : List Seg) : Prop := ∀ i, i < xs.length → ∀ j, j < xs.length → i ≠ j → (xs.getD i seg0).1 ≠ 0 → (xs.getD j seg0).1 ≠ 0 →
  (xs.getD i seg0).2.1 ≠ (xs.getD j seg0).2.1 ∧ ((xs.getD i seg0).1 = 1 → (xs.getD j seg0).2.1 < (xs.getD i seg0).2.1)
def OkR (sec : Int) (xs : List Seg) : Prop := SizedR xs.length sec ∧ (∀ s ∈ xs, MayG s sec) ∧ Apart xs
noncomputable instance (sec : Int) (xs : List Seg) : Decidable (OkR sec xs) := Classical.propDecidable _
def latTo (xs : List Seg) : Nat → Int
  | 0 => -1
  | j + 1 => if stG xs j ≠ 0 ∧ (latTo xs j < 0 ∨ genG xs (latTo xs j).toNat < genG xs j) then j else latTo xs j
def opnTo (xs : List Seg) : Nat → Int
  | 0 => -1
  | j + 1 => if 0 ≤ opnTo xs j then opnTo xs j else if stG xs j = 1 then j else -1
def oldTo (xs : List Seg) : Nat → Int
  | 0 => -1
  | j + 1 => if stG xs j = 2 ∧ (oldTo xs j < 0 ∨ genG xs j < genG xs (oldTo xs j).toNat) then j else oldTo xs j
def nxtTo (xs : List Seg) (a : Int) : Nat → Int
  | 0 => -1
  | k + 1 => if 0 ≤ nxtTo xs a k then nxtTo xs a k else if stG xs ((a + 1 + k).toNat % xs.length) = 0 then (((a + 1 + k).toNat % xs.length : Nat) : Int) else -1
def latR (xs : List Seg) : Int := latTo xs xs.length
def opnR (xs : List Seg) : Int := opnTo xs xs.length
def oldR (xs : List Seg) : Int := oldTo xs xs.length
def nxtR (xs : List Seg) : Int := nxtTo xs (latR xs) xs.length
theorem lat_spec (xs : List Seg) : ∀ j, (latTo xs j = -1 ∧ ∀ i, i < j → stG xs i = 0) ∨ ∃ i, i < j ∧ latTo xs j = (i : Nat) ∧ stG xs i ≠ 0 ∧ ∀ k, k < j → stG xs k ≠ 0 → genG xs k ≤ genG xs i
  | 0 => .inl ⟨rfl, fun i h => absurd h (by omega)⟩
  | j + 1 => by
    have ih := lat_spec xs j
    unfold latTo
    split
    case isTrue h =>
      obtain ⟨h1, h2⟩ := h
      refine .inr ⟨j, by omega, rfl, h1, fun k hk hs => ?_⟩
      rcases Nat.lt_or_ge k j with hlt | hge
      · rcases ih with ⟨e, hz⟩ | ⟨i, hi, e, hs', hm⟩
        · exact absurd (hz k hlt) hs
        · rw [e] at h2
          have := hm k hlt hs
          simp only [Int.toNat_natCast] at h2
          rcases h2 with h2 | h2 <;> omega
      · obtain rfl : k = j := by omega
        exact Int.le_refl _
    case isFalse h =>
      rcases ih with ⟨e, hz⟩ | ⟨i, hi, e, hs', hm⟩
      · refine .inl ⟨e, fun i hi => ?_⟩
        rcases Nat.lt_or_ge i j with hlt | hge
        · exact hz i hlt
        · obtain rfl : i = j := by omega
          rw [e] at h
          by_cases h0 : stG xs i = 0
          · exact h0
          · exact absurd ⟨h0, .inl (by omega)⟩ h
      · refine .inr ⟨i, by omega, e, hs', fun k hk hs => ?_⟩
        rcases Nat.lt_or_ge k j with hlt | hge
        · exact hm k hlt hs
        · obtain rfl : k = j := by omega
          rw [e] at h
          simp only [Int.toNat_natCast, not_and, not_or] at h
          have := (h hs).2
          omega
theorem opn_spec (xs : List Seg) : ∀ j, (opnTo xs j = -1 ∧ ∀ i, i < j → stG xs i ≠ 1) ∨ ∃ i, i < j ∧ opnTo xs j = (i : Nat) ∧ stG xs i = 1
  | 0 => .inl ⟨rfl, fun i h => absurd h (by omega)⟩
  | j + 1 => by
    have ih := opn_spec xs j
    unfold opnTo
    rcases ih with ⟨e, hz⟩ | ⟨i, hi, e, hs⟩
    · rw [e, if_neg (by omega)]
      by_cases h1 : stG xs j = 1
      · rw [if_pos h1]
        exact .inr ⟨j, by omega, rfl, h1⟩
      · rw [if_neg h1]
        refine .inl ⟨rfl, fun i hi => ?_⟩
        rcases Nat.lt_or_ge i j with hlt | hge
        · exact hz i hlt
        · obtain rfl : i = j := by omega
          exact h1
    · rw [e, if_pos (by omega)]
      exact .inr ⟨i, by omega, rfl, hs⟩
theorem old_spec (xs : List Seg) : ∀ j, (oldTo xs j = -1 ∧ ∀ i, i < j → stG xs i ≠ 2) ∨ ∃ i, i < j ∧ oldTo xs j = (i : Nat) ∧ stG xs i = 2 ∧ ∀ k, k < j → stG xs k = 2 → genG xs i ≤ genG xs k
  | 0 => .inl ⟨rfl, fun i h => absurd h (by omega)⟩
  | j + 1 => by
    have ih := old_spec xs j
    unfold oldTo
    split
    case isTrue h =>
      obtain ⟨h1, h2⟩ := h
      refine .inr ⟨j, by omega, rfl, h1, fun k hk hs => ?_⟩
      rcases Nat.lt_or_ge k j with hlt | hge
      · rcases ih with ⟨e, hz⟩ | ⟨i, hi, e, hs', hm⟩
        · exact absurd hs (hz k hlt)
        · rw [e] at h2
          have := hm k hlt hs
          simp only [Int.toNat_natCast] at h2
          rcases h2 with h2 | h2 <;> omega
      · obtain rfl : k = j := by omega
        exact Int.le_refl _
    case isFalse h =>
      rcases ih with ⟨e, hz⟩ | ⟨i, hi, e, hs', hm⟩
      · refine .inl ⟨e, fun i hi => ?_⟩
        rcases Nat.lt_or_ge i j with hlt | hge
        · exact hz i hlt
        · obtain rfl : i = j := by omega
          rw [e] at h
          exact fun h0 => h ⟨h0, .inl (by omega)⟩
      · refine .inr ⟨i, by omega, e, hs', fun k hk hs => ?_⟩
        rcases Nat.lt_or_ge k j with hlt | hge
        · exact hm k hlt hs
        · obtain rfl : k = j := by omega
          rw [e] at h
          simp only [Int.toNat_natCast, not_and, not_or] at h
          have := (h hs).2
          omega
theorem nxt_spec (xs : List Seg) (a : Int) : ∀ k, (nxtTo xs a k = -1 ∧ ∀ i, i < k → stG xs ((a + 1 + i).toNat % xs.length) ≠ 0) ∨
    ∃ i, i < k ∧ nxtTo xs a k = (((a + 1 + (i : Nat)).toNat % xs.length : Nat) : Int) ∧ stG xs ((a + 1 + i).toNat % xs.length) = 0 ∧ ∀ q, q < i → stG xs ((a + 1 + (q : Nat)).toNat % xs.length) ≠ 0
  | 0 => .inl ⟨rfl, fun i h => absurd h (by omega)⟩
  | k + 1 => by
    have ih := nxt_spec xs a k
    unfold nxtTo
    rcases ih with ⟨e, hz⟩ | ⟨i, hi, e, hs, hq⟩
    · rw [e, if_neg (by omega)]
      by_cases h1 : stG xs ((a + 1 + (k : Nat)).toNat % xs.length) = 0
      · rw [if_pos h1]
        exact .inr ⟨k, by omega, rfl, h1, hz⟩
      · rw [if_neg h1]
        refine .inl ⟨rfl, fun i hi => ?_⟩
        rcases Nat.lt_or_ge i k with hlt | hge
        · exact hz i hlt
        · obtain rfl : i = k := by omega
          exact h1
    · rw [e, if_pos (by omega)]
      exact .inr ⟨i, by omega, rfl, hs, hq⟩
theorem nxt_stay (xs : List Seg) (a : Int) {k : Nat} (h : 0 ≤ nxtTo xs a k) : ∀ d, nxtTo xs a (k + d) = nxtTo xs a k
  | 0 => rfl
  | d + 1 => by
    have ih := nxt_stay xs a h d
    show nxtTo xs a ((k + d) + 1) = _
    conv => lhs; unfold nxtTo
    rw [ih, if_pos h]
theorem opn_stay (xs : List Seg) {k : Nat} (h : 0 ≤ opnTo xs k) : ∀ d, opnTo xs (k + d) = opnTo xs k
  | 0 => rfl
  | d + 1 => by
    have ih := opn_stay xs h d
    show opnTo xs ((k + d) + 1) = _
    conv => lhs; unfold opnTo
    rw [ih, if_pos h]
theorem may_at {sec : Int} {xs : List Seg} (h : ∀ s ∈ xs, MayG s sec) {i : Nat} (hi : i < xs.length) : MayG (xs.getD i seg0) sec := h _ (by simp [List.getD, hi])
theorem may_live {s : Seg} {sec : Int} (h : MayG s sec) (h0 : s.1 ≠ 0) : (s.1 = 1 ∨ s.1 = 2) ∧ 0 < s.2.1 ∧ 1 ≤ s.2.2 ∧ s.2.2 ≤ sec := by
  unfold MayG at h
  rwa [if_neg h0] at h
theorem opn_lat {sec : Int} {xs : List Seg} (h : OkR sec xs) {i : Nat} (hi : i < xs.length) (h1 : stG xs i = 1) : latR xs = i := by
  rcases lat_spec xs xs.length with ⟨e, hz⟩ | ⟨m, hm, e, hs, hmax⟩
  · have := hz i hi
    omega
  · unfold latR
    rw [e]
    by_cases hne : i = m
    · rw [hne]
    · have h2 := (h.2.2 i hi m hm hne (by rw [show (xs.getD i seg0).1 = 1 from h1]; decide) hs).2 h1
      have h3 := hmax i hi (by omega)
      simp only [genG] at h3
      omega
theorem opn_or {sec : Int} {xs : List Seg} (h : OkR sec xs) : (opnR xs = -1 ∧ (∀ i, i < xs.length → stG xs i ≠ 1)) ∨ ∃ i, i < xs.length ∧ opnR xs = (i : Nat) ∧ latR xs = (i : Nat) ∧ stG xs i = 1 := by
  rcases opn_spec xs xs.length with h1 | ⟨i, hi, e, hs⟩
  · exact .inl h1
  · exact .inr ⟨i, hi, e, opn_lat h hi hs, hs⟩
theorem lat_or (xs : List Seg) : (latR xs = -1 ∧ ∀ i, i < xs.length → stG xs i = 0) ∨ ∃ i, i < xs.length ∧ latR xs = (i : Nat) ∧ stG xs i ≠ 0 ∧ ∀ k, k < xs.length → stG xs k ≠ 0 → genG xs k ≤ genG xs i := lat_spec xs xs.length
theorem old_or (xs : List Seg) : (oldR xs = -1 ∧ ∀ i, i < xs.length → stG xs i ≠ 2) ∨ ∃ i, i < xs.length ∧ oldR xs = (i : Nat) ∧ stG xs i = 2 ∧ ∀ k, k < xs.length → stG xs k = 2 → genG xs i ≤ genG xs k := old_spec xs xs.length
theorem nxt_or (xs : List Seg) : (nxtR xs = -1 ∧ ∀ i, i < xs.length → stG xs ((latR xs + 1 + i).toNat % xs.length) ≠ 0) ∨
    ∃ i, i < xs.length ∧ nxtR xs = (((latR xs + 1 + (i : Nat)).toNat % xs.length : Nat) : Int) ∧ stG xs ((latR xs + 1 + i).toNat % xs.length) = 0 ∧ ∀ q, q < i → stG xs ((latR xs + 1 + (q : Nat)).toNat % xs.length) ≠ 0 := nxt_spec xs _ xs.length
def topG (xs : List Seg) : Int := if latR xs < 0 then 0 else genG xs (latR xs).toNat
def leftR (sec : Int) (xs : List Seg) : Int := if 0 ≤ opnR xs then sec - usedG xs (opnR xs).toNat else 0
def freesTo (xs : List Seg) : Nat → Nat
  | 0 => 0
  | j + 1 => freesTo xs j + (if stG xs j = 0 then 1 else 0)
def freesR (xs : List Seg) : Nat := freesTo xs xs.length
theorem frees_live (xs : List Seg) : ∀ j, freesTo xs j + (liveTo xs j).length = j
  | 0 => rfl
  | j + 1 => by
    have ih := frees_live xs j
    unfold freesTo liveTo
    by_cases h : stG xs j = 0
    · rw [if_pos h, if_pos h]; simp; omega
    · rw [if_neg h, if_neg h]; simp; omega
noncomputable def openE (sec : Int) (xs : List Seg) (g : Int) : Int := if ¬ OkR sec xs then 180 else if 0 ≤ opnR xs then 181 else if g ≤ topG xs then 2 else if nxtR xs < 0 then 6 else 0
noncomputable def useE (sec : Int) (xs : List Seg) (n : Int) : Int := if ¬ OkR sec xs then 180 else if opnR xs < 0 then 181 else if n < 0 then 2 else if leftR sec xs < n then 6 else 0
noncomputable def sealE (sec : Int) (xs : List Seg) : Int := if ¬ OkR sec xs then 180 else if opnR xs < 0 then 181 else 0
noncomputable def freeE (sec : Int) (xs : List Seg) (i : Int) : Int := if ¬ OkR sec xs then 180 else if i < 0 ∨ (xs.length : Int) ≤ i then 2 else if stG xs i.toNat ≠ 2 then 181 else 0
def openX (xs : List Seg) (g : Int) : List Seg := xs.set (nxtR xs).toNat (1, g, 1)
def useX (xs : List Seg) (n : Int) : List Seg := xs.set (opnR xs).toNat (stG xs (opnR xs).toNat, genG xs (opnR xs).toNat, usedG xs (opnR xs).toNat + n)
def sealX (xs : List Seg) : List Seg := xs.set (opnR xs).toNat (2, genG xs (opnR xs).toNat, usedG xs (opnR xs).toNat)
def freeX (xs : List Seg) (i : Int) : List Seg := xs.set i.toNat seg0
end Go.Proofs.YtodcohkblgjfeaaGreat

namespace Go.Proofs.YtodcohkblgjfeaaGreat
set_option maxRecDepth 100000
open Go.RowKit Go.Shelf
attribute [local go_sem] Oper.semAt_some
set_option linter.unusedVariables false
theorem flow_at : ∀ (L : List Num) (a : Seg), flow a L = true ↔ ∀ k, k < L.length → (if k = 0 then a else (L.getD (k - 1) num0).2).1 ≠ 1 ∧ (if k = 0 then a else (L.getD (k - 1) num0).2).2.1 ≠ (L.getD k num0).2.2.1
  | [], a => ⟨fun _ k h => absurd h (by simp), fun _ => rfl⟩
  | x :: r, a => by
    have ih := flow_at r x.2
    simp only [flow, Bool.and_eq_true, ih, Bool.not_eq_true', Bool.or_eq_false_iff, beq_eq_false_iff_ne]
    constructor
    · rintro ⟨h1, h2⟩ k hk
      match k with
      | 0 => exact h1
      | 1 => exact h2 0 (by simpa using hk)
      | k + 2 => exact h2 (k + 1) (by simp at hk; omega)
    · intro h
      refine ⟨h 0 (by simp), fun k hk => ?_⟩
      match k with
      | 0 => exact h 1 (by simpa using hk)
      | k + 1 => exact h (k + 2) (by simp; omega)
theorem liveTo_fst (xs : List Seg) : ∀ j, ((liveTo xs j).map (·.1)).Nodup
  | 0 => List.nodup_nil
  | j + 1 => by
    unfold liveTo
    split
    · simpa using liveTo_fst xs j
    · rw [List.map_append, List.nodup_append]
      refine ⟨liveTo_fst xs j, by simp, ?_⟩
      intro a ha b hb
      simp only [List.map_cons, List.map_nil, List.mem_singleton] at hb
      obtain ⟨x, hx, rfl⟩ := List.mem_map.1 ha
      have := ((mem_liveTo xs x j).1 hx).1
      omega
theorem seg_mem {xs : List Seg} {i : Nat} (h : i < xs.length) : xs.getD i seg0 ∈ xs := by
  simp [List.getD, h]
theorem getD_mem {L : List Num} {k : Nat} (h : k < L.length) : L.getD k num0 ∈ L := by
  simp [List.getD, h]
theorem mem_getD {L : List Num} {x : Num} (h : x ∈ L) : ∃ k, k < L.length ∧ L.getD k num0 = x := by
  obtain ⟨k, hk, rfl⟩ := List.getElem_of_mem h
  exact ⟨k, hk, by simp [List.getD, hk]⟩
section
variable {xs : List Seg} {L : List Num} (hp : L.Perm (live xs)) (hr : Rises L)
include hp
theorem live_at {k : Nat} (hk : k < L.length) : (L.getD k num0).1 < xs.length ∧ (L.getD k num0).2 = xs.getD (L.getD k num0).1 seg0 ∧ (L.getD k num0).2.1 ≠ 0 := mem_live.1 (hp.mem_iff.1 (getD_mem hk))
theorem at_live {i : Nat} (hi : i < xs.length) (h0 : (xs.getD i seg0).1 ≠ 0) : ∃ k, k < L.length ∧ L.getD k num0 = (i, xs.getD i seg0) := mem_getD (hp.mem_iff.2 (mem_live.2 ⟨hi, rfl, h0⟩))
theorem fst_apart {p q : Nat} (hlt : p < q) (hq : q < L.length) : (L.getD p num0).1 ≠ (L.getD q num0).1 := by
  have hn : (L.map (·.1)).Nodup := (hp.map (·.1)).nodup_iff.2 (liveTo_fst xs xs.length)
  rw [List.nodup_iff_pairwise_ne, List.pairwise_iff_getElem] at hn
  have h := hn p q (by simp; omega) (by simpa using hq) hlt
  simpa [List.getD, hq, show p < L.length by omega] using h
theorem flow_apart (hr : Rises L) {sec : Int} (hall : ∀ s ∈ xs, MayG s sec) : flow seg0 L = true ↔ Apart xs := by
  have gpos : ∀ k, k < L.length → 0 < (L.getD k num0).2.2.1 := fun k hk => by
    obtain ⟨h1, h2, h3⟩ := live_at hp hk
    have hm := hall (xs.getD (L.getD k num0).1 seg0) (seg_mem h1)
    rw [← h2] at hm
    unfold MayG at hm
    rw [if_neg h3] at hm
    exact hm.2.1
  rw [flow_at]
  constructor
  · intro h
    have strict : ∀ d p, p + d + 1 < L.length → (L.getD p num0).2.2.1 < (L.getD (p + d + 1) num0).2.2.1 := fun d p hq => by
      have h1 := h (p + d + 1) hq
      simp only [Nat.add_sub_cancel, show ¬ (p + d + 1 = 0) by omega, if_false] at h1
      have h2 := hr (p + d) (p + d + 1) (by omega) hq
      have h3 : (L.getD p num0).2.2.1 ≤ (L.getD (p + d) num0).2.2.1 := by
        rcases Nat.eq_zero_or_pos d with rfl | hd
        · exact Int.le_refl _
        · exact hr p (p + d) (by omega) (by omega)
      have := h1.2
      omega
    have noopen : ∀ p, p + 1 < L.length → (L.getD p num0).2.1 ≠ 1 := fun p hp1 => by
      have h1 := h (p + 1) hp1
      simp only [Nat.add_sub_cancel, show ¬ (p + 1 = 0) by omega, if_false] at h1
      exact h1.1
    intro i hi j hj hij li lj
    obtain ⟨p, hp1, ep⟩ := at_live hp hi li
    obtain ⟨q, hq1, eq⟩ := at_live hp hj lj
    have hpq : p ≠ q := by
      rintro rfl
      rw [ep] at eq
      exact hij (by injection eq)
    rcases Nat.lt_or_gt_of_ne hpq with hlt | hgt
    · obtain ⟨d, rfl⟩ : ∃ d, q = p + d + 1 := ⟨q - p - 1, by omega⟩
      have h1 := strict d p hq1
      have h2 := noopen p (by omega)
      rw [ep] at h1 h2
      rw [eq] at h1
      exact ⟨by simp only [] at h1; omega, fun ho => absurd ho h2⟩
    · obtain ⟨d, rfl⟩ : ∃ d, p = q + d + 1 := ⟨p - q - 1, by omega⟩
      have h1 := strict d q hp1
      rw [ep, eq] at h1
      exact ⟨by simp only [] at h1; omega, fun _ => h1⟩
  · intro h k hk
    by_cases h0 : k = 0
    · subst h0
      have := gpos 0 hk
      simp only [if_true]
      exact ⟨by simp, by show (0 : Int) ≠ _; omega⟩
    · simp only [h0, if_false]
      have hk1 : k - 1 < L.length := by omega
      obtain ⟨a1, a2, a3⟩ := live_at hp hk1
      obtain ⟨b1, b2, b3⟩ := live_at hp hk
      have hne := fst_apart hp (show k - 1 < k by omega) hk
      have h1 := h _ a1 _ b1 hne (by rw [← a2]; exact a3) (by rw [← b2]; exact b3)
      rw [← a2, ← b2] at h1
      have h2 := hr (k - 1) k (by omega) hk
      exact ⟨fun ho => by have := h1.2 ho; omega, h1.1⟩
end
set_option maxRecDepth 100000 in
set_option maxHeartbeats 2000000 in
theorem check_bad {w : World} {A : Option Addr} {n cap : Nat} (sec : Int) (hsz : ¬ SizedR n sec) :
    Calls Tryz.prog 81 #[.agg #[.int .i64 sec, .slice A n cap]] w fun e w' => e = .returned (.int .i64 180) ∧ Below w.heap.size w w' := by
  have hd : decide (SizedR (n : Int) sec) = false := decide_eq_false hsz
  have HSI := Lib.hid (fun (W : World) => by have h := sized_any n sec W; rw [hd] at h; exact h)
  have HB := Lib.hid (((Below.refl w.heap.size w).alloc (Nat.le_refl _) (.cells #[.int .i64 sec, .slice A n cap] 35)).alloc (by simp) (.cells #[.int .i64 0] 49))
  have HE := Lib.hid (blk_new2 w (.cells #[.int .i64 sec, .slice A n cap] 35) 49 #[.int .i64 0])
  clear hsz hd
  refine (callsIn_wide (n := 5)).1 ?_
  refine callsIn_of_wp_marks Tryz.func81 rfl trivial ?_ rfl
  simp only [Tryz.ntmps81, List.size_toArray, List.length_cons, List.length_nil, Nat.reduceAdd, Nat.reduceSub, Array.replicate_succ, Array.replicate_zero, List.push_toArray, List.append_toArray, List.nil_append, List.cons_append]
  gi_wp2_with (refine ⟨trivial, ?_⟩; gi_at_call 96; refine (callsIn_wide.2 (HSI.out _)).mono ?_; rintro e w' ⟨rfl, rfl⟩)
  refine ⟨.int .i64 180, ?_, rfl, ((Below.refl w.heap.size w).alloc (Nat.le_refl _) _).alloc (by simp) _⟩
  have hc : ((w.alloc (.cells #[.int .i64 sec, .slice A n cap] 35)).alloc (.cells #[.int .i64 180] 49)).cell? ⟨w.heap.size + 1, 0, none⟩ = some (.int .i64 180) := (blk_new2 w (.cells #[.int .i64 sec, .slice A n cap] 35) 49 #[.int .i64 180]).cell 0
  simp [results, Tryz.f81, go_sem, hc]
theorem check_any {w : World} {A : Option Addr} {n cap : Nat} {xs : List Seg} (h : RowZ w (· < w.heap.size) A n xs) (sec : Int) :
    Calls Tryz.prog 81 #[.agg #[.int .i64 sec, .slice A n cap]] w fun e w' => e = .returned (.int .i64 (if OkR sec xs then 0 else 180)) ∧ Below w.heap.size w w' := by
  by_cases hs : SizedR n sec
  · refine (check_walk h sec hs).mono ?_
    rintro e w' ⟨⟨⟨s, hs1, hs2⟩, rfl⟩ | ⟨hall, L, hp, hr, rfl⟩, hb⟩
    · rw [if_neg (fun hk => hs2 (hk.2.1 s hs1))]
      exact ⟨rfl, hb⟩
    · refine ⟨?_, hb⟩
      have e : flow seg0 L = true ↔ OkR sec xs := by
        rw [flow_apart hp hr hall]
        exact ⟨fun ha => ⟨by rw [h.1]; exact hs, hall, ha⟩, fun h => h.2.2⟩
      by_cases ho : OkR sec xs
      · rw [if_pos ho, if_pos (e.2 ho)]
      · rw [if_neg ho, if_neg (fun h => ho (e.1 h))]
  · refine (check_bad sec hs).mono ?_
    rintro e w' ⟨rfl, hb⟩
    rw [if_neg (fun hk => hs (by have := hk.1; rw [h.1] at this; exact this))]
    exact ⟨rfl, hb⟩
end Go.Proofs.YtodcohkblgjfeaaGreat

namespace Go.Proofs.YtodcohkblgjfeaaGreat
set_option maxRecDepth 100000
open Go.RowKit Go.Shelf
attribute [local go_sem] Oper.semAt_some
set_option linter.unusedVariables false
def atOf (a : Int) : List Num → Int
  | [] => a
  | x :: r => atOf x.1 r
theorem atOf_snoc (x : Num) : ∀ (pre : List Num) (a : Int), atOf a (pre ++ [x]) = x.1
  | [], _ => rfl
  | y :: pre, _ => atOf_snoc x pre y.1
theorem results_rowU {P : Program} {fn : Func} {p u : Tmp} {ty : TypeId} (h : fn.results = #[.tmp u, .cell p ty]) (tmps : Array Value) (w : World) (g : Nat) (t : TypeId) (cs : Array Value) (d : TypeDesc) (hp : tmps.getD p undef = .pointer (some ⟨g, 0, none⟩))
    (hg : Blk w g t cs) (hu : P.underlying ty = some d) (hd : (match d with | .struct _ | .array _ _ => true | _ => false) = true) (hi : (P.info? ty).map (·.size) = some cs.size) :
    (results fn tmps).run P w = .ok (.tuple #[tmps.getD u undef, .agg cs]) w := by
  have hp' : tmps[p]?.getD undef = .pointer (some ⟨g, 0, none⟩) := by simpa using hp
  have := run_loadVar_row (P := P) w g t ty cs (0, 0) d hg hu hd hi
  simp [results, h, hp', asAddr, this]
theorem keeps_of {W W' : World} {a b : Nat} {t t' : TypeId} {cs cs' : Array Value} (h : Kept (fun k => k ≠ a ∧ k ≠ b) W W') (ha : Blk W a t cs) (hb : Blk W b t' cs') : KeepsOthers W W' :=
  ⟨h.size, fun k o hk ho => by
    refine (h.block k ⟨?_, ?_⟩).trans hk
    · rintro rfl
      rw [show W.heap[k]? = _ from ha] at hk
      cases hk
      cases ho
    · rintro rfl
      rw [show W.heap[k]? = _ from hb] at hk
      cases hk
      cases ho⟩
set_option maxRecDepth 100000 in
set_option maxHeartbeats 2000000 in
theorem latest_any {w : World} {A : Option Addr} {n cap : Nat} {xs : List Seg} (h : RowZ w (· < w.heap.size) A n xs) (sec : Int) (hn : n ≤ 16) :
    Calls Tryz.prog 131 #[.agg #[.int .i64 sec, .slice A n cap]] w fun e w' => (∃ L, L.Perm (live xs) ∧ Rises L ∧ e = .returned (.tuple #[.int .i64 (atOf (-1) L), .agg (segC (lastOf seg0 L)).toArray])) ∧ Below w.heap.size w w' := by
  have HX := Lib.hid h
  have HN := Lib.hid hn
  clear h hn
  obtain ⟨w4, hw4⟩ : ∃ w4, w4 = ((((w.alloc (.cells #[.int .i64 sec, .slice A n cap] 35)).alloc (.cells #[.int .i64 0, .int .u64 0, .int .i64 0] 128)).alloc (.cells #[.int .i64 (-1)] 3)).alloc (.cells #[.int .i64 0, .int .u64 0, .int .i64 0] 128)) := ⟨_, rfl⟩
  have HW4 := Lib.hid hw4
  have hB4 : Below w.heap.size w w4 := by rw [hw4]; exact ((((Below.refl _ w).alloc (Nat.le_refl _) _).alloc (by simp) _).alloc (by simp; omega) _).alloc (by simp; omega) _
  have HB4 := Lib.hid hB4
  have hs4 : w4.heap.size = w.heap.size + 4 := by rw [hw4]; simp
  have HS4 := Lib.hid hs4
  have HK1 := Lib.hid (show Blk w4 (w.heap.size + 1) 128 (segC seg0).toArray by rw [hw4]; exact ((blk_new2 w _ _ _).alloc _).alloc _)
  have HK2 := Lib.hid (show Blk w4 (w.heap.size + 1 + 1) 3 #[.int .i64 (-1)] by rw [hw4]; have h := (Blk.new ((w.alloc (.cells #[.int .i64 sec, .slice A n cap] 35)).alloc (.cells #[.int .i64 0, .int .u64 0, .int .i64 0] 128)) 3 #[.int .i64 (-1)]).alloc (.cells #[.int .i64 0, .int .u64 0, .int .i64 0] 128); simpa using h)
  have HK3 := Lib.hid (show Blk w4 (w.heap.size + 1 + 1 + 1) 128 (segC seg0).toArray by rw [hw4]; have h := Blk.new (((w.alloc (.cells #[.int .i64 sec, .slice A n cap] 35)).alloc (.cells #[.int .i64 0, .int .u64 0, .int .i64 0] 128)).alloc (.cells #[.int .i64 (-1)] 3)) 128 (segC seg0).toArray; simpa using h)
  have HRI := Lib.hid (rising_any (w := w4) (cap := cap) ((HX.out.below hB4 (fun b h => h)).more (fun b h => Nat.lt_of_lt_of_le h hB4.size)) HN.out)
  rw [hw4] at HRI
  clear hw4 hB4 hs4
  refine (callsIn_wide (n := 5)).1 ?_
  refine callsIn_of_wp_marks Tryz.func131 rfl trivial ?_ rfl
  simp only [Tryz.ntmps131, List.size_toArray, List.length_cons, List.length_nil, Nat.reduceAdd, Nat.reduceSub, Array.replicate_succ, Array.replicate_zero, List.push_toArray, List.append_toArray, List.nil_append, List.cons_append]
  gi_wp2_with (refine ⟨trivial, ?_⟩; gi_at_call 119; refine (callsIn_wide.2 HRI.out).mono ?_; rintro e w5 ⟨B, L, rfl, hsq, hperm, hri, hb5⟩)
  rw [← HW4.out] at hsq hb5
  have hL16 : L.length ≤ 16 := by have hn := HN.out; rw [hperm.length_eq]; have := liveTo_length xs xs.length; rw [HX.out.1] at this; unfold live; rw [HX.out.1]; omega
  have hb1 := HK1.out.below hb5 HK1.out.lt
  have hb2 := HK2.out.below hb5 HK2.out.lt
  have hb3 := HK3.out.below hb5 HK3.out.lt
  have hB5 := HB4.out.trans (hb5.mono HB4.out.size)
  have hs4 := HS4.out
  have hs5 := hb5.size
  refine wpIn_rangeFunc_ownH rfl (by omega) (gf := 156) (lb := #[.pointer (some ⟨B, 0, none⟩)]) rfl trivial (enters_of Tryz.func156 (by kernel_rfl) rfl)
    (rise_stops Fence.wide 4 trivial rfl (by omega) B w4.heap.size w5.heap.size L hL16 w5 hsq rfl) keptK_t (keptK_b (Nat.le_refl _)) (Below.refl _ _) (fun _ => rfl)
    (fun pre W => ((Blk W (w.heap.size + 1) 128 (segC seg0).toArray ∧ Blk W (w.heap.size + 1 + 1) 3 #[.int .i64 (atOf (-1) pre)]) ∧ Blk W (w.heap.size + 1 + 1 + 1) 128 (segC (lastOf seg0 pre)).toArray) ∧ Below w.heap.size w W ∧ w5.heap.size ≤ W.heap.size)
    (fun _ _ _ => False)
    (OwnFrom.and (OwnFrom.and (OwnFrom.and (Own.from (blk_own _ _ _) _) (Own.from (blk_own _ _ _) _)) (Own.from (blk_own _ _ _) _)) (OwnFrom.and (ownFrom_below (Nat.le_refl _) hB5.size) (own_size _)))
    (fun _ _ _ _ _ hs _ _ => hs)
    ⟨⟨⟨hb1, hb2⟩, hb3⟩, hB5, Nat.le_refl _⟩
    (fun x a' W => ∃ Bx, w4.heap.size ≤ Bx ∧ Blk W Bx 128 (segC x.2).toArray ∧ a' = { tmps := #[.agg #[.int .i64 sec, .slice A n cap], .pointer (some ⟨w.heap.size, 0, none⟩), .int .i64 0, .pointer (some ⟨w.heap.size + 1, 0, none⟩), .pointer (some ⟨w.heap.size + 1 + 1, 0, none⟩), .pointer (some ⟨w.heap.size + 1 + 1 + 1, 0, none⟩), .int .i64 x.1, .pointer (some ⟨Bx, 0, none⟩), .agg #[.int .i64 0, .int .u64 0, .int .i64 0], .pointer (some ⟨w.heap.size, 1, none⟩), .slice A n cap, .func (.func 156) #[] #[.pointer (some ⟨B, 0, none⟩)], .int .i64 x.1, .agg (segC x.2).toArray, undef, undef, undef, undef], defers := [] })
    (fun x a' _ X Y row hs hg hr => by obtain ⟨Bx, h1, h2, h3⟩ := hs; exact ⟨Bx, h1, blk_own Bx _ (fun (_ : Unit) => _) () X Y row h2 hg (fun r e => (hr r e).2), h3⟩)
    ?assign ?body ?done ?stop
  case assign =>
    rintro l pre x W K ⟨⟨⟨h1, h2⟩, h3⟩, hB, hsz⟩ hK
    gi_wp2
    exact hK _ _ ((KeepsOthers.alloc _ _).from _) ((Kept.refl _ W).alloc (fun b hb => Nat.lt_of_lt_of_le hb.2 hsz) _) ⟨⟨⟨h1.alloc _, h2.alloc _⟩, h3.alloc _⟩, hB.alloc hB.size _, Nat.le_trans hsz (by simp)⟩ ⟨W.heap.size, Nat.le_trans hs5 hsz, Blk.new W _ _, rfl⟩
  case body =>
    rintro l pre ⟨i, st, g, u⟩ a' W hl ⟨r, hr⟩ ⟨⟨⟨h1, h2⟩, h3⟩, hB, hsz⟩ ⟨Bx, hBx, bX, rfl⟩ hlt
    have hls := lastOf_snoc (i, st, g, u) pre seg0
    have has := atOf_snoc (i, st, g, u) pre (-1)
    obtain ⟨ast, ag, au, ha⟩ : ∃ ast ag au, lastOf seg0 pre = (ast, ag, au) := ⟨_, _, _, rfl⟩
    rw [ha] at h3
    generalize atOf (-1) pre = aat at h2
    have HLS := Lib.hid hls
    have HAS := Lib.hid has
    have H1 := Lib.hid h1
    have H2 := Lib.hid h2
    have H3 := Lib.hid h3
    have HBB := Lib.hid hB
    have c2 : W.cell? ⟨w.heap.size + 1 + 1, 0, none⟩ = some (.int .i64 aat) := H2.out.cell 0
    have f2 := H2.out.frozen 0
    obtain ⟨a0, a1, a2⟩ : W.cell? ⟨w.heap.size + 1 + 1 + 1, 0, none⟩ = some (.int .i64 ast) ∧ W.cell? ⟨w.heap.size + 1 + 1 + 1, 1, none⟩ = some (.int .u64 ag) ∧ W.cell? ⟨w.heap.size + 1 + 1 + 1, 2, none⟩ = some (.int .i64 au) := ⟨H3.out.cell 0, H3.out.cell 1, H3.out.cell 2⟩
    obtain ⟨g0, g1, g2⟩ := And.intro (H3.out.frozen 0) (And.intro (H3.out.frozen 1) (H3.out.frozen 2))
    obtain ⟨b0, b1, b2⟩ : W.cell? ⟨Bx, 0, none⟩ = some (.int .i64 st) ∧ W.cell? ⟨Bx, 1, none⟩ = some (.int .u64 g) ∧ W.cell? ⟨Bx, 2, none⟩ = some (.int .i64 u) := ⟨bX.cell 0, bX.cell 1, bX.cell 2⟩
    have n1 : Bx ≠ w.heap.size + 1 + 1 := by omega
    have n2 : Bx ≠ w.heap.size + 1 + 1 + 1 := by omega
    clear hls has h1 h2 h3 hB ha bX
    gi_wp2
    have mixed : Tryz.prog.follows Departure.mixedOrders = true := by kernel_rfl
    gi_region_with_o (fail)
    all_goals gi_wp2
    all_goals (try go_bits)
    all_goals
      have e3 : w.heap.size + 1 ≠ w.heap.size + 1 + 1 := by omega
      have e4 : w.heap.size + 1 ≠ w.heap.size + 1 + 1 + 1 := by omega
      have e5 : w.heap.size + 1 + 1 ≠ w.heap.size + 1 + 1 + 1 := by omega
      have hA := HAS.out
      have hL := HLS.out
      refine ⟨(((((KeepsOthers.setCell W _ _).trans (KeepsOthers.setCell _ _ _)).trans (KeepsOthers.setCell _ _ _)).trans (KeepsOthers.setCell _ _ _)).trans (KeepsOthers.drew _)).from _,
        (((((Kept.refl _ W).setCell (p := ⟨w.heap.size + 1 + 1, 0, none⟩) (fun h => by have := h.1; simp only [] at this; omega) _).setCell (p := ⟨w.heap.size + 1 + 1 + 1, 0, none⟩) (fun h => by have := h.1; simp only [] at this; omega) _).setCell (p := ⟨w.heap.size + 1 + 1 + 1, 1, none⟩) (fun h => by have := h.1; simp only [] at this; omega) _).setCell (p := ⟨w.heap.size + 1 + 1 + 1, 2, none⟩) (fun h => by have := h.1; simp only [] at this; omega) _).drew,
        ⟨⟨((((H1.out.far (p := ⟨w.heap.size + 1 + 1, 0, none⟩) e3 _).far (p := ⟨w.heap.size + 1 + 1 + 1, 0, none⟩) e4 _).far (p := ⟨w.heap.size + 1 + 1 + 1, 1, none⟩) e4 _).far (p := ⟨w.heap.size + 1 + 1 + 1, 2, none⟩) e4 _).drew, ?_⟩, ?_⟩,
        ((((HBB.out.setCell (p := ⟨w.heap.size + 1 + 1, 0, none⟩) (by simp only []; omega) _).setCell (p := ⟨w.heap.size + 1 + 1 + 1, 0, none⟩) (by simp only []; omega) _).setCell (p := ⟨w.heap.size + 1 + 1 + 1, 1, none⟩) (by simp only []; omega) _).setCell (p := ⟨w.heap.size + 1 + 1 + 1, 2, none⟩) (by simp only []; omega) _).drew, by simpa [World.setCell] using hsz⟩
      · rw [hA]
        exact ((((H2.out.set_ 0 _).far (p := ⟨w.heap.size + 1 + 1 + 1, 0, none⟩) e5 _).far (p := ⟨w.heap.size + 1 + 1 + 1, 1, none⟩) e5 _).far (p := ⟨w.heap.size + 1 + 1 + 1, 2, none⟩) e5 _).drew
      · rw [hL]
        exact ((((H3.out.far (p := ⟨w.heap.size + 1 + 1, 0, none⟩) e5.symm _).set_ 0 _).set_ 1 _).set_ 2 _).drew
  case done =>
    rintro D ys W hD rfl ⟨⟨⟨h1, h2⟩, h3⟩, hB, hsz⟩ hK
    obtain ⟨ast, ag, au, ha⟩ : ∃ ast ag au, lastOf seg0 ys = (ast, ag, au) := ⟨_, _, _, rfl⟩
    rw [ha] at h3
    have HA := Lib.hid ha
    obtain ⟨aat, hat⟩ : ∃ aat, atOf (-1) ys = aat := ⟨_, rfl⟩
    rw [hat] at h2
    have HAT := Lib.hid hat
    have H1 := Lib.hid h1
    have HBB := Lib.hid hB
    have c2 : W.cell? ⟨w.heap.size + 1 + 1, 0, none⟩ = some (.int .i64 aat) := h2.cell 0
    obtain ⟨a0, a1, a2⟩ : W.cell? ⟨w.heap.size + 1 + 1 + 1, 0, none⟩ = some (.int .i64 ast) ∧ W.cell? ⟨w.heap.size + 1 + 1 + 1, 1, none⟩ = some (.int .u64 ag) ∧ W.cell? ⟨w.heap.size + 1 + 1 + 1, 2, none⟩ = some (.int .i64 au) := ⟨h3.cell 0, h3.cell 1, h3.cell 2⟩
    obtain ⟨d0, d1, d2⟩ : W.cell? ⟨w.heap.size + 1, 0, none⟩ = some (.int .i64 0) ∧ W.cell? ⟨w.heap.size + 1, 1, none⟩ = some (.int .u64 0) ∧ W.cell? ⟨w.heap.size + 1, 2, none⟩ = some (.int .i64 0) := ⟨h1.cell 0, h1.cell 1, h1.cell 2⟩
    obtain ⟨g0, g1, g2⟩ := And.intro (H1.out.frozen 0) (And.intro (H1.out.frozen 1) (H1.out.frozen 2))
    have mixed : Tryz.prog.follows Departure.mixedOrders = true := by kernel_rfl
    clear h1 h2 h3 hB ha hat
    gi_wp2
    refine wpIn_mono (Q := NoPanic _) ?_ NoPanic.imp
    gi_region_with_o (fail)
    all_goals refine NoPanic.normal ?_
    all_goals gi_wp2
    all_goals (try go_bits)
    all_goals
      have hW : (((W.setCell ⟨w.heap.size + 1, 0, none⟩ (.int .i64 ast)).setCell ⟨w.heap.size + 1, 1, none⟩ (.int .u64 ag)).setCell ⟨w.heap.size + 1, 2, none⟩ (.int .i64 au)).drew.heap[D]? = some (.deferred (some [])) := ((((KeepsOthers.setCell W _ _).trans (KeepsOthers.setCell _ _ _)).trans (KeepsOthers.setCell _ _ _)).trans (KeepsOthers.drew _)).same D _ hK rfl
      have hF := (((HBB.out.setCell (p := ⟨w.heap.size + 1, 0, none⟩) (by simp) (.int .i64 ast)).setCell (p := ⟨w.heap.size + 1, 1, none⟩) (by simp) (.int .u64 ag)).setCell (p := ⟨w.heap.size + 1, 2, none⟩) (by simp) (.int .i64 au)).drew
      have hG := (((H1.out.set_ 0 (.int .i64 ast)).set_ 1 (.int .u64 ag)).set_ 2 (.int .i64 au)).drew
      refine ⟨by simp, .inl ⟨_, _, rfl, run_takeDeferred hW, ?_⟩⟩
      refine ⟨_, results_rowU (p := 3) (u := 2) rfl _ _ (w.heap.size + 1) 128 (segC (ast, ag, au)).toArray _ rfl ?_ Tryz.underlying128 rfl size_seg, ⟨_, hperm, hri, by rw [HA.out, HAT.out]; rfl⟩, hF.trans (belowK_b (w := w) (Nat.le_refl _) _ D _ _ (Nat.le_trans hB5.size hD) hW rfl rfl)⟩
      exact hG.grown (grownBy_putObj' _ D (.deferred none)) (fun e => by cases e; rw [show _ = _ from hG] at hW; cases hW)
  case stop =>
    rintro D c pre W _ _ h _
    exact h.elim
end Go.Proofs.YtodcohkblgjfeaaGreat

namespace Go.Proofs.YtodcohkblgjfeaaGreat
set_option maxRecDepth 100000
open Go.RowKit
set_option linter.unusedVariables false
set_option linter.unusedSimpArgs false
set_option linter.unusedSectionVars false
def lastR (xs : List Seg) : Seg := if latR xs < 0 then seg0 else xs.getD (latR xs).toNat seg0
theorem last_top (xs : List Seg) : (lastR xs).2.1 = topG xs := by
  unfold lastR topG
  split <;> rfl
theorem last_open {sec : Int} {xs : List Seg} (h : OkR sec xs) : (lastR xs).1 = 1 ↔ 0 ≤ opnR xs := by
  rcases opn_or h with ⟨e, hz⟩ | ⟨i, hi, e, el, hs⟩
  · rw [e]
    refine ⟨fun h1 => ?_, fun h => by omega⟩
    exfalso
    rcases lat_or xs with ⟨e2, _⟩ | ⟨m, hm, e2, _⟩
    · unfold lastR at h1; rw [e2, if_pos (by omega)] at h1; exact absurd h1 (by decide)
    · unfold lastR at h1; rw [e2, if_neg (by omega), Int.toNat_natCast] at h1; exact hz m hm h1
  · rw [e]
    refine ⟨fun _ => by omega, fun _ => ?_⟩
    unfold lastR
    rw [el, if_neg (by omega), Int.toNat_natCast]
    exact hs
section
variable {sec : Int} {xs : List Seg} {L : List Num} (hk : OkR sec xs) (hp : L.Perm (live xs)) (hr : Rises L)
include hk hp hr
theorem ord_last : atOf (-1) L = latR xs ∧ lastOf seg0 L = lastR xs := by
  rcases List.eq_nil_or_concat L with rfl | ⟨pre, x, rfl⟩
  · rcases lat_or xs with ⟨e, hz⟩ | ⟨i, hi, e, hs, hm⟩
    · unfold lastR
      rw [e, if_pos (by omega)]
      exact ⟨rfl, rfl⟩
    · obtain ⟨k, hk', _⟩ := at_live hp hi hs
      simp at hk'
  · rw [List.concat_eq_append] at *
    rw [atOf_snoc, lastOf_snoc]
    have hl : pre.length < (pre ++ [x]).length := by simp
    have hx : (pre ++ [x]).getD pre.length num0 = x := by simp [List.getD]
    obtain ⟨h1, h2, h3⟩ := live_at hp hl
    rw [hx] at h1 h2 h3
    rcases lat_or xs with ⟨e, hz⟩ | ⟨i, hi, e, hs, hm⟩
    · exact absurd (by have := hz x.1 h1; simp only [stG] at this; rw [← h2] at this; exact this) h3
    · have hxi : x.1 = i := by
        by_cases hne : x.1 = i
        · exact hne
        · obtain ⟨k, hk', ek⟩ := at_live hp hi hs
          have hle : ((pre ++ [x]).getD k num0).2.2.1 ≤ ((pre ++ [x]).getD pre.length num0).2.2.1 := by
            rcases Nat.lt_or_ge k pre.length with hlt | hge
            · exact hr k pre.length hlt hl
            · obtain rfl : k = pre.length := by simp at hk'; omega
              exact Int.le_refl _
          rw [ek, hx, h2] at hle
          have hge := hm x.1 h1 (by simp only [stG]; rw [← h2]; exact h3)
          have := (hk.2.2 x.1 h1 i hi hne (by rw [← h2]; exact h3) hs).1
          simp only [genG] at hge hle
          omega
      unfold lastR
      rw [e, if_neg (by omega), Int.toNat_natCast]
      exact ⟨by rw [hxi], by rw [h2, hxi]⟩
theorem ord_old {pre r : List Num} {x : Num} (hL : L = pre ++ x :: r) (hpre : ∀ y ∈ pre, y.2.1 ≠ 2) (hx : x.2.1 = 2) : oldR xs = x.1 := by
  have hlx : pre.length < L.length := by rw [hL]; simp
  have ex : L.getD pre.length num0 = x := by rw [hL]; simp [List.getD]
  obtain ⟨h1, h2, h3⟩ := live_at hp hlx
  rw [ex] at h1 h2 h3
  have hst : stG xs x.1 = 2 := by simp only [stG]; rw [← h2]; exact hx
  rcases old_or xs with ⟨e, hz⟩ | ⟨i, hi, e, hs, hm⟩
  · exact absurd hst (hz x.1 h1)
  · rw [e]
    by_cases hne : x.1 = i
    · rw [hne]
    · exfalso
      have hle := hm x.1 h1 hst
      have hap := (hk.2.2 x.1 h1 i hi hne (by rw [← h2]; exact h3) (by rw [show (xs.getD i seg0).1 = 2 from hs]; decide)).1
      obtain ⟨k, hk', ek⟩ := at_live hp hi (by rw [show (xs.getD i seg0).1 = 2 from hs]; decide)
      rcases Nat.lt_trichotomy k pre.length with hlt | heq | hgt
      · have hmem : L.getD k num0 ∈ pre := by
          have e : L.getD k num0 = pre.getD k num0 := by rw [hL]; simp [List.getD, List.getElem?_append_left hlt]
          rw [e]
          simp [List.getD, hlt]
        rw [ek] at hmem
        exact hpre _ hmem hs
      · rw [heq, ex] at ek
        exact hne (by rw [ek])
      · have := hr pre.length k hgt hk'
        rw [ek, ex, h2] at this
        simp only [genG] at hle this
        omega
theorem ord_old_none (hpre : ∀ y ∈ L, y.2.1 ≠ 2) : oldR xs = -1 := by
  rcases old_or xs with ⟨e, hz⟩ | ⟨i, hi, e, hs, hm⟩
  · exact e
  · obtain ⟨k, hk', ek⟩ := at_live hp hi (by rw [show (xs.getD i seg0).1 = 2 from hs]; decide)
    have := hpre _ (getD_mem hk')
    rw [ek] at this
    exact absurd hs this
end
theorem row_now {w W : World} {A : Option Addr} {n : Nat} {xs : List Seg} (h : RowZ w (· < w.heap.size) A n xs) (hb : Below w.heap.size w W) : RowZ W (· < W.heap.size) A n xs :=
  (h.below hb (fun _ h => h)).more (fun b h => Nat.lt_of_lt_of_le h hb.size)
theorem ok_n {sec : Int} {xs : List Seg} {n : Nat} (h : OkR sec xs) (hn : xs.length = n) : 4 ≤ n ∧ n ≤ 16 := by
  have := h.1
  unfold SizedR at this
  omega
theorem latest_ok {w : World} {A : Option Addr} {n cap : Nat} {xs : List Seg} (h : RowZ w (· < w.heap.size) A n xs) {sec : Int} (hk : OkR sec xs) :
    Calls Tryz.prog 131 #[.agg #[.int .i64 sec, .slice A n cap]] w fun e w' => e = .returned (.tuple #[.int .i64 (latR xs), .agg (segC (lastR xs)).toArray]) ∧ Below w.heap.size w w' := by
  refine (latest_any h sec (ok_n hk h.1).2).mono ?_
  rintro e w' ⟨⟨L, hp, hr, rfl⟩, hb⟩
  obtain ⟨e1, e2⟩ := ord_last hk hp hr
  rw [e1, e2]
  exact ⟨rfl, hb⟩
end Go.Proofs.YtodcohkblgjfeaaGreat
