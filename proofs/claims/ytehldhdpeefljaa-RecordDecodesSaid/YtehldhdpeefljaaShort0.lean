/- The laws of layer 6: short. -/
import Derived.Test.YtehldhdpeefljaaEncode
import Derived.Test.YtehldhdpeefljaaRoom
import Derived.Test.YtehldhdpeefljaaCalm
import Derived.Deep.RegionHeld3
import Derived.Deep.DeepCutAuto
namespace Go.Proofs.Ytehldhdpeefljaa
open Go.RowKit
set_option linter.unusedVariables false

abbrev madeO : Obj := .cells (madeCells #[.int .u8 0] 600) 5
abbrev sevenO : Obj := .cells #[.int .u8 7] 5
theorem made_own (w : World) : (w.alloc (.cells (madeCells #[.int .u8 0] 600) 5)).ownsRow w.heap.size 5 1 (.slice (some ⟨w.heap.size, 0, none⟩) 0 600) 0 [] :=
  World.ownsRow_made w (madeCells #[.int .u8 0] 600) 600 (Nat.le_refl _) (by unfold maxLen; omega) (by simp [size_madeCells])
theorem made_own2 (w : World) (o : Obj) : ((w.alloc o).alloc (.cells (madeCells #[.int .u8 0] 600) 5)).ownsRow w.heap.size 5 1 (.slice (some ⟨w.heap.size + 1, 0, none⟩) 0 600) 0 [] := by
  have h := own_base (made_own (w.alloc o)) (base' := w.heap.size) (by simp)
  rw [show (w.alloc o).heap.size = w.heap.size + 1 by simp] at h
  exact h
theorem seven_row (w : World) : RowI .u8 (w.alloc (.cells #[.int .u8 7] 5)) (· = w.heap.size) (some ⟨w.heap.size, 0, none⟩) 1 [7] := row_new1 (Value.int .u8) 0 w 5 7
theorem seven_row2 (w : World) (o : Obj) : RowI .u8 ((w.alloc o).alloc (.cells #[.int .u8 7] 5)) (· = w.heap.size + 1) (some ⟨w.heap.size + 1, 0, none⟩) 1 [7] := by
  have h := seven_row (w.alloc o)
  rw [show (w.alloc o).heap.size = w.heap.size + 1 by simp] at h
  exact h
theorem grown_alloc (w : World) (o : Obj) : w.grownBy (w.alloc o) none := ⟨rfl, rfl, rfl, by simp, fun k hk _ => Below.heap_alloc _ _ _ hk⟩
theorem row_grown {W W' : World} {S : Nat → Prop} {A : Option Addr} {n : Nat} {xs : List Int} {row : Option Nat} (h : RowI .u8 W S A n xs) (hg : W.grownBy W' row) (hS : ∀ b, S b → b < W.heap.size ∧ some b ≠ row) : RowI .u8 W' S A n xs :=
  h.keep fun p hp => World.cell?_of_block (hg.block p.block (hS _ hp).1 (hS _ hp).2)

section
variable {P : Program} {w : World} {ops : Array Oper} {o : Oper} {a : Act} {Q : Exit → Act → World → Prop} {K : Act → World → Prop} {E : Prop}
/-- One operation of a region, by its run. -/
theorem step_by (hgd : Region.wanted o (yielded ops a.tmps) = true) (v : Value) (w' : World) (hrun : (execOp a.eval o).run P w = .ok (.value v) w') (h : K (a.put o.dst v) w') :
    if Region.wanted o (yielded ops a.tmps) = true then Oper.wp P o a w K Q else E := by
  rw [if_pos hgd]
  unfold Oper.wp
  rw [hrun]
  exact h

/-- 'make' of a row of 600. -/
theorem step_make (x y : Operand) (ho : o.op = .makeSlice 24 x y) (hgd : Region.wanted o (yielded ops a.tmps) = true) (hx : a.eval x = .int .i64 0) (hy : a.eval y = .int .i64 600)
    (hmk : ∀ u : World, (Instr.makeSlice 24 (.int .i64 0) (.int .i64 600)).run P u = .ok (.slice (some ⟨u.heap.size, 0, none⟩) 0 600) (u.alloc (.cells (madeCells #[.int .u8 0] 600) 5)))
    (base : Nat) (hb : base ≤ w.heap.size)
    (h : ∀ g0 w', (base ≤ g0 ∧ g0 < w'.heap.size) ∧ w.heap.size ≤ g0 → w'.ownsRow base 5 1 (.slice (some ⟨g0, 0, none⟩) 0 600) 0 [] → w.grownBy w' none → K (a.put o.dst (.slice (some ⟨g0, 0, none⟩) 0 600)) w') :
    if Region.wanted o (yielded ops a.tmps) = true then Oper.wp P o a w K Q else E := by
  refine step_by hgd (.slice (some ⟨w.heap.size, 0, none⟩) 0 600) (w.alloc (.cells (madeCells #[.int .u8 0] 600) 5)) ?_ (h _ _ ⟨⟨hb, by simp⟩, Nat.le_refl _⟩ (own_base (made_own w) hb) (grown_alloc w _))
  unfold execOp
  simp only [ho, hx, hy, hmk, Sem.run_bind, Result.andThen_ok, Sem.run_pure]

/-- '[]byte{7}'. -/
theorem step_seven {w : World} (ho : o.op = .buildSlice 24 1 #[(0, .const (.int .u8 7))]) (hgd : Region.wanted o (yielded ops a.tmps) = true) (base : Nat) (hb : base ≤ w.heap.size)
    (h : ∀ g9 w', g9 = w.heap.size ∧ g9 < w'.heap.size → RowI .u8 w' (fun b => b = g9) (some ⟨g9, 0, none⟩) 1 [7] → w.grownBy w' none → K (a.put o.dst (.slice (some ⟨g9, 0, none⟩) 1 1)) w') :
    if Region.wanted o (yielded ops a.tmps) = true then Oper.wp Try.prog o a w K Q else E := by
  refine step_by hgd (.slice (some ⟨w.heap.size, 0, none⟩) 1 1) (w.alloc (.cells #[.int .u8 7] 5)) ?_ (h _ _ ⟨rfl, by simp⟩ (seven_row w) (grown_alloc w _))
  unfold execOp
  simp [go_sem, ho, Act.eval]

end
theorem own_none {w w' : World} {base size n : Nat} {e : TypeId} {v : Value} {xs : List Value} (h : w.ownsRow base e size v n xs) (hg : w.grownBy w' none) : w'.ownsRow base e size v n xs := h.kept hg (by cases v.ownBlock <;> simp)
theorem room_setRow {w : World} {base g n cap : Nat} {xs : List Int} (h : Room w base g n cap xs) {q : Nat} (hq : q ≠ g) (cs : Array Value) : Room (w.setRow q cs) base g n cap xs :=
  ⟨h.1.kept (row := some q) ⟨rfl, rfl, rfl, by simp [World.setRow], fun k _ hne => setRow_other w q k cs (fun e => hne (by rw [e]))⟩ (.inr (by simp [Value.ownBlock]; exact fun e => hq e.symm)), h.2⟩
theorem room_set {w : World} {base g n cap : Nat} {xs : List Int} (h : Room w base g n cap xs) {p : Addr} (hp : p.block ≠ g) (u : Value) : Room (w.setCell p u) base g n cap xs :=
  ⟨ownsRow_setCell_other h.1 (by simp [Value.ownBlock]; exact fun e => hp e.symm) u, h.2⟩

end Go.Proofs.Ytehldhdpeefljaa
