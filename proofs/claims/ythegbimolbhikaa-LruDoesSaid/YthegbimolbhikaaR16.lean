/- The document's lists: Push, Touch, Remove. -/
import Derived.Test.YthegbimolbhikaaR15
namespace Go.Proofs.Ythegbimolbhikaa
open Go.RowKit
attribute [local go_sem] Oper.semAt_some
set_option linter.unusedVariables false
set_option linter.unusedSimpArgs false
set_option maxRecDepth 100000
theorem hasL_dec {xs : List (List Nat)} {n : Nat} (h : xs.length = n) (i : Int) : decide (0 ≤ i ∧ i < (n : Nat)) = decide (hasL xs i) := by
  subst h; rfl
/-- Both blocks of a call: the lists that came in, those that go out. -/
structure TwoL (w : World) (numbers : Nat) (A : Option Addr) (n c : Nat) (ds : List RowD) (xs : List (List Nat)) (W : World) : Prop where
  a : Blk W w.heap.size 31 #[.int .i64 (numbers : Nat), .slice A n c]
  b : Blk W (w.heap.size + 1) 31 #[.int .i64 0, .slice none 0 0]
  x : RefX W (· < W.heap.size) A n ds xs
  bel : Below w.heap.size w W
theorem TwoL.new {w : World} {numbers n c : Nat} {A : Option Addr} {ds : List RowD} {xs : List (List Nat)} (h : RefX w (· < w.heap.size) A n ds xs) : TwoL w numbers A n c ds xs ((w.alloc (.cells #[.int .i64 (numbers : Nat), .slice A n c] 31)).alloc (.cells #[.int .i64 0, .slice none 0 0] 31)) := by
  have hb := ((Below.refl w.heap.size w).alloc (Nat.le_refl _) (.cells #[.int .i64 (numbers : Nat), .slice A n c] 31)).alloc (by simp) (.cells #[.int .i64 0, .slice none 0 0] 31)
  have h2 := Blk.new (w.alloc (.cells #[.int .i64 (numbers : Nat), .slice A n c] 31)) 31 #[.int .i64 0, .slice none 0 0]
  exact ⟨(Blk.new w _ _).alloc _, by simpa using h2, h.size hb, hb⟩
theorem TwoL.next {w W V : World} {numbers n c : Nat} {A : Option Addr} {ds : List RowD} {xs : List (List Nat)} (h : TwoL w numbers A n c ds xs W) (hb : Below W.heap.size W V) : TwoL w numbers A n c ds xs V :=
  ⟨h.a.below hb h.a.lt, h.b.below hb h.b.lt, h.x.size hb, h.bel.trans (hb.mono h.bel.size)⟩
theorem TwoL.cells {w W : World} {numbers n c : Nat} {A : Option Addr} {ds : List RowD} {xs : List (List Nat)} (h : TwoL w numbers A n c ds xs W) : W.cell? ⟨w.heap.size, 0, none⟩ = some (.int .i64 (numbers : Nat)) ∧ W.cell? ⟨w.heap.size, 1, none⟩ = some (.slice A n c) ∧
    W.cell? ⟨w.heap.size + 1, 0, none⟩ = some (.int .i64 0) ∧ W.cell? ⟨w.heap.size + 1, 1, none⟩ = some (.slice none 0 0) ∧ W.frozen? ⟨w.heap.size + 1, 0, none⟩ = false ∧ W.frozen? ⟨w.heap.size + 1, 1, none⟩ = false :=
  ⟨h.a.cell 0, h.a.cell 1, h.b.cell 0, h.b.cell 1, h.b.frozen 0, h.b.frozen 1⟩
/-- What goes out is laid. -/
theorem TwoL.lay {w W : World} {numbers n c n' c' : Nat} {A A' : Option Addr} {ds ds' : List RowD} {xs xs' : List (List Nat)} (h : TwoL w numbers A n c ds xs W) (hx : RefX W (fun b => b < W.heap.size ∧ b ≠ w.heap.size + 1) A' n' ds' xs') :
    Blk ((W.setCell ⟨w.heap.size + 1, 0, none⟩ (.int .i64 (numbers : Nat))).setCell ⟨w.heap.size + 1, 1, none⟩ (.slice A' n' c')) (w.heap.size + 1) 31 #[.int .i64 (numbers : Nat), .slice A' n' c'] ∧
    RefX ((W.setCell ⟨w.heap.size + 1, 0, none⟩ (.int .i64 (numbers : Nat))).setCell ⟨w.heap.size + 1, 1, none⟩ (.slice A' n' c')) (· < ((W.setCell ⟨w.heap.size + 1, 0, none⟩ (.int .i64 (numbers : Nat))).setCell ⟨w.heap.size + 1, 1, none⟩ (.slice A' n' c')).heap.size) A' n' ds' xs' ∧
    Below w.heap.size w ((W.setCell ⟨w.heap.size + 1, 0, none⟩ (.int .i64 (numbers : Nat))).setCell ⟨w.heap.size + 1, 1, none⟩ (.slice A' n' c')) := by
  refine ⟨(h.b.set_ 0 (.int .i64 (numbers : Nat))).set_ 1 (.slice A' n' c'), ?_, (h.bel.setCell (p := ⟨w.heap.size + 1, 0, none⟩) (by simp) _).setCell (p := ⟨w.heap.size + 1, 1, none⟩) (by simp) _⟩
  have hk : ∀ p : Addr, (p.block < W.heap.size ∧ p.block ≠ w.heap.size + 1) → ((W.setCell ⟨w.heap.size + 1, 0, none⟩ (.int .i64 (numbers : Nat))).setCell ⟨w.heap.size + 1, 1, none⟩ (.slice A' n' c')).cell? p = W.cell? p := fun p hp =>
    World.cell?_of_block ((Below.heap_setCell _ ⟨w.heap.size + 1, 1, none⟩ _ p.block hp.2).trans (Below.heap_setCell _ ⟨w.heap.size + 1, 0, none⟩ _ p.block hp.2))
  exact (hx.keep hk).more fun b hb => by simpa [World.setCell] using hb.1
/-- The lists that came in lie elsewhere. -/
theorem TwoL.old {w W : World} {numbers n c : Nat} {A : Option Addr} {ds : List RowD} {xs : List (List Nat)} (h0 : RefX w (· < w.heap.size) A n ds xs) (h : TwoL w numbers A n c ds xs W) : RefX W (fun b => b < W.heap.size ∧ b ≠ w.heap.size + 1) A n ds xs :=
  (h0.below h.bel (fun b h => h)).more fun b hb => ⟨Nat.lt_of_lt_of_le hb h.bel.size, by omega⟩
end Go.Proofs.Ythegbimolbhikaa
