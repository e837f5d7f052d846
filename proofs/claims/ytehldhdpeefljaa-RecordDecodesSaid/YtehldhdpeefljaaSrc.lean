/- Bytes that lie in memory from a place on, cut into parts. -/
import Derived.Test.YtehldhdpeefljaaRNum
import Derived.Test.YtehldhdpeefljaaBeNum
import Derived.Test.YtehldhdpeefljaaNeed
import Derived.Deep.RegionHeld3
import Derived.Deep.DeepCutAuto
namespace Go.Proofs.Ytehldhdpeefljaa
open Go.RowKit
set_option linter.unusedVariables false

/-- From place o0 of block b0 on there lie the n bytes xs. -/
structure Src (xs : List Int) (b0 o0 n : Nat) (w W : World) : Prop where
  cell : ∀ j, j < n → W.cell? ⟨b0, o0 + j, none⟩ = some (.int .u8 (xs.getD j 0))
  len : xs.length = n
  lt : b0 < w.heap.size
  bel : Below w.heap.size w W
section
variable {xs : List Int} {b0 o0 n : Nat} {w W W' : World}
theorem Src.drew (h : Src xs b0 o0 n w W) : Src xs b0 o0 n w W.drew := ⟨h.cell, h.len, h.lt, h.bel.drew⟩
theorem Src.below (h : Src xs b0 o0 n w W) (hb : Below W.heap.size W W') : Src xs b0 o0 n w W' := ⟨fun j hj => (hb.cell (Nat.lt_of_lt_of_le h.lt h.bel.size)).trans (h.cell j hj), h.len, h.lt, h.bel.trans (hb.mono h.bel.size)⟩
theorem Src.alloc (h : Src xs b0 o0 n w W) (o : Obj) : Src xs b0 o0 n w (W.alloc o) := h.below ((Below.refl _ _).alloc (Nat.le_refl _) _)
theorem Src.setCell (h : Src xs b0 o0 n w W) {p : Addr} (hp : w.heap.size ≤ p.block) (u : Value) : Src xs b0 o0 n w (W.setCell p u) :=
  ⟨fun j hj => (World.cell?_setCell_other _ _ _ _ (by rintro rfl; have := h.lt; simp at hp; omega)).trans (h.cell j hj), h.len, h.lt, h.bel.setCell hp u⟩
theorem Src.part (h : Src xs b0 o0 n w W) (i m : Nat) (hi : i + m ≤ n) : RowI .u8 W (fun _ => True) (some ⟨b0, o0 + i, none⟩) m ((xs.drop i).take m) := by
  have hl := h.len
  refine ⟨by simp; omega, fun _ => ⟨b0, o0 + i, rfl, trivial, fun j hj => ?_⟩⟩
  rw [Nat.add_assoc, h.cell (i + j) (by omega)]
  simp [List.getD, List.getElem?_take, List.getElem?_drop, hj]
theorem src_of {A : Option Addr} {S : Nat → Prop} (hx : RowI .u8 w S A n xs) (hS : ∀ b, S b → b < w.heap.size) (hn : 0 < n) : ∃ b0 o0, A = some ⟨b0, o0, none⟩ ∧ Src xs b0 o0 n w w := by
  obtain ⟨b0, o0, e, hb, hc⟩ := hx.2 hn
  exact ⟨b0, o0, e, hc, hx.1, hS _ hb, Below.refl _ _⟩
end

theorem kind_first {xs : List Int} (h : 0 < xs.length) : kindOf xs = xs.getD 0 0 := by
  match xs, h with
  | a :: r, _ => simp [kindOf, numOf]

theorem slice_lh (b0 o0 n c l h : Nat) (h1 : l ≤ h) (h2 : h ≤ c) (h3 : l < c) (W : World) :
    (Instr.sliceAt 24 (.slice (some ⟨b0, o0, none⟩) n c) (some (.int .i64 l)) (some (.int .i64 h)) none).run Try.prog W = .ok (.slice (some ⟨b0, o0 + l, none⟩) (h - l) (c - l)) W := by
  have hu : Try.prog.underlying 24 = some (.slice (Try.prog.elem 24)) := by kernel_rfl
  have hne : ¬ c = l := by omega
  rw [run_sliceAt_slice _ _ _ _ _ _ hu]
  simp [go_sem]
  simp [hne, h1, h2]

theorem slice_end (b0 o0 n c l : Nat) (h1 : l = c) (W : World) :
    (Instr.sliceAt 24 (.slice (some ⟨b0, o0, none⟩) n c) (some (.int .i64 l)) (some (.int .i64 l)) none).run Try.prog W = .ok (.slice (some ⟨b0, o0, none⟩) 0 0) W := by
  have hu : Try.prog.underlying 24 = some (.slice (Try.prog.elem 24)) := by kernel_rfl
  subst h1
  rw [run_sliceAt_slice _ _ _ _ _ _ hu]
  simp [go_sem]

end Go.Proofs.Ytehldhdpeefljaa
