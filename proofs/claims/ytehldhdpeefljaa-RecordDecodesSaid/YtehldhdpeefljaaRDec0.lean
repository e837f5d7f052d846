/- The document's answers of layer 6: Decode. -/
import Derived.Test.YtehldhdpeefljaaRNeed
import Derived.Test.YtehldhdpeefljaaDec
namespace Go.Proofs.Ytehldhdpeefljaa
open Go.RowKit
set_option linter.unusedVariables false

/-! Empty rows that have just been made, and what is held in the region. -/
abbrev emptyO : Obj := .cells #[] 5
theorem own_e1 (w : World) (base : Nat) (h : base ≤ w.heap.size) : (w.alloc (.cells #[] 5)).ownsRow base 5 1 (.slice (some ⟨w.heap.size, 0, none⟩) 0 0) 0 [] :=
  World.ownsRow_made w #[] 0 h (by unfold maxLen; omega) (by simp)
theorem own_e2 (w : World) (o : Obj) (base : Nat) (h : base ≤ w.heap.size) : ((w.alloc o).alloc (.cells #[] 5)).ownsRow base 5 1 (.slice (some ⟨w.heap.size + 1, 0, none⟩) 0 0) 0 [] := by
  have := own_e1 (w.alloc o) base (by simp; omega)
  rw [show (w.alloc o).heap.size = w.heap.size + 1 by simp] at this
  exact this
/-- What is held: the bytes lie there, the first one is known. -/
def Held (xs : List Int) (b0 o0 n : Nat) (w W : World) : Prop := W.cell? ⟨b0, o0, none⟩ = some (.int .u8 (kindOf xs)) ∧ Src xs b0 o0 n w W
section
variable {xs : List Int} {b0 o0 n : Nat} {w W W' : World}
theorem held_below (h : W.cell? ⟨b0, o0, none⟩ = some (.int .u8 (kindOf xs)) ∧ Src xs b0 o0 n w W) (hb : Below W.heap.size W W') : W'.cell? ⟨b0, o0, none⟩ = some (.int .u8 (kindOf xs)) ∧ Src xs b0 o0 n w W' :=
  ⟨(hb.cell (Nat.lt_of_lt_of_le h.2.lt h.2.bel.size)).trans h.1, h.2.below hb⟩
theorem held_alloc (h : W.cell? ⟨b0, o0, none⟩ = some (.int .u8 (kindOf xs)) ∧ Src xs b0 o0 n w W) (o : Obj) : (W.alloc o).cell? ⟨b0, o0, none⟩ = some (.int .u8 (kindOf xs)) ∧ Src xs b0 o0 n w (W.alloc o) := held_below h ((Below.refl _ _).alloc (Nat.le_refl _) _)
theorem held_drew (h : W.cell? ⟨b0, o0, none⟩ = some (.int .u8 (kindOf xs)) ∧ Src xs b0 o0 n w W) : W.drew.cell? ⟨b0, o0, none⟩ = some (.int .u8 (kindOf xs)) ∧ Src xs b0 o0 n w W.drew := ⟨h.1, h.2.drew⟩
theorem held_set6 (h : W.cell? ⟨b0, o0, none⟩ = some (.int .u8 (kindOf xs)) ∧ Src xs b0 o0 n w W) (u0 u1 u2 u3 u4 u5 : Value) :
    ((((((W.setCell ⟨w.heap.size, 0, none⟩ u0).setCell ⟨w.heap.size, 1, none⟩ u1).setCell ⟨w.heap.size, 2, none⟩ u2).setCell ⟨w.heap.size, 3, none⟩ u3).setCell ⟨w.heap.size, 4, none⟩ u4).setCell ⟨w.heap.size, 5, none⟩ u5).cell? ⟨b0, o0, none⟩ = some (.int .u8 (kindOf xs)) ∧
      Src xs b0 o0 n w ((((((W.setCell ⟨w.heap.size, 0, none⟩ u0).setCell ⟨w.heap.size, 1, none⟩ u1).setCell ⟨w.heap.size, 2, none⟩ u2).setCell ⟨w.heap.size, 3, none⟩ u3).setCell ⟨w.heap.size, 4, none⟩ u4).setCell ⟨w.heap.size, 5, none⟩ u5) :=
  ⟨(cell_far6 W w.heap.size u0 u1 u2 u3 u4 u5 (p := ⟨b0, o0, none⟩) (Nat.ne_of_lt h.2.lt)).trans h.1,
    (((((h.2.setCell (p := ⟨w.heap.size, 0, none⟩) (Nat.le_refl _) u0).setCell (p := ⟨w.heap.size, 1, none⟩) (Nat.le_refl _) u1).setCell (p := ⟨w.heap.size, 2, none⟩) (Nat.le_refl _) u2).setCell (p := ⟨w.heap.size, 3, none⟩) (Nat.le_refl _) u3).setCell (p := ⟨w.heap.size, 4, none⟩) (Nat.le_refl _) u4).setCell (p := ⟨w.heap.size, 5, none⟩) (Nat.le_refl _) u5⟩
end

theorem rdec_short (A : Option Addr) (n c : Nat) (w : World) (hn : n < 21) :
    Calls Try.prog 22 #[.slice A n c] w fun e w' => e = .returned (.tuple #[.agg #[.int .i64 0, .int .u32 0, .int .u32 0, .int .u64 0, .slice none 0 0, .slice none 0 0], .int .i64 0, .int .i64 9]) ∧ Below w.heap.size w w' := by
  go_enter Try.func22, Try.ntmps22
  go_wp2_with fail
  refine (rneed_short A n c _ hn).mono ?_
  rintro e w1 ⟨rfl, hb⟩
  have HB1 := Lib.hid (((Below.refl w.heap.size w).alloc (Nat.le_refl _) _).trans (hb.mono (by simp)))
  have hres := (Blk.new w 26 zeroC).below hb (by simp)
  have HRES := Lib.hid hres
  clear hb hres
  go_wp2_with (first
    | (refine wpList_store_rowB (.tmp 2) (.tmp 15) 26 rfl rfl w.heap.size zeroC rfl rfl 26 _ HRES.out size_rec rfl one_zero ?_)
    | (with_reducible refine halt_end ?_))
  exact Halt.ret (results_row3 (p := 2) (u := 3) (v := 4) rfl _ _ w.heap.size 26 zeroC _ rfl (setRow_heap _ _ _ zeroC _ _ HRES.out) Try.underlying26 rfl size_rec) rfl ⟨rfl, below_setRow HB1.out (Nat.le_refl _) _⟩

theorem rdec_bad (A : Option Addr) (n c : Nat) (xs : List Int) (S : Nat → Prop) (w : World) (hx : RowI .u8 w S A n xs) (hS : ∀ b, S b → b < w.heap.size) (hb : Bytes xs) (hn : 21 ≤ n) (hc : n ≤ c) (hm : ¬ MayB xs) :
    Calls Try.prog 22 #[.slice A n c] w fun e w' => e = .returned (.tuple #[.agg #[.int .i64 0, .int .u32 0, .int .u32 0, .int .u64 0, .slice none 0 0, .slice none 0 0], .int .i64 0, .int .i64 160]) ∧ Below w.heap.size w w' := by
  have HX := Lib.hid (hx.keep (w' := w.alloc (.cells zeroC 26)) fun p hp => World.cell?_alloc_lt w _ p (hS _ hp))
  clear hx
  go_enter Try.func22, Try.ntmps22
  go_wp2_with fail
  refine (rneed_any A n c xs S _ HX.out (fun b h => by have := hS b h; simp; omega) hb hn hc).mono ?_
  rintro e w1 ⟨_, he, hb⟩
  obtain rfl := he hm
  clear he
  have HB1 := Lib.hid (((Below.refl w.heap.size w).alloc (Nat.le_refl _) _).trans (hb.mono (by simp)))
  have hres := (Blk.new w 26 zeroC).below hb (by simp)
  have HRES := Lib.hid hres
  clear hb hres
  go_wp2_with (first
    | (refine wpList_store_rowB (.tmp 2) (.tmp 15) 26 rfl rfl w.heap.size zeroC rfl rfl 26 _ HRES.out size_rec rfl one_zero ?_)
    | (with_reducible refine halt_end ?_))
  exact Halt.ret (results_row3 (p := 2) (u := 3) (v := 4) rfl _ _ w.heap.size 26 zeroC _ rfl (setRow_heap _ _ _ zeroC _ _ HRES.out) Try.underlying26 rfl size_rec) rfl ⟨rfl, below_setRow HB1.out (Nat.le_refl _) _⟩

theorem rdec_cut (A : Option Addr) (n c : Nat) (xs : List Int) (S : Nat → Prop) (w : World) (hx : RowI .u8 w S A n xs) (hS : ∀ b, S b → b < w.heap.size) (hb : Bytes xs) (hn : 21 ≤ n) (hc : n ≤ c) (hm : MayB xs) (hlt : n < needOf xs) :
    Calls Try.prog 22 #[.slice A n c] w fun e w' => e = .returned (.tuple #[.agg #[.int .i64 0, .int .u32 0, .int .u32 0, .int .u64 0, .slice none 0 0, .slice none 0 0], .int .i64 0, .int .i64 9]) ∧ Below w.heap.size w w' := by
  have HX := Lib.hid (hx.keep (w' := w.alloc (.cells zeroC 26)) fun p hp => World.cell?_alloc_lt w _ p (hS _ hp))
  clear hx
  go_enter Try.func22, Try.ntmps22
  go_wp2_with fail
  refine (rneed_any A n c xs S _ HX.out (fun b h => by have := hS b h; simp; omega) hb hn hc).mono ?_
  rintro e w1 ⟨he, _, hb⟩
  obtain rfl := he hm
  clear he
  have HB1 := Lib.hid (((Below.refl w.heap.size w).alloc (Nat.le_refl _) _).trans (hb.mono (by simp)))
  have hres := (Blk.new w 26 zeroC).below hb (by simp)
  have HRES := Lib.hid hres
  have hlt' : decide ((n : Int) < (needOf xs : Int)) = true := by simp; omega
  generalize needOf xs = nd at *
  clear hb hres
  go_wp2_with (first
    | (refine wpList_store_rowB (.tmp 2) (.tmp 21) 26 rfl rfl w.heap.size zeroC rfl rfl 26 _ HRES.out size_rec rfl one_zero ?_)
    | (with_reducible refine halt_end ?_))
  exact Halt.ret (results_row3 (p := 2) (u := 3) (v := 4) rfl _ _ w.heap.size 26 zeroC _ rfl (setRow_heap _ _ _ zeroC _ _ HRES.out) Try.underlying26 rfl size_rec) rfl ⟨rfl, below_setRow HB1.out (Nat.le_refl _) _⟩

end Go.Proofs.Ytehldhdpeefljaa
