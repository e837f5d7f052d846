/- A whole struct is stored; the lists that go out are laid so. -/
import Derived.Test.YthegbimolbhikaaR16
import Derived.Test.YthegbimolbhikaaTill
import Derived.Deep.DeepCutAuto
namespace Go.Proofs.Ythegbimolbhikaa
open Go.RowKit
attribute [local go_sem] Oper.semAt_some
set_option maxRecDepth 100000
set_option linter.unusedVariables false
set_option linter.unusedSimpArgs false
section
variable {P : Program} {w : World} {o : Oper} {a : Act} {Q : Exit → Act → World → Prop} {K : Act → World → Prop} {E : Prop} {ops : Array Oper}
theorem step_store_whole12 (x y : Operand) (ty : TypeId) (ho : o.op = .store ty x y) (hgd : Region.wanted o (yielded ops a.tmps) = true) (g : Nat) (cs old : Array Value) (t : TypeId) (hx : a.eval x = .pointer (some ⟨g, 0, none⟩)) (hy : a.eval y = .agg cs)
    (hg : Blk w g t old) (hsz : ∀ w, (sizeOf ty).run P w = .ok cs.size w) (hl : old.size = cs.size) (hone : ∀ v ∈ cs.toList, v.oneCell' = true) (h : K (a.put o.dst undef) (w.setRow g cs)) : if Region.wanted o (yielded ops a.tmps) = true then Oper.wp P o a w K Q else E := by
  have hs := run_storeCells_at P g 0 t cs.toList 0 old w hg (by simp; omega) hone
  have he : (List.take (0 + 0) old.toList ++ cs.toList ++ List.drop (0 + 0 + cs.toList.length) old.toList).toArray = cs := by
    rw [List.drop_eq_nil_of_le (by simp; omega)]; simp
  rw [he] at hs
  have hrun : (Instr.storeAt ty (.pointer (some ⟨g, 0, none⟩)) (.agg cs)).run P w = .ok () (w.setRow g cs) := by
    simp only [Instr.storeAt, Instr.sureAddr, Sem.run_bind, Sem.run_pure, Result.andThen_ok, storeVar, hsz, Value.cells]
    simpa using hs
  rw [if_pos hgd]
  unfold Oper.wp execOp
  simp only [ho, hx, hy, hrun, Sem.run_bind, Result.andThen_ok]
  exact h
end
theorem size_refS12 (w : World) : (sizeOf 31).run Try.prog w = .ok 2 w := Try.sizeOf31 w
/-- What Push and its like tell: lists that lie where the old ones lie, or are new; and an error. -/
def DoY (T : Nat → Prop) (numbers : Nat) (xs : List (List Nat)) (E : Int) (w : World) (e : Ending) (w' : World) : Prop :=
  ∃ A c ds, e = .returned (.tuple #[refV numbers A xs.length c, .int .i64 E]) ∧ RefX w' (fun b => T b ∨ (w.heap.size ≤ b ∧ b < w'.heap.size)) A xs.length ds xs ∧ Below w.heap.size w w'
section
variable {w W : World} {numbers n c n' c' : Nat} {A A' : Option Addr} {ds ds' : List RowD} {xs xs' : List (List Nat)} {S T : Nat → Prop}
theorem TwoL.lay1Y (h : TwoL w numbers A n c ds xs W) (hx : RefX W S A' n' ds' xs') (hS : ∀ b, S b → b ≠ w.heap.size + 1) :
    Blk ((W.setCell ⟨w.heap.size + 1, 0, none⟩ (.int .i64 (numbers : Nat))).setCell ⟨w.heap.size + 1, 1, none⟩ (.slice A' n' c')) (w.heap.size + 1) 31 #[.int .i64 (numbers : Nat), .slice A' n' c'] ∧
    RefX ((W.setCell ⟨w.heap.size + 1, 0, none⟩ (.int .i64 (numbers : Nat))).setCell ⟨w.heap.size + 1, 1, none⟩ (.slice A' n' c')) S A' n' ds' xs' ∧
    Below w.heap.size w ((W.setCell ⟨w.heap.size + 1, 0, none⟩ (.int .i64 (numbers : Nat))).setCell ⟨w.heap.size + 1, 1, none⟩ (.slice A' n' c')) ∧
    ((W.setCell ⟨w.heap.size + 1, 0, none⟩ (.int .i64 (numbers : Nat))).setCell ⟨w.heap.size + 1, 1, none⟩ (.slice A' n' c')).heap.size = W.heap.size := by
  refine ⟨(h.b.set_ 0 (.int .i64 (numbers : Nat))).set_ 1 (.slice A' n' c'), ?_, (h.bel.setCell (p := ⟨w.heap.size + 1, 0, none⟩) (by simp) _).setCell (p := ⟨w.heap.size + 1, 1, none⟩) (by simp) _, by simp [World.setCell]⟩
  exact hx.keep fun p hp => World.cell?_of_block ((Below.heap_setCell _ ⟨w.heap.size + 1, 1, none⟩ _ p.block (hS _ hp)).trans (Below.heap_setCell _ ⟨w.heap.size + 1, 0, none⟩ _ p.block (hS _ hp)))
theorem TwoL.lay2Y (h : TwoL w numbers A n c ds xs W) (hx : RefX W S A' n' ds' xs') (hS : ∀ b, S b → b ≠ w.heap.size + 1) :
    Blk (W.setRow (w.heap.size + 1) #[.int .i64 (numbers : Nat), .slice A' n' c']) (w.heap.size + 1) 31 #[.int .i64 (numbers : Nat), .slice A' n' c'] ∧
    RefX (W.setRow (w.heap.size + 1) #[.int .i64 (numbers : Nat), .slice A' n' c']) S A' n' ds' xs' ∧
    Below w.heap.size w (W.setRow (w.heap.size + 1) #[.int .i64 (numbers : Nat), .slice A' n' c']) ∧
    (W.setRow (w.heap.size + 1) #[.int .i64 (numbers : Nat), .slice A' n' c']).heap.size = W.heap.size := by
  refine ⟨setRow_heap W _ _ _ _ _ h.b, ?_, below_setRow h.bel (by omega) _, by simp [World.setRow]⟩
  exact hx.keep fun q hq => World.cell?_of_block (setRow_other W _ q.block _ (hS _ hq))
/-- The lists that came in lie where they lay. -/
theorem TwoL.oldY (h0 : RefX w T A n ds xs) (hT : ∀ b, T b → b < w.heap.size) (h : TwoL w numbers A n c ds xs W) : RefX W T A n ds xs := h0.below h.bel hT
end
/-- New lists: their rows are new. -/
theorem rnew_anyY (numbers L : Nat) (hL : 1 ≤ L ∧ L ≤ 64) (w : World) : Calls Try.prog 10 #[.int .i64 (numbers : Nat), .int .i64 (L : Nat)] w fun e w' => ∃ g, (e = .returned (refV numbers (some ⟨g, 0, none⟩) L L) ∧ RefX w' (fun b => w.heap.size ≤ b ∧ b < w'.heap.size) (some ⟨g, 0, none⟩) L (List.replicate L d0) (List.replicate L [])) ∧ Below w.heap.size w w' := by
  have hmk := fun u : World => run_make_row' (P := Try.prog) 29 56 (.slice none 0 0) 24 Try.underlying29 info_rows12 rfl .i64 .i64 L (by omega) (by omega) u
  have HA := Lib.hid (Arr.made (mk := mkD) (w.alloc (.cells #[.int .i64 (numbers : Nat), .slice (some ⟨w.heap.size + 1, 0, none⟩) L L] 31)) d0 L 56)
  have HB := Lib.hid (((Below.refl w.heap.size w).alloc (Nat.le_refl _) (.cells #[.int .i64 (numbers : Nat), .slice (some ⟨w.heap.size + 1, 0, none⟩) L L] 31)).alloc (by simp) (.cells (madeCells #[mkD d0] L) 56))
  have HK := Lib.hid ((Blk.new w 31 #[.int .i64 (numbers : Nat), .slice (some ⟨w.heap.size + 1, 0, none⟩) L L]).alloc (.cells (madeCells #[mkD d0] L) 56))
  go_enter Try.func10, Try.ntmps10
  go_wp2
  refine bodyPost_ret (results_row1 rfl _ _ w.heap.size 31 #[.int .i64 (numbers : Nat), .slice (some ⟨w.heap.size + 1, 0, none⟩) L L] _ rfl HK.out Try.underlying31 rfl size_ref12) rfl ?_
  have hz : (w.alloc (.cells #[.int .i64 (numbers : Nat), .slice (some ⟨w.heap.size + 1, 0, none⟩) L L] 31)).heap.size = w.heap.size + 1 := by simp
  have ha := HA.out
  rw [hz] at ha
  refine ⟨w.heap.size + 1, ⟨rfl, ⟨?_, by simp, fun i hi => ?_, fun i hi h => ?_⟩⟩, HB.out⟩
  · have hr := ha.rowN d0 (S := fun b => w.heap.size ≤ b ∧ b < ((w.alloc (.cells #[.int .i64 (numbers : Nat), .slice (some ⟨w.heap.size + 1, 0, none⟩) L L] 31)).alloc (.cells (madeCells #[mkD d0] L) 56)).heap.size) (n := L) (by simp) (by simp)
    exact hr
  · have e1 : (List.replicate L d0).getD i d0 = d0 := by simp [List.getD, List.getElem?_replicate, hi]
    have e2 : (List.replicate L ([] : List Nat)).getD i [] = [] := by simp [List.getD, List.getElem?_replicate, hi]
    rw [e1, e2]
    exact RowG.nil _ _ _ _ _
  · have e1 : (List.replicate L d0).getD i d0 = d0 := by simp [List.getD, List.getElem?_replicate, hi]
    rw [e1]
end Go.Proofs.Ythegbimolbhikaa
