/- The document's lists: New, Push, Touch, Remove, Of. -/
import Derived.Test.YthegbimolbhikaaR14
namespace Go.Proofs.Ythegbimolbhikaa
open Go.RowKit
attribute [local go_sem] Oper.semAt_some
set_option linter.unusedVariables false
set_option linter.unusedSimpArgs false
set_option maxRecDepth 100000
/-- What Push and its like tell: lists that are read, and an error. -/
def DoT (numbers : Nat) (xs : List (List Nat)) (E : Int) (w : World) (e : Ending) (w' : World) : Prop := ∃ A c ds, e = .returned (.tuple #[refV numbers A xs.length c, .int .i64 E]) ∧ RefX w' (· < w'.heap.size) A xs.length ds xs ∧ Below w.heap.size w w'
theorem rnew_any (numbers L : Nat) (hL : 1 ≤ L ∧ L ≤ 64) (w : World) : Calls Try.prog 10 #[.int .i64 (numbers : Nat), .int .i64 (L : Nat)] w fun e w' => ∃ g, (e = .returned (refV numbers (some ⟨g, 0, none⟩) L L) ∧ RefX w' (· < w'.heap.size) (some ⟨g, 0, none⟩) L (List.replicate L d0) (List.replicate L [])) ∧ Below w.heap.size w w' := by
  have hmk := fun u : World => run_make_row' (P := Try.prog) 29 56 (.slice none 0 0) 24 Try.underlying29 info_rows12 rfl .i64 .i64 L (by omega) (by omega) u
  have HA := Lib.hid (Arr.made (mk := mkD) (w.alloc (.cells #[.int .i64 (numbers : Nat), .slice (some ⟨w.heap.size + 1, 0, none⟩) L L] 31)) d0 L 56)
  have HB := Lib.hid (((Below.refl w.heap.size w).alloc (Nat.le_refl _) (.cells #[.int .i64 (numbers : Nat), .slice (some ⟨w.heap.size + 1, 0, none⟩) L L] 31)).alloc (by simp) (.cells (madeCells #[mkD d0] L) 56))
  have HK := Lib.hid ((Blk.new w 31 #[.int .i64 (numbers : Nat), .slice (some ⟨w.heap.size + 1, 0, none⟩) L L]).alloc (.cells (madeCells #[mkD d0] L) 56))
  go_enter Try.func10, Try.ntmps10
  go_wp2
  refine bodyPost_ret (results_row1 rfl _ _ w.heap.size 31 #[.int .i64 (numbers : Nat), .slice (some ⟨w.heap.size + 1, 0, none⟩) L L] _ rfl HK.out Try.underlying31 rfl size_ref12) rfl ?_
  have hz : (w.alloc (.cells #[.int .i64 (numbers : Nat), .slice (some ⟨w.heap.size + 1, 0, none⟩) L L] 31)).heap.size = w.heap.size + 1 := by simp
  have ha := HA.out
  rw [hz] at ha
  refine ⟨w.heap.size + 1, ⟨rfl, ⟨?_, by simp, fun i hi => ?_, fun i hi h => ?_⟩⟩, HB.out⟩
  · have hr := ha.rowN d0 (S := fun b => b < ((w.alloc (.cells #[.int .i64 (numbers : Nat), .slice (some ⟨w.heap.size + 1, 0, none⟩) L L] 31)).alloc (.cells (madeCells #[mkD d0] L) 56)).heap.size) (n := L) (by simp) (by simp)
    exact hr
  · have e1 : (List.replicate L d0).getD i d0 = d0 := by simp [List.getD, List.getElem?_replicate, hi]
    have e2 : (List.replicate L ([] : List Nat)).getD i [] = [] := by simp [List.getD, List.getElem?_replicate, hi]
    rw [e1, e2]
    exact RowG.nil _ _ _ _ _
  · have e1 : (List.replicate L d0).getD i d0 = d0 := by simp [List.getD, List.getElem?_replicate, hi]
    rw [e1]
/-- Of lists laid by a call to lists that are read. -/
theorem WoT.toD {numbers : Nat} {xs : List (List Nat)} {w : World} {e : Ending} {w' : World} (h : WoT numbers xs w e w') : ∃ A c ds, e = .returned (refV numbers A xs.length c) ∧ RefX w' (· < w'.heap.size) A xs.length ds xs ∧ Below w.heap.size w w' := by
  obtain ⟨v, ds, rfl, hr, hb⟩ := h
  have hl := hr.len
  obtain ⟨A, c, e1, hx⟩ := hr.toX
  subst e1
  rw [← hl] at hx ⊢
  exact ⟨A, c, ds, rfl, hx.more fun b hb => hb.2, hb⟩
theorem of_ref {A : Option Addr} {n c : Nat} {ds : List RowD} {xs : List (List Nat)} (numbers : Nat) (i : Int) {w : World} (h : RefX w (· < w.heap.size) A n ds xs) : Calls Try.prog 39 #[refV numbers A n c, .int .i64 i] w fun e w' =>
    (∃ A1 c1, e = .returned (.slice A1 (ofX xs i).length c1) ∧ RowK12 w' (· < w'.heap.size) A1 (ofX xs i).length (ofX xs i)) ∧ Below w.heap.size w w' := by
  have hb := (Below.refl w.heap.size w).alloc (Nat.le_refl _) (.cells #[.int .i64 (numbers : Nat), .slice A n c] 31)
  have HX := Lib.hid (h.size hb)
  have HLEN := Lib.hid h.len
  have HK := Lib.hid (Blk.new w 31 #[.int .i64 (numbers : Nat), .slice A n c])
  have HB := Lib.hid hb
  have HL := Lib.hid (rlist_any numbers n c A i)
  clear h hb
  by_cases hi : hasL xs i
  · obtain ⟨i, rfl⟩ : ∃ m : Nat, i = (m : Int) := ⟨i.toNat, by have := hi.1; omega⟩
    have hin : i < n := by have := hi.2; have := HLEN.out; omega
    have eL : ofX xs (i : Int) = xs.getD i [] := by unfold ofX; rw [if_pos hi]; simp
    rw [eL]
    rw [decide_eq_true (show 0 ≤ (i : Int) ∧ (i : Int) < (n : Nat) by omega)] at HL
    have k0 := HK.out.cell 0
    have k1 := HK.out.cell 1
    clear hi eL
    go_enter Try.func39, Try.ntmps39
    go_wp2_with fail
    generalize w.alloc (.cells #[.int .i64 (numbers : Nat), .slice A n c] 31) = w1 at *
    refine (HL.out w1).mono ?_
    rintro e w2 ⟨rfl, hb2⟩
    have hx2 := HX.out.size hb2
    have hk2 := HK.out.below hb2 HK.out.lt
    have k0 := hk2.cell 0
    have k1 := hk2.cell 1
    obtain ⟨b0, o0, rfl, _, hc0⟩ := hx2.out.2 (by omega)
    have z0 := hc0 i hin
    have hr := hx2.row i hin
    obtain ⟨⟨A1, m1, c1⟩, hd⟩ : ∃ d, ds.getD i d0 = d := ⟨_, rfl⟩
    rw [hd] at z0 hr
    replace z0 : w2.cell? ⟨b0, o0 + i, none⟩ = some (.slice A1 m1 c1) := z0
    have HR := Lib.hid (show RowK12 w2 (· < w2.heap.size) A1 m1 (xs.getD i []) from hr)
    have HB2 := Lib.hid (HB.out.trans (hb2.mono HB.out.size))
    clear hx2 hk2 hc0 hr hd hb2
    go_wp2_with fail
    go_ret
    have := HR.out.1
    rw [this]
    exact ⟨⟨A1, c1, rfl, HR.out⟩, HB2.out⟩
  · have eL : ofX xs i = [] := by unfold ofX; rw [if_neg hi]
    rw [eL]
    rw [decide_eq_false (fun h2 => hi ⟨h2.1, by rw [HLEN.out]; exact h2.2⟩)] at HL
    have k0 := HK.out.cell 0
    have k1 := HK.out.cell 1
    clear hi eL
    go_enter Try.func39, Try.ntmps39
    go_wp2_with fail
    generalize w.alloc (.cells #[.int .i64 (numbers : Nat), .slice A n c] 31) = w1 at *
    refine (HL.out w1).mono ?_
    rintro e w2 ⟨rfl, hb2⟩
    have HB2 := Lib.hid (HB.out.trans (hb2.mono HB.out.size))
    clear hb2
    go_wp2_with fail
    go_ret
    exact ⟨⟨none, 0, rfl, RowG.nil _ _ _ _ _⟩, HB2.out⟩
end Go.Proofs.Ythegbimolbhikaa
