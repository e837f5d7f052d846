/- The document's answers of layer 6: Bytes. -/
import Derived.Test.YtehldhdpeefljaaRHigh
import Derived.Test.YtehldhdpeefljaaRRight
import Derived.Test.YtehldhdpeefljaaEncode
namespace Go.Proofs.Ytehldhdpeefljaa
open Go.RowKit
set_option linter.unusedVariables false

set_option maxHeartbeats 4000000 in
theorem rbytes_any (k f x s : Int) (A A' : Option Addr) (n c n' c' : Nat) (xs ys : List Int) (S : Nat → Prop) (w : World) (h : May k f x s n n') (hr : Rng f x s)
    (hx : RowI .u8 w S A n xs) (hy : RowI .u8 w S A' n' ys) (hS : ∀ b, S b → b < w.heap.size) (hnA : A = none → c = 0) (hnA' : A' = none → c' = 0) :
    Calls Try.prog 19 #[.agg #[.int .i64 k, .int .u32 f, .int .u32 x, .int .u64 s, .slice A n c, .slice A' n' c']] w (OwnRow (recB k f x s xs ys) w) := by
  obtain ⟨i0, hi, hz0, hz1, hz2⟩ := info_parts info_u8
  have HR := Lib.hid hr
  have HX := Lib.hid hx
  have HY := Lib.hid hy
  have hn := h.2.2.1
  have hm := h.2.2.2.1
  have hk0 : 0 ≤ k ∧ k ≤ 255 := by have := h.2.2.2.2; omega
  have f0 := hr.f0
  have f1 := hr.f1
  have x0 := hr.x0
  have x1 := hr.x1
  clear h hr hx hy
  go_enter Try.func19, Try.ntmps19
  go_wp2_with fail
  generalize hw1 : (w.alloc _).alloc _ = w1
  have HG1 := Lib.hid (show Blk w1 w.heap.size 26 (recC k f x s A n c A' n' c') by rw [← hw1]; exact (Blk.new w _ _).alloc _)
  have HO1 := Lib.hid (show w1.ownsRow (w.heap.size + 1) 5 1 (.slice (some ⟨w.heap.size + 1, 0, none⟩) 1 1) 1 ([k].map (Value.int .u8)) by rw [← hw1]; exact Arr.owns (blk_new2 w _ 5 #[.int .u8 k]) (Nat.le_refl _) rfl rfl (by unfold maxLen; omega))
  have HB1 := Lib.hid (show Below w.heap.size w w1 by rw [← hw1]; exact ((Below.refl _ _).alloc (Nat.le_refl _) _).alloc (by simp) _)
  have HS1 := Lib.hid (show w.heap.size + 1 ≤ w1.heap.size by rw [← hw1]; simp)
  clear hw1
  refine (rhigh_any f 4 _ HR.out.f0 (by have := HR.out.f1; omega) (by omega)).mono ?_
  rintro e u1 ⟨v, rfl, hown, hb⟩
  obtain ⟨Z1, q1, rfl, hq, hnz1, hrow⟩ := rowG_own 0 (show u1.ownsRow w1.heap.size 5 1 v 4 ((beBytes f 4).map (Value.int .u8)) by rw [beBytes_length] at hown; exact hown)
  have HZ1 := Lib.hid hrow
  have HP1 := Lib.hid (own_below HO1.out hb)
  have HH1 := Lib.hid (HG1.out.below hb HG1.out.lt)
  have HC1 := Lib.hid (HB1.out.trans (hb.mono HB1.out.size))
  have HT1 := Lib.hid (Nat.le_trans HS1.out hb.size)
  have HNZ1 := Lib.hid hnz1
  clear hown hb hq hrow hnz1
  go_wp2_with (at_builtin; refine wpList_append_rowG rfl (.tmp 8) (.tmp 12) 24 rfl (w.heap.size + 1) 5 i0 (.int .u8 0) 1 Try.underlying24 hi hz0 hz1 hz2 rfl (fun _ => rfl) _ 1 _ rfl HP1.out _ Z1 4 q1 (beBytes f 4) rfl HZ1.out HNZ1.out (by unfold maxLen; omega) (by omega) HT1.out ?_; intro v2 w2 hown hgrow _; have HO2 := Lib.hid hown; have HB2 := Lib.hid (HC1.out.grown hgrow HC1.out.size (fun g hg => by have := (HP1.out.lt g hg).1; omega)); have HG2 := Lib.hid (HH1.out.grown hgrow (fun e => by have := (HP1.out.lt _ e.symm).1; omega)); have HS2 := Lib.hid (Nat.le_trans HT1.out hgrow.size); clear hown hgrow; have hcell := HG2.out.cell 2; simp only [List.getElem?_toArray, List.getElem?_cons_zero, List.getElem?_cons_succ] at hcell)
  clear hcell
  refine (rhigh_any x 4 _ HR.out.x0 (by have := HR.out.x1; omega) (by omega)).mono ?_
  rintro e u2 ⟨v, rfl, hown, hb⟩
  obtain ⟨Z2, q2, rfl, hq, hnz2, hrow⟩ := rowG_own 0 (show u2.ownsRow w2.heap.size 5 1 v 4 ((beBytes x 4).map (Value.int .u8)) by rw [beBytes_length] at hown; exact hown)
  have HZ2 := Lib.hid hrow
  have HP2 := Lib.hid (own_below HO2.out hb)
  have HH2 := Lib.hid (HG2.out.below hb HG2.out.lt)
  have HC2 := Lib.hid (HB2.out.trans (hb.mono HB2.out.size))
  have HT2 := Lib.hid (Nat.le_trans HS2.out hb.size)
  have HNZ2 := Lib.hid hnz2
  clear hown hb hq hrow hnz2
  go_wp2_with (at_builtin; refine wpList_append_rowG rfl (.tmp 14) (.tmp 18) 24 rfl (w.heap.size + 1) 5 i0 (.int .u8 0) 1 Try.underlying24 hi hz0 hz1 hz2 rfl (fun _ => rfl) _ 5 _ rfl HP2.out _ Z2 4 q2 (beBytes x 4) rfl HZ2.out HNZ2.out (by unfold maxLen; omega) (by omega) HT2.out ?_; intro v3 w3 hown hgrow _; have HO3 := Lib.hid hown; have HB3 := Lib.hid (HC2.out.grown hgrow HC2.out.size (fun g hg => by have := (HP2.out.lt g hg).1; omega)); have HG3 := Lib.hid (HH2.out.grown hgrow (fun e => by have := (HP2.out.lt _ e.symm).1; omega)); have HS3 := Lib.hid (Nat.le_trans HT2.out hgrow.size); clear hown hgrow; have hcell := HG3.out.cell 3; simp only [List.getElem?_toArray, List.getElem?_cons_zero, List.getElem?_cons_succ] at hcell)
  clear hcell
  refine (rhigh_any s 8 _ HR.out.s0 HR.out.s1 (by omega)).mono ?_
  rintro e u3 ⟨v, rfl, hown, hb⟩
  obtain ⟨Z3, q3, rfl, hq, hnz3, hrow⟩ := rowG_own 0 (show u3.ownsRow w3.heap.size 5 1 v 8 ((beBytes s 8).map (Value.int .u8)) by rw [beBytes_length] at hown; exact hown)
  have HZ3 := Lib.hid hrow
  have HP3 := Lib.hid (own_below HO3.out hb)
  have HH3 := Lib.hid (HG3.out.below hb HG3.out.lt)
  have HC3 := Lib.hid (HB3.out.trans (hb.mono HB3.out.size))
  have HT3 := Lib.hid (Nat.le_trans HS3.out hb.size)
  have HNZ3 := Lib.hid hnz3
  clear hown hb hq hrow hnz3
  go_wp2_with (at_builtin; refine wpList_append_rowG rfl (.tmp 20) (.tmp 23) 24 rfl (w.heap.size + 1) 5 i0 (.int .u8 0) 1 Try.underlying24 hi hz0 hz1 hz2 rfl (fun _ => rfl) _ 9 _ rfl HP3.out _ Z3 8 q3 (beBytes s 8) rfl HZ3.out HNZ3.out (by unfold maxLen; omega) (by omega) HT3.out ?_; intro v4 w4 hown hgrow _; have HO4 := Lib.hid hown; have HB4 := Lib.hid (HC3.out.grown hgrow HC3.out.size (fun g hg => by have := (HP3.out.lt g hg).1; omega)); have HG4 := Lib.hid (HH3.out.grown hgrow (fun e => by have := (HP3.out.lt _ e.symm).1; omega)); have HS4 := Lib.hid (Nat.le_trans HT3.out hgrow.size); clear hown hgrow; have hcell := HG4.out.cell 4; simp only [List.getElem?_toArray, List.getElem?_cons_zero, List.getElem?_cons_succ] at hcell)
  clear hcell
  refine (rhigh_any (n : Int) 2 _ (by omega) (by omega) (by omega)).mono ?_
  rintro e u4 ⟨v, rfl, hown, hb⟩
  obtain ⟨Z4, q4, rfl, hq, hnz4, hrow⟩ := rowG_own 0 (show u4.ownsRow w4.heap.size 5 1 v 2 ((beBytes (n : Int) 2).map (Value.int .u8)) by rw [beBytes_length] at hown; exact hown)
  have HZ4 := Lib.hid hrow
  have HP4 := Lib.hid (own_below HO4.out hb)
  have HH4 := Lib.hid (HG4.out.below hb HG4.out.lt)
  have HC4 := Lib.hid (HB4.out.trans (hb.mono HB4.out.size))
  have HT4 := Lib.hid (Nat.le_trans HS4.out hb.size)
  have HNZ4 := Lib.hid hnz4
  clear hown hb hq hrow hnz4
  go_wp2_with (at_builtin; refine wpList_append_rowG rfl (.tmp 25) (.tmp 30) 24 rfl (w.heap.size + 1) 5 i0 (.int .u8 0) 1 Try.underlying24 hi hz0 hz1 hz2 rfl (fun _ => rfl) _ 17 _ rfl HP4.out _ Z4 2 q4 (beBytes (n : Int) 2) rfl HZ4.out HNZ4.out (by unfold maxLen; omega) (by omega) HT4.out ?_; intro v5 w5 hown hgrow _; have HO5 := Lib.hid hown; have HB5 := Lib.hid (HC4.out.grown hgrow HC4.out.size (fun g hg => by have := (HP4.out.lt g hg).1; omega)); have HG5 := Lib.hid (HH4.out.grown hgrow (fun e => by have := (HP4.out.lt _ e.symm).1; omega)); have HS5 := Lib.hid (Nat.le_trans HT4.out hgrow.size); clear hown hgrow; have hcell := HG5.out.cell 5; simp only [List.getElem?_toArray, List.getElem?_cons_zero, List.getElem?_cons_succ] at hcell)
  clear hcell
  refine (rhigh_any (n' : Int) 2 _ (by omega) (by omega) (by omega)).mono ?_
  rintro e u5 ⟨v, rfl, hown, hb⟩
  obtain ⟨Z5, q5, rfl, hq, hnz5, hrow⟩ := rowG_own 0 (show u5.ownsRow w5.heap.size 5 1 v 2 ((beBytes (n' : Int) 2).map (Value.int .u8)) by rw [beBytes_length] at hown; exact hown)
  have HZ5 := Lib.hid hrow
  have HP5 := Lib.hid (own_below HO5.out hb)
  have HH5 := Lib.hid (HG5.out.below hb HG5.out.lt)
  have HC5 := Lib.hid (HB5.out.trans (hb.mono HB5.out.size))
  have HT5 := Lib.hid (Nat.le_trans HS5.out hb.size)
  have HNZ5 := Lib.hid hnz5
  clear hown hb hq hrow hnz5
  go_wp2_with (first | (at_builtin; refine wpList_append_rowG rfl (.tmp 32) (.tmp 37) 24 rfl (w.heap.size + 1) 5 i0 (.int .u8 0) 1 Try.underlying24 hi hz0 hz1 hz2 rfl (fun _ => rfl) _ 19 _ rfl HP5.out _ Z5 2 q5 (beBytes (n' : Int) 2) rfl HZ5.out HNZ5.out (by unfold maxLen; omega) (by omega) HT5.out ?_; intro v6 w6 hown hgrow _; have HO6 := Lib.hid hown; have HB6 := Lib.hid (HC5.out.grown hgrow HC5.out.size (fun g hg => by have := (HP5.out.lt g hg).1; omega)); have HG6 := Lib.hid (HH5.out.grown hgrow (fun e => by have := (HP5.out.lt _ e.symm).1; omega)); have HS6 := Lib.hid (Nat.le_trans HT5.out hgrow.size); clear hown hgrow; have hcell := HG6.out.cell 4; simp only [List.getElem?_toArray, List.getElem?_cons_zero, List.getElem?_cons_succ] at hcell; have HXX := Lib.hid (HX.out.below HB6.out hS)) | (at_builtin; refine wpList_append_rowG rfl (.tmp 39) (.tmp 41) 24 rfl (w.heap.size + 1) 5 i0 (.int .u8 0) 1 Try.underlying24 hi hz0 hz1 hz2 rfl (fun _ => rfl) _ 21 _ rfl HO6.out S A n c xs rfl HXX.out hnA (by unfold maxLen; omega) (by omega) HS6.out ?_; intro v7 w7 hown hgrow _; have HO7 := Lib.hid hown; have HB7 := Lib.hid (HB6.out.grown hgrow HB6.out.size (fun g hg => by have := (HO6.out.lt g hg).1; omega)); have HG7 := Lib.hid (HG6.out.grown hgrow (fun e => by have := (HO6.out.lt _ e.symm).1; omega)); have HS7 := Lib.hid (Nat.le_trans HS6.out hgrow.size); clear hown hgrow; have hcell5 := HG7.out.cell 5; simp only [List.getElem?_toArray, List.getElem?_cons_zero, List.getElem?_cons_succ] at hcell5; have HYY := Lib.hid (HY.out.below HB7.out hS)) | (at_builtin; refine wpList_append_rowG rfl (.tmp 43) (.tmp 45) 24 rfl (w.heap.size + 1) 5 i0 (.int .u8 0) 1 Try.underlying24 hi hz0 hz1 hz2 rfl (fun _ => rfl) _ (21 + n) _ rfl HO7.out S A' n' c' ys rfl HYY.out hnA' (by unfold maxLen; omega) (by omega) HS7.out ?_; intro v8 w8 hown hgrow _; have HO8 := Lib.hid hown; have HB8 := Lib.hid (HB7.out.grown hgrow HB7.out.size (fun g hg => by have := (HO7.out.lt g hg).1; omega)); clear hown hgrow))
  go_ret
  refine ⟨v8, rfl, ?_, HB8.out⟩
  have h8 := own_base (base' := w.heap.size) HO8.out (by omega)
  rw [← List.map_append, ← List.map_append, ← List.map_append, ← List.map_append, ← List.map_append, ← List.map_append, ← List.map_append] at h8
  rw [recB_length, HX.out.1, HY.out.1]
  unfold recB headB
  rw [HX.out.1, HY.out.1]
  exact h8

end Go.Proofs.Ytehldhdpeefljaa
