/- Stage 12: LruNone. -/
import Derived.Test.YthegbimolbhikaaTold12
import Derived.Test.YthegbimolbhikaaWakes12
namespace Go.Proofs.Ythegbimolbhikaa
open Go.RowKit Go.Shelf
attribute [local go_sem] Oper.semAt_some
set_option linter.unusedVariables false
set_option linter.unusedSimpArgs false
set_option maxRecDepth 100000
set_option maxHeartbeats 8000000 in
theorem none_law12 (K L N : Int) (w : World) : Calls Try.prog 5 #[.agg #[.int .i64 K, .int .i64 L, .int .i64 N]] w fun e w' => e = .returned (.bool true) ∧ Below w.heap.size w w' := by
  obtain ⟨w2, hw2⟩ : ∃ w2, w2 = (w.alloc (.cells #[.int .i64 K, .int .i64 L, .int .i64 N] 35)).alloc (.cells #[.bool false] 4) := ⟨_, rfl⟩
  have hb2 : Below w.heap.size w w2 := by rw [hw2]; exact ((Below.refl _ w).alloc (Nat.le_refl _) _).alloc (by simp) _
  have HB2 := Lib.hid hb2
  have HK1 := Lib.hid (show Blk w2 w.heap.size 35 #[.int .i64 K, .int .i64 L, .int .i64 N] by rw [hw2]; exact (Blk.new w _ _).alloc _)
  have HK2 := Lib.hid (show Blk w2 (w.heap.size + 1) 4 #[.bool false] by rw [hw2]; have h := Blk.new (w.alloc (.cells #[.int .i64 K, .int .i64 L, .int .i64 N] 35)) 4 #[.bool false]; simpa using h)
  have HW := Lib.hid (wakes12 w2)
  refine (callsIn_wide (n := 7)).1 ?_
  refine callsIn_of_wp_marks Try.func5 rfl trivial ?_ rfl
  simp only [Try.ntmps5, List.size_toArray, List.length_cons, List.length_nil, Nat.reduceAdd, Nat.reduceSub, Array.replicate_succ, Array.replicate_zero, List.push_toArray, List.append_toArray, List.nil_append, List.cons_append]
  refine wpIn_wide.2 ?_
  go_wp2_with fail
  rw [← hw2]
  clear hw2 hb2
  refine HW.out.mono ?_
  rintro e w3 ⟨rfl, hb⟩
  have HB3 := Lib.hid (HB2.out.trans (hb.mono HB2.out.size))
  have hk1 := HK1.out.below hb HK1.out.lt
  have HK23 := Lib.hid (HK2.out.below hb HK2.out.lt)
  have HK13 := Lib.hid hk1
  have c1 := hk1.cell 1
  have HA := Lib.hid (all_lnil w3 L)
  clear hb hk1 HW
  go_wp2_with fail
  refine HA.out.mono ?_
  rintro e w4 ⟨g, v, rfl, ⟨hg1, hg2⟩, hb4, hg⟩
  have HB4 := Lib.hid (HB3.out.trans (hb4.mono HB3.out.size))
  have HK14 := Lib.hid (HK13.out.below hb4 HK13.out.lt)
  have HK24 := Lib.hid (HK23.out.below hb4 HK23.out.lt)
  obtain ⟨A1, q1, rfl⟩ := ownsRow_slice hg2
  have HG := Lib.hid (show ∀ V, Below w4.heap.size w4 V → V.cell? ⟨g, 0, none⟩ = some (.slice A1 0 q1) from fun V hV => (hV.cell (p := ⟨g, 0, none⟩) hg1.lt).trans (hg1.cell 0))
  clear hg1 hg2 hb4 HA c1
  go_wp2_with fail
  refine (wpIn_wide (n := 7)).1 ?_
  refine range_by rfl (by decide) (gf := 43) (lb := #[.pointer (some ⟨g, 0, none⟩)]) rfl trivial (enters_of Try.func43 (by kernel_rfl) rfl)
    (encs := fun j => #[.int .i64 (([] : List Nat).getD j 0 : Nat)]) (N := 0) (M := fun j V => Below w4.heap.size w4 V)
    (all1_seq12 6 g 0 A1 q1 [] (by omega) (S := fun _ => True) _ (fun j V hV => ⟨HG.out V hV, RowG.nil _ _ _ _ _⟩)) (fun _ => rfl)
    (fun j V => Below w4.heap.size w4 V)
    (fun cd i V => False)
    (ownFrom_below (Nat.le_refl _) (Nat.le_refl _))
    (fun cd => own_pure _)
    (Below.refl _ _)
    (fun j V hV => hV)
    (fun j a' V => True)
    (fun j a' _ X Y row hs hg hr => trivial)
    ?assign ?body ?done ?stop
  case assign => rintro l j W K hj; omega
  case body => rintro l j a' W hj; omega
  case stop =>
    rintro D cd i W _ _ h _
    exact h.elim
  case done =>
    rintro D W hD hB hK
    have hk1 := HK14.out.below hB HK14.out.lt
    have hk2 := HK24.out.below hB HK24.out.lt
    have c1 := hk1.cell 1
    have c2 := hk1.cell 2
    have d0 := hk2.cell 0
    have f0 := hk2.frozen 0
    have HBW := Lib.hid (HB4.out.trans (hB.mono HB4.out.size))
    have HKD := Lib.hid hK
    have HO := Lib.hid (oldest_nil W L)
    have HNW := Lib.hid (newest_nil W L)
    have HWH := Lib.hid (where_nil W N)
    have HLN := Lib.hid (len_lnil W L)
    have HPU := Lib.hid (push_nil W L N)
    have HTO := Lib.hid (touch_nil W N)
    have HRE := Lib.hid (remove_nil W N)
    have HK2W := Lib.hid hk2
    clear hk1 hk2 hB hK
    go_wp2_with (first | (go_at_call 23; refine HO.out.mono ?_; rintro e w6 ⟨rfl, rfl⟩) | (go_at_call 24; refine HNW.out.mono ?_; rintro e w6 ⟨rfl, rfl⟩) | (go_at_call 25; refine HWH.out.mono ?_; rintro e w6 ⟨rfl, rfl⟩) | (go_at_call 21; refine HLN.out.mono ?_; rintro e w6 ⟨rfl, rfl⟩) | (go_at_call 13; refine HPU.out.mono ?_; rintro e w6 ⟨rfl, rfl⟩) | (go_at_call 15; refine HTO.out.mono ?_; rintro e w6 ⟨rfl, rfl⟩) | (go_at_call 17; refine HRE.out.mono ?_; rintro e w6 ⟨rfl, rfl⟩))
    have hKW : ((w6.setCell ⟨w.heap.size + 1, 0, none⟩ (.bool true))).heap[D]? = some (.deferred (some [])) := (Below.heap_setCell w6 ⟨w.heap.size + 1, 0, none⟩ _ D (by
      have s1 := HB4.out.size
      have s2 := HK24.out.lt
      show D ≠ w.heap.size + 1
      omega)).trans HKD.out
    refine leaves_marks2 (w := w) [D] _ ⟨by simp, fun D' hD' => ?_⟩ (fun W' hW' hkc => ⟨.bool true, ?_, rfl, ?_⟩)
    · obtain rfl : D' = D := by simpa using hD'
      have s1 := HB4.out.size
      exact ⟨by omega, (Array.getElem?_eq_some_iff.1 hKW).1, hKW⟩
    · have e1 := (hkc.blk (HK2W.out.set_ 0 (.bool true))).cell 0
      simp [results, Try.f5, go_sem, e1]
    · exact (HBW.out.setCell (p := ⟨w.heap.size + 1, 0, none⟩) (by simp) _).trans hW'
end Go.Proofs.Ythegbimolbhikaa
