/- Free; what nil answers. -/
import Derived.Test.YtgipkdkfecegkaaDoorUsed
namespace Go.Proofs.YtgipkdkfecegkaaDoor
open Go.RowKit Go.Shelf PgM
attribute [local go_sem] Oper.semAt_some
set_option linter.unusedVariables false
set_option linter.unusedSimpArgs false
theorem free_take (ps : List Pg) {i : Nat} (hi : i < ps.length) : ((ps.take (i + 1)).filter freeB).length = ((ps.take i).filter freeB).length + (if (ps.getD i pg0).2 = 0 then 1 else 0) := by
  rw [List.take_add_one, List.getElem?_eq_getElem hi, List.filter_append, List.length_append]
  simp only [List.getD, List.getElem?_eq_getElem hi, Option.getD_some, Option.toList_some]
  by_cases h : ps[i].2 = 0
  · simp [freeB, h]
  · simp [freeB, h]
set_option maxHeartbeats 2000000 in
theorem free_all {w : World} {x g : Nat} {ps : List Pg} (h : ArM w x g ps) :
    Calls Tryd.prog 15 #[.pointer (some ⟨x, 0, none⟩)] w fun e w' => e = .returned (.int .i64 (freeP ps : Nat)) ∧ Below w.heap.size w w' := by
  obtain ⟨hxl, hgl⟩ := h.lt
  obtain ⟨⟨cap, X, hx, hg⟩, hp, hn, hi, ht, -⟩ := h
  have c0 := hx.cell 0
  have HG := Lib.hid hg
  have HFT := Lib.hid (fun (i : Nat) (hi : i < ps.length) => free_take ps hi)
  unfold freeP
  obtain ⟨n, hn2⟩ : ∃ n, ps.length = n := ⟨_, rfl⟩
  have HN := Lib.hid hn2
  rw [hn2] at c0 hn hp
  clear hx hg hi ht hn2
  go_enter Tryd.func15, Tryd.ntmps15
  go_wp2_with fail
  go_loopw [3, 13] (fun s i wr => ∃ j k : Nat, i = .int .i64 j ∧ j ≤ n ∧ s = .int .i64 k ∧ k = ((ps.take j).filter freeB).length ∧ k ≤ j ∧ Below w.heap.size w wr) (fun _ i _ => n - (intOf i).toNat)
  case atStart => exact ⟨0, 0, rfl, Nat.zero_le _, rfl, by simp, Nat.le_refl _, Below.refl _ _⟩
  case round =>
    obtain ⟨j, k, rfl, hj, rfl, hk, hkj, hB⟩ := hrel
    have HK := Lib.hid hk
    have HBL := Lib.hid hB
    clear hk hB
    by_cases hjn : j < n
    · have hjl : j < ps.length := by rw [HN.out]; exact hjn
      have hft := HFT.out j hjl
      obtain ⟨d0, d1⟩ := flat_cell (HG.out.below HBL.out hgl) hjl
      obtain ⟨⟨q0, q1⟩, hq⟩ : ∃ q, ps.getD j pg0 = q := ⟨_, rfl⟩
      rw [hq] at d0 d1 hft
      have HB1 := Lib.hid (HBL.out.alloc HBL.out.size (.cells (pgC (q0, q1)).toArray 60))
      rw [← HK.out] at hft
      have hfr := free_any q0 q1
      have HFR := Lib.hid hfr
      have HFT2 := Lib.hid hft
      clear hjl hq hfr hft
      by_cases hz : q1 = 0
      · subst hz
        simp only [decide_true] at HFR
        go_wp2_with fail
        refine (HFR.out _).mono ?_
        rintro e w2 ⟨rfl, hb2⟩
        have HB2 := Lib.hid (HB1.out.trans (hb2.mono HB1.out.size))
        have HF3 := Lib.hid (show k + 1 = ((ps.take (j + 1)).filter freeB).length by have := HFT2.out; simp at this; omega)
        clear hb2 d0 d1
        go_wp2
        go_roundw
        case rel => exact ⟨j + 1, k + 1, by simp, by omega, by simp, HF3.out, by omega, HB2.out⟩
        case measure => show n - (Int.toNat ((j : Int) + 1)) < n - (Int.toNat (j : Int)); omega
      · rw [decide_eq_false hz] at HFR
        go_wp2_with fail
        refine (HFR.out _).mono ?_
        rintro e w2 ⟨rfl, hb2⟩
        have HB2 := Lib.hid (HB1.out.trans (hb2.mono HB1.out.size))
        have HF3 := Lib.hid (show k = ((ps.take (j + 1)).filter freeB).length by have := HFT2.out; rw [if_neg hz] at this; omega)
        clear hb2 d0 d1
        go_wp2
        go_roundw
        case rel => exact ⟨j + 1, k, by simp, by omega, rfl, HF3.out, by omega, HB2.out⟩
        case measure => show n - (Int.toNat ((j : Int) + 1)) < n - (Int.toNat (j : Int)); omega
    · obtain rfl : j = n := by omega
      have HF3 := Lib.hid (show k = (ps.filter freeB).length by have h1 := HK.out; rw [List.take_of_length_le (by rw [HN.out]; exact Nat.le_refl _)] at h1; exact h1)
      go_wp2
      go_ret
      refine ⟨?_, HBL.out⟩
      rw [← HF3.out]
      rfl
theorem free_nil (w : World) : Calls Tryd.prog 15 #[.pointer none] w fun e w' => e = .returned (.int .i64 0) ∧ w' = w := by
  go_enter Tryd.func15, Tryd.ntmps15
  go_wp2
  go_ret
  exact ⟨rfl, rfl⟩
theorem copy_nil (w : World) : Calls Tryd.prog 17 #[.pointer none] w fun e w' => e = .returned (.pointer none) ∧ w' = w := by
  go_enter Tryd.func17, Tryd.ntmps17
  go_wp2
  go_ret
  exact ⟨rfl, rfl⟩
theorem give_nil (n : Int) (w : World) : Calls Tryd.prog 18 #[.pointer none, .int .i64 n] w fun e w' => e = .returned (.tuple #[.int .i64 0, .int .i64 1]) ∧ w' = w := by
  go_enter Tryd.func18, Tryd.ntmps18
  go_wp2
  go_ret2
  exact ⟨rfl, rfl⟩
theorem find_nil (n : Int) (w : World) : Calls Tryd.prog 32 #[.pointer none, .int .i64 n] w fun e w' => e = .returned (.tuple #[.pointer none, .int .i64 0, .int .i64 1]) ∧ w' = w := by
  go_enter Tryd.func32, Tryd.ntmps32
  go_wp2
  go_ret3
  exact ⟨rfl, rfl⟩
theorem take_nil (n : Int) (w : World) : Calls Tryd.prog 19 #[.pointer none, .int .i64 n] w fun e w' => e = .returned (.int .i64 1) ∧ w' = w := by
  go_enter Tryd.func19, Tryd.ntmps19
  go_wp2_with fail
  refine (find_nil _ _).mono ?_
  rintro e w2 ⟨rfl, rfl⟩
  go_wp2
  go_ret
  exact ⟨rfl, rfl⟩
theorem where_nil (n : Int) (w : World) : Calls Tryd.prog 20 #[.pointer none, .int .i64 n] w fun e w' => e = .returned (.tuple #[.int .i64 0, .int .i64 1]) ∧ w' = w := by
  go_enter Tryd.func20, Tryd.ntmps20
  go_wp2_with fail
  refine (find_nil _ _).mono ?_
  rintro e w2 ⟨rfl, rfl⟩
  go_wp2
  go_ret2
  exact ⟨rfl, rfl⟩
theorem having_seq_nil (n gx : Nat) (b : Value) (M : Nat → World → Prop) (hM : ∀ i V, M i V → V.cell? ⟨gx, 0, none⟩ = some (.pointer none)) (encs : Nat → Array Value) :
    SeqM Fence.wide n Tryd.prog 42 #[.pointer (some ⟨gx, 0, none⟩), b] encs 0 M := by
  intro l J Jx W hJ hJx hJM hY h0
  refine callsIn_of_wp Tryd.func42 rfl trivial ?_ rfl
  simp only [Tryd.ntmps42, List.size_toArray, List.length_cons, List.length_nil, Nat.reduceAdd, Nat.reduceSub, Array.replicate_succ, Array.replicate_zero, List.push_toArray, List.append_toArray, List.nil_append, List.cons_append]
  have k1 := hM _ _ (hJM 0 W h0)
  gi_wp2
  exact ⟨rfl, _, results_none rfl _ _ _, ⟨_, rfl⟩, .inl h0⟩
set_option maxRecDepth 100000 in
set_option maxHeartbeats 4000000 in
theorem used_nil (c : Int) (w : World) :
    Calls Tryd.prog 25 #[.pointer none, .int .i64 c] w fun e w' => e = .returned (.int .i64 0) ∧ Below w.heap.size w w' := by
  obtain ⟨w1, hw1⟩ : ∃ w1, w1 = w.alloc (.cells #[.int .i64 0] 3) := ⟨_, rfl⟩
  have HB1 := Lib.hid (show Below w.heap.size w w1 by rw [hw1]; exact (Below.refl _ w).alloc (Nat.le_refl _) _)
  have HK1 := Lib.hid (show Blk w1 w.heap.size 3 #[.int .i64 0] by rw [hw1]; exact Blk.new w _ _)
  have HH := Lib.hid (having_any none c w1)
  have HW1 := Lib.hid hw1
  rw [hw1] at HH
  clear hw1
  refine (callsIn_wide (n := 5)).1 ?_
  refine callsIn_of_wp_marks Tryd.func25 rfl trivial ?_ rfl
  simp only [Tryd.ntmps25, List.size_toArray, List.length_cons, List.length_nil, Nat.reduceAdd, Nat.reduceSub, Array.replicate_succ, Array.replicate_zero, List.push_toArray, List.append_toArray, List.nil_append, List.cons_append]
  gi_wp2_with (refine ⟨trivial, ?_⟩; gi_at_call 35; refine (callsIn_wide.2 HH.out).mono ?_; rintro e w5 ⟨gx, gf, hgg, rfl, bx, bf, hb5⟩)
  rw [← HW1.out] at hgg hb5
  obtain ⟨hg1, hg2, hg3, hg4⟩ := hgg
  have hk1 := HK1.out.below hb5 HK1.out.lt
  have HB5 := Lib.hid (HB1.out.trans (hb5.mono HB1.out.size))
  refine range_by rfl (by decide) (gf := 42) (lb := #[.pointer (some ⟨gx, 0, none⟩), .pointer (some ⟨gf, 0, none⟩)]) rfl trivial (enters_of Tryd.func42 (by kernel_rfl) rfl)
    (encs := fun i => #[pgV pg0]) (N := 0) (M := fun _ V => Blk V gx 29 #[.pointer none])
    (having_seq_nil 4 gx _ _ (fun i V hV => hV.cell 0) _) (fun _ => rfl)
    (fun i V => Blk V w.heap.size 3 #[.int .i64 0] ∧ Blk V gx 29 #[.pointer none] ∧ Below w.heap.size w V)
    (fun cd i V => False)
    (OwnFrom.and (Own.from (blk_own _ _ _) _) (OwnFrom.and (Own.from (blk_own _ _ _) _) (ownFrom_below (Nat.le_refl _) HB5.out.size)))
    (fun cd => own_pure _)
    ⟨hk1, bx, HB5.out⟩
    (fun i V hV => hV.2.1)
    (fun i a' V => True)
    (fun i a' _ X Y row hs hg hr => hs)
    ?assign ?body ?done ?stop
  case assign =>
    rintro l i W K hi hI hK
    exact absurd hi (by omega)
  case body =>
    rintro l i a' W hi
    exact absurd hi (by omega)
  case done =>
    rintro D W hD ⟨h0, h1, hB⟩ hK
    have c0 := h0.cell 0
    clear h1
    gi_wp2
    refine ⟨by simp, .inl ⟨_, _, rfl, run_takeDeferred hK, ?_⟩⟩
    exact ⟨.int .i64 0, by simp [results, Tryd.f25, go_sem], rfl, hB.trans (belowK_b (w := w) (Nat.le_refl _) _ D _ _ (Nat.le_trans HB5.out.size hD) hK rfl rfl)⟩
  case stop =>
    rintro D cd i W hD hi h hK
    exact h.elim
set_option maxRecDepth 100000 in
set_option maxHeartbeats 4000000 in
theorem pages_nil (c : Int) (w : World) :
    Calls Tryd.prog 26 #[.pointer none, .int .i64 c] w fun e w' => e = .returned (.int .i64 0) ∧ Below w.heap.size w w' := by
  obtain ⟨w1, hw1⟩ : ∃ w1, w1 = w.alloc (.cells #[.int .i64 0] 3) := ⟨_, rfl⟩
  have HB1 := Lib.hid (show Below w.heap.size w w1 by rw [hw1]; exact (Below.refl _ w).alloc (Nat.le_refl _) _)
  have HK1 := Lib.hid (show Blk w1 w.heap.size 3 #[.int .i64 0] by rw [hw1]; exact Blk.new w _ _)
  have HH := Lib.hid (having_any none c w1)
  have HW1 := Lib.hid hw1
  rw [hw1] at HH
  clear hw1
  refine (callsIn_wide (n := 5)).1 ?_
  refine callsIn_of_wp_marks Tryd.func26 rfl trivial ?_ rfl
  simp only [Tryd.ntmps26, List.size_toArray, List.length_cons, List.length_nil, Nat.reduceAdd, Nat.reduceSub, Array.replicate_succ, Array.replicate_zero, List.push_toArray, List.append_toArray, List.nil_append, List.cons_append]
  gi_wp2_with (refine ⟨trivial, ?_⟩; gi_at_call 35; refine (callsIn_wide.2 HH.out).mono ?_; rintro e w5 ⟨gx, gf, hgg, rfl, bx, bf, hb5⟩)
  rw [← HW1.out] at hgg hb5
  obtain ⟨hg1, hg2, hg3, hg4⟩ := hgg
  have hk1 := HK1.out.below hb5 HK1.out.lt
  have HB5 := Lib.hid (HB1.out.trans (hb5.mono HB1.out.size))
  refine range_by rfl (by decide) (gf := 42) (lb := #[.pointer (some ⟨gx, 0, none⟩), .pointer (some ⟨gf, 0, none⟩)]) rfl trivial (enters_of Tryd.func42 (by kernel_rfl) rfl)
    (encs := fun i => #[pgV pg0]) (N := 0) (M := fun _ V => Blk V gx 29 #[.pointer none])
    (having_seq_nil 4 gx _ _ (fun i V hV => hV.cell 0) _) (fun _ => rfl)
    (fun i V => Blk V w.heap.size 3 #[.int .i64 0] ∧ Blk V gx 29 #[.pointer none] ∧ Below w.heap.size w V)
    (fun cd i V => False)
    (OwnFrom.and (Own.from (blk_own _ _ _) _) (OwnFrom.and (Own.from (blk_own _ _ _) _) (ownFrom_below (Nat.le_refl _) HB5.out.size)))
    (fun cd => own_pure _)
    ⟨hk1, bx, HB5.out⟩
    (fun i V hV => hV.2.1)
    (fun i a' V => True)
    (fun i a' _ X Y row hs hg hr => hs)
    ?assign ?body ?done ?stop
  case assign =>
    rintro l i W K hi hI hK
    exact absurd hi (by omega)
  case body =>
    rintro l i a' W hi
    exact absurd hi (by omega)
  case done =>
    rintro D W hD ⟨h0, h1, hB⟩ hK
    have c0 := h0.cell 0
    clear h1
    gi_wp2
    refine ⟨by simp, .inl ⟨_, _, rfl, run_takeDeferred hK, ?_⟩⟩
    exact ⟨.int .i64 0, by simp [results, Tryd.f26, go_sem], rfl, hB.trans (belowK_b (w := w) (Nat.le_refl _) _ D _ _ (Nat.le_trans HB5.out.size hD) hK rfl rfl)⟩
  case stop =>
    rintro D cd i W hD hi h hK
    exact h.elim
end Go.Proofs.YtgipkdkfecegkaaDoor
