/- IndexNone. -/
import Derived.Test.YtfgmbkflpdobcaaNil
namespace Go.Proofs.Ytfgmbkflpdobcaa
open Go.RowKit Go.Shelf
attribute [local go_sem] Oper.semAt_some
set_option linter.unusedVariables false
set_option linter.unusedSimpArgs false
/-- What holds all along: the op, the result's variable. -/
def NoneI (K : Int) (f : Nat) (s g c : Int) (w V : World) : Prop :=
  Blk V w.heap.size 38 #[.int .i64 K, .int .u32 f, .int .i64 s, .int .u64 g, .int .i64 c] ∧ Blk V (w.heap.size + 1) 4 #[.bool false] ∧ Below w.heap.size w V
theorem NoneI.next {K : Int} {f : Nat} {s g c : Int} {w V V' : World} (h : NoneI K f s g c w V) (hb : Below V.heap.size V V') : NoneI K f s g c w V' :=
  ⟨h.1.below hb h.1.lt, h.2.1.below hb h.2.1.lt, h.2.2.trans (hb.mono h.2.2.size)⟩
theorem NoneI.cells {K : Int} {f : Nat} {s g c : Int} {w V : World} (h : NoneI K f s g c w V) : V.cell? ⟨w.heap.size, 1, none⟩ = some (.int .u32 f) ∧ V.cell? ⟨w.heap.size, 2, none⟩ = some (.int .i64 s) ∧ V.cell? ⟨w.heap.size, 3, none⟩ = some (.int .u64 g) ∧ V.cell? ⟨w.heap.size, 4, none⟩ = some (.int .i64 c) :=
  ⟨h.1.cell 1, h.1.cell 2, h.1.cell 3, h.1.cell 4⟩
set_option maxRecDepth 100000 in
set_option maxHeartbeats 8000000 in
theorem none_law (K : Int) (f : Nat) (s g c : Int) (w : World) :
    Calls Try.prog 5 #[.agg #[.int .i64 K, .int .u32 f, .int .i64 s, .int .u64 g, .int .i64 c]] w fun e w' => e = .returned (.bool true) ∧ Below w.heap.size w w' := by
  obtain ⟨w3, hw3⟩ : ∃ w3, w3 = (w.alloc (.cells #[.int .i64 K, .int .u32 f, .int .i64 s, .int .u64 g, .int .i64 c] 38)).alloc (.cells #[.bool false] 4) := ⟨_, rfl⟩
  have HW3 := Lib.hid hw3
  have HB3 := Lib.hid (show Below w.heap.size w w3 by rw [hw3]; exact ((Below.refl _ w).alloc (Nat.le_refl _) _).alloc (by simp) _)
  have HS3 := Lib.hid (show w3.heap.size = w.heap.size + 2 by rw [hw3]; simp)
  have HK0 := Lib.hid (show Blk w3 w.heap.size 38 #[.int .i64 K, .int .u32 f, .int .i64 s, .int .u64 g, .int .i64 c] by rw [hw3]; exact (Blk.new w _ _).alloc _)
  have HK1 := Lib.hid (show Blk w3 (w.heap.size + 1) 4 #[.bool false] by rw [hw3]; have h := Blk.new (w.alloc (.cells #[.int .i64 K, .int .u32 f, .int .i64 s, .int .u64 g, .int .i64 c] 38)) 4 #[.bool false]; simpa using h)
  have HH := Lib.hid (wakes10 w3)
  rw [hw3] at HH
  clear hw3
  refine (callsIn_wide (n := 5)).1 ?_
  refine callsIn_of_wp_marks Try.func5 rfl trivial ?_ rfl
  simp only [Try.ntmps5, List.size_toArray, List.length_cons, List.length_nil, Nat.reduceAdd, Nat.reduceSub, Array.replicate_succ, Array.replicate_zero, List.push_toArray, List.append_toArray, List.nil_append, List.cons_append]
  gi_wp2_with (refine ⟨trivial, ?_⟩; first
    | (gi_at_call 8; refine (callsIn_wide.2 HH.out).mono ?_; rintro e w4 ⟨rfl, hb4⟩)
    | (gi_at_call 19; refine (callsIn_wide.2 (all_nil w4)).mono ?_; rintro e w5 ⟨g1, g2, rfl, b1, b2, hb5, hg1, hg2⟩))
  rw [← HW3.out] at hb4
  have HN3 := Lib.hid (show NoneI K f s g c w w3 from ⟨HK0.out, HK1.out, HB3.out⟩)
  have HN4 := Lib.hid (HN3.out.next hb4)
  have HN5 := Lib.hid (HN4.out.next hb5)
  have hs5 := HN5.out.2.1.lt
  refine range_by rfl (by omega) (gf := 33) (lb := #[.pointer (some ⟨g1, 0, none⟩), .pointer (some ⟨g2, 0, none⟩)]) rfl trivial (enters_of Try.func33 (by kernel_rfl) rfl)
    (encs := fun i => #[.int .u32 0, .agg #[]]) (N := 0) (M := fun _ V => Blk V g1 72 #[.slice none 0 0])
    (all1_nil 4 g1 g2 _ (fun i V hV => hV.cell 0) _) (fun _ => rfl)
    (fun i V => (Blk V g1 72 #[.slice none 0 0] ∧ (Blk V w.heap.size 38 #[.int .i64 K, .int .u32 f, .int .i64 s, .int .u64 g, .int .i64 c] ∧ Blk V (w.heap.size + 1) 4 #[.bool false])) ∧ Below w.heap.size w V)
    (fun cd i V => False)
    (OwnFrom.and (OwnFrom.and (Own.from (blk_own _ _ _) _) (OwnFrom.and (Own.from (blk_own _ _ _) _) (Own.from (blk_own _ _ _) _))) (ownFrom_below (Nat.le_refl _) (by omega)))
    (fun cd => own_pure _)
    ⟨⟨b1, HN5.out.1, HN5.out.2.1⟩, HN5.out.2.2⟩
    (fun i V hV => hV.1.1)
    (fun i a' W => True)
    (fun i a' _ X Y row hs hg hr => hs)
    (fun l i W K hi _ _ => absurd hi (Nat.not_lt_zero _)) (fun l i a' W hi _ _ _ _ => absurd hi (Nat.not_lt_zero _)) ?done (fun D cd i W _ hi _ _ => absurd hi (Nat.not_lt_zero _))
  case done =>
    rintro D W hD ⟨⟨_, h0, h1⟩, hB⟩ hK
    have HNW := Lib.hid (show NoneI K f s g c w W from ⟨h0, h1, hB⟩)
    obtain ⟨c1, c2, c3, c4⟩ := HNW.out.cells
    have hDl : D < W.heap.size := (Array.getElem?_eq_some_iff.1 hK).1
    clear h0 h1 hB HH HN3 HN4 HN5 hb4 hb5 b1 b2
    gi_wp2_with (refine ⟨trivial, ?_⟩; first
      | (gi_at_call 18; refine (callsIn_wide.2 (add_nil _ _)).mono ?_; rintro e w6 ⟨rfl, hb6⟩; have HN6 := Lib.hid (HNW.out.next hb6); obtain ⟨c1, c2, c3, c4⟩ := HN6.out.cells)
      | (gi_at_call 14; refine (callsIn_wide.2 (find_nil _ _)).mono ?_; rintro e w7 ⟨rfl, hb7⟩; have HN7 := Lib.hid (HN6.out.next hb7); obtain ⟨c1, c2, c3, c4⟩ := HN7.out.cells)
      | (gi_at_call 20; refine (callsIn_wide.2 (remove_nil _ _)).mono ?_; rintro e w8 ⟨rfl, hb8⟩; have HN8 := Lib.hid (HN7.out.next hb8); obtain ⟨c1, c2, c3, c4⟩ := HN8.out.cells)
      | (gi_at_call 21; refine (callsIn_wide.2 (drop_nil _ _)).mono ?_; rintro e w9 ⟨rfl, hb9⟩; have HN9 := Lib.hid (HN8.out.next hb9); obtain ⟨c1, c2, c3, c4⟩ := HN9.out.cells; have z0 := HN9.out.2.1.cell 0; have zf := HN9.out.2.1.frozen 0)
      | (gi_at_call 16; refine (callsIn_wide.2 (len_nil _)).mono ?_; rintro e wa ⟨rfl, rfl⟩)
      | (gi_at_call 17; refine (callsIn_wide.2 (left_nil _)).mono ?_; rintro e wb ⟨rfl, rfl⟩))
    have hall : Below W.heap.size W wb := hb6.trans ((hb7.mono hb6.size).trans ((hb8.mono (Nat.le_trans hb6.size hb7.size)).trans (hb9.mono (Nat.le_trans hb6.size (Nat.le_trans hb7.size hb8.size)))))
    have hD2 : wb.heap[D]? = some (.deferred (some [])) := (hall.block D hDl).trans hK
    have hK' := (KeepsOthers.setCell wb ⟨w.heap.size + 1, 0, none⟩ (.bool true)).same D _ hD2 rfl
    refine ⟨by simp, .inl ⟨_, _, rfl, run_takeDeferred hK', ?_⟩⟩
    have hd2 := (HN9.out.2.1.set_ 0 (.bool true)).cell 0
    have hc2 := cell_kept (v := .bool true) hd2 (grownBy_putObj' _ D (.deferred none)) (fun r e => by cases e; exact ⟨_, hK', rfl⟩)
    have hDw : w.heap.size ≤ D := by omega
    refine ⟨.bool true, ?_, rfl, (HN9.out.2.2.setCell (p := ⟨w.heap.size + 1, 0, none⟩) (by simp) _).trans (belowK_b (w := w) (Nat.le_refl _) _ D _ _ hDw hK' rfl rfl)⟩
    simp [results, Try.f5, go_sem, hc2]
end Go.Proofs.Ytfgmbkflpdobcaa
