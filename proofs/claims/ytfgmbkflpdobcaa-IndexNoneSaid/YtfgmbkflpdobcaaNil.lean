/- A nil index. -/
import Derived.Test.YtfgmbkflpdobcaaWakes10
namespace Go.Proofs.Ytfgmbkflpdobcaa
open Go.RowKit Go.Shelf
attribute [local go_sem] Oper.semAt_some
set_option linter.unusedVariables false
set_option linter.unusedSimpArgs false
theorem add_nil {s g c : Int} (u : Int) (w : World) : Calls Try.prog 18 #[.pointer none, .int .u32 u, .agg #[.int .i64 s, .int .u64 g, .int .i64 c]] w fun e w' => e = .returned (.int .i64 1) ∧ Below w.heap.size w w' := by
  have hb := (Below.refl w.heap.size w).alloc (Nat.le_refl _) (.cells #[.int .i64 s, .int .u64 g, .int .i64 c] 36)
  go_enter Try.func18, Try.ntmps18
  go_wp2
  go_ret
  exact ⟨rfl, hb⟩
theorem remove_nil {s g c : Int} (u : Int) (w : World) : Calls Try.prog 20 #[.pointer none, .int .u32 u, .agg #[.int .i64 s, .int .u64 g, .int .i64 c]] w fun e w' => e = .returned (.int .i64 1) ∧ Below w.heap.size w w' := by
  have hb := (Below.refl w.heap.size w).alloc (Nat.le_refl _) (.cells #[.int .i64 s, .int .u64 g, .int .i64 c] 36)
  go_enter Try.func20, Try.ntmps20
  go_wp2
  go_ret
  exact ⟨rfl, hb⟩
set_option maxRecDepth 100000 in
set_option maxHeartbeats 2000000 in
theorem find_nil (f : Nat) (w : World) : Calls Try.prog 14 #[.pointer none, .int .u32 f] w fun e w' => e = .returned (.slice none 0 0) ∧ Below w.heap.size w w' := by
  obtain ⟨w3, hw3⟩ : ∃ w3, w3 = (w.alloc (.cells #[.pointer none] 25)).alloc (.cells #[.slice none 0 0] 43) := ⟨_, rfl⟩
  have HW3 := Lib.hid hw3
  have HB3 := Lib.hid (show Below w.heap.size w w3 by rw [hw3]; exact ((Below.refl _ w).alloc (Nat.le_refl _) _).alloc (by simp) _)
  have HS3 := Lib.hid (show w3.heap.size = w.heap.size + 2 by rw [hw3]; simp)
  have HK1 := Lib.hid (show Blk w3 (w.heap.size + 1) 43 #[.slice none 0 0] by rw [hw3]; have h := Blk.new (w.alloc (.cells #[.pointer none] 25)) 43 #[.slice none 0 0]; simpa using h)
  have HH := Lib.hid (having_any none f w3)
  rw [hw3] at HH
  clear hw3
  refine (callsIn_wide (n := 5)).1 ?_
  refine callsIn_of_wp_marks Try.func14 rfl trivial ?_ rfl
  simp only [Try.ntmps14, List.size_toArray, List.length_cons, List.length_nil, Nat.reduceAdd, Nat.reduceSub, Array.replicate_succ, Array.replicate_zero, List.push_toArray, List.append_toArray, List.nil_append, List.cons_append]
  gi_wp2_with (refine ⟨trivial, ?_⟩; gi_at_call 27; refine (callsIn_wide.2 HH.out).mono ?_; rintro e w5 ⟨gx, gf, hgg, rfl, bx, bf, hb5⟩)
  rw [← HW3.out] at hgg hb5
  have hs3 := HS3.out
  have hs5 := hb5.size
  have hk1 := HK1.out.below hb5 HK1.out.lt
  have HB5 := Lib.hid (HB3.out.trans (hb5.mono (by omega)))
  refine range_by rfl (by omega) (gf := 36) (lb := #[.pointer (some ⟨gx, 0, none⟩), .pointer (some ⟨gf, 0, none⟩)]) rfl trivial (enters_of Try.func36 (by kernel_rfl) rfl)
    (encs := fun i => #[.int .i64 0]) (N := 0) (M := fun _ V => Blk V gx 25 #[.pointer none])
    (having_seq_nil 4 gx _ _ (fun i V hV => hV.cell 0) _) (fun _ => rfl)
    (fun i V => (Blk V (w.heap.size + 1) 43 #[.slice none 0 0] ∧ Blk V gx 25 #[.pointer none]) ∧ Below w.heap.size w V)
    (fun cd i V => False)
    (OwnFrom.and (OwnFrom.and (Own.from (blk_own _ _ _) _) (Own.from (blk_own _ _ _) _)) (ownFrom_below (Nat.le_refl _) HB5.out.size))
    (fun cd => own_pure _)
    ⟨⟨hk1, bx⟩, HB5.out⟩
    (fun i V hV => hV.1.2)
    (fun i a' W => True)
    (fun i a' _ X Y row hs hg hr => hs)
    (fun l i W K hi _ _ => absurd hi (Nat.not_lt_zero _)) (fun l i a' W hi _ _ _ _ => absurd hi (Nat.not_lt_zero _)) ?done (fun D cd i W _ hi _ _ => absurd hi (Nat.not_lt_zero _))
  case done =>
    rintro D W hD ⟨⟨h1, h3⟩, hB⟩ hK
    have c1 : W.cell? ⟨w.heap.size + 1, 0, none⟩ = some (.slice none 0 0) := h1.cell 0
    gi_wp2
    refine ⟨by simp, .inl ⟨_, _, rfl, run_takeDeferred hK, ?_⟩⟩
    refine ⟨.slice none 0 0, ?_, rfl, hB.trans (belowK_b (w := w) (Nat.le_refl _) W D _ _ (Nat.le_trans HB5.out.size hD) hK rfl rfl)⟩
    simp [results, Try.f14, go_sem]
set_option maxRecDepth 100000 in
set_option maxHeartbeats 2000000 in
theorem drop_nil (gen : Int) (w : World) : Calls Try.prog 21 #[.pointer none, .int .u64 gen] w fun e w' => e = .returned (.int .i64 0) ∧ Below w.heap.size w w' := by
  obtain ⟨w3, hw3⟩ : ∃ w3, w3 = ((w.alloc (.cells #[.pointer none] 25)).alloc (.cells #[.int .u64 gen] 34)).alloc (.cells #[.int .i64 0] 3) := ⟨_, rfl⟩
  have HW3 := Lib.hid hw3
  have HB3 := Lib.hid (show Below w.heap.size w w3 by rw [hw3]; exact (((Below.refl _ w).alloc (Nat.le_refl _) _).alloc (by simp) _).alloc (by simp; omega) _)
  have HS3 := Lib.hid (show w3.heap.size = w.heap.size + 3 by rw [hw3]; simp)
  have HK2 := Lib.hid (show Blk w3 (w.heap.size + 1 + 1) 3 #[.int .i64 0] by rw [hw3]; have h := Blk.new ((w.alloc (.cells #[.pointer none] 25)).alloc (.cells #[.int .u64 gen] 34)) 3 #[.int .i64 0]; simpa using h)
  have HH := Lib.hid (inOrder_any none w3)
  rw [hw3] at HH
  clear hw3
  refine (callsIn_wide (n := 5)).1 ?_
  refine callsIn_of_wp_marks Try.func21 rfl trivial ?_ rfl
  simp only [Try.ntmps21, List.size_toArray, List.length_cons, List.length_nil, Nat.reduceAdd, Nat.reduceSub, Array.replicate_succ, Array.replicate_zero, List.push_toArray, List.append_toArray, List.nil_append, List.cons_append]
  gi_wp2_with (refine ⟨trivial, ?_⟩; gi_at_call 32; refine (callsIn_wide.2 HH.out).mono ?_; rintro e w5 ⟨gx, hgg, rfl, bx, hb5⟩)
  rw [← HW3.out] at hgg hb5
  have hs3 := HS3.out
  have hs5 := hb5.size
  have hk2 := HK2.out.below hb5 HK2.out.lt
  have HB5 := Lib.hid (HB3.out.trans (hb5.mono (by omega)))
  refine range_by rfl (by omega) (gf := 38) (lb := #[.pointer (some ⟨gx, 0, none⟩)]) rfl trivial (enters_of Try.func38 (by kernel_rfl) rfl)
    (encs := fun i => #[.int .i64 0]) (N := 0) (M := fun _ V => Blk V gx 25 #[.pointer none])
    (order_seq_nil 4 gx _ (fun i V hV => hV.cell 0) _) (fun _ => rfl)
    (fun i V => (Blk V (w.heap.size + 1 + 1) 3 #[.int .i64 0] ∧ Blk V gx 25 #[.pointer none]) ∧ Below w.heap.size w V)
    (fun cd i V => False)
    (OwnFrom.and (OwnFrom.and (Own.from (blk_own _ _ _) _) (Own.from (blk_own _ _ _) _)) (ownFrom_below (Nat.le_refl _) HB5.out.size))
    (fun cd => own_pure _)
    ⟨⟨hk2, bx⟩, HB5.out⟩
    (fun i V hV => hV.1.2)
    (fun i a' W => True)
    (fun i a' _ X Y row hs hg hr => hs)
    (fun l i W K hi _ _ => absurd hi (Nat.not_lt_zero _)) (fun l i a' W hi _ _ _ _ => absurd hi (Nat.not_lt_zero _)) ?done (fun D cd i W _ hi _ _ => absurd hi (Nat.not_lt_zero _))
  case done =>
    rintro D W hD ⟨⟨h1, h3⟩, hB⟩ hK
    have c1 : W.cell? ⟨w.heap.size + 1 + 1, 0, none⟩ = some (.int .i64 0) := h1.cell 0
    gi_wp2
    refine ⟨by simp, .inl ⟨_, _, rfl, run_takeDeferred hK, ?_⟩⟩
    refine ⟨.int .i64 0, ?_, rfl, hB.trans (belowK_b (w := w) (Nat.le_refl _) W D _ _ (Nat.le_trans HB5.out.size hD) hK rfl rfl)⟩
    simp [results, Try.f21, go_sem]
set_option maxRecDepth 100000 in
set_option maxHeartbeats 2000000 in
/-- All of a nil index: a function over two empty lists. -/
theorem all_nil (w : World) : Calls Try.prog 19 #[.pointer none] w fun e w' => ∃ g1 g2, e = .returned (.func (.func 33) #[] #[.pointer (some ⟨g1, 0, none⟩), .pointer (some ⟨g2, 0, none⟩)]) ∧
    Blk w' g1 72 #[.slice none 0 0] ∧ Blk w' g2 43 #[.slice none 0 0] ∧ Below w.heap.size w w' ∧ w.heap.size ≤ g1 ∧ w.heap.size ≤ g2 := by
  obtain ⟨w3, hw3⟩ : ∃ w3, w3 = ((w.alloc (.cells #[.pointer none] 25)).alloc (.cells #[.slice none 0 0] 72)).alloc (.cells #[.slice none 0 0] 43) := ⟨_, rfl⟩
  have HW3 := Lib.hid hw3
  have HB3 := Lib.hid (show Below w.heap.size w w3 by rw [hw3]; exact (((Below.refl _ w).alloc (Nat.le_refl _) _).alloc (by simp) _).alloc (by simp; omega) _)
  have HS3 := Lib.hid (show w3.heap.size = w.heap.size + 3 by rw [hw3]; simp)
  have HK1 := Lib.hid (show Blk w3 (w.heap.size + 1) 72 #[.slice none 0 0] by rw [hw3]; have h := (Blk.new (w.alloc (.cells #[.pointer none] 25)) 72 #[.slice none 0 0]).alloc (.cells #[.slice none 0 0] 43); simpa using h)
  have HK2 := Lib.hid (show Blk w3 (w.heap.size + 1 + 1) 43 #[.slice none 0 0] by rw [hw3]; have h := Blk.new ((w.alloc (.cells #[.pointer none] 25)).alloc (.cells #[.slice none 0 0] 72)) 43 #[.slice none 0 0]; simpa using h)
  have HH := Lib.hid (inOrder_any none w3)
  rw [hw3] at HH
  clear hw3
  refine (callsIn_wide (n := 5)).1 ?_
  refine callsIn_of_wp_marks Try.func19 rfl trivial ?_ rfl
  simp only [Try.ntmps19, List.size_toArray, List.length_cons, List.length_nil, Nat.reduceAdd, Nat.reduceSub, Array.replicate_succ, Array.replicate_zero, List.push_toArray, List.append_toArray, List.nil_append, List.cons_append]
  gi_wp2_with (refine ⟨trivial, ?_⟩; gi_at_call 32; refine (callsIn_wide.2 HH.out).mono ?_; rintro e w5 ⟨gx, hgg, rfl, bx, hb5⟩)
  rw [← HW3.out] at hgg hb5
  have hs3 := HS3.out
  have hs5 := hb5.size
  have hk1 := HK1.out.below hb5 HK1.out.lt
  have hk2 := HK2.out.below hb5 HK2.out.lt
  have HB5 := Lib.hid (HB3.out.trans (hb5.mono (by omega)))
  refine range_by rfl (by omega) (gf := 38) (lb := #[.pointer (some ⟨gx, 0, none⟩)]) rfl trivial (enters_of Try.func38 (by kernel_rfl) rfl)
    (encs := fun i => #[.int .i64 0]) (N := 0) (M := fun _ V => Blk V gx 25 #[.pointer none])
    (order_seq_nil 4 gx _ (fun i V hV => hV.cell 0) _) (fun _ => rfl)
    (fun i V => ((Blk V (w.heap.size + 1) 72 #[.slice none 0 0] ∧ Blk V (w.heap.size + 1 + 1) 43 #[.slice none 0 0]) ∧ Blk V gx 25 #[.pointer none]) ∧ Below w.heap.size w V)
    (fun cd i V => False)
    (OwnFrom.and (OwnFrom.and (OwnFrom.and (Own.from (blk_own _ _ _) _) (Own.from (blk_own _ _ _) _)) (Own.from (blk_own _ _ _) _)) (ownFrom_below (Nat.le_refl _) HB5.out.size))
    (fun cd => own_pure _)
    ⟨⟨⟨hk1, hk2⟩, bx⟩, HB5.out⟩
    (fun i V hV => hV.1.2)
    (fun i a' W => True)
    (fun i a' _ X Y row hs hg hr => hs)
    (fun l i W K hi _ _ => absurd hi (Nat.not_lt_zero _)) (fun l i a' W hi _ _ _ _ => absurd hi (Nat.not_lt_zero _)) ?done (fun D cd i W _ hi _ _ => absurd hi (Nat.not_lt_zero _))
  case done =>
    rintro D W hD ⟨⟨⟨h1, h2⟩, h3⟩, hB⟩ hK
    gi_wp2
    refine ⟨by simp, .inl ⟨_, _, rfl, run_takeDeferred hK, ?_⟩⟩
    have hrow : ∀ r, some D = some r → ∃ o : Obj, W.heap[r]? = some o ∧ o.isCells = false := fun r e => by cases e; exact ⟨_, hK, rfl⟩
    refine ⟨_, ?_, w.heap.size + 1, w.heap.size + 1 + 1, rfl, blk_own _ _ (fun _ : Unit => #[.slice none 0 0]) () _ _ _ h1 (grownBy_putObj' _ D (.deferred none)) hrow, blk_own _ _ (fun _ : Unit => #[.slice none 0 0]) () _ _ _ h2 (grownBy_putObj' _ D (.deferred none)) hrow, hB.trans (belowK_b (w := w) (Nat.le_refl _) W D _ _ (Nat.le_trans HB5.out.size hD) hK rfl rfl), by omega, by omega⟩
    simp [results, Try.f19, go_sem]
/-- All's function over two empty lists tells nothing. -/
theorem all1_nil (n g1 g2 : Nat) (M : Nat → World → Prop) (hM : ∀ i V, M i V → V.cell? ⟨g1, 0, none⟩ = some (.slice none 0 0)) (encs : Nat → Array Value) :
    SeqM Fence.wide n Try.prog 33 #[.pointer (some ⟨g1, 0, none⟩), .pointer (some ⟨g2, 0, none⟩)] encs 0 M := by
  intro l J Jx W hJ hJx hJM hY h0
  refine callsIn_of_wp Try.func33 rfl trivial ?_ rfl
  simp only [Try.ntmps33, List.size_toArray, List.length_cons, List.length_nil, Nat.reduceAdd, Nat.reduceSub, Array.replicate_succ, Array.replicate_zero, List.push_toArray, List.append_toArray, List.nil_append, List.cons_append]
  have k1 := hM _ _ (hJM 0 W h0)
  gi_wp2
  gi_loopw [8] (fun i wr => i = .int .i64 0 ∧ wr = W) (fun _ _ => 0)
  case atStart => exact ⟨rfl, rfl⟩
  case round =>
    obtain ⟨rfl, rfl⟩ := hrel
    gi_wp2
    go_end0
    exact ⟨⟨_, rfl⟩, .inl h0⟩
end Go.Proofs.Ytfgmbkflpdobcaa
