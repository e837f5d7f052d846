/- place: the number of an entry, or none. -/
import Derived.Test.YtfgmbkflpdobcaaInOrder
import Derived.Test.YtfgmbkflpdobcaaInRound
import Derived.Test.YtfgmbkflpdobcaaRep
import Derived.Test.YtfgmbkflpdobcaaEqA
namespace Go.Proofs.Ytfgmbkflpdobcaa
open Go.RowKit Go.Shelf
attribute [local go_sem] Oper.semAt_some
set_option linter.unusedVariables false
set_option linter.unusedSimpArgs false

/-- Two boxes of a closure: the index and a finger. -/
theorem having_any (A : Option Addr) (f : Nat) (w : World) :
    Calls Try.prog 27 #[.pointer A, .int .u32 f] w fun e w' => ∃ gx gf, (w.heap.size ≤ gx ∧ gx < w'.heap.size ∧ w.heap.size ≤ gf ∧ gf < w'.heap.size) ∧ e = .returned (.func (.func 36) #[] #[.pointer (some ⟨gx, 0, none⟩), .pointer (some ⟨gf, 0, none⟩)]) ∧
      Blk w' gx 25 #[.pointer A] ∧ Blk w' gf 33 #[.int .u32 f] ∧ Below w.heap.size w w' := by
  go_enter Try.func27, Try.ntmps27
  go_wp2
  go_ret
  refine ⟨_, _, ⟨?_, ?_, ?_, ?_⟩, rfl, (Blk.new w _ _).alloc _, ?_, ((Below.refl _ w).alloc (Nat.le_refl _) _).alloc (by simp) _⟩
  · simp
  · simp; omega
  · simp
  · simp
  have h := Blk.new (w.alloc (.cells #[.pointer A] 25)) 33 #[.int .u32 f]
  simpa using h
theorem inOrder_any (A : Option Addr) (w : World) :
    Calls Try.prog 32 #[.pointer A] w fun e w' => ∃ gx, (w.heap.size ≤ gx ∧ gx < w'.heap.size) ∧ e = .returned (.func (.func 38) #[] #[.pointer (some ⟨gx, 0, none⟩)]) ∧
      Blk w' gx 25 #[.pointer A] ∧ Below w.heap.size w w' := by
  go_enter Try.func32, Try.ntmps32
  go_wp2
  go_ret
  exact ⟨_, ⟨Nat.le_refl _, by simp⟩, rfl, Blk.new w _ _, (Below.refl _ w).alloc (Nat.le_refl _) _⟩
def adrC (c : Nat → Int) (k : Nat) : List Value := [.int .i64 (c (1027 + k * 3)), .int .u64 (c (1027 + k * 3 + 1)), .int .i64 (c (1027 + k * 3 + 2))]
def adrV (a : Int × Int × Int) : List Value := [.int .i64 a.1, .int .u64 a.2.1, .int .i64 a.2.2]
set_option maxRecDepth 100000 in
set_option maxHeartbeats 2000000 in
theorem place_any {w : World} {x f g : Nat} {c : Nat → Int} {C T : List Nat} (h : IxM w x c) (hg : f % 1024 = g) (hC : Lk 4102 c (c (5127 + g)) C) (hT : T = C.filter (fun k => c (2 + k) = (f : Int))) (a : Int × Int × Int) :
    Calls Try.prog 28 #[.pointer (some ⟨x, 0, none⟩), .int .u32 f, .agg (adrV a).toArray] w fun e w' =>
      ((∃ i, i < T.length ∧ e = .returned (.int .i64 (T.getD i 0 : Nat)) ∧ adrC c (T.getD i 0) = adrV a) ∨ (e = .returned (.int .i64 0) ∧ ∀ i, i < T.length → adrC c (T.getD i 0) ≠ adrV a)) ∧ Below w.heap.size w w' := by
  obtain ⟨a0, a1, a2⟩ := a
  have hxl := h.lt
  have HX := Lib.hid h
  have HC := Lib.hid hC
  have HT := Lib.hid hT
  have HG := Lib.hid hg
  have hTm : ∀ i, i < T.length → 1 ≤ T.getD i 0 ∧ T.getD i 0 < 1025 := fun i hi => by
    have hm : T.getD i 0 ∈ T := by simp [List.getD, List.getElem?_eq_getElem hi]
    have h2 : T.getD i 0 ∈ C := by
      have h3 : ∀ k, k ∈ T → k ∈ C := fun k hk => by rw [hT] at hk; exact (List.mem_filter.1 hk).1
      exact h3 _ hm
    exact hC.mem _ h2
  have HTM := Lib.hid hTm
  clear h hC hT hg hTm
  obtain ⟨w3, hw3⟩ : ∃ w3, w3 = ((w.alloc (.cells #[.pointer (some ⟨x, 0, none⟩)] 25)).alloc (.cells #[.int .i64 a0, .int .u64 a1, .int .i64 a2] 36)).alloc (.cells #[.int .i64 0] 3) := ⟨_, rfl⟩
  have HW3 := Lib.hid hw3
  have HB3 := Lib.hid (show Below w.heap.size w w3 by rw [hw3]; exact (((Below.refl _ w).alloc (Nat.le_refl _) _).alloc (by simp) _).alloc (by simp; omega) _)
  have HS3 := Lib.hid (show w3.heap.size = w.heap.size + 3 by rw [hw3]; simp)
  have HK0 := Lib.hid (show Blk w3 w.heap.size 25 #[.pointer (some ⟨x, 0, none⟩)] by rw [hw3]; exact ((Blk.new w _ _).alloc _).alloc _)
  have HK1 := Lib.hid (show Blk w3 (w.heap.size + 1) 36 #[.int .i64 a0, .int .u64 a1, .int .i64 a2] by rw [hw3]; have h := (Blk.new (w.alloc (.cells #[.pointer (some ⟨x, 0, none⟩)] 25)) 36 #[.int .i64 a0, .int .u64 a1, .int .i64 a2]).alloc (.cells #[.int .i64 0] 3); simpa using h)
  have HK2 := Lib.hid (show Blk w3 (w.heap.size + 1 + 1) 3 #[.int .i64 0] by rw [hw3]; have h := Blk.new ((w.alloc (.cells #[.pointer (some ⟨x, 0, none⟩)] 25)).alloc (.cells #[.int .i64 a0, .int .u64 a1, .int .i64 a2] 36)) 3 #[.int .i64 0]; simpa using h)
  have HH := Lib.hid (having_any (some ⟨x, 0, none⟩) f w3)
  rw [hw3] at HH
  clear hw3
  refine (callsIn_wide (n := 5)).1 ?_
  refine callsIn_of_wp_marks Try.func28 rfl trivial ?_ rfl
  simp only [Try.ntmps28, List.size_toArray, List.length_cons, List.length_nil, Nat.reduceAdd, Nat.reduceSub, Array.replicate_succ, Array.replicate_zero, List.push_toArray, List.append_toArray, List.nil_append, List.cons_append]
  gi_wp2_with (refine ⟨trivial, ?_⟩; gi_at_call 27; refine (callsIn_wide.2 HH.out).mono ?_; rintro e w5 ⟨gx, gf, hgg, rfl, bx, bf, hb5⟩)
  rw [← HW3.out] at hgg hb5
  obtain ⟨hg1, hg2, hg3, hg4⟩ := hgg
  have hs3 := HS3.out
  have hs5 := hb5.size
  have hk0 := HK0.out.below hb5 HK0.out.lt
  have hk1 := HK1.out.below hb5 HK1.out.lt
  have hk2 := HK2.out.below hb5 HK2.out.lt
  have HB5 := Lib.hid (HB3.out.trans (hb5.mono (by omega)))
  refine range_by rfl (by omega) (gf := 36) (lb := #[.pointer (some ⟨gx, 0, none⟩), .pointer (some ⟨gf, 0, none⟩)]) rfl trivial (enters_of Try.func36 (by kernel_rfl) rfl)
    (encs := fun i => #[.int .i64 (T.getD i 0 : Nat)]) (N := T.length) (M := fun _ V => IxM V x c ∧ Blk V gx 25 #[.pointer (some ⟨x, 0, none⟩)] ∧ Blk V gf 33 #[.int .u32 f])
    (having_seq 4 gx gf x f g c C T HG.out HC.out HT.out _ (fun i V hV => ⟨hV.1, hV.2.1.cell 0, hV.2.2.cell 0⟩)) (fun _ => rfl)
    (fun i V => (((Blk V w.heap.size 25 #[.pointer (some ⟨x, 0, none⟩)] ∧ Blk V (w.heap.size + 1) 36 #[.int .i64 a0, .int .u64 a1, .int .i64 a2]) ∧ Blk V (w.heap.size + 1 + 1) 3 #[.int .i64 0]) ∧ Blk V gx 25 #[.pointer (some ⟨x, 0, none⟩)] ∧ Blk V gf 33 #[.int .u32 f]) ∧ Below w.heap.size w V ∧ ∀ j, j < i → adrC c (T.getD j 0) ≠ adrV (a0, a1, a2))
    (fun cd i V => (cd = .ret ∧ adrC c (T.getD i 0) = adrV (a0, a1, a2)) ∧ Blk V (w.heap.size + 1 + 1) 3 #[.int .i64 (T.getD i 0 : Nat)] ∧ Below w.heap.size w V)
    (OwnFrom.and (OwnFrom.and (OwnFrom.and (OwnFrom.and (Own.from (blk_own _ _ _) _) (Own.from (blk_own _ _ _) _)) (Own.from (blk_own _ _ _) _)) (OwnFrom.and (Own.from (blk_own _ _ _) _) (Own.from (blk_own _ _ _) _))) (OwnFrom.and (ownFrom_below (Nat.le_refl _) HB5.out.size) (own_pure _)))
    (fun cd => OwnFrom.and (own_pure _) (OwnFrom.and (Own.from (blk_own _ _ (fun i => #[.int .i64 (T.getD i 0 : Nat)])) _) (ownFrom_below (Nat.le_refl _) HB5.out.size)))
    ⟨⟨⟨⟨hk0, hk1⟩, hk2⟩, bx, bf⟩, HB5.out, fun j hj => absurd hj (by omega)⟩
    (fun i V hV => ⟨HX.out.below hV.2.1 hxl, hV.1.2.1, hV.1.2.2⟩)
    (fun i a' W => a' = { tmps := #[.pointer (some ⟨x, 0, none⟩), .int .u32 f, .agg (adrV (a0, a1, a2)).toArray, .pointer (some ⟨w.heap.size, 0, none⟩), undef, .pointer (some ⟨w.heap.size + 1, 0, none⟩), .pointer (some ⟨w.heap.size + 1 + 1, 0, none⟩), .int .i64 (T.getD i 0 : Nat), .pointer (some ⟨x, 0, none⟩), .int .u32 f, .func (.func 36) #[] #[.pointer (some ⟨gx, 0, none⟩), .pointer (some ⟨gf, 0, none⟩)], .int .i64 (T.getD i 0 : Nat), undef, undef, undef, undef, undef, undef, undef, undef, undef], defers := [] })
    (fun i a' _ X Y row hs hg hr => hs)
    ?assign ?body ?done ?stop
  case assign =>
    rintro l i W K hi hI hK
    clear hi
    obtain ⟨k, hk⟩ : ∃ k, T.getD i 0 = k := ⟨_, rfl⟩
    rw [hk] at hK ⊢
    gi_wp2
    exact hK _ _ (KeepsFrom.refl _ _) hI rfl
  case body =>
    rintro l i a' W hi hl ⟨r, hr⟩ ⟨⟨⟨⟨h0, h1⟩, h2⟩, h3, h4⟩, hB, hj⟩ rfl
    obtain ⟨hk1, hk2⟩ := HTM.out i hi
    clear hi
    obtain ⟨k, hk⟩ : ∃ k, T.getD i 0 = k := ⟨_, rfl⟩
    rw [hk] at hk1 hk2 ⊢
    have hX := HX.out.below hB hxl
    have c0 := h0.cell 0
    have x0 := hX.adr0 hk2
    have x1 := hX.adr1 hk2
    have x2 := hX.adr2 hk2
    have y0 := h1.cell 0
    have y1 := h1.cell 1
    have y2 := h1.cell 2
    have z0 := h2.cell 0
    have hq := eql_adr (c (1027 + k * 3)) (c (1027 + k * 3 + 1)) (c (1027 + k * 3 + 2)) a0 a1 a2
    obtain ⟨t, ht⟩ : ∃ t, decide ((c (1027 + k * 3), c (1027 + k * 3 + 1), c (1027 + k * 3 + 2)) = (a0, a1, a2)) = t := ⟨_, rfl⟩
    rw [ht] at hq
    have HT := Lib.hid ht
    clear ht
    have zf := h2.frozen 0
    gi_wp2
    refine region_quietR (by kernel_rfl) (by kernel_rfl) (by kernel_rfl) ?_
    repeat (gi_big_quiet_step (fail))
    refine wpQuietIn_nil ?_
    intro _ hw'
    obtain ⟨nq, hw''⟩ := hw'
    subst hw''
    cases t
    · gi_wp2
      refine ⟨(keeps_drewN W nq).from _, ⟨⟨⟨h0.drewN nq, h1.drewN nq⟩, h2.drewN nq⟩, h3.drewN nq, h4.drewN nq⟩, below_drewN hB nq, fun j hj2 => ?_⟩
      by_cases e : j < i
      · exact hj j e
      · obtain rfl : j = i := by omega
        rw [hk]
        intro e
        have h9 := of_decide_eq_false HT.out
        refine h9 ?_
        simp only [adrC, adrV, List.cons.injEq, Value.int.injEq] at e
        simp only [Prod.mk.injEq]
        exact ⟨e.1.2, e.2.1.2, e.2.2.1.2⟩
    · gi_wp2
      refine ⟨((keeps_drewN W nq).trans (KeepsOthers.setCell _ _ _)).from _, ⟨rfl, ?_⟩, ?_, (below_drewN hB nq).setCell (p := ⟨w.heap.size + 1 + 1, 0, none⟩) (by simp; omega) _⟩
      · have h9 := of_decide_eq_true HT.out
        simp only [Prod.mk.injEq] at h9
        rw [hk]
        simp [adrC, adrV, h9.1, h9.2.1, h9.2.2]
      · rw [hk]
        exact (h2.drewN nq).set_ 0 (.int .i64 (k : Nat))
  case done =>
    rintro D W hD ⟨⟨⟨⟨h0, h1⟩, h2⟩, h3, h4⟩, hB, hj⟩ hK
    have f2 := h2.frozen 0
    have c2 : W.cell? ⟨w.heap.size + 1 + 1, 0, none⟩ = some (.int .i64 0) := h2.cell 0
    gi_wp2
    have hK' := (KeepsOthers.setCell W ⟨w.heap.size + 1 + 1, 0, none⟩ (.int .i64 0)).same D _ hK rfl
    refine ⟨by simp, .inl ⟨_, _, rfl, run_takeDeferred hK', ?_⟩⟩
    have hd2 := (h2.set_ 0 (.int .i64 0)).cell 0
    have hc2 := cell_kept (v := .int .i64 0) hd2 (grownBy_putObj' _ D (.deferred none)) (fun r e => by cases e; exact ⟨_, hK', rfl⟩)
    refine ⟨.int .i64 0, ?_, .inr ⟨rfl, hj⟩, (hB.setCell (p := ⟨w.heap.size + 1 + 1, 0, none⟩) (by simp; omega) _).trans (belowK_b (w := w) (Nat.le_refl _) _ D _ _ (Nat.le_trans HB5.out.size hD) hK' rfl rfl)⟩
    simp [results, Try.f28, go_sem, hc2]
  case stop =>
    rintro D cd i W hD hi ⟨⟨rfl, he⟩, h2, hB⟩ hK
    have c2 : W.cell? ⟨w.heap.size + 1 + 1, 0, none⟩ = some (.int .i64 (T.getD i 0 : Nat)) := h2.cell 0
    gi_wp2
    refine ⟨by simp, .inl ⟨_, _, rfl, run_takeDeferred hK, ?_⟩⟩
    have hc2 := cell_kept c2 (grownBy_putObj' _ D (.deferred none)) (fun r e => by cases e; exact ⟨_, hK, rfl⟩)
    refine ⟨.int .i64 (T.getD i 0 : Nat), ?_, .inl ⟨i, hi, rfl, he⟩, hB.trans (belowK_b (w := w) (Nat.le_refl _) W D _ _ (Nat.le_trans HB5.out.size hD) hK rfl rfl)⟩
    simp [results, Try.f28, go_sem, hc2]
end Go.Proofs.Ytfgmbkflpdobcaa
