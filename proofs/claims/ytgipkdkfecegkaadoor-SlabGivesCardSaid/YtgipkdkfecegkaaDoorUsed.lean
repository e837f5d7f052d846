/- Used, Pages, Free. -/
import Derived.Test.YtgipkdkfecegkaaDoorHav
import Derived.Test.YtgipkdkfecegkaaDoorOwn10
import Derived.Test.YtgipkdkfecegkaaDoorInRound
import Derived.Test.YtgipkdkfecegkaaDoorTillG
namespace Go.Proofs.YtgipkdkfecegkaaDoor
open Go.RowKit Go.Shelf PgM
attribute [local go_sem] Oper.semAt_some
set_option linter.unusedVariables false
set_option linter.unusedSimpArgs false
theorem having_any (A : Option Addr) (c : Int) (w : World) :
    Calls Tryd.prog 35 #[.pointer A, .int .i64 c] w fun e w' => ∃ gx gf, (w.heap.size ≤ gx ∧ gx < w'.heap.size ∧ w.heap.size ≤ gf ∧ gf < w'.heap.size) ∧ e = .returned (.func (.func 42) #[] #[.pointer (some ⟨gx, 0, none⟩), .pointer (some ⟨gf, 0, none⟩)]) ∧
      Blk w' gx 29 #[.pointer A] ∧ Blk w' gf 3 #[.int .i64 c] ∧ Below w.heap.size w w' := by
  go_enter Tryd.func35, Tryd.ntmps35
  go_wp2
  go_ret
  refine ⟨_, _, ⟨?_, ?_, ?_, ?_⟩, rfl, (Blk.new w _ _).alloc _, ?_, ((Below.refl _ w).alloc (Nat.le_refl _) _).alloc (by simp) _⟩
  · simp
  · simp; omega
  · simp
  · simp
  have h := Blk.new (w.alloc (.cells #[.pointer A] 29)) 3 #[.int .i64 c]
  simpa using h
set_option maxRecDepth 100000 in
set_option maxHeartbeats 4000000 in
theorem pages_any {w : World} {x g : Nat} {ps : List Pg} (h : ArM w x g ps) (c : Int) :
    Calls Tryd.prog 26 #[.pointer (some ⟨x, 0, none⟩), .int .i64 c] w fun e w' => e = .returned (.int .i64 ((ps.filter (hasZ c)).length : Nat)) ∧ Below w.heap.size w w' := by
  obtain ⟨hxl, hgl⟩ := h.lt
  obtain ⟨⟨cap, X, hx, hg⟩, hp, hn, hi, ht, -⟩ := h
  obtain ⟨T, hT⟩ : ∃ T, T = ps.filter (hasZ c) := ⟨_, rfl⟩
  rw [← hT]
  have hTl : T.length ≤ 256 := by rw [hT]; exact Nat.le_trans (List.length_filter_le _ _) hn
  have HT := Lib.hid hT
  have HX := Lib.hid hx
  have HG := Lib.hid hg
  have HTL := Lib.hid hTl
  clear hx hg hi ht hT hTl
  obtain ⟨w1, hw1⟩ : ∃ w1, w1 = w.alloc (.cells #[.int .i64 0] 3) := ⟨_, rfl⟩
  have HB1 := Lib.hid (show Below w.heap.size w w1 by rw [hw1]; exact (Below.refl _ w).alloc (Nat.le_refl _) _)
  have HK1 := Lib.hid (show Blk w1 w.heap.size 3 #[.int .i64 (0 : Nat)] by rw [hw1]; exact Blk.new w _ _)
  have HH := Lib.hid (having_any (some ⟨x, 0, none⟩) c w1)
  have HW1 := Lib.hid hw1
  rw [hw1] at HH
  clear hw1
  refine (callsIn_wide (n := 5)).1 ?_
  refine callsIn_of_wp_marks Tryd.func26 rfl trivial ?_ rfl
  simp only [Tryd.ntmps26, List.size_toArray, List.length_cons, List.length_nil, Nat.reduceAdd, Nat.reduceSub, Array.replicate_succ, Array.replicate_zero, List.push_toArray, List.append_toArray, List.nil_append, List.cons_append]
  gi_wp2_with (refine ⟨trivial, ?_⟩; gi_at_call 35; refine (callsIn_wide.2 HH.out).mono ?_; rintro e w5 ⟨gx, gf, hgg, rfl, bx, bf, hb5⟩)
  rw [← HW1.out] at hgg hb5
  obtain ⟨hg1, hg2, hg3, hg4⟩ := hgg
  have hs1 := HK1.out.lt
  have hk1 := HK1.out.below hb5 HK1.out.lt
  have HB5 := Lib.hid (HB1.out.trans (hb5.mono HB1.out.size))
  have hs5 := hb5.size
  refine range_by rfl (by decide) (gf := 42) (lb := #[.pointer (some ⟨gx, 0, none⟩), .pointer (some ⟨gf, 0, none⟩)]) rfl trivial (enters_of Tryd.func42 (by kernel_rfl) rfl)
    (encs := fun i => #[pgV (T.getD i pg0)]) (N := T.length) (M := fun _ V => (Blk V gx 29 #[.pointer (some ⟨x, 0, none⟩)] ∧ Blk V gf 3 #[.int .i64 c]) ∧ Below w.heap.size w V)
    (having_seq 4 gx gf x g c ps T hn HT.out _ (fun i V hV => ⟨hV.1.1.cell 0, hV.1.2.cell 0, ⟨cap, (HX.out.below hV.2 hxl).cell 0⟩, fun j hj => flat_cell (HG.out.below hV.2 hgl) hj⟩)) (fun _ => rfl)
    (fun i V => Blk V w.heap.size 3 #[.int .i64 (i : Nat)] ∧ (Blk V gx 29 #[.pointer (some ⟨x, 0, none⟩)] ∧ Blk V gf 3 #[.int .i64 c]) ∧ Below w.heap.size w V)
    (fun cd i V => False)
    (OwnFrom.and (Own.from (blk_own _ _ (fun i : Nat => #[.int .i64 (i : Nat)])) _) (OwnFrom.and (OwnFrom.and (Own.from (blk_own _ _ _) _) (Own.from (blk_own _ _ _) _)) (ownFrom_below (Nat.le_refl _) HB5.out.size)))
    (fun cd => own_pure _)
    ⟨hk1, ⟨bx, bf⟩, HB5.out⟩
    (fun i V hV => hV.2)
    (fun i a' V => a' = { tmps := #[.pointer (some ⟨x, 0, none⟩), .int .i64 c, undef, undef, .int .i64 0, .pointer (some ⟨w.heap.size, 0, none⟩), .pointer (some ⟨x, 0, none⟩), .int .i64 c, .func (.func 42) #[] #[.pointer (some ⟨gx, 0, none⟩), .pointer (some ⟨gf, 0, none⟩)], pgV (T.getD i pg0), undef, undef, undef], defers := [] })
    (fun i a' _ X Y row hs hg hr => hs)
    ?assign ?body ?done ?stop
  case assign =>
    rintro l i W K hi hI hK
    clear hi
    obtain ⟨k1, hk1⟩ : ∃ k1, pgV (T.getD i pg0) = k1 := ⟨_, rfl⟩
    rw [hk1] at hK ⊢
    gi_wp2
    exact hK _ _ (KeepsFrom.refl _ _) hI (by first | rfl | simp)
  case body =>
    rintro l i a' W hi hl ⟨rr, hrr⟩ ⟨h0, ⟨h1, h2⟩, hB⟩ rfl
    have c0 := h0.cell 0
    have f0 := h0.frozen 0
    have hi2 : i < 256 := Nat.lt_of_lt_of_le hi HTL.out
    obtain ⟨k1, hk1⟩ : ∃ k1, pgV (T.getD i pg0) = k1 := ⟨_, rfl⟩
    rw [hk1]
    clear hi hk1
    have H0 := Lib.hid h0
    have H1 := Lib.hid h1
    have H2 := Lib.hid h2
    have HBv := Lib.hid hB
    clear h0 h1 h2 hB
    gi_wp2
    refine ⟨(KeepsOthers.setCell _ _ _).from _, ?_, ⟨H1.out.far (p := ⟨w.heap.size, 0, none⟩) (by simp; omega) _, H2.out.far (p := ⟨w.heap.size, 0, none⟩) (by simp; omega) _⟩, HBv.out.setCell (p := ⟨w.heap.size, 0, none⟩) (by simp) _⟩
    have h := H0.out.set_ 0 (.int .i64 ((i : Int) + 1))
    simpa using h
  case done =>
    rintro D W hD ⟨h0, ⟨h1, h2⟩, hB⟩ hK
    have c0 := h0.cell 0
    clear h1 h2
    gi_wp2
    refine ⟨by simp, .inl ⟨_, _, rfl, run_takeDeferred hK, ?_⟩⟩
    exact ⟨.int .i64 (T.length : Nat), by simp [results, Tryd.f26, go_sem], rfl, hB.trans (belowK_b (w := w) (Nat.le_refl _) _ D _ _ (Nat.le_trans HB5.out.size hD) hK rfl rfl)⟩
  case stop =>
    rintro D cd i W hD hi h hK
    exact h.elim
theorem sum_take (T : List Pg) {i : Nat} (hi : i < T.length) : ((T.take (i + 1)).map (fun p => pop p.2)).sum = ((T.take i).map (fun p => pop p.2)).sum + pop (T.getD i pg0).2 := by
  rw [List.take_add_one, List.getElem?_eq_getElem hi, List.map_append, List.sum_append]
  simp [List.getD, List.getElem?_eq_getElem hi]
theorem sum_le (T : List Pg) : (T.map (fun p => pop p.2)).sum ≤ 32 * T.length := by
  induction T with
  | nil => simp
  | cons a T ih =>
    have := pop_le a.2
    simp only [List.map_cons, List.sum_cons, List.length_cons]
    omega
abbrev us0 : Oper := { dst := some 11, op := Go.Op.load 3 (Go.Operand.tmp 5), type := 3, pos := "slab.go:86", after := #[], guard := none }
abbrev us1 : Oper := { dst := some 12, op := Go.Op.load 60 (Go.Operand.tmp 6), type := 60, pos := "slab.go:86", after := #[], guard := none }
abbrev us2 : Oper := { dst := some 13, op := Go.Op.call { callee := Go.Callee.value (Go.Operand.func 36), args := #[Go.Operand.tmp 12], argTypes := #[60] }, type := 3, pos := "slab.go:86", after := #[{ on := 1, ground := Go.Ground.data }], guard := none }
abbrev us3 : Oper := { dst := some 14, op := Go.Op.binOp Go.BinOp.add 3 (Go.Operand.tmp 11) (Go.Operand.tmp 13) 3, type := 3, pos := "slab.go:86", after := #[{ on := 0, ground := Go.Ground.data }, { on := 2, ground := Go.Ground.data }], guard := none }
abbrev us4 : Oper := { dst := none, op := Go.Op.store 3 (Go.Operand.tmp 5) (Go.Operand.tmp 14), type := 0, pos := "slab.go:86", after := #[{ on := 3, ground := Go.Ground.data }, { on := 2, ground := Go.Ground.chain }, { on := 0, ground := Go.Ground.phase }, { on := 1, ground := Go.Ground.phase }, { on := 2, ground := Go.Ground.phase }, { on := 3, ground := Go.Ground.phase }], guard := none }
set_option maxRecDepth 100000 in
set_option maxHeartbeats 4000000 in
theorem used_all {w : World} {x g : Nat} {ps : List Pg} (h : ArM w x g ps) (c : Int) :
    Calls Tryd.prog 25 #[.pointer (some ⟨x, 0, none⟩), .int .i64 c] w fun e w' => e = .returned (.int .i64 (((ps.filter (hasZ c)).map (fun p => pop p.2)).sum : Nat)) ∧ Below w.heap.size w w' := by
  obtain ⟨hxl, hgl⟩ := h.lt
  obtain ⟨⟨cap, X, hx, hg⟩, hp, hn, hi, ht, -⟩ := h
  obtain ⟨T, hT⟩ : ∃ T, T = ps.filter (hasZ c) := ⟨_, rfl⟩
  rw [← hT]
  have hT32 : ∀ i, i < T.length → (T.getD i pg0).2 < 4294967296 := fun i hi2 => by
    have hm : T.getD i pg0 ∈ T := by simp only [List.getD, List.getElem?_eq_getElem hi2, Option.getD_some]; exact List.getElem_mem hi2
    exact (hi _ (List.mem_filter.1 (hT ▸ hm : T.getD i pg0 ∈ ps.filter (hasZ c))).1).u32
  have HT32 := Lib.hid hT32
  clear hT32
  have hTl : T.length ≤ 256 := by rw [hT]; exact Nat.le_trans (List.length_filter_le _ _) hn
  have HT := Lib.hid hT
  have HX := Lib.hid hx
  have HG := Lib.hid hg
  have HTL := Lib.hid hTl
  clear hx hg hi ht hT hTl
  obtain ⟨w1, hw1⟩ : ∃ w1, w1 = w.alloc (.cells #[.int .i64 0] 3) := ⟨_, rfl⟩
  have HB1 := Lib.hid (show Below w.heap.size w w1 by rw [hw1]; exact (Below.refl _ w).alloc (Nat.le_refl _) _)
  have HK1 := Lib.hid (show Blk w1 w.heap.size 3 #[.int .i64 (0 : Nat)] by rw [hw1]; exact Blk.new w _ _)
  have HH := Lib.hid (having_any (some ⟨x, 0, none⟩) c w1)
  have HW1 := Lib.hid hw1
  rw [hw1] at HH
  clear hw1
  refine (callsIn_wide (n := 5)).1 ?_
  refine callsIn_of_wp_marks Tryd.func25 rfl trivial ?_ rfl
  simp only [Tryd.ntmps25, List.size_toArray, List.length_cons, List.length_nil, Nat.reduceAdd, Nat.reduceSub, Array.replicate_succ, Array.replicate_zero, List.push_toArray, List.append_toArray, List.nil_append, List.cons_append]
  gi_wp2_with (refine ⟨trivial, ?_⟩; gi_at_call 35; refine (callsIn_wide.2 HH.out).mono ?_; rintro e w5 ⟨gx, gf, hgg, rfl, bx, bf, hb5⟩)
  rw [← HW1.out] at hgg hb5
  obtain ⟨hg1, hg2, hg3, hg4⟩ := hgg
  have hs1 := HK1.out.lt
  have hk1 := HK1.out.below hb5 HK1.out.lt
  have HB5 := Lib.hid (HB1.out.trans (hb5.mono HB1.out.size))
  have hs5 := hb5.size
  refine range_by rfl (by decide) (gf := 42) (lb := #[.pointer (some ⟨gx, 0, none⟩), .pointer (some ⟨gf, 0, none⟩)]) rfl trivial (enters_of Tryd.func42 (by kernel_rfl) rfl)
    (encs := fun i => #[pgV (T.getD i pg0)]) (N := T.length) (M := fun _ V => (Blk V gx 29 #[.pointer (some ⟨x, 0, none⟩)] ∧ Blk V gf 3 #[.int .i64 c]) ∧ Below w.heap.size w V)
    (having_seq 4 gx gf x g c ps T hn HT.out _ (fun i V hV => ⟨hV.1.1.cell 0, hV.1.2.cell 0, ⟨cap, (HX.out.below hV.2 hxl).cell 0⟩, fun j hj => flat_cell (HG.out.below hV.2 hgl) hj⟩)) (fun _ => rfl)
    (fun i V => Blk V w.heap.size 3 #[.int .i64 (((T.take i).map (fun p => pop p.2)).sum : Nat)] ∧ (Blk V gx 29 #[.pointer (some ⟨x, 0, none⟩)] ∧ Blk V gf 3 #[.int .i64 c]) ∧ Below w.heap.size w V)
    (fun cd i V => False)
    (OwnFrom.and (Own.from (blk_own _ _ (fun i : Nat => #[.int .i64 (((T.take i).map (fun p => pop p.2)).sum : Nat)])) _) (OwnFrom.and (OwnFrom.and (Own.from (blk_own _ _ _) _) (Own.from (blk_own _ _ _) _)) (ownFrom_below (Nat.le_refl _) HB5.out.size)))
    (fun cd => own_pure _)
    ⟨by simpa using hk1, ⟨bx, bf⟩, HB5.out⟩
    (fun i V hV => hV.2)
    (fun i a' V => ∃ b6, (a' = { tmps := #[.pointer (some ⟨x, 0, none⟩), .int .i64 c, undef, undef, .int .i64 0, .pointer (some ⟨w.heap.size, 0, none⟩), .pointer (some ⟨b6, 0, none⟩), .pointer (some ⟨x, 0, none⟩), .int .i64 c, .func (.func 42) #[] #[.pointer (some ⟨gx, 0, none⟩), .pointer (some ⟨gf, 0, none⟩)], pgV (T.getD i pg0), undef, undef, undef, undef, undef], defers := [] }) ∧ Blk V b6 60 (pgC (T.getD i pg0)).toArray)
    (fun i a' _ X Y row hs hg hr => by obtain ⟨b6, e, hb⟩ := hs; exact ⟨b6, e, (Own.from (blk_own b6 60 (fun _ : Unit => (pgC (T.getD i pg0)).toArray)) _) () X Y row hb hg hr⟩)
    ?assign ?body ?done ?stop
  case assign =>
    rintro l i W K hi hI hK
    clear hi
    obtain ⟨⟨k1, k2⟩, hk1⟩ : ∃ k1, T.getD i pg0 = k1 := ⟨_, rfl⟩
    rw [hk1] at hK ⊢
    gi_wp2
    exact hK _ _ ((KeepsOthers.alloc W _).from _) ⟨hI.1.alloc _, ⟨hI.2.1.1.alloc _, hI.2.1.2.alloc _⟩, hI.2.2.alloc hI.2.2.size _⟩ ⟨_, rfl, Blk.new W _ _⟩
  case body =>
    rintro l i a' W hi hl ⟨rr, hrr⟩ ⟨h0, ⟨h1, h2⟩, hB⟩ ⟨b6, rfl, h6⟩
    have hsum := sum_take T hi
    have hle := sum_le (T.take i)
    have hlt : (T.take i).length ≤ 256 := by rw [List.length_take]; have := HTL.out; omega
    have hu := HT32.out i hi
    clear hi
    obtain ⟨⟨k1, k2⟩, hk1⟩ : ∃ k1, T.getD i pg0 = k1 := ⟨_, rfl⟩
    rw [hk1] at h6 hsum hu ⊢
    have hp32 := pop_le k2
    have HU := Lib.hid (used_any k1 k2 hu)
    obtain ⟨s, hs⟩ : ∃ s, ((T.take i).map (fun p => pop p.2)).sum = s := ⟨_, rfl⟩
    obtain ⟨q, hq⟩ : ∃ s, pop k2 = s := ⟨_, rfl⟩
    rw [hs] at h0 hsum hle
    rw [show pop (k1, k2).2 = q from hq] at hsum
    rw [hq] at HU hp32
    have hs2 : s ≤ 8192 := by omega
    have HSUM := Lib.hid hsum
    clear hk1 hs hq hsum hle hlt
    have hbW := hB.size
    have h60 := h6.lt
    have hne6 : w.heap.size ≠ b6 := h0.ne_ h6 (by decide)
    gi_wp2
    refine Tillst.calm (fun V => Blk V w.heap.size 3 #[.int .i64 (s : Nat)] ∧ Blk V b6 60 (pgC (k1, k2)).toArray) [4] (by kernel_rfl) (by kernel_rfl) ⟨h0, h6⟩ (fun hHeld => ?_)
    refine Tillst.take (i := 0) (oi := us0) (v := ?_) rfl (by kernel_rfl) (by kernel_rfl) (by kernel_rfl) (by kernel_rfl) (fun _ _ _ h => h) (by rfl) ?_ hHeld ?_
    rotate_left
    · intro W hSW; obtain ⟨s1, s2⟩ := hSW; have t0 := s1.cell 0; have t1 := s2.cell 0; have t2 := s2.cell 1; unfold us0; go_simp; with_reducible rfl
    simp only [us0, Act.put, List.setIfInBounds_toArray, List.set_cons_zero, List.set_cons_succ]
    refine Tillst.take (i := 1) (oi := us1) (v := ?_) rfl (by kernel_rfl) (by kernel_rfl) (by kernel_rfl) (by kernel_rfl) (fun _ _ _ h => h) (by rfl) ?_ hHeld ?_
    rotate_left
    · intro W hSW; obtain ⟨s1, s2⟩ := hSW; have t0 := s1.cell 0; have t1 := s2.cell 0; have t2 := s2.cell 1; unfold us1; go_simp; with_reducible rfl
    simp only [us1, Act.put, List.setIfInBounds_toArray, List.set_cons_zero, List.set_cons_succ]
    refine Tillst.one (i := 2) (o := us2) (by kernel_rfl) rfl ?_
    intro K hK
    refine step_call 36 _ _ rfl rfl Tryd.func36 (by kernel_rfl) (by kernel_rfl) [pgV (k1, k2)] rfl ?_
    refine (HU.out _).mono ?_
    rintro e w8 ⟨rfl, hb8⟩
    have hsd : W.drew.heap.size = W.heap.size := rfl
    have HD := Lib.hid (show Below W.heap.size W w8 from ((Below.refl W.heap.size W).drew).trans hb8)
    have H8 := Lib.hid (h0.below HD.out h0.lt)
    have H86 := Lib.hid (h6.below HD.out h6.lt)
    have H81 := Lib.hid (h1.below HD.out h1.lt)
    have H82 := Lib.hid (h2.below HD.out h2.lt)
    have HB8 := Lib.hid (hB.trans (HD.out.mono hB.size))
    refine ⟨_, rfl, ?_⟩
    simp only [us2, Act.put, List.setIfInBounds_toArray, List.set_cons_zero, List.set_cons_succ]
    refine hK.out _ _ (fun _ => ⟨H8.out, H86.out⟩) (fun hHeld => ?_)
    replace hHeld := hHeld (by decide)
    clear hK K hb8
    refine Tillst.one (i := 3) (o := us3) (by kernel_rfl) rfl ?_
    intro K hK
    refine step_value ?_ rfl ?_ ?_
    rotate_left
    · unfold us3; go_simp; with_reducible rfl
    simp only [us3, Act.put, List.setIfInBounds_toArray, List.set_cons_zero, List.set_cons_succ]
    refine hK.out _ _ (fun _ => hHeld) (fun hHeld => ?_)
    replace hHeld := hHeld (by decide)
    clear hK K
    have hw : IntKind.i64.wrap ((s : Int) + q) = (s : Int) + q := IntWalk.i64_in _ (by omega)
    rw [hw]
    refine Tillst.one (i := 4) (o := us4) (by kernel_rfl) rfl ?_
    intro K hK
    have f8 := H8.out.frozen 0
    have c8 := H8.out.cell 0
    refine step_store_cell (.tmp 5) (.tmp 14) 3 (by with_reducible rfl) (by rfl) ⟨w.heap.size, 0, none⟩ (.int .i64 ((s : Int) + q)) (by rfl) (by rfl) ?_ ?_
    · go_simp
    simp only [us4, Act.put]
    refine hK.out _ _ (fun h => absurd h (by decide)) (fun _ => ?_)
    clear hK K
    refine Tillst.done (by kernel_rfl) ?_ _
    refine ⟨(KeepsOthers.trans (KeepsOthers.of_grownBy (below_grown HD.out) (fun j o e => by cases e)) (KeepsOthers.setCell _ _ _)).from _, ?_, ⟨H81.out.far (p := ⟨w.heap.size, 0, none⟩) (by simp; omega) _, H82.out.far (p := ⟨w.heap.size, 0, none⟩) (by simp; omega) _⟩, HB8.out.setCell (p := ⟨w.heap.size, 0, none⟩) (by simp) _⟩
    have h := H8.out.set_ 0 (.int .i64 ((s : Int) + q))
    rw [HSUM.out]
    simpa using h
  case done =>
    rintro D W hD ⟨h0, ⟨h1, h2⟩, hB⟩ hK
    rw [List.take_length] at h0
    have c0 := h0.cell 0
    clear h1 h2
    gi_wp2
    refine ⟨by simp, .inl ⟨_, _, rfl, run_takeDeferred hK, ?_⟩⟩
    exact ⟨.int .i64 (((T.map (fun p => pop p.2)).sum : Nat)), by simp [results, Tryd.f25, go_sem], rfl, hB.trans (belowK_b (w := w) (Nat.le_refl _) _ D _ _ (Nat.le_trans HB5.out.size hD) hK rfl rfl)⟩
  case stop =>
    rintro D cd i W hD hi h hK
    exact h.elim
end Go.Proofs.YtgipkdkfecegkaaDoor
