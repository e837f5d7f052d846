/- All's function; the law's told. -/
import Derived.Test.YthegbimolbhikaaAll12
namespace Go.Proofs.Ythegbimolbhikaa
open Go.RowKit Go.Shelf
attribute [local go_sem] Oper.semAt_some
set_option linter.unusedVariables false
set_option linter.unusedSimpArgs false
set_option maxRecDepth 100000
abbrev mkN : Nat → Value := fun k => Value.int .i64 (k : Nat)
abbrev RowNat := RowG mkN (0 : Nat)
set_option maxHeartbeats 4000000 in
theorem all1_seq12 (n g N : Nat) (A : Option Addr) (c : Nat) (L : List Nat) (hN : N ≤ 65536) {S : Nat → Prop}
    (M : Nat → World → Prop) (hM : ∀ i V, M i V → V.cell? ⟨g, 0, none⟩ = some (.slice A N c) ∧ RowNat V S A N L) :
    SeqM Fence.wide n Try.prog 43 #[.pointer (some ⟨g, 0, none⟩)] (fun i => #[.int .i64 (L.getD i 0 : Nat)]) N M := by
  intro l J Jx W hJ hJx hJM hY h0
  refine callsIn_of_wp Try.func43 rfl trivial ?_ rfl
  simp only [Try.ntmps43, List.size_toArray, List.length_cons, List.length_nil, Nat.reduceAdd, Nat.reduceSub, Array.replicate_succ, Array.replicate_zero, List.push_toArray, List.append_toArray, List.nil_append, List.cons_append]
  obtain ⟨k1, -⟩ := hM _ _ (hJM 0 W h0)
  gi_wp2
  gi_loopw [7] (fun i wr => ∃ j : Nat, i = .int .i64 j ∧ j ≤ N ∧ J j wr) (fun i _ => N - (intOf i).toNat)
  case atStart => exact ⟨0, rfl, Nat.zero_le _, h0⟩
  case round =>
    obtain ⟨j, rfl, hj, hJj⟩ := hrel
    obtain ⟨q1, q3⟩ := hM _ _ (hJM _ _ hJj)
    by_cases hjn : j < N
    · obtain ⟨b1, o1, rfl, _, hc1⟩ := q3.2 (by omega)
      have z0 := hc1 j hjn
      obtain ⟨fn, tmps, assign, body, hy, hR⟩ := hY j _ hjn hJj
      obtain ⟨fv, hfv⟩ : ∃ f, L.getD j 0 = f := ⟨_, rfl⟩
      rw [hfv] at z0 hy
      clear q3 hc1 hfv
      gi_wp2
      refine ⟨(fun h => by cases h), hR.mono ?_⟩
      rintro e V (⟨rfl, hJ2⟩ | ⟨rfl, hJ2⟩)
      · gi_wp2
        go_roundw
        case rel => exact ⟨j + 1, by simp, by omega, hJ2⟩
        case measure => show N - (Int.toNat ((j : Int) + 1)) < N - (Int.toNat (j : Int)); omega
      · gi_wp2
        exact ⟨rfl, _, results_none rfl _ _ _, ⟨_, rfl⟩, .inr ⟨j, hjn, hJ2⟩⟩
    · obtain rfl : j = N := by omega
      gi_wp2
      go_end0
      exact ⟨⟨_, rfl⟩, .inl hJj⟩
theorem LrV.ofLen {w : World} {x p n : Nat} {xs : List (List Nat)} (h : LrV w x p n xs) (i : Int) : (ofX xs i).length ≤ 65536 := by
  have h1 := h.len i.toNat
  have h2 := h.nums
  unfold ofX
  split
  · omega
  · simp
theorem all_lr {w : World} {x p n : Nat} {xs : List (List Nat)} (h : LrV w x p n xs) (i : Int) : Calls Try.prog 22 #[.pointer (some ⟨x, 0, none⟩), .int .i64 i] w fun e w' => AllT (ofX xs i) w e w' :=
  all_of _ i _ (h.ofLen i) w fun m gx gi M hM => order_lr m gx gi x p n i xs M fun j V hV => by
    obtain ⟨⟨h1, h2⟩, h3⟩ := hM j V hV
    exact ⟨h1, h2, h.below h3 h.lt.1 h.lt.2⟩
theorem all_lnil (w : World) (i : Int) : Calls Try.prog 22 #[.pointer none, .int .i64 i] w fun e w' => AllT [] w e w' :=
  all_of _ i [] (by simp) w fun m gx gi M hM => order_lr_nil m gx gi i _ M fun j V hV => (hM j V hV).1
theorem eql_fn12 (f : Nat) (c : Array Value) (w : World) : (binOp .eql 47 (.func (.func f) #[] c) .nilFunc).run Try.prog w = .ok (.bool false) w := by
  have h : (Op.equal 47 (.func (.func f) #[] c) .nilFunc).run Try.prog w = .ok false w := by
    rw [show Op.equal 47 (.func (.func f) #[] c) .nilFunc = Op.equalIn (9999 + 1) 47 (.func (.func f) #[] c) .nilFunc from rfl]
    unfold Op.equalIn
    simp [Sem.run_bind, run_underlying Try.underlying47]
  simp [go_sem, binOp, h]
def TolN (L : List Nat) (w4 : World) (j : Nat) (V : World) : Prop := (∃ v, VarO w4.heap.size 56 3 1 w4.heap.size v j (valsN (L.take j)) V) ∧ Below w4.heap.size w4 V
/-- The blocks of cells are as they were. -/
def KeepC (W W' : World) : Prop := ∀ (k : Nat) (cs : Array Value) (t : TypeId) (z : Nat × Nat), W.heap[k]? = some (Obj.cells cs t z) → W'.heap[k]? = some (Obj.cells cs t z)
theorem KeepC.refl (W : World) : KeepC W W := fun _ _ _ _ h => h
theorem KeepC.trans {W W' W'' : World} (h : KeepC W W') (h' : KeepC W' W'') : KeepC W W'' := fun k cs t z e => h' k cs t z (h k cs t z e)
theorem KeepC.blk {W W' : World} (h : KeepC W W') {g : Nat} {t : TypeId} {cs : Array Value} (hb : Blk W g t cs) : Blk W' g t cs := h _ _ _ _ hb
theorem KeepC.own {W W' : World} (h : KeepC W W') {base size n : Nat} {e : TypeId} {v : Value} {xs : List Value} (ho : W.ownsRow base e size v n xs) : W'.ownsRow base e size v n xs := by
  rcases ho.2 with h0 | ⟨g', cap, cur, rfl, hbs, hh, rest⟩
  · exact ⟨ho.1, .inl h0⟩
  · exact ⟨ho.1, .inr ⟨g', cap, cur, rfl, hbs, h _ _ _ _ hh, rest⟩⟩
theorem leaves_marks2 {F : Fence} {n : Nat} {P : Program} {fn : Func} {tmps : Array Value} {R : Ending → World → Prop} {w : World} : ∀ (Ds : List Nat) (W : World), MarksR w.heap.size Ds W →
    (∀ W', Below w.heap.size W W' → KeepC W W' → LeavesIn F n P fn tmps R [] .returning W') → LeavesInM F n P fn tmps R (Ds.map markR) .returning W
  | [], W, _, h => h W (Below.refl _ _) (KeepC.refl _)
  | D :: Ds, W, hm, h => by
    obtain ⟨h1, h2, h3⟩ := hm.2 D (List.mem_cons_self ..)
    have hb := belowK_b (w := w) (Nat.le_refl _) W D _ (.deferred none) h1 h3 rfl rfl
    have hkc : KeepC W (W.putObj D (.deferred none)) := fun k cs t z e => by
      rw [World.putObj_heap_other (by rintro rfl; rw [h3] at e; cases e)]
      exact e
    refine ⟨by simp, .inl ⟨D, W.putObj D (.deferred none), rfl, run_takeDeferred h3, leaves_marks2 Ds _ ⟨(List.nodup_cons.1 hm.1).2, fun D' hD' => ?_⟩ (fun W' hW' hk' => h W' (hb.trans hW') (hkc.trans hk'))⟩⟩
    obtain ⟨k1, k2, k3⟩ := hm.2 D' (List.mem_cons_of_mem _ hD')
    have hne : D' ≠ D := fun e => (List.nodup_cons.1 hm.1).1 (by rw [← e]; exact hD')
    exact ⟨k1, Nat.lt_of_lt_of_le k2 hb.size, by rw [World.putObj_heap_other hne]; exact k3⟩
structure EndC (w : World) (a b : Nat) (A : Option Addr) (n q : Nat) (W : World) : Prop where
  c1 : W.cell? ⟨a, 0, none⟩ = some (.slice A n q)
  c2 : W.cell? ⟨b, 0, none⟩ = some (.int .i64 (n : Nat))
  c3 : W.cell? ⟨w.heap.size, 0, none⟩ = some (.slice none 0 0)
  c4 : W.cell? ⟨w.heap.size + 1, 0, none⟩ = some (.bool false)
  f3 : W.frozen? ⟨w.heap.size, 0, none⟩ = false
  f4 : W.frozen? ⟨w.heap.size + 1, 0, none⟩ = false
  c5 : (W.setCell ⟨w.heap.size, 0, none⟩ (.slice A n q)).cell? ⟨a, 0, none⟩ = some (.slice A n q)
  c6 : (W.setCell ⟨w.heap.size, 0, none⟩ (.slice A n q)).cell? ⟨b, 0, none⟩ = some (.int .i64 (n : Nat))
  c7 : (W.setCell ⟨w.heap.size, 0, none⟩ (.slice A n q)).cell? ⟨w.heap.size + 1, 0, none⟩ = some (.bool false)
  f5 : (W.setCell ⟨w.heap.size, 0, none⟩ (.slice A n q)).frozen? ⟨w.heap.size + 1, 0, none⟩ = false
def ToldT (L : List Nat) (w : World) (e : Ending) (w' : World) : Prop := ∃ v, e = .returned (.tuple #[v, .bool true]) ∧ w'.ownsRow w.heap.size 3 1 v L.length (valsN L) ∧ Below w.heap.size w w'
set_option maxHeartbeats 8000000 in
theorem told_of (A : Option Addr) (i : Int) (L : List Nat) (hL : L.length ≤ 65536) (w : World)
    (hall : ∀ W, Below w.heap.size w W → Calls Try.prog 22 #[.pointer A, .int .i64 i] W fun e w' => AllT L W e w') :
    Calls Try.prog 26 #[.pointer A, .int .i64 i] w fun e w' => ToldT L w e w' := by
  obtain ⟨w2, hw2⟩ : ∃ w2, w2 = (w.alloc (.cells #[.slice none 0 0] 56)).alloc (.cells #[.bool false] 4) := ⟨_, rfl⟩
  have hb2 : Below w.heap.size w w2 := by rw [hw2]; exact ((Below.refl _ w).alloc (Nat.le_refl _) _).alloc (by simp) _
  have HB2 := Lib.hid hb2
  have HS2 := Lib.hid (show w2.heap.size = w.heap.size + 2 by rw [hw2]; simp)
  have HK1 := Lib.hid (show Blk w2 w.heap.size 56 #[.slice none 0 0] by rw [hw2]; exact (Blk.new w _ _).alloc _)
  have HK2 := Lib.hid (show Blk w2 (w.heap.size + 1) 4 #[.bool false] by rw [hw2]; have h := Blk.new (w.alloc (.cells #[.slice none 0 0] 56)) 4 #[.bool false]; simpa using h)
  have HALL := Lib.hid (hall w2 hb2)
  clear hall hb2
  refine (callsIn_wide (n := 7)).1 ?_
  refine callsIn_of_wp_marks Try.func26 rfl trivial ?_ rfl
  simp only [Try.ntmps26, List.size_toArray, List.length_cons, List.length_nil, Nat.reduceAdd, Nat.reduceSub, Array.replicate_succ, Array.replicate_zero, List.push_toArray, List.append_toArray, List.nil_append, List.cons_append]
  refine wpIn_wide.2 ?_
  go_wp2_with fail
  rw [← hw2]
  clear hw2
  refine HALL.out.mono ?_
  rintro e w4 ⟨g, v, rfl, hvo, hb4, hg⟩
  have hfn := eql_fn12 43 #[.pointer (some ⟨g, 0, none⟩)]
  have HB4 := Lib.hid (HB2.out.trans (hb4.mono HB2.out.size))
  have HK14 := Lib.hid (HK1.out.below hb4 HK1.out.lt)
  have HK24 := Lib.hid (HK2.out.below hb4 HK2.out.lt)
  have HVO := Lib.hid hvo
  obtain ⟨A1, q1, rfl⟩ := ownsRow_slice HVO.out.2
  have HM := Lib.hid (show ∀ V, Below w4.heap.size w4 V → V.cell? ⟨g, 0, none⟩ = some (.slice A1 L.length q1) ∧ RowNat V (fun b => b < w4.heap.size) A1 L.length L from fun V hV => by
    obtain ⟨k1, r1⟩ := HVO.out
    obtain ⟨A1', q1', e1, _, _, s1⟩ := rowG_own (mk := mkN) 0 r1
    cases e1
    exact ⟨(hV.cell (p := ⟨g, 0, none⟩) k1.lt).trans (k1.cell 0), (s1.more (fun b hb => hb.2.1)).below hV (fun b h => h)⟩)
  have hs4 := hb4.size
  clear hvo hb4 HALL
  go_wp2_with fail
  refine (wpIn_wide (n := 7)).1 ?_
  obtain ⟨w5, hw5⟩ : ∃ w5, w5 = w4.alloc (.cells #[.slice none 0 0] 56) := ⟨_, rfl⟩
  have HK7 := Lib.hid (show Blk w5 w4.heap.size 56 #[.slice none 0 0] by rw [hw5]; exact Blk.new w4 _ _)
  have HB5 := Lib.hid (show Below w4.heap.size w4 w5 by rw [hw5]; exact (Below.refl _ w4).alloc (Nat.le_refl _) _)
  have HS5 := Lib.hid (show w5.heap.size = w4.heap.size + 1 by rw [hw5]; simp)
  rw [← hw5]
  clear hw5
  obtain ⟨i0, hi0, hz0, hz1, hz2⟩ := info_parts info_int12
  refine range_by rfl (by decide) (gf := 43) (lb := #[.pointer (some ⟨g, 0, none⟩)]) rfl trivial (enters_of Try.func43 (by kernel_rfl) rfl)
    (encs := fun j => #[.int .i64 (L.getD j 0 : Nat)]) (N := L.length) (M := fun j V => Below w4.heap.size w4 V)
    (all1_seq12 6 g L.length A1 q1 L hL _ (fun j V hV => HM.out V hV)) (fun _ => rfl)
    (fun j V => TolN L w4 j V)
    (fun cd i V => False)
    (OwnFrom.and (Own.from (own_varO _ _ _ _ _ (fun j => j) (fun j => valsN (L.take j))) _) (ownFrom_below (Nat.le_refl _) HB5.out.size))
    (fun cd => own_pure _)
    ⟨⟨.slice none 0 0, HK7.out, World.ownsRow_nil _ _ _ _⟩, HB5.out⟩
    (fun j V hV => hV.2)
    (fun j a' V => a' = { tmps := List.toArray (.pointer A :: .int .i64 i :: undef :: undef :: .pointer (some ⟨w.heap.size, 0, none⟩) :: .pointer (some ⟨w.heap.size + 1, 0, none⟩) :: .func (.func 43) #[] #[.pointer (some ⟨g, 0, none⟩)] :: .pointer (some ⟨w4.heap.size, 0, none⟩) :: .int .i64 (L.getD j 0 : Nat) :: undef :: undef :: .pointer A :: .int .i64 i :: .func (.func 43) #[] #[.pointer (some ⟨g, 0, none⟩)] :: .func (.func 43) #[] #[.pointer (some ⟨g, 0, none⟩)] :: .bool false :: .func (.func 43) #[] #[.pointer (some ⟨g, 0, none⟩)] :: .int .i64 (L.getD j 0 : Nat) :: undef :: undef :: undef :: undef :: undef :: undef :: undef :: undef :: undef :: undef :: undef :: undef :: undef :: undef :: undef :: undef :: undef :: undef :: undef :: undef :: undef :: undef :: undef :: undef :: undef :: undef :: undef :: []), defers := [] })
    (fun j a' _ X Y row hs hg hr => hs)
    ?assignA ?bodyA ?doneA ?stopA
  case assignA =>
    rintro l j W K hj hI hK
    clear hj
    obtain ⟨k, hk⟩ : ∃ k, L.getD j 0 = k := ⟨_, rfl⟩
    rw [hk] at hK ⊢
    gi_wp2
    exact hK _ _ (KeepsFrom.refl _ _) hI rfl
  case bodyA =>
    rintro l j a' W hj hl ⟨r, hr⟩ ⟨⟨v, h1, ho⟩, hB⟩ rfl
    have c1 := h1.cell 0
    have hTk : valsN (L.take (j + 1)) = valsN (L.take j) ++ [L.getD j 0].map (fun k => Value.int .i64 (k : Nat)) := by
      unfold valsN
      rw [List.take_add_one, List.map_append]
      simp [List.getD, List.getElem?_eq_getElem hj]
    have hj1 : j + 1 ≤ 1000000 := by omega
    clear hj
    obtain ⟨k, hk⟩ : ∃ k, L.getD j 0 = k := ⟨_, rfl⟩
    rw [hk] at hTk ⊢
    have HTK := Lib.hid hTk
    have HO := Lib.hid ho
    clear hk hTk ho
    have hBs := hB.size
    have h1a := h1.alloc (.cells #[Value.int .i64 (k : Nat)] 3)
    have HOA := Lib.hid (HO.out.alloc (.cells #[Value.int .i64 (k : Nat)] 3))
    have hBa := hB.alloc hBs (.cells #[Value.int .i64 (k : Nat)] 3)
    have hKa := KeepsOthers.alloc W (.cells #[Value.int .i64 (k : Nat)] 3)
    refine wpIn_block ?_
    refine region_listR (by kernel_rfl) (fun ⟨_, _, h⟩ => h) ?_
    go_wp2_with (at_builtin; refine wpList_append_rowG (mk := fun k : Nat => Value.int .i64 (k : Nat)) (d := (0 : Nat)) rfl (.tmp 18) (.tmp 20) 56 rfl w4.heap.size 3 i0 (.int .i64 0) 8 Try.underlying56 hi0 hz0 hz1 hz2 rfl (fun _ => rfl) v j _ rfl HOA.out (· = W.heap.size) _ 1 1 [k] rfl (row_new1 (fun k : Nat => Value.int .i64 (k : Nat)) 0 W _ k) (fun h => by cases h) ?c2 ?c3 ?c4 ?_)
    case c2 => unfold maxLen; omega
    case c3 => omega
    case c4 => simp; omega
    intro v8 W8 hown hgrow _
    replace hown : W8.ownsRow w4.heap.size 3 1 v8 (j + 1) (valsN (L.take (j + 1))) := by rw [HTK.out]; simpa [valsN, List.map_take] using hown
    obtain ⟨A8, c8, rfl⟩ := ownsRow_slice hown
    have h18 := blk_past h1a HOA.out (by decide) hgrow
    have hkeep8 := hKa.trans (keeps_append HOA.out hgrow)
    have hB8 := below_append hBa HOA.out (Nat.le_refl _) (by simp; omega) hgrow
    have HOW := Lib.hid hown
    have c18 := h18.cell 0
    have f18 := h18.frozen 0
    clear hown hgrow
    have HF := Lib.hid ((KeepsOthers.trans hkeep8 (KeepsOthers.setCell W8 ⟨w4.heap.size, 0, none⟩ (.slice A8 (j + 1) c8))).from w5.heap.size)
    have HI := Lib.hid (show TolN L w4 (j + 1) (W8.setCell ⟨w4.heap.size, 0, none⟩ (.slice A8 (j + 1) c8)) from
      ⟨⟨.slice A8 (j + 1) c8, h18.set_ 0 (.slice A8 (j + 1) c8), own_past HOW.out h18 (by decide) 0 (.slice A8 (j + 1) c8)⟩, hB8.setCell (p := ⟨w4.heap.size, 0, none⟩) (by simp) _⟩)
    go_wp2
    exact ⟨HF.out, HI.out⟩
  case stopA =>
    rintro D cd i W _ _ h _
    exact h.elim
  case doneA =>
    rintro D1 W1 hD1 ⟨⟨v7, h7, ho7⟩, hB1⟩ hK1
    rw [List.take_of_length_le (Nat.le_refl _)] at ho7
    obtain ⟨A7, q7, rfl⟩ := ownsRow_slice ho7
    have HRW := Lib.hid (show ∀ V, Below W1.heap.size W1 V → V.cell? ⟨w4.heap.size, 0, none⟩ = some (.slice A7 L.length q7) ∧ RowNat V (fun b => b < W1.heap.size) A7 L.length L ∧ V.ownsRow w4.heap.size 3 1 (.slice A7 L.length q7) L.length (valsN L) from fun V hV => by
      obtain ⟨A7', q7', e1, _, _, s1⟩ := rowG_own (mk := mkN) 0 ho7
      cases e1
      exact ⟨(hV.cell (p := ⟨w4.heap.size, 0, none⟩) h7.lt).trans (h7.cell 0), (s1.more (fun b hb => hb.2.1)).below hV (fun b h => h), own_below ho7 hV⟩)
    have HB1 := Lib.hid hB1
    have hs1 := hB1.size
    clear h7 ho7 hB1
    go_wp2_with fail
    refine (wpIn_wide (n := 7)).1 ?_
    obtain ⟨W2, hW2⟩ : ∃ W2, W2 = W1.alloc (.cells #[.int .i64 0] 3) := ⟨_, rfl⟩
    have HK9 := Lib.hid (show Blk W2 W1.heap.size 3 #[.int .i64 (0 : Nat)] by rw [hW2]; exact Blk.new W1 _ _)
    have HB12 := Lib.hid (show Below W1.heap.size W1 W2 by rw [hW2]; exact (Below.refl _ W1).alloc (Nat.le_refl _) _)
    rw [← hW2]
    clear hW2
    refine range_by rfl (by decide) (gf := 43) (lb := #[.pointer (some ⟨g, 0, none⟩)]) rfl trivial (enters_of Try.func43 (by kernel_rfl) rfl)
      (encs := fun j => #[.int .i64 (L.getD j 0 : Nat)]) (N := L.length) (M := fun j V => Below W1.heap.size W1 V)
      (all1_seq12 6 g L.length A1 q1 L hL _ (fun j V hV => HM.out V (HB1.out.trans (hV.mono HB1.out.size)))) (fun _ => rfl)
      (fun j V => Blk V W1.heap.size 3 #[.int .i64 (j : Nat)] ∧ Below W1.heap.size W1 V)
      (fun cd i V => False)
      (OwnFrom.and (Own.from (blk_own _ _ (fun j : Nat => #[.int .i64 (j : Nat)])) _) (ownFrom_below (Nat.le_refl _) HB12.out.size))
      (fun cd => own_pure _)
      ⟨HK9.out, HB12.out⟩
      (fun j V hV => hV.2)
      (fun j a' V => a' = { tmps := List.toArray (.pointer A :: .int .i64 i :: undef :: undef :: .pointer (some ⟨w.heap.size, 0, none⟩) :: .pointer (some ⟨w.heap.size + 1, 0, none⟩) :: .func (.func 43) #[] #[.pointer (some ⟨g, 0, none⟩)] :: .pointer (some ⟨w4.heap.size, 0, none⟩) :: undef :: .pointer (some ⟨W1.heap.size, 0, none⟩) :: .int .i64 (L.getD j 0 : Nat) :: .pointer A :: .int .i64 i :: .func (.func 43) #[] #[.pointer (some ⟨g, 0, none⟩)] :: .func (.func 43) #[] #[.pointer (some ⟨g, 0, none⟩)] :: .bool false :: .func (.func 43) #[] #[.pointer (some ⟨g, 0, none⟩)] :: undef :: undef :: undef :: undef :: undef :: .func (.func 43) #[] #[.pointer (some ⟨g, 0, none⟩)] :: .int .i64 (L.getD j 0 : Nat) :: undef :: undef :: undef :: undef :: undef :: undef :: undef :: undef :: undef :: undef :: undef :: undef :: undef :: undef :: undef :: undef :: undef :: undef :: undef :: undef :: undef :: []), defers := [] })
      (fun j a' _ X Y row hs hg hr => hs)
      ?assignB ?bodyB ?doneB ?stopB
    case assignB =>
      rintro l j W K hj hI hK
      clear hj
      obtain ⟨k, hk⟩ : ∃ k, L.getD j 0 = k := ⟨_, rfl⟩
      rw [hk] at hK ⊢
      gi_wp2
      exact hK _ _ (KeepsFrom.refl _ _) hI rfl
    case bodyB =>
      rintro l j a' W hj hl ⟨r, hr⟩ ⟨h9, hB⟩ rfl
      obtain ⟨c7, r7, -⟩ := HRW.out W hB
      obtain ⟨b7, o7, rfl, _, hc7⟩ := r7.2 (by omega)
      have z0 := hc7 j hj
      obtain ⟨k, hk⟩ : ∃ k, L.getD j 0 = k := ⟨_, rfl⟩
      simp only [hk, mkN] at z0
      rw [hk]
      have d9 := h9.cell 0
      have f9 := h9.frozen 0
      have H9 := Lib.hid h9
      have HBv := Lib.hid hB
      have hge : decide (L.length ≤ j) = false := by simp; omega
      clear r7 hc7 hk h9 hB
      gi_wp2
      refine ⟨(KeepsOthers.setCell _ _ _).from _, ?_, HBv.out.setCell (p := ⟨W1.heap.size, 0, none⟩) (by simp) _⟩
      have h := H9.out.set_ 0 (.int .i64 ((j : Int) + 1))
      simpa using h
    case stopB =>
      rintro D cd i W _ _ h _
      exact h.elim
    case doneB =>
      rintro D2 W3 hD2 ⟨h9, hB3⟩ hK2
      have H9 := Lib.hid h9
      have HB3 := Lib.hid hB3
      have hs3 := hB3.size
      clear h9 hB3
      have hM12 : MarksR w4.heap.size [D2, D1] W3 := by
        have hd1 := (Array.getElem?_eq_some_iff.1 hK1).1
        have hd2 := (Array.getElem?_eq_some_iff.1 hK2).1
        have s1 := HB5.out.size
        have s2 := HB12.out.size
        refine ⟨by simp; omega, fun D hDm => ?_⟩
        rcases List.mem_cons.1 hDm with rfl | hDm
        · exact ⟨by omega, hd2, hK2⟩
        · obtain rfl : D = D1 := by simpa using hDm
          exact ⟨by omega, by omega, (HB3.out.block D hd1).trans hK1⟩
      have HM12 := Lib.hid hM12
      have HE3 := Lib.hid (HB4.out.trans ((HB1.out.trans (HB3.out.mono HB1.out.size)).mono HB4.out.size))
      have tail : ∀ (D3 : Nat) (W : World), Below W3.heap.size W3 W → W3.heap.size ≤ D3 → W.heap[D3]? = some (.deferred (some [])) → EndC w w4.heap.size W1.heap.size A7 L.length q7 W ∧
          ∀ W', W' = ((W.setCell ⟨w.heap.size, 0, none⟩ (.slice A7 L.length q7)).setCell ⟨w.heap.size + 1, 0, none⟩ (.bool true)).drew →
            MarksR w.heap.size [D3, D2, D1] W' ∧ ∀ W'', Below w.heap.size W' W'' → KeepC W' W'' → W''.cell? ⟨w.heap.size, 0, none⟩ = some (.slice A7 L.length q7) ∧ W''.cell? ⟨w.heap.size + 1, 0, none⟩ = some (.bool true) ∧ W''.ownsRow w.heap.size 3 1 (.slice A7 L.length q7) L.length (valsN L) ∧ Below w.heap.size w W'' := by
        intro D3 W hB hD3 hK3
        have s0 := HB4.out.size
        have s2 := HS2.out
        have hB13 := HB3.out.trans (hB.mono HB3.out.size)
        have hB4W := HB1.out.trans (hB13.mono HB1.out.size)
        obtain ⟨c1, _, ho⟩ := HRW.out W hB13
        have h9 := H9.out.below hB H9.out.lt
        have hk1 := HK14.out.below hB4W HK14.out.lt
        have hk2 := HK24.out.below hB4W HK24.out.lt
        have hk1' := hk1.set_ 0 (.slice A7 L.length q7)
        have hk2' := hk2.far (p := ⟨w.heap.size, 0, none⟩) (by simp) (.slice A7 L.length q7)
        have h9' := h9.far (p := ⟨w.heap.size, 0, none⟩) (by show W1.heap.size ≠ w.heap.size; omega) (.slice A7 L.length q7)
        have ho' := own_past ho hk1 (by decide) 0 (.slice A7 L.length q7)
        have ho2 := own_past ho' hk2' (by decide) 0 (.bool true)
        refine ⟨⟨c1, h9.cell 0, hk1.cell 0, hk2.cell 0, hk1.frozen 0, hk2.frozen 0, ?_, h9'.cell 0, hk2'.cell 0, hk2'.frozen 0⟩, ?_⟩
        · exact (World.cell?_of_block (Below.heap_setCell W ⟨w.heap.size, 0, none⟩ _ w4.heap.size (by show w4.heap.size ≠ w.heap.size; omega))).trans c1
        · intro W' hW'
          have hhp : ∀ k, k ≠ w.heap.size → k ≠ w.heap.size + 1 → W'.heap[k]? = W.heap[k]? := fun k e1 e2 => by
            rw [hW']
            exact (Below.heap_setCell _ ⟨w.heap.size + 1, 0, none⟩ _ k e2).trans (Below.heap_setCell _ ⟨w.heap.size, 0, none⟩ _ k e1)
          have hsz : W'.heap.size = W.heap.size := by rw [hW']; simp [World.setCell, World.drew]
          have hBW' : Below w.heap.size W W' := by
            rw [hW']
            exact (((Below.refl _ W).setCell (p := ⟨w.heap.size, 0, none⟩) (by simp) _).setCell (p := ⟨w.heap.size + 1, 0, none⟩) (by simp) _).drew
          have hm := HM12.out
          refine ⟨⟨List.nodup_cons.2 ⟨fun hin => by have := (hm.2 D3 hin).2.1; omega, hm.1⟩, fun D hD => ?_⟩, fun W'' hW'' hkc => ?_⟩
          · rcases List.mem_cons.1 hD with rfl | hD
            · exact ⟨by omega, by rw [hsz]; exact (Array.getElem?_eq_some_iff.1 hK3).1, by rw [hhp _ (by omega) (by omega)]; exact hK3⟩
            · obtain ⟨m1, m2, m3⟩ := hm.2 D hD
              exact ⟨by omega, by rw [hsz]; exact Nat.lt_of_lt_of_le m2 hB.size, by rw [hhp _ (by omega) (by omega)]; exact (hB.block D m2).trans m3⟩
          · have hb1 : Blk W' w.heap.size 56 #[.slice A7 L.length q7] := by rw [hW']; exact (hk1'.far (p := ⟨w.heap.size + 1, 0, none⟩) (by simp) _).drew
            have hb2 : Blk W' (w.heap.size + 1) 4 #[.bool true] := by rw [hW']; exact (hk2'.set_ 0 (.bool true)).drew
            have ho3 : W'.ownsRow w4.heap.size 3 1 (.slice A7 L.length q7) L.length (valsN L) := by rw [hW']; exact ho2
            exact ⟨(hkc.blk hb1).cell 0, (hkc.blk hb2).cell 0, own_base (hkc.own ho3) s0, (HE3.out.trans (hB.mono HE3.out.size)).trans (hBW'.trans hW'')⟩
      have HT := Lib.hid tail
      clear hM12 tail hK1 hK2 hD1 hD2
      go_wp2_with fail
      refine (wpIn_wide (n := 7)).1 ?_
      refine range_by rfl (by decide) (gf := 43) (lb := #[.pointer (some ⟨g, 0, none⟩)]) rfl trivial (enters_of Try.func43 (by kernel_rfl) rfl)
        (encs := fun j => #[.int .i64 (L.getD j 0 : Nat)]) (N := L.length) (M := fun j V => Below W3.heap.size W3 V)
        (all1_seq12 6 g L.length A1 q1 L hL _ (fun j V hV => HM.out V (HB1.out.trans ((HB3.out.trans (hV.mono HB3.out.size)).mono HB1.out.size)))) (fun _ => rfl)
        (fun j V => Below W3.heap.size W3 V)
        (fun cd i V => cd = .exit 4 ∧ Below W3.heap.size W3 V)
        (ownFrom_below (Nat.le_refl _) (Nat.le_refl _))
        (fun cd => OwnFrom.and (own_pure _) (ownFrom_below (Nat.le_refl _) (Nat.le_refl _)))
        (Below.refl _ _)
        (fun j V hV => hV)
        (fun j a' V => True)
        (fun j a' _ X Y row hs hg hr => trivial)
        ?assignC ?bodyC ?doneC ?stopC
      case assignC =>
        rintro l j W K hj hI hK
        gi_wp2
        exact hK _ _ (KeepsFrom.refl _ _) hI trivial
      case bodyC =>
        rintro l j a' W hj hl ⟨r, hr⟩ hB _
        gi_wp2
        exact ⟨KeepsFrom.refl _ _, rfl, hB⟩
      case doneC =>
        rintro D3 W hD3 hB hK
        obtain ⟨⟨c1, c2, c3, c4, f3, f4, c5, c6, c7, f5⟩, ht⟩ := HT.out D3 W hB hD3 hK
        have HTT := Lib.hid ht
        clear ht hK
        go_wp2_with fail
        go_region
        all_goals go_wp2_with fail
        all_goals
          obtain ⟨hmk, hend⟩ := HTT.out _ rfl
          refine leaves_marks2 (w := w) [D3, D2, D1] _ hmk (fun W' hW' hkc => ?_)
          obtain ⟨e1, e2, e3, e4⟩ := hend W' hW' hkc
          refine ⟨.tuple #[.slice A7 L.length q7, .bool true], ?_, _, rfl, e3, e4⟩
          simp [results, Try.f26, go_sem, e1, e2]
      case stopC =>
        rintro D3 cd j W hD3 hj ⟨rfl, hB⟩ hK
        obtain ⟨⟨c1, c2, c3, c4, f3, f4, c5, c6, c7, f5⟩, ht⟩ := HT.out D3 W hB hD3 hK
        have HTT := Lib.hid ht
        clear ht hK
        refine wpIn_wide.2 ?_
        go_wp2_with fail
        go_region
        all_goals go_wp2_with fail
        all_goals
          obtain ⟨hmk, hend⟩ := HTT.out _ rfl
          refine leaves_marks2 (w := w) [D3, D2, D1] _ hmk (fun W' hW' hkc => ?_)
          obtain ⟨e1, e2, e3, e4⟩ := hend W' hW' hkc
          refine ⟨.tuple #[.slice A7 L.length q7, .bool true], ?_, _, rfl, e3, e4⟩
          simp [results, Try.f26, go_sem, e1, e2]
end Go.Proofs.Ythegbimolbhikaa
