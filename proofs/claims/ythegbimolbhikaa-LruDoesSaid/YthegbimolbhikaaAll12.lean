/- All: a list's numbers from the newest to the oldest, as they were. -/
import Derived.Test.YthegbimolbhikaaInOr
import Derived.Test.YthegbimolbhikaaAppend
namespace Go.Proofs.Ythegbimolbhikaa
open Go.RowKit Go.Shelf
attribute [local go_sem] Oper.semAt_some
set_option linter.unusedVariables false
set_option linter.unusedSimpArgs false
theorem info_int12 : (Try.prog.info? 3).map (fun i => (i.zero, i.size, i.bytes)) = some (some (.int .i64 0), 1, 8) := by kernel_rfl
abbrev valsN (L : List Nat) : List Value := L.map fun k => Value.int .i64 (k : Nat)
/-- What All has gathered of the first j. -/
def AllN (L : List Nat) (w : World) (D : Nat) (A : Option Addr) (i : Int) (gx gi j : Nat) (V : World) : Prop :=
  (∃ v, VarO w.heap.size 56 3 1 D v j (valsN (L.take j)) V) ∧ (Blk V gx 25 #[.pointer A] ∧ Blk V gi 3 #[.int .i64 i]) ∧ Below w.heap.size w V
def AllT (L : List Nat) (w : World) (e : Ending) (w' : World) : Prop := ∃ g v, e = .returned (.func (.func 43) #[] #[.pointer (some ⟨g, 0, none⟩)]) ∧ VarO g 56 3 1 w.heap.size v L.length (valsN L) w' ∧ Below w.heap.size w w' ∧ w.heap.size ≤ g
set_option maxRecDepth 100000 in
set_option maxHeartbeats 8000000 in
theorem all_of (A : Option Addr) (i : Int) (L : List Nat) (hLl : L.length ≤ 65536) (w : World)
    (hseq : ∀ (n gx gi : Nat) (M : Nat → World → Prop), (∀ j V, M j V → (Blk V gx 25 #[.pointer A] ∧ Blk V gi 3 #[.int .i64 i]) ∧ Below w.heap.size w V) →
      SeqM Fence.wide n Try.prog 47 #[.pointer (some ⟨gx, 0, none⟩), .pointer (some ⟨gi, 0, none⟩)] (fun j => #[.int .i64 (L.getD j 0 : Nat)]) L.length M) :
    Calls Try.prog 22 #[.pointer A, .int .i64 i] w fun e w' => AllT L w e w' := by
  obtain ⟨w3, hw3⟩ : ∃ w3, w3 = w.alloc (.cells #[.slice none 0 0] 56) := ⟨_, rfl⟩
  have HW3 := Lib.hid hw3
  have HB3 := Lib.hid (show Below w.heap.size w w3 by rw [hw3]; exact (Below.refl _ w).alloc (Nat.le_refl _) _)
  have HS3 := Lib.hid (show w3.heap.size = w.heap.size + 1 by rw [hw3]; simp)
  have HK1 := Lib.hid (show Blk w3 w.heap.size 56 #[.slice none 0 0] by rw [hw3]; exact Blk.new w _ _)
  have HH := Lib.hid (inOrder_lr A i w3)
  have HSQ := Lib.hid hseq
  clear hseq
  rw [hw3] at HH
  clear hw3
  refine (callsIn_wide (n := 5)).1 ?_
  refine callsIn_of_wp_marks Try.func22 rfl trivial ?_ rfl
  simp only [Try.ntmps22, List.size_toArray, List.length_cons, List.length_nil, Nat.reduceAdd, Nat.reduceSub, Array.replicate_succ, Array.replicate_zero, List.push_toArray, List.append_toArray, List.nil_append, List.cons_append]
  gi_wp2_with (refine ⟨trivial, ?_⟩; gi_at_call 42; refine (callsIn_wide.2 HH.out).mono ?_; rintro e w5 ⟨gx, gi, hgg, rfl, bx, bi, hb5⟩)
  rw [← HW3.out] at hgg hb5
  obtain ⟨hg1, hg2, hg3, hg4⟩ := hgg
  have hs3 := HS3.out
  have hs5 := hb5.size
  have hk1 := HK1.out.below hb5 HK1.out.lt
  have HB5 := Lib.hid (HB3.out.trans (hb5.mono (by omega)))
  refine range_by rfl (by omega) (gf := 47) (lb := #[.pointer (some ⟨gx, 0, none⟩), .pointer (some ⟨gi, 0, none⟩)]) rfl trivial (enters_of Try.func47 (by kernel_rfl) rfl)
    (encs := fun j => #[.int .i64 (L.getD j 0 : Nat)]) (N := L.length) (M := fun j V => (Blk V gx 25 #[.pointer A] ∧ Blk V gi 3 #[.int .i64 i]) ∧ Below w.heap.size w V)
    (HSQ.out 4 gx gi _ (fun j V hV => hV)) (fun _ => rfl)
    (fun j V => AllN L w w5.heap.size A i gx gi j V)
    (fun cd i V => False)
    (OwnFrom.and (Own.from (own_varO _ _ _ _ _ (fun j => j) (fun j => valsN (L.take j))) _) (OwnFrom.and (OwnFrom.and (Own.from (blk_own _ _ _) _) (Own.from (blk_own _ _ _) _)) (ownFrom_below (Nat.le_refl _) HB5.out.size)))
    (fun cd => own_pure _)
    ⟨⟨.slice none 0 0, hk1, World.ownsRow_nil _ _ _ _⟩, ⟨bx, bi⟩, HB5.out⟩
    (fun j V hV => hV.2)
    (fun j a' W => a' = { tmps := #[.pointer A, .int .i64 i, undef, undef, Value.nilFunc, .pointer (some ⟨w.heap.size, 0, none⟩), .int .i64 (L.getD j 0 : Nat), .pointer A, .int .i64 i, .func (.func 47) #[] #[.pointer (some ⟨gx, 0, none⟩), .pointer (some ⟨gi, 0, none⟩)], .int .i64 (L.getD j 0 : Nat), undef, undef, undef, undef, undef], defers := [] })
    (fun j a' _ X Y row hs hg hr => hs)
    ?assign ?body ?done ?stop
  case assign =>
    rintro l j W K hj hI hK
    clear hj
    obtain ⟨k, hk⟩ : ∃ k, L.getD j 0 = k := ⟨_, rfl⟩
    rw [hk] at hK ⊢
    gi_wp2
    exact hK _ _ (KeepsFrom.refl _ _) hI rfl
  case body =>
    rintro l j a' W hj hl ⟨r, hr⟩ ⟨⟨v, h1, ho⟩, ⟨h2, h3⟩, hB⟩ rfl
    have c1 := h1.cell 0
    have hTk : valsN (L.take (j + 1)) = valsN (L.take j) ++ [L.getD j 0].map (fun k => Value.int .i64 (k : Nat)) := by
      unfold valsN
      rw [List.take_add_one, List.map_append]
      simp [List.getD, List.getElem?_eq_getElem hj]
    have hj1 : j + 1 ≤ 1000000 := by omega
    clear hj
    obtain ⟨k, hk⟩ : ∃ k, L.getD j 0 = k := ⟨_, rfl⟩
    rw [hk] at hTk ⊢
    have HTK := Lib.hid hTk
    have HO := Lib.hid ho
    clear hk hTk ho
    obtain ⟨i0, hi0, hz0, hz1, hz2⟩ := info_parts info_int12
    have h10 := HB5.out.size
    have hBs := hB.size
    have h1a := h1.alloc (.cells #[Value.int .i64 (k : Nat)] 3)
    have HOA := Lib.hid (HO.out.alloc (.cells #[Value.int .i64 (k : Nat)] 3))
    have h2a := h2.alloc (.cells #[Value.int .i64 (k : Nat)] 3)
    have h3a := h3.alloc (.cells #[Value.int .i64 (k : Nat)] 3)
    have hBa := hB.alloc hBs (.cells #[Value.int .i64 (k : Nat)] 3)
    have hKa := KeepsOthers.alloc W (.cells #[Value.int .i64 (k : Nat)] 3)
    have hWs : w5.heap.size ≤ W.heap.size := Nat.le_of_lt (Nat.lt_of_le_of_lt hl (Array.getElem?_eq_some_iff.1 hr).1)
    refine wpIn_block ?_
    refine region_listR (by kernel_rfl) (fun ⟨_, _, h⟩ => h) ?_
    go_wp2_with (at_builtin; refine wpList_append_rowG (mk := fun k : Nat => Value.int .i64 (k : Nat)) (d := (0 : Nat)) rfl (.tmp 11) (.tmp 13) 56 rfl w5.heap.size 3 i0 (.int .i64 0) 8 Try.underlying56 hi0 hz0 hz1 hz2 rfl (fun _ => rfl) v j _ rfl HOA.out (· = W.heap.size) _ 1 1 [k] rfl (row_new1 (fun k : Nat => Value.int .i64 (k : Nat)) 0 W _ k) (fun h => by cases h) ?c2 ?c3 ?c4 ?_)
    case c2 => unfold maxLen; omega
    case c3 => omega
    case c4 => simp; omega
    intro v8 W8 hown hgrow _
    replace hown : W8.ownsRow w5.heap.size 3 1 v8 (j + 1) (valsN (L.take (j + 1))) := by rw [HTK.out]; simpa [valsN, List.map_take] using hown
    obtain ⟨A8, c8, rfl⟩ := ownsRow_slice hown
    have h18 := blk_past h1a HOA.out (by decide) hgrow
    have h28 := blk_past h2a HOA.out (by decide) hgrow
    have h38 : Blk W8 gi 3 #[.int .i64 i] := h3a.grown hgrow (fun e => by
      obtain ⟨cur, hc, hb⟩ := ownsRow_block HOA.out e.symm
      omega)
    have hkeep8 := hKa.trans (keeps_append HOA.out hgrow)
    have hB8 := below_append hBa HOA.out (by omega) (by simp; omega) hgrow
    have HOW := Lib.hid hown
    have c18 := h18.cell 0
    have f18 := h18.frozen 0
    clear hown hgrow
    have n1 : gx ≠ w.heap.size := by omega
    have n2 : gi ≠ w.heap.size := by omega
    have HF := Lib.hid ((KeepsOthers.trans hkeep8 (KeepsOthers.setCell W8 ⟨w.heap.size, 0, none⟩ (.slice A8 (j + 1) c8))).from w5.heap.size)
    have HI := Lib.hid (show AllN L w w5.heap.size A i gx gi (j + 1) (W8.setCell ⟨w.heap.size, 0, none⟩ (.slice A8 (j + 1) c8)) from
      ⟨⟨.slice A8 (j + 1) c8, h18.set_ 0 (.slice A8 (j + 1) c8), own_past HOW.out h18 (by decide) 0 (.slice A8 (j + 1) c8)⟩, ⟨h28.far (p := ⟨w.heap.size, 0, none⟩) n1 _, h38.far (p := ⟨w.heap.size, 0, none⟩) n2 _⟩, hB8.setCell (p := ⟨w.heap.size, 0, none⟩) (by simp) _⟩)
    go_wp2
    exact ⟨HF.out, HI.out⟩
  case done =>
    rintro D W hD ⟨⟨v, h1, ho⟩, ⟨h2, h3⟩, hB⟩ hK
    rw [List.take_of_length_le (Nat.le_refl _)] at ho
    have hrow : ∀ r, some D = some r → ∃ o : Obj, W.heap[r]? = some o ∧ o.isCells = false := fun r e => by cases e; exact ⟨_, hK, rfl⟩
    gi_wp2
    refine ⟨by simp, .inl ⟨_, _, rfl, run_takeDeferred hK, ?_⟩⟩
    refine ⟨_, ?_, w.heap.size, v, rfl, ⟨blk_own _ _ (fun _ : Unit => #[v]) () _ _ _ h1 (grownBy_putObj' _ D (.deferred none)) hrow, own_base (ownsRow_grown ho (grownBy_putObj' _ D (.deferred none)) (fun g hg e => ?_)) HB5.out.size⟩, hB.trans (belowK_b (w := w) (Nat.le_refl _) W D _ _ (Nat.le_trans HB5.out.size hD) hK rfl rfl), Nat.le_refl _⟩
    · simp [results, Try.f22, go_sem]
    · cases e
      obtain ⟨cur, hh, _⟩ := ownsRow_block ho hg
      rw [hK] at hh
      cases hh
  case stop =>
    rintro D cd i W _ _ h _
    exact h.elim
end Go.Proofs.Ythegbimolbhikaa
