/- For every sector: Read answers the stamp and what is meant as the document says, or ErrStamp and nothing. No condition. -/
import Derived.Test.YtikeiloeeklkeaaRows
import Derived.WalkKit
import Derived.ProofKit
import Derived.OpenShut
import Derived.ShutString
import Derived.ChangeOld
import Derived.Below
import Derived.SizedLaws
import Derived.Test.YtikeiloeeklkeaaWakes
import Derived.Test.YtikeiloeeklkeaaRRead
import Derived.Test.YtikeiloeeklkeaaSame1
import Derived.Test.YtikeiloeeklkeaaArgsArr
namespace Go.Proofs.Ytikeiloeeklkeaa.stampReads
open Go.ChangeShapes Go.WideShapes Go.ChangeAt Go.RowKit
open Go.ChangeMaps (open_string shut_string)
set_option linter.unusedVariables false

theorem own : ownKnob Try.prog.godebug = none := by kernel_rfl
theorem laidOut : laidOutB Try.prog = true := by kernel_rfl

set_option maxRecDepth 100000 in
theorem walk (a0 : List Int) (w : World) (w0 : a0.length = 64 ∧ Bytes a0) :
    Calls Try.prog 4 #[.agg (cells8 a0)] w fun e w' => e = .returned (.bool true) ∧ Below w.heap.size w w' := by
  obtain ⟨hl, hb⟩ := w0
  generalize a0 = xs at *
  have HL := Lib.hid hl
  have HB := Lib.hid hb
  clear hl hb
  go_enter Try.func4, Try.ntmps4
  go_wp2_with fail
  have HX0 := Lib.hid (show ArrB (w.alloc (.cells (cells8 xs) 27)) w.heap.size xs from Blk.new w _ _)
  generalize hw0 : w.alloc _ = w0 at *
  have HB0 := Lib.hid (show Below w.heap.size w w0 by rw [← hw0]; exact (Below.refl _ _).alloc (Nat.le_refl _) _)
  clear hw0
  refine (wakes_any w0).mono ?_
  rintro e w1 ⟨rfl, hb1⟩
  have HB1 := Lib.hid (HB0.out.trans (hb1.mono HB0.out.size))
  have HX1 := Lib.hid (HX0.out.below hb1 HX0.out.lt)
  clear hb1
  go_wp2_with (refine wpList_load_blk (.tmp 1) rfl rfl w.heap.size 0 rfl xs HL.out HX1.out.range ?_)
  by_cases hst : stamped xs = true
  · refine (read_ok xs w1 HL.out HB.out hst).mono ?_
    rintro e w2 ⟨A2, c2, rfl, hr2, hb2, hn2⟩
    clear hn2
    have HST := Lib.hid hst
    have HR2 := Lib.hid hr2
    have HB2 := Lib.hid (HB1.out.trans (hb2.mono HB1.out.size))
    have HX2 := Lib.hid (HX1.out.below hb2 HX1.out.lt)
    obtain ⟨w3, hw3⟩ : ∃ w3, w3 = w2.alloc (.cells #[.int .u64 (genOf xs), .int .u32 (posOf xs), .int .i64 (fillOf xs)] 34) := ⟨_, rfl⟩
    have hb3 : Below w2.heap.size w2 w3 := by rw [hw3]; exact (Below.refl _ _).alloc (Nat.le_refl _) _
    have HS3 := Lib.hid (show Blk w3 w2.heap.size 34 #[.int .u64 (genOf xs), .int .u32 (posOf xs), .int .i64 (fillOf xs)] by rw [hw3]; exact Blk.new w2 _ _)
    have HB3 := Lib.hid hb3
    have HX3 := Lib.hid (HX2.out.below hb3 HX2.out.lt)
    have HR3 := Lib.hid (HR2.out.below hb3 (fun b h => h.2))
    have HW3 := Lib.hid hw3
    clear hst hr2 hb2 hw3 hb3
    go_wp2_with (rw [← HW3.out]; refine wpList_load_blk (.tmp 1) rfl rfl w.heap.size 0 rfl xs HL.out HX3.out.range ?_)
    refine (rread_any xs w3 HL.out HB.out).mono ?_
    rintro e w4 ⟨h4, _⟩
    obtain ⟨A4, c4, rfl, hr4, hb4⟩ := h4 HST.out
    have HR4 := Lib.hid hr4
    have HB4 := Lib.hid ((HB2.out.trans (HB3.out.mono HB2.out.size)).trans (hb4.mono (Nat.le_trans HB2.out.size HB3.out.size)))
    obtain ⟨w5, hw5⟩ : ∃ w5, w5 = w4.alloc (.cells #[.int .u64 (genOf xs), .int .u32 (posOf xs), .int .i64 (fillOf xs)] 34) := ⟨_, rfl⟩
    have hb5 : Below w4.heap.size w4 w5 := by rw [hw5]; exact (Below.refl _ _).alloc (Nat.le_refl _) _
    have hs5 : Blk w5 w2.heap.size 34 #[.int .u64 (genOf xs), .int .u32 (posOf xs), .int .i64 (fillOf xs)] := by rw [hw5]; exact (HS3.out.below hb4 HS3.out.lt).alloc _
    have ht5 : Blk w5 w4.heap.size 34 #[.int .u64 (genOf xs), .int .u32 (posOf xs), .int .i64 (fillOf xs)] := by rw [hw5]; exact Blk.new w4 _ _
    have HR35 := Lib.hid ((HR3.out.below hb4 (fun b h => Nat.lt_of_lt_of_le h.2 HB3.out.size)).below hb5 (fun b h => Nat.lt_of_lt_of_le h.2 (Nat.le_trans HB3.out.size hb4.size)))
    have HR45 := Lib.hid (hr4.below hb5 (fun b h => h.2))
    have HB5 := Lib.hid (HB4.out.trans (hb5.mono HB4.out.size))
    have c0 := hs5.cell 0
    have c1 := hs5.cell 1
    have c2' := hs5.cell 2
    have d0 := ht5.cell 0
    have d1 := ht5.cell 1
    have d2 := ht5.cell 2
    simp only [List.getElem?_toArray, List.getElem?_cons_zero, List.getElem?_cons_succ] at c0 c1 c2' d0 d1 d2
    have HW5 := Lib.hid hw5
    have hml := meant_le xs
    clear hr4 hb4 hw5 hb5 hs5 ht5 h4
    go_wp2_with (first
      | rw [← HW5.out]
      | (go_at_call 14; refine (same1_yes A2 A4 (meantOf xs).length c2 c4 (meantOf xs) _ _ w5 HR35.out HR45.out (by omega)).mono ?_; rintro e w' ⟨rfl, d, rfl⟩))
    go_ret
    exact ⟨rfl, below_drewN HB5.out _⟩
  · have hst : stamped xs = false := by simpa using hst
    refine (read_bad xs w1 HL.out HB.out hst).mono ?_
    rintro e w2 ⟨rfl, hb2⟩
    have HST := Lib.hid hst
    have HB2 := Lib.hid (HB1.out.trans (hb2.mono HB1.out.size))
    have HX2 := Lib.hid (HX1.out.below hb2 HX1.out.lt)
    obtain ⟨w3, hw3⟩ : ∃ w3, w3 = w2.alloc (.cells #[.int .u64 0, .int .u32 0, .int .i64 0] 34) := ⟨_, rfl⟩
    have hb3 : Below w2.heap.size w2 w3 := by rw [hw3]; exact (Below.refl _ _).alloc (Nat.le_refl _) _
    have HS3 := Lib.hid (show Blk w3 w2.heap.size 34 #[.int .u64 0, .int .u32 0, .int .i64 0] by rw [hw3]; exact Blk.new w2 _ _)
    have HB3 := Lib.hid hb3
    have HX3 := Lib.hid (HX2.out.below hb3 HX2.out.lt)
    have HW3 := Lib.hid hw3
    clear hst hb2 hw3 hb3
    go_wp2_with (rw [← HW3.out]; refine wpList_load_blk (.tmp 1) rfl rfl w.heap.size 0 rfl xs HL.out HX3.out.range ?_)
    refine (rread_any xs w3 HL.out HB.out).mono ?_
    rintro e w4 ⟨_, h4⟩
    obtain ⟨rfl, hb4⟩ := h4 HST.out
    have HB4 := Lib.hid ((HB2.out.trans (HB3.out.mono HB2.out.size)).trans (hb4.mono (Nat.le_trans HB2.out.size HB3.out.size)))
    have hs5 : Blk (w4.alloc (.cells #[.int .u64 0, .int .u32 0, .int .i64 0] 34)) w2.heap.size 34 #[.int .u64 0, .int .u32 0, .int .i64 0] := (HS3.out.below hb4 HS3.out.lt).alloc _
    have c0 := hs5.cell 0
    have c1 := hs5.cell 1
    have c2' := hs5.cell 2
    simp only [List.getElem?_toArray, List.getElem?_cons_zero, List.getElem?_cons_succ] at c0 c1 c2'
    clear hb4 hs5 h4
    go_wp2_with fail
    go_ret
    exact ⟨rfl, HB4.out.alloc HB4.out.size _⟩

set_option maxRecDepth 100000 in
theorem lifted (os : Os) (started : os.Started) (H : Type) (enc : TypeId × Value → H) :
    ReturnsInHanded {} Try.checked os 4 .any (Rows.stampReadsSpec.pre6 enc Try.prog Try.f4 Rows.stampReadsRow.domain false) (Rows.stampReadsSpec.post enc Try.prog Try.f4 false true false false) := by
  refine returnsInHanded_of_change_sized (C := Try.checked) own started (by kernel_rfl) Try.func4
    (ChangeSpec.witness6 (enc := enc) (C := Try.checked) false ⟨#[], #[.agg (cells8 (noughts 64))], []⟩ 8 (by kernel_rfl) (by kernel_rfl) (by kernel_rfl) (by kernel_rfl)) ?_
  intro W base args ds gs before hval0 hW hcnd hsz0 _
  have hval : ∀ (j : Nat) t v, Try.f4.params[j]? = some t → args[j]? = some v → Value.okWide Try.prog W .any base t v := hval0
  have hW' := hW
  have hsz : (DataW.weightsEach Try.prog (Try.f4.params.toList ++ Rows.stampReadsSpec.plain.varTypes Try.prog) (ds ++ gs)).all (· ≤ reachBytes) = true := hsz0
  obtain ⟨p, q, hA0, hV, rfl, hfz, hnd⟩ := hW
  have hA : DataW.TrodAll enc Try.prog W 0 (fun _ => true) true Try.f4.params.toList args.toList ds p := hA0
  rw [Try.params4] at hA hval hsz
  obtain ⟨v0, vs0, d0, ds0, p0, q0, hargs, rfl, rfl, h0, r0⟩ := trodAll_cons hA
  obtain ⟨rfl, rfl, rfl⟩ := trodAll_nil r0
  obtain rfl : args = #[v0] := by cases args; simp_all
  obtain ⟨rfl, rfl⟩ := trodVars_none hV
  have k0 := h0
  have lt0 : ∀ x ∈ p0, x.block < W.heap.size := by obtain ⟨m, hm⟩ := k0; exact DataW.trod_lt m _ _ _ hm
  obtain ⟨a0, rfl, w0⟩ := open_arr8 Try.underlying27 Try.underlying5 (by kernel_rfl) (by kernel_rfl) (hval 0 27 v0 rfl rfl) h0
  clear hA0 hval0
  refine (walk a0 W w0).mono fun e W' ⟨he, bel⟩ => ?_
  subst he
  exact ⟨_, rfl, _, _, _, [], _, [], hW', trodAll_mk1 (shut_bool Try.underlying4 _), (trodAll_cons_mk (Below.trod laidOut (by kernel_rfl) (of_decide_eq_true (by kernel_rfl)) k0 bel lt0) trodAll_mk0), rfl, bel.frame _, fun h => by cases h⟩

theorem over : Rows.stampReadsRow.holds Try.pinned (OpenSpec.ofChange Rows.stampReadsSpec) :=
  OpenClaim.holds_of_wide 4 Try.f4 rfl rfl rfl rfl rfl rfl rfl ⟨rfl, rfl, rfl, rfl, rfl⟩ rfl rfl rfl rfl rfl (by kernel_rfl) Try.func4 (by kernel_rfl)
    (of_decide_eq_true (by kernel_rfl)) (by unfold Func.isWrapper; first | (rw [if_pos (by decide +kernel)]; kernel_rfl) | (rw [if_neg (by decide +kernel)]; exact ⟨rfl, rfl⟩))
    (fun os started H enc _ => lifted os started H enc)

theorem proved : Rows.StampReadsSaid := over
end Go.Proofs.Ytikeiloeeklkeaa.stampReads
