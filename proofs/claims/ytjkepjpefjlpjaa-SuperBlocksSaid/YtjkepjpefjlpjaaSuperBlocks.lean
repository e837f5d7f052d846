/- For everything that may be known, every turn and every sector: Encode answers the document's superblock, or refuses; Decode reads a sector as the document does, or refuses. No condition. -/
import Derived.Test.YtjkepjpefjlpjaaRows
import Derived.WalkKit
import Derived.ProofKit
import Derived.OpenShut
import Derived.ShutString
import Derived.ChangeOld
import Derived.Below
import Derived.Test.YtjkepjpefjlpjaaGood
import Derived.Test.YtjkepjpefjlpjaaFlip
import Derived.Test.YtjkepjpefjlpjaaRRead
import Derived.Test.YtjkepjpefjlpjaaArgsSup
import Derived.Test.YtjkepjpefjlpjaaArgsArr
namespace Go.Proofs.Ytjkepjpefjlpjaa.superBlocks
open Go.ChangeShapes Go.WideShapes Go.ChangeAt Go.RowKit
open Go.ChangeMaps (open_string shut_string)
set_option linter.unusedVariables false

theorem own : ownKnob Try.prog.godebug = none := by kernel_rfl
theorem laidOut : laidOutB Try.prog = true := by kernel_rfl

abbrev bl0 : Oper := { dst := some 33, op := Go.Op.move (Go.Operand.tmp 8), type := 28, pos := "law.go:31", after := #[], guard := none }
abbrev bl1 : Oper := { dst := some 34, op := Go.Op.binOp Go.BinOp.neq 28 (Go.Operand.tmp 33) (Go.Operand.const (Go.Value.int Go.IntKind.i64 0)) 28, type := 4, pos := "law.go:31", after := #[{ on := 0, ground := Go.Ground.data }], guard := none }
abbrev bl2 : Oper := { dst := some 35, op := Go.Op.move (Go.Operand.tmp 34), type := 4, pos := "law.go:31", after := #[{ on := 1, ground := Go.Ground.data }], guard := none }
abbrev bl3 : Oper := { dst := some 36, op := Go.Op.load 26 (Go.Operand.tmp 7), type := 26, pos := "law.go:31", after := #[{ on := 2, ground := Go.Ground.guard }], guard := some (2, false) }
abbrev bl4 : Oper := { dst := some 37, op := Go.Op.load 24 (Go.Operand.tmp 3), type := 24, pos := "law.go:31", after := #[{ on := 2, ground := Go.Ground.guard }], guard := some (2, false) }
abbrev bl5 : Oper := { dst := some 38, op := Go.Op.move (Go.Operand.tmp 1), type := 22, pos := "law.go:31", after := #[{ on := 2, ground := Go.Ground.guard }], guard := some (2, false) }
abbrev bl6 : Oper := { dst := some 39, op := Go.Op.call { callee := Go.Callee.value (Go.Operand.func 11), args := #[Go.Operand.tmp 37, Go.Operand.tmp 38], argTypes := #[24, 22] }, type := 26, pos := "law.go:31", after := #[{ on := 4, ground := Go.Ground.data }, { on := 5, ground := Go.Ground.data }, { on := 2, ground := Go.Ground.chain }, { on := 2, ground := Go.Ground.guard }], guard := some (2, false) }
abbrev bl7 : Oper := { dst := some 40, op := Go.Op.binOp Go.BinOp.neq 26 (Go.Operand.tmp 36) (Go.Operand.tmp 39) 26, type := 4, pos := "law.go:31", after := #[{ on := 3, ground := Go.Ground.data }, { on := 6, ground := Go.Ground.data }, { on := 2, ground := Go.Ground.guard }], guard := some (2, false) }
abbrev bl8 : Oper := { dst := some 41, op := Go.Op.pick (Go.Operand.tmp 35) (Go.Operand.const (Go.Value.bool true)) (Go.Operand.tmp 40), type := 4, pos := "law.go:31", after := #[{ on := 2, ground := Go.Ground.data }, { on := 7, ground := Go.Ground.data }], guard := none }

set_option maxHeartbeats 4000000 in
set_option maxRecDepth 100000 in
theorem walk (A0 B0 G0 R0 V0 F0 : Int) (a1 : Int) (a2 : List Int) (w : World) (w0 : InS A0 B0 G0 R0 V0 F0) (w1 : (Lit.int .u64 a1).wf = true) (w2 : a2.length = 64 ∧ Bytes a2) :
    Calls Try.prog 3 #[.agg (supC A0 B0 G0 R0 V0 F0), .int .u64 a1, .agg (cells8 a2)] w fun e w' => e = .returned (.bool true) ∧ Below w.heap.size w w' := by
  -- HEARTS
  have HIN := Lib.hid w0
  have ht : 0 ≤ a1 ∧ a1 ≤ 18446744073709551615 := by simpa [Lit.wf, IntKind.min, IntKind.max, IntKind.signed, IntKind.bits] using w1
  have HTT := Lib.hid ht
  have HL := Lib.hid w2.1
  have HBY := Lib.hid w2.2
  clear w0 w1 w2 ht
  have HB0 := Lib.hid (show Below w.heap.size w ((w.alloc (.cells (supC A0 B0 G0 R0 V0 F0) 24)).alloc (.cells (cells8 a2) 26)) from ((Below.refl _ _).alloc (Nat.le_refl _) _).alloc (by simp) _)
  have HG0 := Lib.hid (show Blk ((w.alloc (.cells (supC A0 B0 G0 R0 V0 F0) 24)).alloc (.cells (cells8 a2) 26)) w.heap.size 24 (supC A0 B0 G0 R0 V0 F0) from (Blk.new w _ _).alloc _)
  have HX0 := Lib.hid (show ArrB ((w.alloc (.cells (supC A0 B0 G0 R0 V0 F0) 24)).alloc (.cells (cells8 a2) 26)) (w.heap.size + 1) a2 from blk_new2 w _ _ _)
  go_enter Try.func3, Try.ntmps3
  go_wp2_with fail
  generalize hw0 : (w.alloc (.cells (supC A0 B0 G0 R0 V0 F0) 24)).alloc (.cells (cells8 a2) 26) = w0 at *
  clear hw0
  refine (wakes_any _).mono ?_
  rintro e w1 ⟨rfl, hb⟩
  have HG1 := Lib.hid (HG0.out.below hb HG0.out.lt)
  have HX1 := Lib.hid (show ArrB w1 (w.heap.size + 1) a2 from Arr.below HX0.out hb HX0.out.lt)
  have HB1 := Lib.hid (HB0.out.trans (hb.mono HB0.out.size))
  clear hb
  obtain ⟨c0, c1, c2, c3, c4, c5⟩ : _ ∧ _ ∧ _ ∧ _ ∧ _ ∧ _ := ⟨HG1.out.cell 0, HG1.out.cell 1, HG1.out.cell 2, HG1.out.cell 3, HG1.out.cell 4, HG1.out.cell 5⟩
  simp only [List.getElem?_toArray, List.getElem?_cons_zero, List.getElem?_cons_succ] at c0 c1 c2 c3 c4 c5
  go_wp2_with fail
  clear c0 c1 c2 c3 c4 c5
  by_cases hmay : MayS A0 B0 G0 R0
  case neg =>
    refine (encode_bad A0 B0 G0 R0 V0 F0 a1 _ hmay).mono ?_
    rintro e w2 ⟨rfl, hb⟩
    have HG2 := Lib.hid (HG1.out.below hb HG1.out.lt)
    have HX2 := Lib.hid (show ArrB w2 (w.heap.size + 1) a2 from Arr.below HX1.out hb HX1.out.lt)
    have HB2 := Lib.hid (HB1.out.trans (hb.mono HB1.out.size))
    obtain ⟨w3, hw3⟩ : ∃ w3, w3 = w2.alloc (.cells (cells8 (noughts 64)) 26) := ⟨_, rfl⟩
    have HW3 := Lib.hid hw3
    have HY3 := Lib.hid (show ArrB w3 w2.heap.size (noughts 64) by rw [hw3]; exact Blk.new w2 _ _)
    have HX3 := Lib.hid (show ArrB w3 (w.heap.size + 1) a2 by rw [hw3]; exact Blk.alloc HX2.out _)
    have HG3 := Lib.hid (show Blk w3 w.heap.size 24 (supC A0 B0 G0 R0 V0 F0) by rw [hw3]; exact HG2.out.alloc _)
    have HB3 := Lib.hid (show Below w.heap.size w w3 by rw [hw3]; exact HB2.out.alloc HB2.out.size _)
    clear hb hw3
    obtain ⟨c0, c1, c2, c3, c4, c5⟩ : _ ∧ _ ∧ _ ∧ _ ∧ _ ∧ _ := ⟨HG3.out.cell 0, HG3.out.cell 1, HG3.out.cell 2, HG3.out.cell 3, HG3.out.cell 4, HG3.out.cell 5⟩
    simp only [List.getElem?_toArray, List.getElem?_cons_zero, List.getElem?_cons_succ] at c0 c1 c2 c3 c4 c5
    go_wp2_with (first
      | (refine wpList_alloc_blk rfl rfl ?_)
      | (refine wpList_store_new (.tmp 7) (.tmp 21) rfl rfl w2 (noughts 64) rfl rfl (noughts 64) rfl (noughts_length 64) (noughts_length 64) ?_; rw [← HW3.out]))
    clear c0 c1 c2 c3 c4 c5
    refine (rmay_any A0 B0 G0 R0 V0 F0 _).mono ?_
    rintro e w4 ⟨rfl, hb⟩
    have HY4 := Lib.hid (show ArrB w4 w2.heap.size (noughts 64) from Arr.below HY3.out hb HY3.out.lt)
    have HX4 := Lib.hid (show ArrB w4 (w.heap.size + 1) a2 from Arr.below HX3.out hb HX3.out.lt)
    have HG4 := Lib.hid (HG3.out.below hb HG3.out.lt)
    have HB4 := Lib.hid (HB3.out.trans (hb.mono HB3.out.size))
    clear hb
    rw [decide_eq_false hmay]
    have HS := Lib.hid (show (noughts 64 == noughts 64) = true by simp)
    clear hmay
    go_upto_region 9 with (first
      | (refine wpList_load_blk (.tmp 7) rfl rfl w2.heap.size 0 rfl (noughts 64) (noughts_length 64) HY4.out.range ?_)
      | (refine wpList_build_blk rfl rfl ?_)
      | (refine wpList_neq_blk (.tmp 26) (.tmp 27) _ rfl rfl (noughts 64) (noughts 64) rfl rfl (noughts_length 64) (noughts_length 64) ?_; rw [HS.out]))
    cases hr : rightS a2
    · have HDC := Lib.hid (fun u => decode_no a2 u HL.out HBY.out hr)
      have HRD := Lib.hid (fun u => (rread_any a2 u HL.out HBY.out).mono fun e w' h => h.2 hr)
      clear hr
      go_wp2_with (first
        | (refine wpList_load_blk (.tmp 5) rfl rfl (w.heap.size + 1) 0 rfl a2 HL.out HX4.out.range ?_))
      refine (HDC.out _).mono ?_
      rintro e w6 ⟨rfl, hb⟩
      have HX6 := Lib.hid (show ArrB w6 (w.heap.size + 1) a2 from Arr.below HX4.out hb HX4.out.lt)
      have HB6 := Lib.hid (HB4.out.trans (hb.mono HB4.out.size))
      have HX7 := Lib.hid (show ArrB (w6.alloc (.cells (supC 0 0 0 0 0 0) 24)) (w.heap.size + 1) a2 from Blk.alloc HX6.out _)
      have HD7 := Lib.hid (show Blk (w6.alloc (.cells (supC 0 0 0 0 0 0) 24)) w6.heap.size 24 (supC 0 0 0 0 0 0) from Blk.new w6 _ _)
      have HB7 := Lib.hid (HB6.out.alloc HB6.out.size (.cells (supC 0 0 0 0 0 0) 24))
      clear hb
      go_wp2_with (first
        | (refine wpList_load_blk (.tmp 5) rfl rfl (w.heap.size + 1) 0 rfl a2 HL.out HX7.out.range ?_))
      generalize hw7 : w6.alloc (.cells (supC 0 0 0 0 0 0) 24) = w7 at *
      clear hw7
      refine (HRD.out _).mono ?_
      rintro e w8 ⟨rfl, hb⟩
      have HD8 := Lib.hid (HD7.out.below hb HD7.out.lt)
      have HB8 := Lib.hid (HB7.out.trans (hb.mono HB7.out.size))
      have HD9 := Lib.hid (HD8.out.alloc (.cells (supC 0 0 0 0 0 0) 24))
      have HE9 := Lib.hid (Blk.new w8 24 (supC 0 0 0 0 0 0))
      have HB9 := Lib.hid (HB8.out.alloc HB8.out.size (.cells (supC 0 0 0 0 0 0) 24))
      clear hb
      obtain ⟨d0, d1, d2, d3, d4, d5⟩ : _ ∧ _ ∧ _ ∧ _ ∧ _ ∧ _ := ⟨HD9.out.cell 0, HD9.out.cell 1, HD9.out.cell 2, HD9.out.cell 3, HD9.out.cell 4, HD9.out.cell 5⟩
      obtain ⟨e0, e1, e2, e3, e4, e5⟩ : _ ∧ _ ∧ _ ∧ _ ∧ _ ∧ _ := ⟨HE9.out.cell 0, HE9.out.cell 1, HE9.out.cell 2, HE9.out.cell 3, HE9.out.cell 4, HE9.out.cell 5⟩
      simp only [List.getElem?_toArray, List.getElem?_cons_zero, List.getElem?_cons_succ] at d0 d1 d2 d3 d4 d5 e0 e1 e2 e3 e4 e5
      have heq := eql_sup 0 0 0 0 0 0
      go_wp2_with fail
      go_ret
      exact ⟨rfl, HB9.out⟩
    · have HDC := Lib.hid (fun u => decode_ok a2 u HL.out HBY.out hr)
      have HRD := Lib.hid (fun u => (rread_any a2 u HL.out HBY.out).mono fun e w' h => h.1 hr)
      clear hr
      generalize numAt a2 16 2 = A1 at *
      generalize numAt a2 18 2 = B1 at *
      generalize numAt a2 20 8 = G1 at *
      generalize numAt a2 28 8 = R1 at *
      generalize numAt a2 36 8 = V1 at *
      generalize numAt a2 44 8 = F1 at *
      generalize numAt a2 8 8 = t1 at *
      go_wp2_with (first
        | (refine wpList_load_blk (.tmp 5) rfl rfl (w.heap.size + 1) 0 rfl a2 HL.out HX4.out.range ?_))
      refine (HDC.out _).mono ?_
      rintro e w6 ⟨rfl, hb⟩
      have HX6 := Lib.hid (show ArrB w6 (w.heap.size + 1) a2 from Arr.below HX4.out hb HX4.out.lt)
      have HB6 := Lib.hid (HB4.out.trans (hb.mono HB4.out.size))
      have HX7 := Lib.hid (show ArrB (w6.alloc (.cells (supC A1 B1 G1 R1 V1 F1) 24)) (w.heap.size + 1) a2 from Blk.alloc HX6.out _)
      have HD7 := Lib.hid (show Blk (w6.alloc (.cells (supC A1 B1 G1 R1 V1 F1) 24)) w6.heap.size 24 (supC A1 B1 G1 R1 V1 F1) from Blk.new w6 _ _)
      have HB7 := Lib.hid (HB6.out.alloc HB6.out.size (.cells (supC A1 B1 G1 R1 V1 F1) 24))
      clear hb
      go_wp2_with (first
        | (refine wpList_load_blk (.tmp 5) rfl rfl (w.heap.size + 1) 0 rfl a2 HL.out HX7.out.range ?_))
      generalize hw7 : w6.alloc (.cells (supC A1 B1 G1 R1 V1 F1) 24) = w7 at *
      clear hw7
      refine (HRD.out _).mono ?_
      rintro e w8 ⟨rfl, hb⟩
      have HD8 := Lib.hid (HD7.out.below hb HD7.out.lt)
      have HB8 := Lib.hid (HB7.out.trans (hb.mono HB7.out.size))
      have HD9 := Lib.hid (HD8.out.alloc (.cells (supC A1 B1 G1 R1 V1 F1) 24))
      have HE9 := Lib.hid (Blk.new w8 24 (supC A1 B1 G1 R1 V1 F1))
      have HB9 := Lib.hid (HB8.out.alloc HB8.out.size (.cells (supC A1 B1 G1 R1 V1 F1) 24))
      clear hb
      obtain ⟨d0, d1, d2, d3, d4, d5⟩ : _ ∧ _ ∧ _ ∧ _ ∧ _ ∧ _ := ⟨HD9.out.cell 0, HD9.out.cell 1, HD9.out.cell 2, HD9.out.cell 3, HD9.out.cell 4, HD9.out.cell 5⟩
      obtain ⟨e0, e1, e2, e3, e4, e5⟩ : _ ∧ _ ∧ _ ∧ _ ∧ _ ∧ _ := ⟨HE9.out.cell 0, HE9.out.cell 1, HE9.out.cell 2, HE9.out.cell 3, HE9.out.cell 4, HE9.out.cell 5⟩
      simp only [List.getElem?_toArray, List.getElem?_cons_zero, List.getElem?_cons_succ] at d0 d1 d2 d3 d4 d5 e0 e1 e2 e3 e4 e5
      have heq := eql_sup A1 B1 G1 R1 V1 F1
      go_wp2_with fail
      go_ret
      exact ⟨rfl, HB9.out⟩
  refine (encode_ok A0 B0 G0 R0 V0 F0 a1 _ hmay HIN.out HTT.out).mono ?_
  have hsl := supL_length A0 B0 G0 R0 V0 F0 a1
  have HBK := Lib.hid (fun u => rblock_any A0 B0 G0 R0 V0 F0 a1 u hmay HIN.out HTT.out)
  generalize supL A0 B0 G0 R0 V0 F0 a1 = sl at *
  have HSL := Lib.hid hsl
  clear hsl
  rintro e w2 ⟨rfl, hb⟩
  have HG2 := Lib.hid (HG1.out.below hb HG1.out.lt)
  have HX2 := Lib.hid (show ArrB w2 (w.heap.size + 1) a2 from Arr.below HX1.out hb HX1.out.lt)
  have HB2 := Lib.hid (HB1.out.trans (hb.mono HB1.out.size))
  obtain ⟨w3, hw3⟩ : ∃ w3, w3 = w2.alloc (.cells (cells8 sl) 26) := ⟨_, rfl⟩
  have HW3 := Lib.hid hw3
  have HY3 := Lib.hid (show ArrB w3 w2.heap.size sl by rw [hw3]; exact Blk.new w2 _ _)
  have HX3 := Lib.hid (show ArrB w3 (w.heap.size + 1) a2 by rw [hw3]; exact Blk.alloc HX2.out _)
  have HG3 := Lib.hid (show Blk w3 w.heap.size 24 (supC A0 B0 G0 R0 V0 F0) by rw [hw3]; exact HG2.out.alloc _)
  have HB3 := Lib.hid (show Below w.heap.size w w3 by rw [hw3]; exact HB2.out.alloc HB2.out.size _)
  clear hb hw3
  obtain ⟨c0, c1, c2, c3, c4, c5⟩ : _ ∧ _ ∧ _ ∧ _ ∧ _ ∧ _ := ⟨HG3.out.cell 0, HG3.out.cell 1, HG3.out.cell 2, HG3.out.cell 3, HG3.out.cell 4, HG3.out.cell 5⟩
  simp only [List.getElem?_toArray, List.getElem?_cons_zero, List.getElem?_cons_succ] at c0 c1 c2 c3 c4 c5
  go_wp2_with (first
    | (refine wpList_alloc_blk rfl rfl ?_)
    | (refine wpList_store_new (.tmp 7) (.tmp 21) rfl rfl w2 sl rfl rfl (noughts 64) rfl (noughts_length 64) HSL.out ?_; rw [← HW3.out]))
  clear c0 c1 c2 c3 c4 c5
  refine (rmay_any A0 B0 G0 R0 V0 F0 _).mono ?_
  rintro e w4 ⟨rfl, hb⟩
  have HY4 := Lib.hid (show ArrB w4 w2.heap.size sl from Arr.below HY3.out hb HY3.out.lt)
  have HX4 := Lib.hid (show ArrB w4 (w.heap.size + 1) a2 from Arr.below HX3.out hb HX3.out.lt)
  have HG4 := Lib.hid (HG3.out.below hb HG3.out.lt)
  have HB4 := Lib.hid (HB3.out.trans (hb.mono HB3.out.size))
  clear hb
  rw [decide_eq_true hmay]
  clear hmay
  go_upto_region 7 with fail
  have hr1 : w4.rangeAt w.heap.size 0 (supC A0 B0 G0 R0 V0 F0).toList := Blk.rangeL (cs := (supC A0 B0 G0 R0 V0 F0).toList) HG4.out
  have hr2 := HY4.out.range
  have hu24 := Try.underlying24
  have hu26 := Try.underlying26
  have hs24 : (Try.prog.info? 24).map (·.size) = some (supC A0 B0 G0 R0 V0 F0).toList.length := size_sup
  have hs26 : (Try.prog.info? 26).map (·.size) = some (sl.map (Value.int .u8)).length := by rw [size_blk, List.length_map, HSL.out]
  refine wp_region_noPanic ?_
  refine Tillst.region (fun W => W.rangeAt w.heap.size 0 (supC A0 B0 G0 R0 V0 F0).toList ∧ W.rangeAt w2.heap.size 0 (sl.map (Value.int .u8))) [] (by kernel_rfl) ⟨hr1, hr2⟩ (fun hHeld => ?_)
  clear hr1 hr2
  refine Tillst.take (i := 0) (oi := bl0) (v := ?_) rfl (by kernel_rfl) (by kernel_rfl) (by kernel_rfl) (by kernel_rfl) (fun _ _ _ h => h) (by rfl) ?_ hHeld ?_
  rotate_left
  · intro W hSW; (try dsimp only at hSW); unfold bl0; go_simp; with_reducible rfl
  simp only [bl0, Act.put, List.setIfInBounds_toArray, List.set_cons_zero, List.set_cons_succ]
  refine Tillst.take (i := 1) (oi := bl1) (v := ?_) rfl (by kernel_rfl) (by kernel_rfl) (by kernel_rfl) (by kernel_rfl) (fun _ _ _ h => h) (by rfl) ?_ hHeld ?_
  rotate_left
  · intro W hSW; (try dsimp only at hSW); unfold bl1; go_simp; with_reducible rfl
  simp only [bl1, Act.put, List.setIfInBounds_toArray, List.set_cons_zero, List.set_cons_succ]
  refine Tillst.take (i := 2) (oi := bl2) (v := ?_) rfl (by kernel_rfl) (by kernel_rfl) (by kernel_rfl) (by kernel_rfl) (fun _ _ _ h => h) (by rfl) ?_ hHeld ?_
  rotate_left
  · intro W hSW; (try dsimp only at hSW); unfold bl2; go_simp; with_reducible rfl
  simp only [bl2, Act.put, List.setIfInBounds_toArray, List.set_cons_zero, List.set_cons_succ]
  refine Tillst.take (i := 3) (oi := bl3) (v := ?_) rfl (by kernel_rfl) (by kernel_rfl) (by kernel_rfl) (by kernel_rfl) (fun _ _ _ h => h) (by rfl) ?_ hHeld ?_
  rotate_left
  · intro W hSW; refine exec_load_row (.tmp 7) 26 ?_ w2.heap.size 0 ?_ (sl.map (Value.int .u8)) _ hu26 rfl hs26 hSW.2 <;> rfl
  simp only [bl3, Act.put, List.setIfInBounds_toArray, List.set_cons_zero, List.set_cons_succ]
  refine Tillst.take (i := 4) (oi := bl4) (v := ?_) rfl (by kernel_rfl) (by kernel_rfl) (by kernel_rfl) (by kernel_rfl) (fun _ _ _ h => h) (by rfl) ?_ hHeld ?_
  rotate_left
  · intro W hSW; refine exec_load_row (.tmp 3) 24 ?_ w.heap.size 0 ?_ (supC A0 B0 G0 R0 V0 F0).toList _ hu24 rfl hs24 hSW.1 <;> rfl
  simp only [bl4, Act.put, List.setIfInBounds_toArray, List.set_cons_zero, List.set_cons_succ]
  refine Tillst.take (i := 5) (oi := bl5) (v := ?_) rfl (by kernel_rfl) (by kernel_rfl) (by kernel_rfl) (by kernel_rfl) (fun _ _ _ h => h) (by rfl) ?_ hHeld ?_
  rotate_left
  · intro W hSW; (try dsimp only at hSW); unfold bl5; go_simp; with_reducible rfl
  simp only [bl5, Act.put, List.setIfInBounds_toArray, List.set_cons_zero, List.set_cons_succ]
  refine Tillst.one (i := 6) (o := bl6) (by kernel_rfl) rfl ?_
  intro K hK
  refine step_call 11 #[.tmp 37, .tmp 38] #[24, 22] rfl rfl Try.func11 rfl rfl [.agg (supC A0 B0 G0 R0 V0 F0), .int .u64 a1] rfl ?_
  refine (HBK.out _).mono ?_
  rintro e w5 ⟨rfl, hb⟩
  have hb5 : Below w4.heap.size w4 w5 := (Below.refl _ _).drew.trans hb
  have HX5 := Lib.hid (show ArrB w5 (w.heap.size + 1) a2 from Arr.below HX4.out hb5 HX4.out.lt)
  have HB5 := Lib.hid (HB4.out.trans (hb5.mono HB4.out.size))
  have hS := And.intro (range_below hHeld.1 hb HG4.out.lt) (range_below hHeld.2 hb HY4.out.lt)
  clear hb hb5
  refine ⟨_, rfl, ?_⟩
  simp only [bl6, Act.put, List.setIfInBounds_toArray, List.set_cons_zero, List.set_cons_succ]
  refine hK.out _ _ (fun _ => hS) (fun hHeld => ?_)
  replace hHeld := hHeld (by decide)
  clear hK K hS
  refine Tillst.take (i := 7) (oi := bl7) (v := ?_) rfl (by kernel_rfl) (by kernel_rfl) (by kernel_rfl) (by kernel_rfl) (fun _ _ _ h => h) (by rfl) ?_ hHeld ?_
  rotate_left
  · intro W hSW; refine exec_neq_blk (.tmp 36) (.tmp 39) 26 ?_ sl sl ?_ ?_ HSL.out HSL.out <;> rfl
  simp only [bl7, Act.put, List.setIfInBounds_toArray, List.set_cons_zero, List.set_cons_succ]
  have heq : (sl == sl) = true := by simp
  rw [heq]
  clear heq
  refine Tillst.take (i := 8) (oi := bl8) (v := ?_) rfl (by kernel_rfl) (by kernel_rfl) (by kernel_rfl) (by kernel_rfl) (fun _ _ _ h => h) (by rfl) ?_ hHeld ?_
  rotate_left
  · intro W hSW; (try dsimp only at hSW); unfold bl8; go_simp; with_reducible rfl
  simp only [bl8, Act.put, List.setIfInBounds_toArray, List.set_cons_zero, List.set_cons_succ]
  refine Tillst.done (by kernel_rfl) ?_ _
  refine NoPanic.normal ?_
  clear hHeld hs24 hs26 hu24 hu26
  cases hr : rightS a2
  · have HDC := Lib.hid (fun u => decode_no a2 u HL.out HBY.out hr)
    have HRD := Lib.hid (fun u => (rread_any a2 u HL.out HBY.out).mono fun e w' h => h.2 hr)
    clear hr
    go_wp2_with (first
      | (refine wpList_load_blk (.tmp 5) rfl rfl (w.heap.size + 1) 0 rfl a2 HL.out HX5.out.range ?_))
    refine (HDC.out _).mono ?_
    rintro e w6 ⟨rfl, hb⟩
    have HX6 := Lib.hid (show ArrB w6 (w.heap.size + 1) a2 from Arr.below HX5.out hb HX5.out.lt)
    have HB6 := Lib.hid (HB5.out.trans (hb.mono HB5.out.size))
    have HX7 := Lib.hid (show ArrB (w6.alloc (.cells (supC 0 0 0 0 0 0) 24)) (w.heap.size + 1) a2 from Blk.alloc HX6.out _)
    have HD7 := Lib.hid (show Blk (w6.alloc (.cells (supC 0 0 0 0 0 0) 24)) w6.heap.size 24 (supC 0 0 0 0 0 0) from Blk.new w6 _ _)
    have HB7 := Lib.hid (HB6.out.alloc HB6.out.size (.cells (supC 0 0 0 0 0 0) 24))
    clear hb
    go_wp2_with (first
      | (refine wpList_load_blk (.tmp 5) rfl rfl (w.heap.size + 1) 0 rfl a2 HL.out HX7.out.range ?_))
    generalize hw7 : w6.alloc (.cells (supC 0 0 0 0 0 0) 24) = w7 at *
    clear hw7
    refine (HRD.out _).mono ?_
    rintro e w8 ⟨rfl, hb⟩
    have HD8 := Lib.hid (HD7.out.below hb HD7.out.lt)
    have HB8 := Lib.hid (HB7.out.trans (hb.mono HB7.out.size))
    have HD9 := Lib.hid (HD8.out.alloc (.cells (supC 0 0 0 0 0 0) 24))
    have HE9 := Lib.hid (Blk.new w8 24 (supC 0 0 0 0 0 0))
    have HB9 := Lib.hid (HB8.out.alloc HB8.out.size (.cells (supC 0 0 0 0 0 0) 24))
    clear hb
    obtain ⟨d0, d1, d2, d3, d4, d5⟩ : _ ∧ _ ∧ _ ∧ _ ∧ _ ∧ _ := ⟨HD9.out.cell 0, HD9.out.cell 1, HD9.out.cell 2, HD9.out.cell 3, HD9.out.cell 4, HD9.out.cell 5⟩
    obtain ⟨e0, e1, e2, e3, e4, e5⟩ : _ ∧ _ ∧ _ ∧ _ ∧ _ ∧ _ := ⟨HE9.out.cell 0, HE9.out.cell 1, HE9.out.cell 2, HE9.out.cell 3, HE9.out.cell 4, HE9.out.cell 5⟩
    simp only [List.getElem?_toArray, List.getElem?_cons_zero, List.getElem?_cons_succ] at d0 d1 d2 d3 d4 d5 e0 e1 e2 e3 e4 e5
    have heq := eql_sup 0 0 0 0 0 0
    go_wp2_with fail
    go_ret
    exact ⟨rfl, HB9.out⟩
  · have HDC := Lib.hid (fun u => decode_ok a2 u HL.out HBY.out hr)
    have HRD := Lib.hid (fun u => (rread_any a2 u HL.out HBY.out).mono fun e w' h => h.1 hr)
    clear hr
    generalize numAt a2 16 2 = A1 at *
    generalize numAt a2 18 2 = B1 at *
    generalize numAt a2 20 8 = G1 at *
    generalize numAt a2 28 8 = R1 at *
    generalize numAt a2 36 8 = V1 at *
    generalize numAt a2 44 8 = F1 at *
    generalize numAt a2 8 8 = t1 at *
    go_wp2_with (first
      | (refine wpList_load_blk (.tmp 5) rfl rfl (w.heap.size + 1) 0 rfl a2 HL.out HX5.out.range ?_))
    refine (HDC.out _).mono ?_
    rintro e w6 ⟨rfl, hb⟩
    have HX6 := Lib.hid (show ArrB w6 (w.heap.size + 1) a2 from Arr.below HX5.out hb HX5.out.lt)
    have HB6 := Lib.hid (HB5.out.trans (hb.mono HB5.out.size))
    have HX7 := Lib.hid (show ArrB (w6.alloc (.cells (supC A1 B1 G1 R1 V1 F1) 24)) (w.heap.size + 1) a2 from Blk.alloc HX6.out _)
    have HD7 := Lib.hid (show Blk (w6.alloc (.cells (supC A1 B1 G1 R1 V1 F1) 24)) w6.heap.size 24 (supC A1 B1 G1 R1 V1 F1) from Blk.new w6 _ _)
    have HB7 := Lib.hid (HB6.out.alloc HB6.out.size (.cells (supC A1 B1 G1 R1 V1 F1) 24))
    clear hb
    go_wp2_with (first
      | (refine wpList_load_blk (.tmp 5) rfl rfl (w.heap.size + 1) 0 rfl a2 HL.out HX7.out.range ?_))
    generalize hw7 : w6.alloc (.cells (supC A1 B1 G1 R1 V1 F1) 24) = w7 at *
    clear hw7
    refine (HRD.out _).mono ?_
    rintro e w8 ⟨rfl, hb⟩
    have HD8 := Lib.hid (HD7.out.below hb HD7.out.lt)
    have HB8 := Lib.hid (HB7.out.trans (hb.mono HB7.out.size))
    have HD9 := Lib.hid (HD8.out.alloc (.cells (supC A1 B1 G1 R1 V1 F1) 24))
    have HE9 := Lib.hid (Blk.new w8 24 (supC A1 B1 G1 R1 V1 F1))
    have HB9 := Lib.hid (HB8.out.alloc HB8.out.size (.cells (supC A1 B1 G1 R1 V1 F1) 24))
    clear hb
    obtain ⟨d0, d1, d2, d3, d4, d5⟩ : _ ∧ _ ∧ _ ∧ _ ∧ _ ∧ _ := ⟨HD9.out.cell 0, HD9.out.cell 1, HD9.out.cell 2, HD9.out.cell 3, HD9.out.cell 4, HD9.out.cell 5⟩
    obtain ⟨e0, e1, e2, e3, e4, e5⟩ : _ ∧ _ ∧ _ ∧ _ ∧ _ ∧ _ := ⟨HE9.out.cell 0, HE9.out.cell 1, HE9.out.cell 2, HE9.out.cell 3, HE9.out.cell 4, HE9.out.cell 5⟩
    simp only [List.getElem?_toArray, List.getElem?_cons_zero, List.getElem?_cons_succ] at d0 d1 d2 d3 d4 d5 e0 e1 e2 e3 e4 e5
    have heq := eql_sup A1 B1 G1 R1 V1 F1
    go_wp2_with fail
    go_ret
    exact ⟨rfl, HB9.out⟩

set_option maxRecDepth 100000 in
theorem lifted (os : Os) (started : os.Started) (H : Type) (enc : TypeId × Value → H) :
    ReturnsInHanded {} Try.checked os 3 .any (Rows.superBlocksSpec.pre6 enc Try.prog Try.f3 Rows.superBlocksRow.domain false) (Rows.superBlocksSpec.post enc Try.prog Try.f3 false true false false) := by
  refine returnsInHanded_of_change (C := Try.checked) own started (by kernel_rfl) Try.func3
    (ChangeSpec.witness6 (enc := enc) (C := Try.checked) false ⟨#[], #[.agg #[.int .i64 0, .int .i64 0, .int .u64 0, .int .u64 0, .int .u64 0, .int .u64 0], .int .u64 0, .agg (cells8 (noughts 64))], []⟩ 8 (by kernel_rfl) (by kernel_rfl) (by kernel_rfl) (by kernel_rfl)) ?_
  intro W base args ds gs before hval0 hW hcnd _
  have hval : ∀ (j : Nat) t v, Try.f3.params[j]? = some t → args[j]? = some v → Value.okWide Try.prog W .any base t v := hval0
  have hW' := hW
  obtain ⟨p, q, hA0, hV, rfl, hfz, hnd⟩ := hW
  have hA : DataW.TrodAll enc Try.prog W 0 (fun _ => true) true Try.f3.params.toList args.toList ds p := hA0
  rw [Try.params3] at hA hval
  obtain ⟨v0, vs0, d0, ds0, p0, q0, hargs, rfl, rfl, h0, r0⟩ := trodAll_cons hA
  obtain ⟨v1, vs1, d1, ds1, p1, q1, rfl, rfl, rfl, h1, r1⟩ := trodAll_cons r0
  obtain ⟨v2, vs2, d2, ds2, p2, q2, rfl, rfl, rfl, h2, r2⟩ := trodAll_cons r1
  obtain ⟨rfl, rfl, rfl⟩ := trodAll_nil r2
  obtain rfl : args = #[v0, v1, v2] := by cases args; simp_all
  obtain ⟨rfl, rfl⟩ := trodVars_none hV
  have kk0 := h0
  have lt0 : ∀ x ∈ p0, x.block < W.heap.size := by obtain ⟨m, hm⟩ := kk0; exact DataW.trod_lt m _ _ _ hm
  obtain ⟨A0, B0, G0, R0, V0, F0, rfl, w0⟩ := open_sup (hval 0 24 v0 rfl rfl) h0
  obtain ⟨a1, rfl, rfl, rfl, w1⟩ := open_int Try.underlying22 (hval 1 22 v1 rfl rfl) h1
  have k2 := h2
  have lt2 : ∀ x ∈ p2, x.block < W.heap.size := by obtain ⟨m, hm⟩ := k2; exact DataW.trod_lt m _ _ _ hm
  obtain ⟨a2, rfl, w2⟩ := open_arr8 Try.underlying26 Try.underlying5 (by kernel_rfl) (by kernel_rfl) (hval 2 26 v2 rfl rfl) h2
  clear hA0 hval0
  refine (walk A0 B0 G0 R0 V0 F0 a1 a2 W w0 w1 w2).mono fun e W' ⟨he, bel⟩ => ?_
  subst he
  exact ⟨_, rfl, _, _, _, [], _, [], hW', trodAll_mk1 (shut_bool Try.underlying4 _), (trodAll_cons_mk (Below.trod laidOut (by kernel_rfl) (of_decide_eq_true (by kernel_rfl)) kk0 bel lt0) (trodAll_cons_mk (shut_int Try.underlying22 w1) (trodAll_cons_mk (Below.trod laidOut (by kernel_rfl) (of_decide_eq_true (by kernel_rfl)) k2 bel lt2) trodAll_mk0))), rfl, bel.frame _, fun h => by cases h⟩

theorem over : Rows.superBlocksRow.holds Try.pinned (OpenSpec.ofChange Rows.superBlocksSpec) :=
  OpenClaim.holds_of_wide 3 Try.f3 rfl rfl rfl rfl rfl rfl rfl ⟨rfl, rfl, rfl, rfl, rfl⟩ rfl rfl rfl rfl rfl (by kernel_rfl) Try.func3 (by kernel_rfl)
    (of_decide_eq_true (by kernel_rfl)) (by unfold Func.isWrapper; first | (rw [if_pos (by decide +kernel)]; kernel_rfl) | (rw [if_neg (by decide +kernel)]; exact ⟨rfl, rfl⟩))
    (fun os started H enc _ => lifted os started H enc)

theorem proved : Rows.SuperBlocksSaid := over
end Go.Proofs.Ytjkepjpefjlpjaa.superBlocks
