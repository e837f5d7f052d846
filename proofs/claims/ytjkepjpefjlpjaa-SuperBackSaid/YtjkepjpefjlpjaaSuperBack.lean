/- For everything that may be known, every turn and every bit: Decode of Encode is what was encoded, and with that bit turned it is none, or something else. No condition. -/
import Derived.Test.YtjkepjpefjlpjaaRows
import Derived.WalkKit
import Derived.ProofKit
import Derived.OpenShut
import Derived.ShutString
import Derived.ChangeOld
import Derived.Below
import Derived.Test.YtjkepjpefjlpjaaGood
import Derived.Test.YtjkepjpefjlpjaaFlip
import Derived.Test.YtjkepjpefjlpjaaFlip
import Derived.Test.YtjkepjpefjlpjaaFlip
import Derived.Test.YtjkepjpefjlpjaaFlip
import Derived.Test.YtjkepjpefjlpjaaArgsSup
namespace Go.Proofs.Ytjkepjpefjlpjaa.superBack
open Go.ChangeShapes Go.WideShapes Go.ChangeAt Go.RowKit
open Go.ChangeMaps (open_string shut_string)
set_option linter.unusedVariables false

theorem own : ownKnob Try.prog.godebug = none := by kernel_rfl
theorem laidOut : laidOutB Try.prog = true := by kernel_rfl

abbrev bk0 : Oper := { dst := some 38, op := Go.Op.move (Go.Operand.tmp 12), type := 3, pos := "outright.go:67", after := #[], guard := none }
abbrev bk1 : Oper := { dst := some 39, op := Go.Op.binOp Go.BinOp.quo 3 (Go.Operand.tmp 38) (Go.Operand.const (Go.Value.int Go.IntKind.i64 8)) 3, type := 3, pos := "outright.go:67", after := #[{ on := 0, ground := Go.Ground.data }], guard := none }
abbrev bk2 : Oper := { dst := some 40, op := Go.Op.indexAddr 26 (Go.Operand.tmp 7) (Go.Operand.tmp 39), type := 0, pos := "outright.go:67", after := #[{ on := 1, ground := Go.Ground.data }], guard := none }
abbrev bk3 : Oper := { dst := some 41, op := Go.Op.load 5 (Go.Operand.tmp 40), type := 5, pos := "outright.go:67", after := #[{ on := 2, ground := Go.Ground.data }], guard := none }
abbrev bk4 : Oper := { dst := some 42, op := Go.Op.move (Go.Operand.tmp 12), type := 3, pos := "outright.go:67", after := #[], guard := none }
abbrev bk5 : Oper := { dst := some 43, op := Go.Op.binOp Go.BinOp.rem 3 (Go.Operand.tmp 42) (Go.Operand.const (Go.Value.int Go.IntKind.i64 8)) 3, type := 3, pos := "outright.go:67", after := #[{ on := 4, ground := Go.Ground.data }], guard := none }
abbrev bk6 : Oper := { dst := some 44, op := Go.Op.binOp Go.BinOp.shl 5 (Go.Operand.const (Go.Value.int Go.IntKind.u8 1)) (Go.Operand.tmp 43) 3, type := 5, pos := "outright.go:67", after := #[{ on := 5, ground := Go.Ground.data }], guard := none }
abbrev bk7 : Oper := { dst := some 45, op := Go.Op.binOp Go.BinOp.xor 5 (Go.Operand.tmp 41) (Go.Operand.tmp 44) 5, type := 5, pos := "outright.go:67", after := #[{ on := 3, ground := Go.Ground.data }, { on := 6, ground := Go.Ground.data }], guard := none }
abbrev bk8 : Oper := { dst := some 46, op := Go.Op.indexAddr 26 (Go.Operand.tmp 7) (Go.Operand.tmp 39), type := 0, pos := "outright.go:67", after := #[{ on := 1, ground := Go.Ground.data }, { on := 0, ground := Go.Ground.phase }, { on := 1, ground := Go.Ground.phase }, { on := 2, ground := Go.Ground.phase }, { on := 3, ground := Go.Ground.phase }, { on := 4, ground := Go.Ground.phase }, { on := 5, ground := Go.Ground.phase }, { on := 6, ground := Go.Ground.phase }, { on := 7, ground := Go.Ground.phase }], guard := none }
abbrev bk9 : Oper := { dst := none, op := Go.Op.store 5 (Go.Operand.tmp 46) (Go.Operand.tmp 45), type := 0, pos := "outright.go:67", after := #[{ on := 8, ground := Go.Ground.data }, { on := 7, ground := Go.Ground.data }, { on := 0, ground := Go.Ground.phase }, { on := 1, ground := Go.Ground.phase }, { on := 2, ground := Go.Ground.phase }, { on := 3, ground := Go.Ground.phase }, { on := 4, ground := Go.Ground.phase }, { on := 5, ground := Go.Ground.phase }, { on := 6, ground := Go.Ground.phase }, { on := 7, ground := Go.Ground.phase }], guard := none }

set_option maxRecDepth 100000 in
theorem walk (A0 B0 G0 R0 V0 F0 : Int) (a1 : Int) (a2 : Int) (w : World) (w0 : InS A0 B0 G0 R0 V0 F0) (w1 : (Lit.int .u64 a1).wf = true) (w2 : (Lit.int .i64 a2).wf = true) :
    Calls Try.prog 7 #[.agg (supC A0 B0 G0 R0 V0 F0), .int .u64 a1, .int .i64 a2] w fun e w' => e = .returned (.bool true) ∧ Below w.heap.size w w' := by
  have HIN := Lib.hid w0
  have ht : 0 ≤ a1 ∧ a1 ≤ 18446744073709551615 := by simpa [Lit.wf, IntKind.min, IntKind.max, IntKind.signed, IntKind.bits] using w1
  have ha : -9223372036854775808 ≤ a2 ∧ a2 ≤ 9223372036854775807 := by simpa [Lit.wf, IntKind.min, IntKind.max, IntKind.signed, IntKind.bits] using w2
  have HTT := Lib.hid ht
  have HAA := Lib.hid ha
  clear w0 w1 w2 ht ha
  have HB0 := Lib.hid (show Below w.heap.size w (w.alloc (.cells (supC A0 B0 G0 R0 V0 F0) 24)) from (Below.refl _ _).alloc (Nat.le_refl _) _)
  have HG0 := Lib.hid (show Blk (w.alloc (.cells (supC A0 B0 G0 R0 V0 F0) 24)) w.heap.size 24 (supC A0 B0 G0 R0 V0 F0) from Blk.new w _ _)
  go_enter Try.func7, Try.ntmps7
  go_wp2_with fail
  generalize hw0 : w.alloc (.cells (supC A0 B0 G0 R0 V0 F0) 24) = w0 at *
  clear hw0
  refine (wakes_any _).mono ?_
  rintro e w1 ⟨rfl, hb⟩
  have HG1 := Lib.hid (HG0.out.below hb HG0.out.lt)
  have HB1 := Lib.hid (HB0.out.trans (hb.mono HB0.out.size))
  clear hb
  obtain ⟨c0, c1, c2, c3, c4, c5⟩ : _ ∧ _ ∧ _ ∧ _ ∧ _ ∧ _ := ⟨HG1.out.cell 0, HG1.out.cell 1, HG1.out.cell 2, HG1.out.cell 3, HG1.out.cell 4, HG1.out.cell 5⟩
  simp only [List.getElem?_toArray, List.getElem?_cons_zero, List.getElem?_cons_succ] at c0 c1 c2 c3 c4 c5
  go_wp2_with fail
  clear c0 c1 c2 c3 c4 c5
  by_cases hmay : MayS A0 B0 G0 R0
  case neg =>
    refine (encode_bad A0 B0 G0 R0 V0 F0 a1 _ hmay).mono ?_
    rintro e w2 ⟨rfl, hb⟩
    have HB2 := Lib.hid (HB1.out.trans (hb.mono HB1.out.size))
    have HX3 := Lib.hid (show ArrB (w2.alloc (.cells (cells8 (noughts 64)) 26)) w2.heap.size (noughts 64) from Blk.new w2 _ _)
    have HS := Lib.hid (show (noughts 64 == noughts 64) = true by simp)
    clear hb hmay
    go_wp2_with (first
      | (refine wpList_alloc_blk rfl rfl ?_)
      | (refine wpList_store_new (.tmp 7) (.tmp 22) rfl rfl w2 (noughts 64) rfl rfl (noughts 64) rfl (noughts_length 64) (noughts_length 64) ?_)
      | (refine wpList_load_blk (.tmp 7) rfl rfl w2.heap.size 0 rfl (noughts 64) (noughts_length 64) HX3.out.range ?_)
      | (refine wpList_build_blk rfl rfl ?_)
      | (refine wpList_eql_blk (.tmp 26) (.tmp 27) _ rfl rfl (noughts 64) (noughts 64) rfl rfl (noughts_length 64) (noughts_length 64) ?_; rw [HS.out]))
    go_ret
    exact ⟨rfl, HB2.out.alloc HB2.out.size _⟩
  refine (encode_ok A0 B0 G0 R0 V0 F0 a1 _ hmay HIN.out HTT.out).mono ?_
  rintro e w2 ⟨rfl, hb⟩
  have hsl := supL_length A0 B0 G0 R0 V0 F0 a1
  have hsb := supL_bytes A0 B0 G0 R0 V0 F0 a1
  have hrt := right_sup A0 B0 G0 R0 V0 F0 a1 hmay HIN.out HTT.out
  obtain ⟨e0, e1, e2, e3, e4, e5, e6⟩ := sup_nums A0 B0 G0 R0 V0 F0 a1 HIN.out (by have := hmay.1; have := hmay.2.1; omega) (by have := hmay.2.2.1; have := hmay.2.2.2.1; omega) HTT.out
  have hdec := fun u => decode_ok (supL A0 B0 G0 R0 V0 F0 a1) u hsl hsb hrt
  rw [e0, e1, e2, e3, e4, e5, e6] at hdec
  generalize hsup : supL A0 B0 G0 R0 V0 F0 a1 = sl at *
  have HSUP := Lib.hid hsup
  have HDEC := Lib.hid hdec
  have HSL := Lib.hid hsl
  have HSB := Lib.hid hsb
  clear hdec hrt e0 e1 e2 e3 e4 e5 e6 hsup hsl hsb hmay
  have HG2 := Lib.hid (HG1.out.below hb HG1.out.lt)
  have HB2 := Lib.hid (HB1.out.trans (hb.mono HB1.out.size))
  obtain ⟨w3, hw3⟩ : ∃ w3, w3 = w2.alloc (.cells (cells8 sl) 26) := ⟨_, rfl⟩
  have HW3 := Lib.hid hw3
  have HX3 := Lib.hid (show ArrB w3 w2.heap.size sl by rw [hw3]; exact Blk.new w2 _ _)
  have HG3 := Lib.hid (show Blk w3 w.heap.size 24 (supC A0 B0 G0 R0 V0 F0) by rw [hw3]; exact HG2.out.alloc _)
  have HB3 := Lib.hid (show Below w.heap.size w w3 by rw [hw3]; exact HB2.out.alloc HB2.out.size _)
  clear hb hw3
  go_wp2_with (first
    | (refine wpList_alloc_blk rfl rfl ?_)
    | (refine wpList_store_new (.tmp 7) (.tmp 22) rfl rfl w2 sl rfl rfl (noughts 64) rfl (noughts_length 64) HSL.out ?_; rw [← HW3.out])
    | (refine wpList_load_blk (.tmp 7) rfl rfl w2.heap.size 0 rfl sl HSL.out HX3.out.range ?_))
  refine (HDEC.out _).mono ?_
  rintro e w4 ⟨rfl, hb⟩
  have HX4 := Lib.hid (show ArrB w4 w2.heap.size sl from Arr.below HX3.out hb HX3.out.lt)
  have HG4 := Lib.hid (HG3.out.below hb HG3.out.lt)
  have HB4 := Lib.hid (HB3.out.trans (hb.mono HB3.out.size))
  clear hb
  go_upto_region 8 with fail
  obtain ⟨k, hk512, hkeq⟩ : ∃ k : Nat, k < 512 ∧ (if a2 < 0 then 0 else a2) % 512 = (k : Int) := ⟨((if a2 < 0 then 0 else a2) % 512).toNat, by omega, by omega⟩
  rw [hkeq]
  clear hkeq
  generalize (if a2 < 0 then (0 : Int) else a2) = mx
  obtain ⟨i, m, hi, hm, hkim⟩ : ∃ i m : Nat, i < 64 ∧ m < 8 ∧ k = 8 * i + m := ⟨k / 8, k % 8, by omega, by omega, by omega⟩
  have q1 : (k : Int).tdiv 8 = (i : Int) := by rw [Int.tdiv_eq_ediv_of_nonneg (by omega)]; omega
  have q2 : (k : Int) / 8 = (i : Int) := by omega
  have q3 : (k : Int).tmod 8 = (m : Int) := by rw [Int.tmod_eq_emod_of_nonneg (by omega)]; omega
  have q4 : (k : Int) % 8 = (m : Int) := by omega
  have hshl := shl_pow m hm
  have hwp := wrap_pow m hm
  have hyb := HSB.out i
  have hflip := flip_in m hm _ hyb.1 hyb.2
  have HX5 := Lib.hid (show ArrB (w4.alloc (.cells (supC A0 B0 G0 R0 V0 F0) 24)) w2.heap.size sl from Blk.alloc HX4.out _)
  have HT5 := Lib.hid (show Blk (w4.alloc (.cells (supC A0 B0 G0 R0 V0 F0) 24)) w4.heap.size 24 (supC A0 B0 G0 R0 V0 F0) from Blk.new w4 _ _)
  have HG5 := Lib.hid (HG4.out.alloc (.cells (supC A0 B0 G0 R0 V0 F0) 24))
  have HB5 := Lib.hid (HB4.out.alloc HB4.out.size (.cells (supC A0 B0 G0 R0 V0 F0) 24))
  have HZ4 := Lib.hid (show w.heap.size < w2.heap.size ∧ w2.heap.size < w4.heap.size from ⟨HG2.out.lt, HX4.out.lt⟩)
  generalize hw5 : w4.alloc (.cells (supC A0 B0 G0 R0 V0 F0) 24) = w5 at *
  clear hw5
  have hcell := HX5.out.cell (i := i) (by rw [HSL.out]; exact hi) 0
  have hfr := HX5.out.frozen i
  obtain ⟨c, hc⟩ : ∃ c : Int, c = ((2 ^ m : Nat) : Int) := ⟨_, rfl⟩
  rw [← hc] at hshl hflip hwp
  obtain ⟨y, hy⟩ : ∃ y : Int, y = sl.getD i 0 := ⟨_, rfl⟩
  rw [← hy] at hflip hcell hyb
  have HFL := Lib.hid hflip
  have HY := Lib.hid hy
  have hi0 : (0 : Int) ≤ (i : Int) := by omega
  have hi1 : (i : Int) < 64 := by omega
  have hwi : IntKind.i64.wrap (i : Int) = i := IntWalk.i64_in _ ⟨by omega, by omega⟩
  have hwm : IntKind.i64.wrap (m : Int) = m := IntWalk.i64_in _ ⟨by omega, by omega⟩
  clear hc hy hyb hflip hkim
  refine wp_region_noPanic ?_
  refine Tillst.region (fun W => W.cell? ⟨w2.heap.size, i, none⟩ = some (.int .u8 y)) [9] (by kernel_rfl) hcell (fun hHeld => ?_)
  refine Tillst.take (i := 0) (oi := bk0) (v := ?_) rfl (by kernel_rfl) (by kernel_rfl) (by kernel_rfl) (by kernel_rfl) (fun _ _ _ h => h) (by rfl) ?_ hHeld ?_
  rotate_left
  · intro W hSW; (try dsimp only at hSW); unfold bk0; go_simp; with_reducible rfl
  simp only [bk0, Act.put, List.setIfInBounds_toArray, List.set_cons_zero, List.set_cons_succ]
  refine Tillst.take (i := 1) (oi := bk1) (v := ?_) rfl (by kernel_rfl) (by kernel_rfl) (by kernel_rfl) (by kernel_rfl) (fun _ _ _ h => h) (by rfl) ?_ hHeld ?_
  rotate_left
  · intro W hSW; (try dsimp only at hSW); unfold bk1; go_simp; with_reducible rfl
  simp only [bk1, Act.put, List.setIfInBounds_toArray, List.set_cons_zero, List.set_cons_succ]
  refine Tillst.take (i := 2) (oi := bk2) (v := ?_) rfl (by kernel_rfl) (by kernel_rfl) (by kernel_rfl) (by kernel_rfl) (fun _ _ _ h => h) (by rfl) ?_ hHeld ?_
  rotate_left
  · intro W hSW; (try dsimp only at hSW); unfold bk2; go_simp; with_reducible rfl
  simp only [bk2, Act.put, List.setIfInBounds_toArray, List.set_cons_zero, List.set_cons_succ]
  refine Tillst.take (i := 3) (oi := bk3) (v := ?_) rfl (by kernel_rfl) (by kernel_rfl) (by kernel_rfl) (by kernel_rfl) (fun _ _ _ h => h) (by rfl) ?_ hHeld ?_
  rotate_left
  · intro W hSW; (try dsimp only at hSW); unfold bk3; go_simp; with_reducible rfl
  simp only [bk3, Act.put, List.setIfInBounds_toArray, List.set_cons_zero, List.set_cons_succ]
  refine Tillst.take (i := 4) (oi := bk4) (v := ?_) rfl (by kernel_rfl) (by kernel_rfl) (by kernel_rfl) (by kernel_rfl) (fun _ _ _ h => h) (by rfl) ?_ hHeld ?_
  rotate_left
  · intro W hSW; (try dsimp only at hSW); unfold bk4; go_simp; with_reducible rfl
  simp only [bk4, Act.put, List.setIfInBounds_toArray, List.set_cons_zero, List.set_cons_succ]
  refine Tillst.take (i := 5) (oi := bk5) (v := ?_) rfl (by kernel_rfl) (by kernel_rfl) (by kernel_rfl) (by kernel_rfl) (fun _ _ _ h => h) (by rfl) ?_ hHeld ?_
  rotate_left
  · intro W hSW; (try dsimp only at hSW); unfold bk5; go_simp; with_reducible rfl
  simp only [bk5, Act.put, List.setIfInBounds_toArray, List.set_cons_zero, List.set_cons_succ]
  refine Tillst.take (i := 6) (oi := bk6) (v := ?_) rfl (by kernel_rfl) (by kernel_rfl) (by kernel_rfl) (by kernel_rfl) (fun _ _ _ h => h) (by rfl) ?_ hHeld ?_
  rotate_left
  · intro W hSW; (try dsimp only at hSW); unfold bk6; go_simp; with_reducible rfl
  simp only [bk6, Act.put, List.setIfInBounds_toArray, List.set_cons_zero, List.set_cons_succ]
  refine Tillst.take (i := 7) (oi := bk7) (v := ?_) rfl (by kernel_rfl) (by kernel_rfl) (by kernel_rfl) (by kernel_rfl) (fun _ _ _ h => h) (by rfl) ?_ hHeld ?_
  rotate_left
  · intro W hSW; (try dsimp only at hSW); unfold bk7; go_simp; with_reducible rfl
  simp only [bk7, Act.put, List.setIfInBounds_toArray, List.set_cons_zero, List.set_cons_succ]
  refine Tillst.one (i := 8) (o := bk8) (by kernel_rfl) rfl ?_
  intro K hK
  refine step_value ?_ rfl ?_ ?_
  rotate_left
  · unfold bk8; go_simp; with_reducible rfl
  simp only [bk8, Act.put, List.setIfInBounds_toArray, List.set_cons_zero, List.set_cons_succ]
  refine hK.out _ _ (fun _ => hHeld) (fun hHeld => ?_)
  replace hHeld := hHeld (by decide)
  clear hK K
  refine Tillst.one (i := 9) (o := bk9) (by kernel_rfl) rfl ?_
  intro K hK
  have hst : ∀ u : Int, (Instr.storeAt 5 (.pointer (some ⟨w2.heap.size, i, none⟩)) (.int .u8 u)).run Try.prog w5.drew = .ok () (w5.drew.setCell ⟨w2.heap.size, i, none⟩ (.int .u8 u)) := fun u => by
    have hc := hHeld
    have hf : w5.drew.frozen? ⟨w2.heap.size, i, none⟩ = false := hfr
    go_simp
  refine step_store_cell (.tmp 46) (.tmp 45) 5 rfl rfl ⟨w2.heap.size, i, none⟩ (.int .u8 (bits .xor .u8 y c)) rfl rfl (hst _) ?_
  simp only [bk9, Act.put, List.setIfInBounds_toArray, List.set_cons_zero, List.set_cons_succ]
  refine hK.out _ _ (fun h => by cases h) (fun _ => Tillst.done (by kernel_rfl) ?_ _)
  refine NoPanic.normal ?_
  clear hst hHeld hshl hwi hwm hwp q1 q2 q3 q4 hcell hfr hi0 hi1
  generalize bits .xor .u8 y c = z at *
  have HX6 := Lib.hid (show ArrB (w5.drew.setCell ⟨w2.heap.size, i, none⟩ (.int .u8 z)) w2.heap.size (sl.set i z) from Arr.set (w := w5.drew) HX5.out i z)
  have HT6 := Lib.hid (show Blk (w5.drew.setCell ⟨w2.heap.size, i, none⟩ (.int .u8 z)) w4.heap.size 24 (supC A0 B0 G0 R0 V0 F0) from Blk.far (w := w5.drew) HT5.out (p := ⟨w2.heap.size, i, none⟩) (by have := HZ4.out.2; show w4.heap.size ≠ w2.heap.size; omega) _)
  have HG6 := Lib.hid (show Blk (w5.drew.setCell ⟨w2.heap.size, i, none⟩ (.int .u8 z)) w.heap.size 24 (supC A0 B0 G0 R0 V0 F0) from Blk.far (w := w5.drew) HG5.out (p := ⟨w2.heap.size, i, none⟩) (by have := HZ4.out.1; show w.heap.size ≠ w2.heap.size; omega) _)
  have HB6 := Lib.hid (show Below w.heap.size w (w5.drew.setCell ⟨w2.heap.size, i, none⟩ (.int .u8 z)) from HB5.out.drew.setCell (p := ⟨w2.heap.size, i, none⟩) (Nat.le_of_lt HZ4.out.1) _)
  generalize w5.drew.setCell ⟨w2.heap.size, i, none⟩ (.int .u8 z) = w6 at *
  obtain ⟨tl, htl⟩ : ∃ tl, tl = sl.set i z := ⟨_, rfl⟩
  have htll : tl.length = 64 := by rw [htl, List.length_set, HSL.out]
  have htlb : Bytes tl := by
    intro j
    have h := HSB.out j
    rw [htl]
    simp only [List.getD, List.getElem?_set] at *
    by_cases e : i = j
    · rw [if_pos e, if_pos (by rw [HSL.out]; exact hi)]
      simpa using HFL.out.2
    · rw [if_neg e]; exact h
  have hne : tl ≠ sl := by
    intro h
    have : tl.getD i 0 = sl.getD i 0 := by rw [h]
    rw [htl, ← HY.out] at this
    simp [List.getD, HSL.out, hi] at this
    exact HFL.out.1 this
  rw [← htl] at HX6
  have HTL := Lib.hid htll
  have HTB := Lib.hid htlb
  have HNE := Lib.hid hne
  clear htl htll htlb hne
  go_wp2_with (refine wpList_load_blk (.tmp 7) rfl rfl w2.heap.size 0 rfl tl HTL.out HX6.out.range ?_)
  cases hrt : rightS tl
  · refine (decode_no tl _ HTL.out HTB.out hrt).mono ?_
    rintro e w7 ⟨rfl, hb⟩
    have HT8 := Lib.hid ((HT6.out.below hb HT6.out.lt).alloc (.cells (supC 0 0 0 0 0 0) 24))
    have HG8 := Lib.hid ((HG6.out.below hb HG6.out.lt).alloc (.cells (supC 0 0 0 0 0 0) 24))
    have HB8 := Lib.hid ((HB6.out.trans (hb.mono HB6.out.size)).alloc (Nat.le_trans HB6.out.size hb.size) (.cells (supC 0 0 0 0 0 0) 24))
    have HD8 := Lib.hid (Blk.new w7 24 (supC 0 0 0 0 0 0))
    clear hb hrt
    have t0 := HT8.out.cell 0
    have t1 := HT8.out.cell 1
    have t2 := HT8.out.cell 2
    have t3 := HT8.out.cell 3
    have t4 := HT8.out.cell 4
    have t5 := HT8.out.cell 5
    have g0 := HG8.out.cell 0
    have g1 := HG8.out.cell 1
    have g2 := HG8.out.cell 2
    have g3 := HG8.out.cell 3
    have g4 := HG8.out.cell 4
    have g5 := HG8.out.cell 5
    have d0 := HD8.out.cell 0
    have d1 := HD8.out.cell 1
    have d2 := HD8.out.cell 2
    have d3 := HD8.out.cell 3
    have d4 := HD8.out.cell 4
    have d5 := HD8.out.cell 5
    simp only [List.getElem?_toArray, List.getElem?_cons_zero, List.getElem?_cons_succ] at t0 t1 t2 t3 t4 t5 g0 g1 g2 g3 g4 g5 d0 d1 d2 d3 d4 d5
    have heq := eql_sup A0 B0 G0 R0 V0 F0
    have heq0 := eql_sup 0 0 0 0 0 0
    go_wp2_with fail
    go_ret
    exact ⟨rfl, HB8.out⟩
  · refine (decode_ok tl _ HTL.out HTB.out hrt).mono ?_
    have hdiff : ¬ (numAt tl 16 2 = A0 ∧ numAt tl 18 2 = B0 ∧ numAt tl 20 8 = G0 ∧ numAt tl 28 8 = R0 ∧ numAt tl 36 8 = V0 ∧ numAt tl 44 8 = F0) ∨ ((numAt tl 8 8 != a1) = true) := by
      by_cases h : numAt tl 16 2 = A0 ∧ numAt tl 18 2 = B0 ∧ numAt tl 20 8 = G0 ∧ numAt tl 28 8 = R0 ∧ numAt tl 36 8 = V0 ∧ numAt tl 44 8 = F0
      · refine .inr ?_
        simp only [bne_iff_ne, ne_eq]
        intro ht
        unfold rightS at hrt
        obtain ⟨h1, h2, h3, h4, h5, h6⟩ := h
        rw [h1, h2, h3, h4, h5, h6, ht] at hrt
        simp only [Bool.and_eq_true, beq_iff_eq] at hrt
        exact HNE.out (hrt.2.symm.trans HSUP.out)
      · exact .inl h
    generalize numAt tl 16 2 = za at *
    generalize numAt tl 18 2 = zb at *
    generalize numAt tl 20 8 = zg at *
    generalize numAt tl 28 8 = zr at *
    generalize numAt tl 36 8 = zv at *
    generalize numAt tl 44 8 = zf at *
    generalize numAt tl 8 8 = zt at *
    rintro e w7 ⟨rfl, hb⟩
    have HT8 := Lib.hid ((HT6.out.below hb HT6.out.lt).alloc (.cells (supC za zb zg zr zv zf) 24))
    have HG8 := Lib.hid ((HG6.out.below hb HG6.out.lt).alloc (.cells (supC za zb zg zr zv zf) 24))
    have HB8 := Lib.hid ((HB6.out.trans (hb.mono HB6.out.size)).alloc (Nat.le_trans HB6.out.size hb.size) (.cells (supC za zb zg zr zv zf) 24))
    have HD8 := Lib.hid (Blk.new w7 24 (supC za zb zg zr zv zf))
    clear hb hrt
    have t0 := HT8.out.cell 0
    have t1 := HT8.out.cell 1
    have t2 := HT8.out.cell 2
    have t3 := HT8.out.cell 3
    have t4 := HT8.out.cell 4
    have t5 := HT8.out.cell 5
    have g0 := HG8.out.cell 0
    have g1 := HG8.out.cell 1
    have g2 := HG8.out.cell 2
    have g3 := HG8.out.cell 3
    have g4 := HG8.out.cell 4
    have g5 := HG8.out.cell 5
    have d0 := HD8.out.cell 0
    have d1 := HD8.out.cell 1
    have d2 := HD8.out.cell 2
    have d3 := HD8.out.cell 3
    have d4 := HD8.out.cell 4
    have d5 := HD8.out.cell 5
    simp only [List.getElem?_toArray, List.getElem?_cons_zero, List.getElem?_cons_succ] at t0 t1 t2 t3 t4 t5 g0 g1 g2 g3 g4 g5 d0 d1 d2 d3 d4 d5
    have heq := eql_sup A0 B0 G0 R0 V0 F0
    by_cases hz : za = A0 ∧ zb = B0 ∧ zg = G0 ∧ zr = R0 ∧ zv = V0 ∧ zf = F0
    · obtain ⟨rfl, rfl, rfl, rfl, rfl, rfl⟩ := hz
      have ht : (zt != a1) = true := by
        rcases hdiff with h | h
        · exact absurd ⟨rfl, rfl, rfl, rfl, rfl, rfl⟩ h
        · exact h
      have hnq := neq_sup_no za zb zg zr zv zf
      clear hdiff
      go_wp2_with fail
      go_ret
      exact ⟨rfl, HB8.out⟩
    · have hnq := fun u => neq_sup za zb zg zr zv zf A0 B0 G0 R0 V0 F0 u hz
      clear hdiff hz
      go_wp2_with fail
      go_ret
      exact ⟨rfl, HB8.out⟩

set_option maxRecDepth 100000 in
theorem lifted (os : Os) (started : os.Started) (H : Type) (enc : TypeId × Value → H) :
    ReturnsInHanded {} Try.checked os 7 .any (Rows.superBackSpec.pre6 enc Try.prog Try.f7 Rows.superBackRow.domain false) (Rows.superBackSpec.post enc Try.prog Try.f7 false true false false) := by
  refine returnsInHanded_of_change (C := Try.checked) own started (by kernel_rfl) Try.func7
    (ChangeSpec.witness6 (enc := enc) (C := Try.checked) false ⟨#[], #[.agg #[.int .i64 0, .int .i64 0, .int .u64 0, .int .u64 0, .int .u64 0, .int .u64 0], .int .u64 0, .int .i64 0], []⟩ 8 (by kernel_rfl) (by kernel_rfl) (by kernel_rfl) (by kernel_rfl)) ?_
  intro W base args ds gs before hval0 hW hcnd _
  have hval : ∀ (j : Nat) t v, Try.f7.params[j]? = some t → args[j]? = some v → Value.okWide Try.prog W .any base t v := hval0
  have hW' := hW
  obtain ⟨p, q, hA0, hV, rfl, hfz, hnd⟩ := hW
  have hA : DataW.TrodAll enc Try.prog W 0 (fun _ => true) true Try.f7.params.toList args.toList ds p := hA0
  rw [Try.params7] at hA hval
  obtain ⟨v0, vs0, d0, ds0, p0, q0, hargs, rfl, rfl, h0, r0⟩ := trodAll_cons hA
  obtain ⟨v1, vs1, d1, ds1, p1, q1, rfl, rfl, rfl, h1, r1⟩ := trodAll_cons r0
  obtain ⟨v2, vs2, d2, ds2, p2, q2, rfl, rfl, rfl, h2, r2⟩ := trodAll_cons r1
  obtain ⟨rfl, rfl, rfl⟩ := trodAll_nil r2
  obtain rfl : args = #[v0, v1, v2] := by cases args; simp_all
  obtain ⟨rfl, rfl⟩ := trodVars_none hV
  have kk0 := h0
  have lt0 : ∀ x ∈ p0, x.block < W.heap.size := by obtain ⟨m, hm⟩ := kk0; exact DataW.trod_lt m _ _ _ hm
  obtain ⟨A0, B0, G0, R0, V0, F0, rfl, w0⟩ := open_sup (hval 0 24 v0 rfl rfl) h0
  obtain ⟨a1, rfl, rfl, rfl, w1⟩ := open_int Try.underlying22 (hval 1 22 v1 rfl rfl) h1
  obtain ⟨a2, rfl, rfl, rfl, w2⟩ := open_int Try.underlying3 (hval 2 3 v2 rfl rfl) h2
  clear hA0 hval0
  refine (walk A0 B0 G0 R0 V0 F0 a1 a2 W w0 w1 w2).mono fun e W' ⟨he, bel⟩ => ?_
  subst he
  exact ⟨_, rfl, _, _, _, [], _, [], hW', trodAll_mk1 (shut_bool Try.underlying4 _), (trodAll_cons_mk (Below.trod laidOut (by kernel_rfl) (of_decide_eq_true (by kernel_rfl)) kk0 bel lt0) (trodAll_cons_mk (shut_int Try.underlying22 w1) (trodAll_cons_mk (shut_int Try.underlying3 w2) trodAll_mk0))), rfl, bel.frame _, fun h => by cases h⟩

theorem over : Rows.superBackRow.holds Try.pinned (OpenSpec.ofChange Rows.superBackSpec) :=
  OpenClaim.holds_of_wide 7 Try.f7 rfl rfl rfl rfl rfl rfl rfl ⟨rfl, rfl, rfl, rfl, rfl⟩ rfl rfl rfl rfl rfl (by kernel_rfl) Try.func7 (by kernel_rfl)
    (of_decide_eq_true (by kernel_rfl)) (by unfold Func.isWrapper; first | (rw [if_pos (by decide +kernel)]; kernel_rfl) | (rw [if_neg (by decide +kernel)]; exact ⟨rfl, rfl⟩))
    (fun os started H enc _ => lifted os started H enc)

theorem proved : Rows.SuperBackSaid := over
end Go.Proofs.Ytjkepjpefjlpjaa.superBack
