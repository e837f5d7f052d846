/- For every number and everything known: what is not there answers as the document says, and a disk of 97 sectors is too small for 4 segments of 24. No condition. -/
import Derived.Test.YtjkepjpefjlpjaaRows
import Derived.WalkKit
import Derived.ProofKit
import Derived.OpenShut
import Derived.ShutString
import Derived.ChangeOld
import Derived.Below
import Derived.Test.YtjkepjpefjlpjaaGood
import Derived.Test.YtjkepjpefjlpjaaArgsSup
namespace Go.Proofs.Ytjkepjpefjlpjaa.superNone
open Go.ChangeShapes Go.WideShapes Go.ChangeAt Go.RowKit
open Go.ChangeMaps (open_string shut_string)
set_option linter.unusedVariables false

theorem own : ownKnob Try.prog.godebug = none := by kernel_rfl
theorem laidOut : laidOutB Try.prog = true := by kernel_rfl

set_option maxRecDepth 100000 in
theorem walk (a0 : Int) (A1 B1 G1 R1 V1 F1 : Int) (w : World) (w0 : (Lit.int .i64 a0).wf = true) (w1 : InS A1 B1 G1 R1 V1 F1) :
    Calls Try.prog 5 #[.int .i64 a0, .agg (supC A1 B1 G1 R1 V1 F1)] w fun e w' => e = .returned (.bool true) ∧ Below w.heap.size w w' := by
  have hmay : MayS 4 24 0 0 := by unfold MayS; omega
  have HW0 := Lib.hid w0
  have HW1 := Lib.hid w1
  clear w0 w1
  have HB0 := Lib.hid (show Below w.heap.size w (w.alloc (.cells (supC A1 B1 G1 R1 V1 F1) 24)) from (Below.refl _ _).alloc (Nat.le_refl _) _)
  have HG0 := Lib.hid (show Blk (w.alloc (.cells (supC A1 B1 G1 R1 V1 F1) 24)) w.heap.size 24 (supC A1 B1 G1 R1 V1 F1) from Blk.new w _ _)
  go_enter Try.func5, Try.ntmps5
  go_wp2_with fail
  generalize hw0 : w.alloc (.cells (supC A1 B1 G1 R1 V1 F1) 24) = w0 at *
  clear hw0
  refine (wakes_any _).mono ?_
  rintro e w1 ⟨rfl, hb⟩
  have HG1 := Lib.hid (HG0.out.below hb HG0.out.lt)
  have HB1 := Lib.hid (HB0.out.trans (hb.mono HB0.out.size))
  clear hb
  go_wp2_with (first
    | (go_at_call 15; with_reducible refine (format_nil 4 24 _).mono ?_; rintro e w' ⟨rfl, rfl⟩)
    | (go_at_call 21; refine (open_nil _).mono ?_; rintro e w' ⟨rfl, rfl⟩)
    | (go_at_call 22; refine (base_nil a0 _).mono ?_; rintro e w' ⟨rfl, rfl⟩))
  refine (new_i w1 97 97 rfl (by omega) (by omega)).mono ?_
  rintro e w2 ⟨d, rfl, hd, hb⟩
  have HG2 := Lib.hid (HG1.out.below hb HG1.out.lt)
  have HB2 := Lib.hid (HB1.out.trans (hb.mono HB1.out.size))
  have HD2 := Lib.hid hd
  clear hb hd
  go_wp2_with fail
  refine (format_room HD2.out 4 24 hmay (by omega)).mono ?_
  rintro e w3 ⟨rfl, hb⟩
  have HG3 := Lib.hid (HG2.out.below hb HG2.out.lt)
  have HB3 := Lib.hid (HB2.out.trans (hb.mono HB2.out.size))
  clear hb
  obtain ⟨c0, c1, c2, c3, c4, c5⟩ : _ ∧ _ ∧ _ ∧ _ ∧ _ ∧ _ := ⟨HG3.out.cell 0, HG3.out.cell 1, HG3.out.cell 2, HG3.out.cell 3, HG3.out.cell 4, HG3.out.cell 5⟩
  simp only [List.getElem?_toArray, List.getElem?_cons_zero, List.getElem?_cons_succ] at c0 c1 c2 c3 c4 c5
  go_wp2_with (first
    | (go_at_call 17; refine (set_nil A1 B1 G1 R1 V1 F1 _).mono ?_; rintro e w4 ⟨rfl, hb4⟩; have HB4 := Lib.hid (HB3.out.trans (hb4.mono HB3.out.size)); clear hb4)
    | (go_at_call 18; refine (get_nil _).mono ?_; rintro e w5 ⟨rfl, hb5⟩; have HB5 := Lib.hid (HB4.out.trans (hb5.mono HB4.out.size)); clear hb5)
    | (go_at_call 23; refine (disk_nil _).mono ?_; rintro e w' ⟨rfl, rfl⟩))
  go_ret
  exact ⟨rfl, HB5.out⟩

set_option maxRecDepth 100000 in
theorem lifted (os : Os) (started : os.Started) (H : Type) (enc : TypeId × Value → H) :
    ReturnsInHanded {} Try.checked os 5 .any (Rows.superNoneSpec.pre6 enc Try.prog Try.f5 Rows.superNoneRow.domain false) (Rows.superNoneSpec.post enc Try.prog Try.f5 false true false false) := by
  refine returnsInHanded_of_change (C := Try.checked) own started (by kernel_rfl) Try.func5
    (ChangeSpec.witness6 (enc := enc) (C := Try.checked) false ⟨#[], #[.int .i64 0, .agg #[.int .i64 0, .int .i64 0, .int .u64 0, .int .u64 0, .int .u64 0, .int .u64 0]], []⟩ 8 (by kernel_rfl) (by kernel_rfl) (by kernel_rfl) (by kernel_rfl)) ?_
  intro W base args ds gs before hval0 hW hcnd _
  have hval : ∀ (j : Nat) t v, Try.f5.params[j]? = some t → args[j]? = some v → Value.okWide Try.prog W .any base t v := hval0
  have hW' := hW
  obtain ⟨p, q, hA0, hV, rfl, hfz, hnd⟩ := hW
  have hA : DataW.TrodAll enc Try.prog W 0 (fun _ => true) true Try.f5.params.toList args.toList ds p := hA0
  rw [Try.params5] at hA hval
  obtain ⟨v0, vs0, d0, ds0, p0, q0, hargs, rfl, rfl, h0, r0⟩ := trodAll_cons hA
  obtain ⟨v1, vs1, d1, ds1, p1, q1, rfl, rfl, rfl, h1, r1⟩ := trodAll_cons r0
  obtain ⟨rfl, rfl, rfl⟩ := trodAll_nil r1
  obtain rfl : args = #[v0, v1] := by cases args; simp_all
  obtain ⟨rfl, rfl⟩ := trodVars_none hV
  obtain ⟨a0, rfl, rfl, rfl, w0⟩ := open_int Try.underlying3 (hval 0 3 v0 rfl rfl) h0
  have kk1 := h1
  have lt1 : ∀ x ∈ p1, x.block < W.heap.size := by obtain ⟨m, hm⟩ := kk1; exact DataW.trod_lt m _ _ _ hm
  obtain ⟨A1, B1, G1, R1, V1, F1, rfl, w1⟩ := open_sup (hval 1 24 v1 rfl rfl) h1
  clear hA0 hval0
  refine (walk a0 A1 B1 G1 R1 V1 F1 W w0 w1).mono fun e W' ⟨he, bel⟩ => ?_
  subst he
  exact ⟨_, rfl, _, _, _, [], _, [], hW', trodAll_mk1 (shut_bool Try.underlying4 _), (trodAll_cons_mk (shut_int Try.underlying3 w0) (trodAll_cons_mk (Below.trod laidOut (by kernel_rfl) (of_decide_eq_true (by kernel_rfl)) kk1 bel lt1) trodAll_mk0)), rfl, bel.frame _, fun h => by cases h⟩

theorem over : Rows.superNoneRow.holds Try.pinned (OpenSpec.ofChange Rows.superNoneSpec) :=
  OpenClaim.holds_of_wide 5 Try.f5 rfl rfl rfl rfl rfl rfl rfl ⟨rfl, rfl, rfl, rfl, rfl⟩ rfl rfl rfl rfl rfl (by kernel_rfl) Try.func5 (by kernel_rfl)
    (of_decide_eq_true (by kernel_rfl)) (by unfold Func.isWrapper; first | (rw [if_pos (by decide +kernel)]; kernel_rfl) | (rw [if_neg (by decide +kernel)]; exact ⟨rfl, rfl⟩))
    (fun os started H enc _ => lifted os started H enc)

theorem proved : Rows.SuperNoneSaid := over
end Go.Proofs.Ytjkepjpefjlpjaa.superNone
