/- RingNews is true of every input: a ring is told just where there may be one, all of it free, and else the empty one beside its error. Conditions: none. -/
import Derived.Test.YtbnioceednkjcaaRows
import Derived.WalkKit
import Derived.ProofKit
import Derived.OpenShut
import Derived.ShutString
import Derived.ChangeOld
import Derived.Below
import Derived.Test.YtbnioceednkjcaaWakesR
import Derived.Test.YtbnioceednkjcaaSameR
namespace Go.Proofs.Ytbnioceednkjcaa.ringNews
open Go.ChangeShapes Go.WideShapes Go.ChangeAt Go.RowKit
open Go.ChangeMaps (open_string shut_string)
set_option linter.unusedVariables false

theorem own : ownKnob Try.prog.godebug = none := by kernel_rfl

set_option maxRecDepth 100000 in
theorem walk (a0 : Int) (a1 : Int) (w : World) (w0 : (Lit.int .i64 a0).wf = true) (w1 : (Lit.int .i64 a1).wf = true) :
    Calls Try.prog 10 #[.int .i64 a0, .int .i64 a1] w fun e w' => e = .returned (.bool true) ∧ Below w.heap.size w w' := by
  go_enter Try.func10, Try.ntmps10
  go_wp2_with fail
  refine (wakes8 _).mono ?_
  rintro e w1 ⟨rfl, hb1⟩
  have HW1 := Lib.hid hb1
  clear hb1
  by_cases hs : SizedR a0 a1
  · obtain ⟨n, rfl⟩ : ∃ n : Nat, a0 = n := ⟨a0.toNat, by unfold SizedR at hs; omega⟩
    have HS := Lib.hid hs
    have hn : n ≤ 16 := by unfold SizedR at hs; omega
    clear hs
    go_wp2_with fail
    refine (new_ok n a1 HS.out).mono ?_
    rintro e w2 ⟨⟨A, rfl, hr⟩, hb2⟩
    have HR2 := Lib.hid hr
    have HW2 := Lib.hid (HW1.out.trans (hb2.mono HW1.out.size))
    have HK2 := Lib.hid (Blk.new w2 66 #[.int .i64 a1, .slice A n n])
    have HA2 := Lib.hid ((Below.refl w2.heap.size w2).alloc (Nat.le_refl _) (.cells #[.int .i64 a1, .slice A n n] 66))
    clear hr hb2
    go_wp2_with fail
    refine (ref_new_ok n a1 HS.out).mono ?_
    rintro e w3 ⟨⟨A', rfl, hr3⟩, hb3⟩
    have hk3 := HK2.out.below hb3 HK2.out.lt
    have ha3 := HA2.out.trans (hb3.mono HA2.out.size)
    have HA4 := Lib.hid (ha3.alloc ha3.size (.cells #[.int .i64 a1, .slice A' n n] 66))
    have HK4 := Lib.hid (hk3.alloc (.cells #[.int .i64 a1, .slice A' n n] 66))
    have HK5 := Lib.hid (Blk.new w3 66 #[.int .i64 a1, .slice A' n n])
    have HR4 := Lib.hid (row_now hr3.now ((Below.refl w3.heap.size w3).alloc (Nat.le_refl _) (.cells #[.int .i64 a1, .slice A' n n] 66)))
    obtain ⟨q0, q1⟩ := ring_cells HK4.out
    obtain ⟨r0, r1⟩ := ring_cells HK5.out
    clear hr3 hb3 hk3 ha3
    go_wp2_with fail
    refine (ref_same (row_now HR2.out.now HA4.out) HR4.out a1 a1 (by omega)).mono ?_
    rintro e w6 ⟨rfl, hb6⟩
    rw [show decide (a1 = a1 ∧ List.replicate n seg0 = List.replicate n seg0) = true from decide_eq_true ⟨rfl, rfl⟩]
    have HK6 := Lib.hid (HK4.out.below hb6 HK4.out.lt)
    have HA6 := Lib.hid (HA4.out.trans (hb6.mono HA4.out.size))
    obtain ⟨s0, s1⟩ := ring_cells HK6.out
    clear hb6 q0 q1 r0 r1
    go_wp2_with fail
    refine (check_any (row_now HR2.out.now HA6.out) a1).mono ?_
    rintro e w7 ⟨rfl, hb7⟩
    rw [if_pos (ok_new HS.out)]
    have HW7 := Lib.hid (HW2.out.trans ((HA6.out.trans (hb7.mono HA6.out.size)).mono HW2.out.size))
    clear hb7
    go_wp2_with fail
    go_ret
    exact ⟨rfl, HW7.out⟩
  · have HS := Lib.hid hs
    clear hs
    go_wp2_with fail
    refine (new_bad a0 a1 HS.out).mono ?_
    rintro e w2 ⟨rfl, hb2⟩
    have HW2 := Lib.hid (HW1.out.trans (hb2.mono HW1.out.size))
    have HK2 := Lib.hid (Blk.new w2 66 #[.int .i64 0, .slice none 0 0])
    have HA2 := Lib.hid ((Below.refl w2.heap.size w2).alloc (Nat.le_refl _) (.cells #[.int .i64 0, .slice none 0 0] 66))
    clear hb2
    go_wp2_with fail
    refine (ref_new_bad a0 a1 HS.out).mono ?_
    rintro e w3 ⟨rfl, hb3⟩
    have hk3 := HK2.out.below hb3 HK2.out.lt
    have ha3 := HA2.out.trans (hb3.mono HA2.out.size)
    have HA4 := Lib.hid (ha3.alloc ha3.size (.cells #[.int .i64 0, .slice none 0 0] 66))
    have HK4 := Lib.hid (hk3.alloc (.cells #[.int .i64 0, .slice none 0 0] 66))
    obtain ⟨q0, q1⟩ := ring_cells HK4.out
    clear hb3 hk3 ha3
    go_wp2_with fail
    refine (ref_same (RowQ.nil _ _ _ _ _ none) (RowQ.nil _ _ _ _ _ none) 0 0 (by omega)).mono ?_
    rintro e w6 ⟨rfl, hb6⟩
    rw [show decide ((0 : Int) = 0 ∧ ([] : List Seg) = []) = true from decide_eq_true ⟨rfl, rfl⟩]
    have HW7 := Lib.hid (HW2.out.trans ((HA4.out.trans (hb6.mono HA4.out.size)).mono HW2.out.size))
    clear hb6
    go_wp2_with fail
    go_ret
    exact ⟨rfl, HW7.out⟩

set_option maxRecDepth 100000 in
theorem lifted (os : Os) (started : os.Started) (H : Type) (enc : TypeId × Value → H) :
    ReturnsInHanded {} Try.checked os 10 .any (Rows.ringNewsSpec.pre6 enc Try.prog Try.f10 Rows.ringNewsRow.domain false) (Rows.ringNewsSpec.post enc Try.prog Try.f10 false true false false) := by
  refine returnsInHanded_of_change (C := Try.checked) own started (by kernel_rfl) Try.func10
    (ChangeSpec.witness6 (enc := enc) (C := Try.checked) false ⟨#[], #[.int .i64 0, .int .i64 0], []⟩ 8 (by kernel_rfl) (by kernel_rfl) (by kernel_rfl) (by kernel_rfl)) ?_
  intro W base args ds gs before hval0 hW hcnd _
  have hval : ∀ (j : Nat) t v, Try.f10.params[j]? = some t → args[j]? = some v → Value.okWide Try.prog W .any base t v := hval0
  have hW' := hW
  obtain ⟨p, q, hA0, hV, rfl, hfz, hnd⟩ := hW
  have hA : DataW.TrodAll enc Try.prog W 0 (fun _ => true) true Try.f10.params.toList args.toList ds p := hA0
  rw [Try.params10] at hA hval
  obtain ⟨v0, vs0, d0, ds0, p0, q0, hargs, rfl, rfl, h0, r0⟩ := trodAll_cons hA
  obtain ⟨v1, vs1, d1, ds1, p1, q1, rfl, rfl, rfl, h1, r1⟩ := trodAll_cons r0
  obtain ⟨rfl, rfl, rfl⟩ := trodAll_nil r1
  obtain rfl : args = #[v0, v1] := by cases args; simp_all
  obtain ⟨rfl, rfl⟩ := trodVars_none hV
  obtain ⟨a0, rfl, rfl, rfl, w0⟩ := open_int Try.underlying3 (hval 0 3 v0 rfl rfl) h0
  obtain ⟨a1, rfl, rfl, rfl, w1⟩ := open_int Try.underlying3 (hval 1 3 v1 rfl rfl) h1
  clear hA0 hval0
  refine (walk a0 a1 W w0 w1).mono fun e W' ⟨he, bel⟩ => ?_
  subst he
  exact ⟨_, rfl, _, _, _, [], _, [], hW', trodAll_mk1 (shut_bool Try.underlying4 _), (trodAll_cons_mk (shut_int Try.underlying3 w0) (trodAll_cons_mk (shut_int Try.underlying3 w1) trodAll_mk0)), rfl, bel.frame _, fun h => by cases h⟩

theorem over : Rows.ringNewsRow.holds Try.pinned (OpenSpec.ofChange Rows.ringNewsSpec) :=
  OpenClaim.holds_of_wide 10 Try.f10 rfl rfl rfl rfl rfl rfl rfl ⟨rfl, rfl, rfl, rfl, rfl⟩ rfl rfl rfl rfl rfl (by kernel_rfl) Try.func10 (by kernel_rfl)
    (of_decide_eq_true (by kernel_rfl)) (by unfold Func.isWrapper; first | (rw [if_pos (by decide +kernel)]; kernel_rfl) | (rw [if_neg (by decide +kernel)]; exact ⟨rfl, rfl⟩))
    (fun os started H enc _ => lifted os started H enc)

theorem proved : Rows.RingNewsSaid := over
end Go.Proofs.Ytbnioceednkjcaa.ringNews
