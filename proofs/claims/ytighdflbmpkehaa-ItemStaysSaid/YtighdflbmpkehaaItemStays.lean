/- For every two moments and every wish: what has expired stays so, and a wish of at most a month is never past. No condition. -/
import Derived.Test.YtighdflbmpkehaaRows
import Derived.WalkKit
import Derived.ProofKit
import Derived.OpenShut
import Derived.ShutString
import Derived.ChangeOld
import Derived.Below
import Derived.SizedLaws
import Derived.Test.YtighdflbmpkehaaLaw17
namespace Go.Proofs.Ytighdflbmpkehaa.itemStays
open Go.ChangeShapes Go.WideShapes Go.ChangeAt Go.RowKit
open Go.ChangeMaps (open_string shut_string)
set_option linter.unusedVariables false

theorem own : ownKnob Try.prog.godebug = none := by kernel_rfl

theorem ways (m a : Int) (hm : U32 m) (ha : U32 a) : U32 (expX m a) ∧ ((a = 0 ∧ expX m a = 0) ∨ (2592000 < a ∧ expX m a = a ∧ a = a) ∨ (0 < a ∧ a ≤ 2592000 ∧ m < expX m a) ∨ (0 < a ∧ a ≤ 2592000 ∧ expX m a = 4294967295)) := by
  obtain ⟨_, _⟩ := hm
  obtain ⟨_, _⟩ := ha
  unfold expX U32
  repeat' split
  all_goals omega

set_option maxHeartbeats 4000000 in
set_option maxRecDepth 100000 in
theorem walk (a0 : Int) (a1 : Int) (a2 : Int) (w : World) (w0 : (Lit.int .u32 a0).wf = true) (w1 : (Lit.int .u32 a1).wf = true) (w2 : (Lit.int .u32 a2).wf = true) :
    Calls Try.prog 9 #[.int .u32 a0, .int .u32 a1, .int .u32 a2] w fun e w' => e = .returned (.bool true) ∧ Below w.heap.size w w' := by
  have u0 := u32_of w0 -- HEARTS
  have u1 := u32_of w1
  have u2 := u32_of w2
  clear w0 w1 w2
  obtain ⟨p0, p1⟩ := u0
  obtain ⟨q0, q1⟩ := u1
  obtain ⟨r0, r1⟩ := u2
  rcases Int.lt_trichotomy a0 a1 with hlt | rfl | hlt
  · go_enter Try.func9, Try.ntmps9
    go_wp2_with fail
    refine (wakes_any w).mono ?_
    rintro e w1' ⟨rfl, hb1⟩
    have HB1 := Lib.hid hb1
    clear hb1
    go_wp2_with fail
    refine (expiry_any a0 a2 _ ⟨by omega, by omega⟩ ⟨r0, r1⟩).mono ?_
    rintro e w2' ⟨rfl, rfl⟩
    have HE := ways a0 a2 ⟨by omega, by omega⟩ ⟨r0, r1⟩
    obtain ⟨⟨x0, x1⟩, HE⟩ := HE
    generalize expX a0 a2 = x at x0 x1 HE
    have HX := Lib.hid (show U32 x from ⟨x0, x1⟩)
    have HW := Lib.hid HE
    clear HE
    go_wp2_with fail
    refine (expired_any a0 x _ ⟨by omega, by omega⟩ HX.out).mono ?_
    rintro e w2' ⟨rfl, rfl⟩
    by_cases hA : 0 < x ∧ x ≤ a0
    · have e1 : expB a0 x = true := by simp [expB, hA]
      have e2 : expB a1 x = true := by
        have h1 := hA.1
        have h2 : x ≤ a1 := by omega
        simp [expB, h1, h2]
      rw [e1]
      clear hA
      go_wp2_with fail
      refine (expired_any a1 x _ ⟨by omega, by omega⟩ HX.out).mono ?_
      rintro e w2' ⟨rfl, rfl⟩
      rw [e2]
      rcases HW.out with ⟨h1, h2⟩ | ⟨h1, h2, h3⟩ | ⟨h1, h2, h3⟩ | ⟨h1, h2, h3⟩
      all_goals (
        go_wp2
        all_goals (
          go_ret
          refine ⟨?_, HB1.out⟩
          first | rfl | (refine ret_bool ?_; simp [*]; done) | (refine ret_bool ?_; simp; omega)))
    · have e1 : expB a0 x = false := by
        unfold expB
        rcases Decidable.em (0 < x) with h | h
        · have h2 : ¬ x ≤ a0 := fun h2 => hA ⟨h, h2⟩
          simp [h2]
        · simp [h]
      rw [e1]
      clear hA
      rcases HW.out with ⟨h1, h2⟩ | ⟨h1, h2, h3⟩ | ⟨h1, h2, h3⟩ | ⟨h1, h2, h3⟩
      all_goals (
        go_wp2
        all_goals (
          go_ret
          refine ⟨?_, HB1.out⟩
          first | rfl | (refine ret_bool ?_; simp [*]; done) | (refine ret_bool ?_; simp; omega)))
  · go_enter Try.func9, Try.ntmps9
    go_wp2_with fail
    refine (wakes_any w).mono ?_
    rintro e w1' ⟨rfl, hb1⟩
    have HB1 := Lib.hid hb1
    clear hb1
    go_wp2_with fail
    refine (expiry_any a0 a2 _ ⟨by omega, by omega⟩ ⟨r0, r1⟩).mono ?_
    rintro e w2' ⟨rfl, rfl⟩
    have HE := ways a0 a2 ⟨by omega, by omega⟩ ⟨r0, r1⟩
    obtain ⟨⟨x0, x1⟩, HE⟩ := HE
    generalize expX a0 a2 = x at x0 x1 HE
    have HX := Lib.hid (show U32 x from ⟨x0, x1⟩)
    have HW := Lib.hid HE
    clear HE
    go_wp2_with fail
    refine (expired_any a0 x _ ⟨by omega, by omega⟩ HX.out).mono ?_
    rintro e w2' ⟨rfl, rfl⟩
    by_cases hA : 0 < x ∧ x ≤ a0
    · have e1 : expB a0 x = true := by simp [expB, hA]
      have e2 : expB a0 x = true := by
        have h1 := hA.1
        have h2 : x ≤ a0 := by omega
        simp [expB, h1, h2]
      rw [e1]
      clear hA
      go_wp2_with fail
      refine (expired_any a0 x _ ⟨by omega, by omega⟩ HX.out).mono ?_
      rintro e w2' ⟨rfl, rfl⟩
      rw [e2]
      rcases HW.out with ⟨h1, h2⟩ | ⟨h1, h2, h3⟩ | ⟨h1, h2, h3⟩ | ⟨h1, h2, h3⟩
      all_goals (
        go_wp2
        all_goals (
          go_ret
          refine ⟨?_, HB1.out⟩
          first | rfl | (refine ret_bool ?_; simp [*]; done) | (refine ret_bool ?_; simp; omega)))
    · have e1 : expB a0 x = false := by
        unfold expB
        rcases Decidable.em (0 < x) with h | h
        · have h2 : ¬ x ≤ a0 := fun h2 => hA ⟨h, h2⟩
          simp [h2]
        · simp [h]
      rw [e1]
      clear hA
      rcases HW.out with ⟨h1, h2⟩ | ⟨h1, h2, h3⟩ | ⟨h1, h2, h3⟩ | ⟨h1, h2, h3⟩
      all_goals (
        go_wp2
        all_goals (
          go_ret
          refine ⟨?_, HB1.out⟩
          first | rfl | (refine ret_bool ?_; simp [*]; done) | (refine ret_bool ?_; simp; omega)))
  · go_enter Try.func9, Try.ntmps9
    go_wp2_with fail
    refine (wakes_any w).mono ?_
    rintro e w1' ⟨rfl, hb1⟩
    have HB1 := Lib.hid hb1
    clear hb1
    go_wp2_with fail
    refine (expiry_any a1 a2 _ ⟨by omega, by omega⟩ ⟨r0, r1⟩).mono ?_
    rintro e w2' ⟨rfl, rfl⟩
    have HE := ways a1 a2 ⟨by omega, by omega⟩ ⟨r0, r1⟩
    obtain ⟨⟨x0, x1⟩, HE⟩ := HE
    generalize expX a1 a2 = x at x0 x1 HE
    have HX := Lib.hid (show U32 x from ⟨x0, x1⟩)
    have HW := Lib.hid HE
    clear HE
    go_wp2_with fail
    refine (expired_any a1 x _ ⟨by omega, by omega⟩ HX.out).mono ?_
    rintro e w2' ⟨rfl, rfl⟩
    by_cases hA : 0 < x ∧ x ≤ a1
    · have e1 : expB a1 x = true := by simp [expB, hA]
      have e2 : expB a0 x = true := by
        have h1 := hA.1
        have h2 : x ≤ a0 := by omega
        simp [expB, h1, h2]
      rw [e1]
      clear hA
      go_wp2_with fail
      refine (expired_any a0 x _ ⟨by omega, by omega⟩ HX.out).mono ?_
      rintro e w2' ⟨rfl, rfl⟩
      rw [e2]
      rcases HW.out with ⟨h1, h2⟩ | ⟨h1, h2, h3⟩ | ⟨h1, h2, h3⟩ | ⟨h1, h2, h3⟩
      all_goals (
        go_wp2
        all_goals (
          go_ret
          refine ⟨?_, HB1.out⟩
          first | rfl | (refine ret_bool ?_; simp [*]; done) | (refine ret_bool ?_; simp; omega)))
    · have e1 : expB a1 x = false := by
        unfold expB
        rcases Decidable.em (0 < x) with h | h
        · have h2 : ¬ x ≤ a1 := fun h2 => hA ⟨h, h2⟩
          simp [h2]
        · simp [h]
      rw [e1]
      clear hA
      rcases HW.out with ⟨h1, h2⟩ | ⟨h1, h2, h3⟩ | ⟨h1, h2, h3⟩ | ⟨h1, h2, h3⟩
      all_goals (
        go_wp2
        all_goals (
          go_ret
          refine ⟨?_, HB1.out⟩
          first | rfl | (refine ret_bool ?_; simp [*]; done) | (refine ret_bool ?_; simp; omega)))

set_option maxRecDepth 100000 in
theorem lifted (os : Os) (started : os.Started) (H : Type) (enc : TypeId × Value → H) :
    ReturnsInHanded {} Try.checked os 9 .any (Rows.itemStaysSpec.pre6 enc Try.prog Try.f9 Rows.itemStaysRow.domain false) (Rows.itemStaysSpec.post enc Try.prog Try.f9 false true false false) := by
  refine returnsInHanded_of_change_sized (C := Try.checked) own started (by kernel_rfl) Try.func9
    (ChangeSpec.witness6 (enc := enc) (C := Try.checked) false ⟨#[], #[.int .u32 0, .int .u32 0, .int .u32 0], []⟩ 8 (by kernel_rfl) (by kernel_rfl) (by kernel_rfl) (by kernel_rfl)) ?_
  intro W base args ds gs before hval0 hW hcnd hsz0 _
  have hval : ∀ (j : Nat) t v, Try.f9.params[j]? = some t → args[j]? = some v → Value.okWide Try.prog W .any base t v := hval0
  have hW' := hW
  have hsz : (DataW.weightsEach Try.prog (Try.f9.params.toList ++ Rows.itemStaysSpec.plain.varTypes Try.prog) (ds ++ gs)).all (· ≤ reachBytes) = true := hsz0
  obtain ⟨p, q, hA0, hV, rfl, hfz, hnd⟩ := hW
  have hA : DataW.TrodAll enc Try.prog W 0 (fun _ => true) true Try.f9.params.toList args.toList ds p := hA0
  rw [Try.params9] at hA hval hsz
  obtain ⟨v0, vs0, d0, ds0, p0, q0, hargs, rfl, rfl, h0, r0⟩ := trodAll_cons hA
  obtain ⟨v1, vs1, d1, ds1, p1, q1, rfl, rfl, rfl, h1, r1⟩ := trodAll_cons r0
  obtain ⟨v2, vs2, d2, ds2, p2, q2, rfl, rfl, rfl, h2, r2⟩ := trodAll_cons r1
  obtain ⟨rfl, rfl, rfl⟩ := trodAll_nil r2
  obtain rfl : args = #[v0, v1, v2] := by cases args; simp_all
  obtain ⟨rfl, rfl⟩ := trodVars_none hV
  obtain ⟨a0, rfl, rfl, rfl, w0⟩ := open_int Try.underlying22 (hval 0 22 v0 rfl rfl) h0
  obtain ⟨a1, rfl, rfl, rfl, w1⟩ := open_int Try.underlying22 (hval 1 22 v1 rfl rfl) h1
  obtain ⟨a2, rfl, rfl, rfl, w2⟩ := open_int Try.underlying22 (hval 2 22 v2 rfl rfl) h2
  clear hA0 hval0
  refine (walk a0 a1 a2 W w0 w1 w2).mono fun e W' ⟨he, bel⟩ => ?_
  subst he
  exact ⟨_, rfl, _, _, _, [], _, [], hW', trodAll_mk1 (shut_bool Try.underlying4 _), (trodAll_cons_mk (shut_int Try.underlying22 w0) (trodAll_cons_mk (shut_int Try.underlying22 w1) (trodAll_cons_mk (shut_int Try.underlying22 w2) trodAll_mk0))), rfl, bel.frame _, fun h => by cases h⟩

theorem over : Rows.itemStaysRow.holds Try.pinned (OpenSpec.ofChange Rows.itemStaysSpec) :=
  OpenClaim.holds_of_wide 9 Try.f9 rfl rfl rfl rfl rfl rfl rfl ⟨rfl, rfl, rfl, rfl, rfl⟩ rfl rfl rfl rfl rfl (by kernel_rfl) Try.func9 (by kernel_rfl)
    (of_decide_eq_true (by kernel_rfl)) (by unfold Func.isWrapper; first | (rw [if_pos (by decide +kernel)]; kernel_rfl) | (rw [if_neg (by decide +kernel)]; exact ⟨rfl, rfl⟩))
    (fun os started H enc _ => lifted os started H enc)

theorem proved : Rows.ItemStaysSaid := over
end Go.Proofs.Ytighdflbmpkehaa.itemStays
