/- For every two numbers: what is turned up and then down by the same is what it was, if it did not pass the greatest number; what is turned down never is more. No condition. -/
import Derived.Test.YtighdflbmpkehaaRows
import Derived.WalkKit
import Derived.ProofKit
import Derived.OpenShut
import Derived.ShutString
import Derived.ChangeOld
import Derived.Below
import Derived.SizedLaws
import Derived.Test.YtighdflbmpkehaaLaw17
namespace Go.Proofs.Ytighdflbmpkehaa.itemRound
open Go.ChangeShapes Go.WideShapes Go.ChangeAt Go.RowKit
open Go.ChangeMaps (open_string shut_string)
set_option linter.unusedVariables false

theorem own : ownKnob Try.prog.godebug = none := by kernel_rfl

set_option maxRecDepth 100000 in
theorem walk (a0 : Int) (a1 : Int) (w : World) (w0 : (Lit.int .u64 a0).wf = true) (w1 : (Lit.int .u64 a1).wf = true) :
    Calls Try.prog 8 #[.int .u64 a0, .int .u64 a1] w fun e w' => e = .returned (.bool true) ∧ Below w.heap.size w w' := by
  obtain ⟨n, rfl, hn⟩ := u64_of w0
  obtain ⟨b, rfl, hb⟩ := u64_of w1
  clear w0 w1
  go_enter Try.func8, Try.ntmps8
  go_wp2_with fail
  refine (wakes_any w).mono ?_
  rintro e w1' ⟨rfl, hb1⟩
  have HB1 := Lib.hid hb1
  clear hb1
  go_wp2_with fail
  refine (text_any n w1' hn).mono ?_
  rintro e w2' ⟨at2, rfl, hr2, hb2⟩
  have HR2 := Lib.hid hr2
  have HB2 := Lib.hid (HB1.out.trans (hb2.mono HB1.out.size))
  clear hr2 hb2
  go_wp2_with fail
  refine (turn_any _ _ _ _ _ b false w2' HR2.out (fun b h => h.2) (txt_bytes n) hb).mono ?_
  intro e w3' ht
  rw [TurnT, txt_num hn] at ht
  obtain ⟨g3, at3, rfl, hg3, hr3, hb3⟩ := ht
  have HR3 := Lib.hid hr3
  have HB3 := Lib.hid (HB2.out.trans (hb3.mono HB2.out.size))
  clear hr3 hb3
  have hm := turnN_le n b false hn
  obtain ⟨m, hM⟩ : ∃ m, turnN n b false = m := ⟨_, rfl⟩
  rw [hM] at HR3 hm
  simp only [hM]
  go_wp2_with fail
  refine (turn_any _ _ _ _ _ b true w3' HR3.out (fun b h => h.2) (txt_bytes m) hb).mono ?_
  intro e w4' ht
  rw [TurnT, txt_num hm] at ht
  obtain ⟨g4, at4, rfl, hg4, hr4, hb4⟩ := ht
  have HB4 := Lib.hid (HB3.out.trans (hb4.mono HB3.out.size))
  clear hr4 hb4
  go_wp2_with fail
  refine (text_any n w4' hn).mono ?_
  rintro e w5' ⟨at5, rfl, hr5, hb5⟩
  have HR5 := Lib.hid hr5
  have HB5 := Lib.hid (HB4.out.trans (hb5.mono HB4.out.size))
  clear hr5 hb5
  go_wp2_with fail
  refine (turn_any _ _ _ _ _ b true w5' HR5.out (fun b h => h.2) (txt_bytes n) hb).mono ?_
  intro e w6' ht
  rw [TurnT, txt_num hn] at ht
  obtain ⟨g6, at6, rfl, hg6, hr6, hb6⟩ := ht
  have HB6 := Lib.hid (HB5.out.trans (hb6.mono HB5.out.size))
  clear hr6 hb6 HR5
  have hsum : IntKind.u64.wrap ((n : Int) + b) = (m : Int) := by
    rw [IntKind.wrap_u64, ← hM]
    simp [turnN]
  have hless : ((turnN n b true : Nat) : Int) ≤ n := by simp [turnN] <;> omega
  have hback : (m : Int) < n ∨ ((turnN m b true : Nat) : Int) = n := by
    simp [turnN] at hM ⊢
    omega
  clear hM
  rcases hback with hback | hback
  · go_wp2
    all_goals (
      go_ret
      refine ⟨?_, HB6.out⟩
      first | rfl | (refine ret_bool ?_; simp [*]; done))
  · go_wp2
    all_goals (
      go_ret
      refine ⟨?_, HB6.out⟩
      first | rfl | (refine ret_bool ?_; simp [*]; done))

set_option maxRecDepth 100000 in
theorem lifted (os : Os) (started : os.Started) (H : Type) (enc : TypeId × Value → H) :
    ReturnsInHanded {} Try.checked os 8 .any (Rows.itemRoundSpec.pre6 enc Try.prog Try.f8 Rows.itemRoundRow.domain false) (Rows.itemRoundSpec.post enc Try.prog Try.f8 false true false false) := by
  refine returnsInHanded_of_change_sized (C := Try.checked) own started (by kernel_rfl) Try.func8
    (ChangeSpec.witness6 (enc := enc) (C := Try.checked) false ⟨#[], #[.int .u64 0, .int .u64 0], []⟩ 8 (by kernel_rfl) (by kernel_rfl) (by kernel_rfl) (by kernel_rfl)) ?_
  intro W base args ds gs before hval0 hW hcnd hsz0 _
  have hval : ∀ (j : Nat) t v, Try.f8.params[j]? = some t → args[j]? = some v → Value.okWide Try.prog W .any base t v := hval0
  have hW' := hW
  have hsz : (DataW.weightsEach Try.prog (Try.f8.params.toList ++ Rows.itemRoundSpec.plain.varTypes Try.prog) (ds ++ gs)).all (· ≤ reachBytes) = true := hsz0
  obtain ⟨p, q, hA0, hV, rfl, hfz, hnd⟩ := hW
  have hA : DataW.TrodAll enc Try.prog W 0 (fun _ => true) true Try.f8.params.toList args.toList ds p := hA0
  rw [Try.params8] at hA hval hsz
  obtain ⟨v0, vs0, d0, ds0, p0, q0, hargs, rfl, rfl, h0, r0⟩ := trodAll_cons hA
  obtain ⟨v1, vs1, d1, ds1, p1, q1, rfl, rfl, rfl, h1, r1⟩ := trodAll_cons r0
  obtain ⟨rfl, rfl, rfl⟩ := trodAll_nil r1
  obtain rfl : args = #[v0, v1] := by cases args; simp_all
  obtain ⟨rfl, rfl⟩ := trodVars_none hV
  obtain ⟨a0, rfl, rfl, rfl, w0⟩ := open_int Try.underlying28 (hval 0 28 v0 rfl rfl) h0
  obtain ⟨a1, rfl, rfl, rfl, w1⟩ := open_int Try.underlying28 (hval 1 28 v1 rfl rfl) h1
  clear hA0 hval0
  refine (walk a0 a1 W w0 w1).mono fun e W' ⟨he, bel⟩ => ?_
  subst he
  exact ⟨_, rfl, _, _, _, [], _, [], hW', trodAll_mk1 (shut_bool Try.underlying4 _), (trodAll_cons_mk (shut_int Try.underlying28 w0) (trodAll_cons_mk (shut_int Try.underlying28 w1) trodAll_mk0)), rfl, bel.frame _, fun h => by cases h⟩

theorem over : Rows.itemRoundRow.holds Try.pinned (OpenSpec.ofChange Rows.itemRoundSpec) :=
  OpenClaim.holds_of_wide 8 Try.f8 rfl rfl rfl rfl rfl rfl rfl ⟨rfl, rfl, rfl, rfl, rfl⟩ rfl rfl rfl rfl rfl (by kernel_rfl) Try.func8 (by kernel_rfl)
    (of_decide_eq_true (by kernel_rfl)) (by unfold Func.isWrapper; first | (rw [if_pos (by decide +kernel)]; kernel_rfl) | (rw [if_neg (by decide +kernel)]; exact ⟨rfl, rfl⟩))
    (fun os started H enc _ => lifted os started H enc)

theorem proved : Rows.ItemRoundSaid := over
end Go.Proofs.Ytighdflbmpkehaa.itemRound
