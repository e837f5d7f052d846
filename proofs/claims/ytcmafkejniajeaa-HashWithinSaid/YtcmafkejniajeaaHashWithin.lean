/- For every number of 64 bits and every two ints: the probes that package hash answers are places, as many as are asked for, none where the document says nothing, and fewer of them are the first of more. No condition. -/
import Derived.Test.YtcmafkejniajeaaRows
import Derived.WalkKit
import Derived.ProofKit
import Derived.OpenShut
import Derived.ShutString
import Derived.ChangeOld
import Derived.Below
import Derived.Test.YtcmafkejniajeaaSame
import Derived.Deep.RegionHeld3
namespace Go.Proofs.Ytcmafkejniajeaa.hashWithin
open Go.ChangeShapes Go.WideShapes Go.ChangeAt Go.RowKit
open Go.ChangeMaps (open_string shut_string)
set_option linter.unusedVariables false

theorem own : ownKnob Try.prog.godebug = none := by kernel_rfl

theorem probes_int (h m x : Int) (n : Nat) (w : World) (hx : x = n) (h0 : 0 ≤ h) (m1 : 1 ≤ m) (m2 : m ≤ 16777216) (n1 : 1 ≤ n) (n2 : n ≤ 16) :
    Calls Try.prog 16 #[.int .u64 h, .int .i64 m, .int .i64 x] w fun e w' => e = .returned (.slice (some ⟨w.heap.size, 0, none⟩) n n) ∧
      w'.rowIs w.heap.size 3 n (fun j => .int .i64 (probe h m j)) ∧ Below w.heap.size w w' := by
  subst hx
  exact probes_good h m n w h0 m1 m2 n1 n2

/-- The first k of a row of k + 1 probes, as they stand behind another call. -/
theorem prefix_row {w2 w3 : World} {g k : Nat} {h m : Int} (hr : w2.rowIs g 3 (k + 1) (fun j => .int .i64 (probe h m j))) (hg : g < w2.heap.size)
    (hb : Below w2.drew.heap.size w2.drew w3) : Row .i64 w3 w3.heap.size (some ⟨g, 0, none⟩) k (probes h m k) := by
  refine ⟨by simp [probes], fun _ => ⟨g, 0, rfl, Nat.lt_of_lt_of_le hg hb.size, fun j hj => ?_⟩⟩
  rw [Nat.zero_add, hb.cell (p := ⟨g, j, none⟩) hg]
  refine (hr.cell (show j < k + 1 by omega)).trans ?_
  simp [probes, List.getD, List.getElem?_range hj]

theorem walk_bad (a0 a1 a2 : Int) (h0 : 0 ≤ a0) (w : World) (hbad : a1 < 1 ∨ 16777216 < a1 ∨ a2 < 1 ∨ 16 < a2) :
    Calls Try.prog 7 #[.int .u64 a0, .int .i64 a1, .int .i64 a2] w fun e w' => e = .returned (.bool true) ∧ Below w.heap.size w w' := by
  have HH := Lib.hid hbad
  by_cases c1 : a2 < 1
  · go_enter Try.func7, Try.ntmps7
    go_wp2_with (first | (go_at_call 8; refine (wakes_any w).mono ?_; rintro e w1' ⟨rfl, hb1⟩; have HB1 := Lib.hid hb1; clear hb1) | (go_at_call 16; refine (probes_bad a0 a1 a2 _ HH.out).mono ?_; rintro e w2' ⟨rfl, rfl⟩))
    go_ret
    exact ⟨rfl, HB1.out⟩
  by_cases c2 : 16 < a2
  · go_enter Try.func7, Try.ntmps7
    go_wp2_with (first | (go_at_call 8; refine (wakes_any w).mono ?_; rintro e w1' ⟨rfl, hb1⟩; have HB1 := Lib.hid hb1; clear hb1) | (go_at_call 16; refine (probes_bad a0 a1 a2 _ HH.out).mono ?_; rintro e w2' ⟨rfl, rfl⟩))
    go_ret
    exact ⟨rfl, HB1.out⟩
  by_cases c3 : a1 < 1
  · go_enter Try.func7, Try.ntmps7
    go_wp2_with (first | (go_at_call 8; refine (wakes_any w).mono ?_; rintro e w1' ⟨rfl, hb1⟩; have HB1 := Lib.hid hb1; clear hb1) | (go_at_call 16; refine (probes_bad a0 a1 a2 _ HH.out).mono ?_; rintro e w2' ⟨rfl, rfl⟩))
    go_ret
    exact ⟨rfl, HB1.out⟩
  have c4 : 16777216 < a1 := by omega
  go_enter Try.func7, Try.ntmps7
  go_wp2_with (first | (go_at_call 8; refine (wakes_any w).mono ?_; rintro e w1' ⟨rfl, hb1⟩; have HB1 := Lib.hid hb1; clear hb1) | (go_at_call 16; refine (probes_bad a0 a1 a2 _ HH.out).mono ?_; rintro e w2' ⟨rfl, rfl⟩))
  go_ret
  exact ⟨rfl, HB1.out⟩

set_option maxHeartbeats 1000000 in
theorem walk_good (a0 a1 : Int) (k : Nat) (h0 : 0 ≤ a0) (w : World) (m1 : 1 ≤ a1) (m2 : a1 ≤ 16777216) (k2 : k ≤ 15) :
    Calls Try.prog 7 #[.int .u64 a0, .int .i64 a1, .int .i64 ((k : Int) + 1)] w fun e w' => e = .returned (.bool true) ∧ Below w.heap.size w w' := by
  have d1 : decide ((k : Int) + 1 < 1) = false := by simp; omega
  have d2 : decide (16 < (k : Int) + 1) = false := by simp; omega
  have d3 : decide (a1 < 1) = false := by simp; omega
  have d4 : decide (16777216 < a1) = false := by simp; omega
  go_enter Try.func7, Try.ntmps7
  go_wp2_with fail
  refine (wakes_any w).mono ?_
  rintro e w1' ⟨rfl, hb1⟩
  have HB1 := Lib.hid hb1
  clear hb1
  go_wp2_with fail
  refine (probes_int a0 a1 _ (k + 1) _ (by omega) h0 m1 m2 (by omega) (by omega)).mono ?_
  rintro e w2' ⟨rfl, hr, hb2⟩
  have HB2 := Lib.hid (HB1.out.trans (hb2.mono HB1.out.size))
  have hlt2 := hr.lt
  have HR := Lib.hid hr
  clear hb2 hr
  go_wp2_with fail
  go_loop [35] (fun i => ∃ j : Nat, j ≤ k + 1 ∧ i = .int .i64 j) (fun i => k + 1 - (intOf i).toNat)
  case atStart => exact ⟨0, by omega, rfl⟩
  case round =>
    obtain ⟨j, hj, rfl⟩ := hrel
    by_cases hlt : j < k + 1
    · have hcell := HR.out.cell hlt
      have hp := probe_bounds a0 a1 j m1
      have p1 : decide (probe a0 a1 j < 0) = false := by simp; omega
      have p2 : decide (a1 ≤ probe a0 a1 j) = false := by simp; omega
      go_wp2
      go_round
      case rel => exact ⟨j + 1, by omega, by go_num⟩
      case measure => simp [intOf]; omega
    · by_cases hk0 : k = 0
      · subst hk0
        go_wp2
        go_quiet (fail)
        go_wp2
        go_ret
        exact ⟨rfl, below_drewN HB2.out _⟩
      · have g1 : ((k : Int) + 1 == 1) = false := by simp; omega
        go_wp2
        have s1 : IntKind.i64.wrap ((k : Int) + 1 - 1) = (k : Int) := by rw [show (k : Int) + 1 - 1 = (k : Int) by omega]; exact IntWalk.i64_in _ (by omega)
        have s2 : IntKind.i64.wrap (k : Int) = (k : Int) := IntWalk.i64_in _ (by omega)
        have s3 : (0 : Int) ≤ (k : Int) := by omega
        have s4 : (k : Int) ≤ ((k + 1 : Nat) : Int) := by omega
        have s5 : (k : Int) ≤ (k : Int) + 1 := by omega
        have HLT := Lib.hid hlt2
        clear hlt2
        go_region_held3 (fun _ => True) (exact trivial) (first | (go_at_call 16; refine (probes_int a0 a1 _ k _ (by omega) h0 m1 m2 (by omega) (by omega)).mono ?_; rintro e w3' ⟨rfl, hr3, hb3⟩; have HR3 := Lib.hid hr3; have HB3 := Lib.hid hb3; clear hr3 hb3) | (go_at_call 15; refine (same_yes _ _ _ _ _ _ _ _ (row_told HR3.out) (prefix_row HR.out HLT.out HB3.out) (by omega)).mono ?_; rintro e w4' ⟨rfl, d, rfl⟩))
        go_wp2
        go_ret
        exact ⟨rfl, below_drewN ((HB2.out.drew).trans (HB3.out.mono HB2.out.size)) d⟩

theorem walk (a0 : Int) (a1 : Int) (a2 : Int) (w : World) (w0 : (Lit.int .u64 a0).wf = true) (w1 : (Lit.int .i64 a1).wf = true) (w2 : (Lit.int .i64 a2).wf = true) :
    Calls Try.prog 7 #[.int .u64 a0, .int .i64 a1, .int .i64 a2] w fun e w' => e = .returned (.bool true) ∧ Below w.heap.size w w' := by
  have hh : 0 ≤ a0 := by
    have : 0 ≤ a0 ∧ a0 ≤ 18446744073709551615 := by simpa [Lit.wf, IntKind.min, IntKind.max, IntKind.signed, IntKind.bits] using w0
    exact this.1
  by_cases hbad : a1 < 1 ∨ 16777216 < a1 ∨ a2 < 1 ∨ 16 < a2
  · exact walk_bad a0 a1 a2 hh w hbad
  · obtain ⟨k, hk⟩ := Int.eq_ofNat_of_zero_le (show 0 ≤ a2 - 1 by omega)
    obtain rfl : a2 = (k : Int) + 1 := by omega
    exact walk_good a0 a1 k hh w (by omega) (by omega) (by omega)

set_option maxRecDepth 100000 in
theorem lifted (os : Os) (started : os.Started) (H : Type) (enc : TypeId × Value → H) :
    ReturnsInHanded {} Try.checked os 7 .any (Rows.hashWithinSpec.pre6 enc Try.prog Try.f7 Rows.hashWithinRow.domain false) (Rows.hashWithinSpec.post enc Try.prog Try.f7 false true false false) := by
  refine returnsInHanded_of_change (C := Try.checked) own started (by kernel_rfl) Try.func7
    (ChangeSpec.witness6 (enc := enc) (C := Try.checked) false ⟨#[], #[.int .u64 0, .int .i64 0, .int .i64 0], []⟩ 8 (by kernel_rfl) (by kernel_rfl) (by kernel_rfl) (by kernel_rfl)) ?_
  intro W base args ds gs before hval0 hW hcnd _
  have hval : ∀ (j : Nat) t v, Try.f7.params[j]? = some t → args[j]? = some v → Value.okWide Try.prog W .any base t v := hval0
  have hW' := hW
  obtain ⟨p, q, hA0, hV, rfl, hfz, hnd⟩ := hW
  have hA : DataW.TrodAll enc Try.prog W 0 (fun _ => true) true Try.f7.params.toList args.toList ds p := hA0
  rw [Try.params7] at hA hval
  obtain ⟨v0, vs0, d0, ds0, p0, q0, hargs, rfl, rfl, h0, r0⟩ := trodAll_cons hA
  obtain ⟨v1, vs1, d1, ds1, p1, q1, rfl, rfl, rfl, h1, r1⟩ := trodAll_cons r0
  obtain ⟨v2, vs2, d2, ds2, p2, q2, rfl, rfl, rfl, h2, r2⟩ := trodAll_cons r1
  obtain ⟨rfl, rfl, rfl⟩ := trodAll_nil r2
  obtain rfl : args = #[v0, v1, v2] := by cases args; simp_all
  obtain ⟨rfl, rfl⟩ := trodVars_none hV
  obtain ⟨a0, rfl, rfl, rfl, w0⟩ := open_int Try.underlying23 (hval 0 23 v0 rfl rfl) h0
  obtain ⟨a1, rfl, rfl, rfl, w1⟩ := open_int Try.underlying3 (hval 1 3 v1 rfl rfl) h1
  obtain ⟨a2, rfl, rfl, rfl, w2⟩ := open_int Try.underlying3 (hval 2 3 v2 rfl rfl) h2
  clear hA0 hval0
  refine (walk a0 a1 a2 W w0 w1 w2).mono fun e W' ⟨he, bel⟩ => ?_
  subst he
  exact ⟨_, rfl, _, _, _, [], _, [], hW', trodAll_mk1 (shut_bool Try.underlying4 _), (trodAll_cons_mk (shut_int Try.underlying23 w0) (trodAll_cons_mk (shut_int Try.underlying3 w1) (trodAll_cons_mk (shut_int Try.underlying3 w2) trodAll_mk0))), rfl, bel.frame _, fun h => by cases h⟩

theorem over : Rows.hashWithinRow.holds Try.pinned (OpenSpec.ofChange Rows.hashWithinSpec) :=
  OpenClaim.holds_of_wide 7 Try.f7 rfl rfl rfl rfl rfl rfl rfl ⟨rfl, rfl, rfl, rfl, rfl⟩ rfl rfl rfl rfl rfl (by kernel_rfl) Try.func7 (by kernel_rfl)
    (of_decide_eq_true (by kernel_rfl)) (by unfold Func.isWrapper; first | (rw [if_pos (by decide +kernel)]; kernel_rfl) | (rw [if_neg (by decide +kernel)]; exact ⟨rfl, rfl⟩))
    (fun os started H enc _ => lifted os started H enc)

theorem proved : Rows.HashWithinSaid := over
end Go.Proofs.Ytcmafkejniajeaa.hashWithin
