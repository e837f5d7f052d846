/- For every number, and every count of noughts ahead: a number's text is read as it, and has no noughts itself. No condition. -/
import Derived.Test.YtighdflbmpkehaaRows
import Derived.WalkKit
import Derived.ProofKit
import Derived.OpenShut
import Derived.ShutString
import Derived.ChangeOld
import Derived.Below
import Derived.SizedLaws
import Derived.Test.YtighdflbmpkehaaBack17
namespace Go.Proofs.Ytighdflbmpkehaa.itemBack
open Go.ChangeShapes Go.WideShapes Go.ChangeAt Go.RowKit
open Go.ChangeMaps (open_string shut_string)
set_option linter.unusedVariables false

theorem own : ownKnob Try.prog.godebug = none := by kernel_rfl

set_option maxRecDepth 100000 in
theorem walk (a0 : Int) (a1 : Int) (w : World) (w0 : (Lit.int .u64 a0).wf = true) (w1 : (Lit.int .i64 a1).wf = true) :
    Calls Try.prog 7 #[.int .u64 a0, .int .i64 a1] w fun e w' => e = .returned (.bool true) ∧ Below w.heap.size w w' := by
  obtain ⟨n, rfl, hn⟩ := u64_of w0
  have hK : a1 < 0 ∨ 0 ≤ a1 ∧ ∃ K : Nat, a1 % 25 = (K : Int) ∧ K ≤ 24 := by
    rcases Int.lt_or_le a1 0 with h | h
    · exact .inl h
    · exact .inr ⟨h, (a1 % 25).toNat, by omega, by omega⟩
  clear w0 w1
  have hl1 := txt_pos n
  have hl2 := txt_20 hn
  have hh : ((txt n).length : Int) ≤ 1 ∨ (1 < ((txt n).length : Int) ∧ ((txt n).getD 0 0 == 48) = false) := by
    rcases Nat.lt_or_ge n 10 with h | h
    · exact .inl (by rw [txt_small h]; simp)
    · rcases Nat.lt_or_ge 1 (txt n).length with h2 | h2
      · exact .inr ⟨by omega, by have := txt_head n h; simpa using this⟩
      · exact .inl (by omega)
  go_enter Try.func7, Try.ntmps7
  go_wp2_with fail
  refine (wakes_any w).mono ?_
  rintro e w1 ⟨rfl, hb1⟩
  have HB1 := Lib.hid hb1
  clear hb1
  go_wp2_with fail
  refine (text_any n w1 hn).mono ?_
  rintro e w2 ⟨at2, rfl, hr2, hb2⟩
  have HB2 := Lib.hid (HB1.out.trans (hb2.mono HB1.out.size))
  have HT2 := Lib.hid (show TextAt w.heap.size w2 (some ⟨w1.heap.size, at2, none⟩) (txt n).length (txt n).length (nts 0 n) from ⟨by simp, by rw [nts_zero]; exact hr2.more (fun b h => h.2), .inl rfl⟩)
  obtain ⟨b0, off0, e0, -, hc0⟩ := hr2.2 (by omega)
  injection e0 with e0
  injection e0 with eb eo
  subst eb eo
  have hcell := hc0 0 (by omega)
  rw [Nat.add_zero] at hcell
  clear hr2 hb2 hc0
  generalize (txt n).getD 0 0 = x0 at hh hcell
  generalize hL : (txt n).length = L at hl1 hl2 hh HT2
  have hL0 : ((L : Int) == 0) = false := by simp; omega
  rcases hh with hh | ⟨hh1, hh⟩
  all_goals (
    rcases hK with hneg | ⟨hpos, K, hKe, hK24⟩
    · go_wp2
      clear hh hcell
      try clear hh1
      have HTX := HT2
      have HBW := HB2
      go_loopw [5, 31] (fun v i wr => i = .int .i64 0 ∧ v = .slice (some ⟨w1.heap.size, at2, none⟩) L L ∧ wr = w2) (fun _ _ _ => 0)
      case atStart => exact ⟨rfl, rfl, rfl⟩
      case round =>
        obtain ⟨rfl, rfl, rfl⟩ := hrel
        have hnum := nts_num 0 n hn (by omega)
        have HN1 := Lib.hid (show numV (nts 0 n) = n ∧ numE (nts 0 n) = 0 from numV_some hnum)
        clear hnum
        go_wp2_with fail
        refine (number_any (some ⟨w1.heap.size, at2, none⟩) L L _ _ wr HTX.out.2.1 (fun b h => h) (nts_bytes 0 n)).mono ?_
        rintro e w5 ⟨rfl, hb5⟩
        rw [HN1.out.1, HN1.out.2]
        have HB5 := Lib.hid (HBW.out.trans (hb5.mono HBW.out.size))
        obtain ⟨A6, c6, w6, hrun, hr6, hb6⟩ := app_one (HTX.out.below hb5) (by omega) HB5.out.size HB5.out 120
        have HRUN := Lib.hid hrun
        have HR6 := Lib.hid hr6
        have HB6 := Lib.hid hb6
        clear hb5 hrun hr6 hb6
        go_wp2_with (first
          | (at_builtin; refine Lib.wpList_append_run _ rfl (.tmp 47) (.tmp 48) 27 27 rfl _ _ rfl rfl _ _ HRUN.out ?_)
          | fail)
        refine (number_any A6 _ c6 _ _ w6 HR6.out (fun b h => h) (bytes_append (nts_bytes 0 n) (bytes_one17 120 (by omega) (by omega)))).mono ?_
        rintro e w7 ⟨rfl, hb7⟩
        have HB7 := Lib.hid (HB6.out.trans (hb7.mono HB6.out.size))
        clear hb7
        rw [(numV_none (bad_more _)).1, (numV_none (bad_more _)).2]
        go_wp2
        go_ret
        exact ⟨by first | rfl | (refine ret_bool ?_; simp), HB7.out⟩
    · go_wp2
      clear hh hcell
      try clear hh1
      try rw [hKe]
      clear hKe
      go_loopw [5, 31] (fun v i wr => ∃ (j k l c : Nat) (A : Option Addr), i = .int .i64 j ∧ j ≤ K ∧ v = .slice A l c ∧ Hid (l = k + L) ∧ l ≤ 20 ∧ Hid (TextAt w.heap.size wr A l c (nts k n)) ∧ Hid (Below w.heap.size w wr)) (fun _ i _ => K - (intOf i).toNat)
      case atStart => exact ⟨0, 0, L, L, _, rfl, by omega, rfl, by show _ = _; omega, hl2, HT2, HB2⟩
      case round =>
        obtain ⟨j, k, l, c, A, rfl, hj, rfl, hlk, hl20, HTX, HBW⟩ := hrel
        by_cases hjK : j < K
        · have hjK' : (j : Int) < K := by omega
          by_cases h20 : (l : Int) < 20
          · have hmk := fun u : World => run_mark u #[.int .u8 48] 1 1
            obtain ⟨A6, c6, w6, hrun, hr6, hb6⟩ := app_ahead HTX.out (by have := hlk.out; omega) (by omega) HBW.out.size HBW.out
            have HRUN := Lib.hid hrun
            rw [nts_succ] at hr6
            have HR6 := Lib.hid hr6
            have HB6 := Lib.hid hb6
            clear hrun hr6 hb6
            go_wp2_with (first
              | (at_builtin; refine Lib.wpList_append_run _ rfl (.tmp 37) (.tmp 38) 27 27 rfl _ _ rfl rfl _ _ HRUN.out ?_))
            go_roundw
            case rel => exact ⟨j + 1, k + 1, l + 1, c6, A6, by go_num, by omega, rfl, by show _ = _; have := hlk.out; omega, by omega, HR6, HB6⟩
            case measure => simp [intOf]; omega
          · go_wp2
            go_roundw
            case rel => exact ⟨j + 1, k, l, c, A, by go_num, by omega, rfl, hlk, hl20, HTX, HBW⟩
            case measure => simp [intOf]; omega
        · have hjK' : ¬ (j : Int) < K := by omega
          have hnum := nts_num k n hn (by have := hlk.out; omega)
          have HN1 := Lib.hid (show numV (nts k n) = n ∧ numE (nts k n) = 0 from numV_some hnum)
          clear hnum
          go_wp2_with fail
          refine (number_any A l c _ _ wr HTX.out.2.1 (fun b h => h) (nts_bytes k n)).mono ?_
          rintro e w5 ⟨rfl, hb5⟩
          rw [HN1.out.1, HN1.out.2]
          have HB5 := Lib.hid (HBW.out.trans (hb5.mono HBW.out.size))
          obtain ⟨A6, c6, w6, hrun, hr6, hb6⟩ := app_one (HTX.out.below hb5) (by omega) HB5.out.size HB5.out 120
          have HRUN := Lib.hid hrun
          have HR6 := Lib.hid hr6
          have HB6 := Lib.hid hb6
          clear hb5 hrun hr6 hb6
          go_wp2_with (first
            | (at_builtin; refine Lib.wpList_append_run _ rfl (.tmp 47) (.tmp 48) 27 27 rfl _ _ rfl rfl _ _ HRUN.out ?_)
            | fail)
          refine (number_any A6 _ c6 _ _ w6 HR6.out (fun b h => h) (bytes_append (nts_bytes k n) (bytes_one17 120 (by omega) (by omega)))).mono ?_
          rintro e w7 ⟨rfl, hb7⟩
          have HB7 := Lib.hid (HB6.out.trans (hb7.mono HB6.out.size))
          clear hb7
          rw [(numV_none (bad_more _)).1, (numV_none (bad_more _)).2]
          go_wp2
          go_ret
          exact ⟨by first | rfl | (refine ret_bool ?_; simp), HB7.out⟩)

set_option maxRecDepth 100000 in
theorem lifted (os : Os) (started : os.Started) (H : Type) (enc : TypeId × Value → H) :
    ReturnsInHanded {} Try.checked os 7 .any (Rows.itemBackSpec.pre6 enc Try.prog Try.f7 Rows.itemBackRow.domain false) (Rows.itemBackSpec.post enc Try.prog Try.f7 false true false false) := by
  refine returnsInHanded_of_change_sized (C := Try.checked) own started (by kernel_rfl) Try.func7
    (ChangeSpec.witness6 (enc := enc) (C := Try.checked) false ⟨#[], #[.int .u64 0, .int .i64 0], []⟩ 8 (by kernel_rfl) (by kernel_rfl) (by kernel_rfl) (by kernel_rfl)) ?_
  intro W base args ds gs before hval0 hW hcnd hsz0 _
  have hval : ∀ (j : Nat) t v, Try.f7.params[j]? = some t → args[j]? = some v → Value.okWide Try.prog W .any base t v := hval0
  have hW' := hW
  have hsz : (DataW.weightsEach Try.prog (Try.f7.params.toList ++ Rows.itemBackSpec.plain.varTypes Try.prog) (ds ++ gs)).all (· ≤ reachBytes) = true := hsz0
  obtain ⟨p, q, hA0, hV, rfl, hfz, hnd⟩ := hW
  have hA : DataW.TrodAll enc Try.prog W 0 (fun _ => true) true Try.f7.params.toList args.toList ds p := hA0
  rw [Try.params7] at hA hval hsz
  obtain ⟨v0, vs0, d0, ds0, p0, q0, hargs, rfl, rfl, h0, r0⟩ := trodAll_cons hA
  obtain ⟨v1, vs1, d1, ds1, p1, q1, rfl, rfl, rfl, h1, r1⟩ := trodAll_cons r0
  obtain ⟨rfl, rfl, rfl⟩ := trodAll_nil r1
  obtain rfl : args = #[v0, v1] := by cases args; simp_all
  obtain ⟨rfl, rfl⟩ := trodVars_none hV
  obtain ⟨a0, rfl, rfl, rfl, w0⟩ := open_int Try.underlying28 (hval 0 28 v0 rfl rfl) h0
  obtain ⟨a1, rfl, rfl, rfl, w1⟩ := open_int Try.underlying3 (hval 1 3 v1 rfl rfl) h1
  clear hA0 hval0
  refine (walk a0 a1 W w0 w1).mono fun e W' ⟨he, bel⟩ => ?_
  subst he
  exact ⟨_, rfl, _, _, _, [], _, [], hW', trodAll_mk1 (shut_bool Try.underlying4 _), (trodAll_cons_mk (shut_int Try.underlying28 w0) (trodAll_cons_mk (shut_int Try.underlying3 w1) trodAll_mk0)), rfl, bel.frame _, fun h => by cases h⟩

theorem over : Rows.itemBackRow.holds Try.pinned (OpenSpec.ofChange Rows.itemBackSpec) :=
  OpenClaim.holds_of_wide 7 Try.f7 rfl rfl rfl rfl rfl rfl rfl ⟨rfl, rfl, rfl, rfl, rfl⟩ rfl rfl rfl rfl rfl (by kernel_rfl) Try.func7 (by kernel_rfl)
    (of_decide_eq_true (by kernel_rfl)) (by unfold Func.isWrapper; first | (rw [if_pos (by decide +kernel)]; kernel_rfl) | (rw [if_neg (by decide +kernel)]; exact ⟨rfl, rfl⟩))
    (fun os started H enc _ => lifted os started H enc)

theorem proved : Rows.ItemBackSaid := over
end Go.Proofs.Ytighdflbmpkehaa.itemBack
