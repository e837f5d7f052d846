/- For every int and every number of 64 bits: New makes a filter of so many bits just where the document lets one be, all of them 0; and Add sets the bits of the hash. No condition. -/
import Derived.Test.YteblfcbfgkbanaaRows
import Derived.WalkKit
import Derived.ProofKit
import Derived.OpenShut
import Derived.ShutString
import Derived.ChangeOld
import Derived.Below
import Derived.Test.YteblfcbfgkbanaaPlay
namespace Go.Proofs.Yteblfcbfgkbanaa.bloomSizes
open Go.ChangeShapes Go.WideShapes Go.ChangeAt Go.RowKit
open Go.ChangeMaps (open_string shut_string)
set_option linter.unusedVariables false

theorem own : ownKnob Try.prog.godebug = none := by kernel_rfl

set_option maxHeartbeats 1000000 in
theorem walk_good (k : Nat) (h : Int) (w : World) (k1 : 1 ≤ k) (k2 : k ≤ 8192) (h0 : 0 ≤ h) (h1 : h ≤ 18446744073709551615) (m : Int) (hm : m = 8 * (k : Int)) :
    Calls Try.prog 6 #[.int .i64 m, .int .u64 h] w fun e w' => e = .returned (.bool true) ∧ Below w.heap.size w w' := by
  have hmk := fun u => make_bools (8 * k) m (by omega) (by omega) u
  have hright := fun w => right_any m w
  have hd : decide (8 ≤ m ∧ m ≤ 65536 ∧ m % 8 = 0) = true := by simp; omega
  simp only [hd] at hright
  have hbits := fun w f h H => bits_any w f h (List.replicate k 0) H
  simp only [List.length_replicate, show ((8 * k : Nat) : Int) = m by omega] at hbits
  have HM := Lib.hid hm
  have HR := Lib.hid hright
  have HBI := Lib.hid hbits
  have hz : popAll (List.replicate k 0) = 0 := by rw [popAll_count, bitsOf_zeros]; simp [List.count_replicate]
  have HZ := Lib.hid hz
  clear hm hright hd hbits hz
  go_enter Try.func6, Try.ntmps6
  go_wp2_with fail
  refine (wakes_any w).mono ?_
  rintro e w1 ⟨rfl, hb1⟩
  have HB1 := Lib.hid hb1
  clear hb1
  go_wp2_with fail
  refine (new_ok m k _ HM.out k1 k2).mono ?_
  rintro e w2 ⟨rfl, hf, hb⟩
  have HB2 := Lib.hid (HB1.out.trans (hb.mono HB1.out.size))
  have HF2 := Lib.hid hf
  generalize hff : w1.heap.size + 1 = f at *
  generalize hhh : w1.heap.size = g at *
  have HFF := Lib.hid (show w.heap.size ≤ f by have := HB1.out.size; omega)
  have HGG := Lib.hid (show w.heap.size ≤ g by have := HB1.out.size; omega)
  clear hb hf hff hhh
  go_wp2_with fail
  refine (HR.out _).mono ?_
  rintro e w' ⟨rfl, rfl⟩
  go_wp2_with fail
  refine (HBI.out _ f g HF2.out).mono ?_
  rintro e w' ⟨rfl, rfl⟩
  go_wp2_with fail
  refine (set_any _ f g _ HF2.out).mono ?_
  rintro e w' ⟨rfl, rfl⟩
  rw [HZ.out]
  go_wp2_with fail
  refine (add_any _ f g _ h HF2.out h0).mono ?_
  rintro e w3 ⟨rfl, hf, hk⟩
  have HB3 := Lib.hid (HB2.out.trans (hk.to_below (B := w.heap.size) (fun b hb => ⟨Nat.lt_of_lt_of_le hb HB2.out.size, by have := HGG.out; omega⟩)))
  have hbits := addF_bits (List.replicate k 0) h (by simpa using k1)
  have hmay : allSet (bitsOf (addF (List.replicate k 0) h)) (nums4 h (addF (List.replicate k 0) h)) = true := may_self _ _ (by simpa using k1)
  change Filt w3 f g (addF (List.replicate k 0) h) at hf
  rw [List.length_replicate] at hbits
  have HXL := Lib.hid (show (addF (List.replicate k 0) h).length = k by rw [addF_length, List.length_replicate])
  generalize addF (List.replicate k 0) h = xs at *
  have HBITS := Lib.hid hbits
  have HMAY := Lib.hid hmay
  have HF3 := Lib.hid hf
  clear hf hk hbits hmay
  have hxl : xs.length = k := by have := HF3.out; exact HXL.out
  have HBL := Lib.hid (show (bitsOf xs).length = 8 * k by rw [bitsOf_length, hxl])
  clear hxl
  go_wp2_with fail
  go_region_held3 (fun _ => True) (exact trivial) (first
    | (go_at_call 15; refine (may_yes _ f g xs h ?_ h0 HMAY.out).mono ?_; exact HF3.out; rintro e w4 ⟨rfl, hb⟩; have HF4 := Lib.hid (HF3.out.behind hb rfl); have HB4 := Lib.hid hb; clear hb)
    | (go_at_call 27; refine (set_count _ f g xs ?_ _ rfl).mono ?_; (first | exact HF4.out | exact HF4.out.belowAll ((Below.refl _ _).alloc (Nat.le_refl _) _)); rintro e w' ⟨rfl, rfl⟩)
    | (go_at_call 18; refine (ref_add _ (8 * k) _ (bitsOf (List.replicate k 0)) (· = w4.heap.size) h _ (made_bits w4 k) (fun b e => by rw [e]; simp) (fun h => by cases h) (by omega) (by omega) h0 h1).mono ?_; rintro e w5 ⟨v, rfl, hown, hb⟩; rw [← HBITS.out, HBL.out] at hown; obtain ⟨A5, c5, rfl, _, _, hr⟩ := rowG_own (mk := Value.bool) false hown; have HR5 := Lib.hid hr; have HB5 := Lib.hid hb; clear hr hb hown)
    | (go_at_call 28; refine (ref_set A5 (8 * k) _ (bitsOf xs) _ _ HR5.out (by omega)).mono ?_; rintro e w' ⟨rfl, rfl⟩))
  all_goals
    go_wp2
    go_ret
    have hb4 : Below w.heap.size w w4 := (HB3.out.drew).trans (HB4.out.mono HB3.out.size)
    have hb5 := hb4.alloc hb4.size (.cells (madeCells #[.bool false] (8 * k)) 4)
    exact ⟨rfl, hb5.trans (HB5.out.mono hb5.size)⟩

theorem walk (a0 : Int) (a1 : Int) (w : World) (w0 : (Lit.int .i64 a0).wf = true) (w1 : (Lit.int .u64 a1).wf = true) :
    Calls Try.prog 6 #[.int .i64 a0, .int .u64 a1] w fun e w' => e = .returned (.bool true) ∧ Below w.heap.size w w' := by
  have hh : 0 ≤ a1 ∧ a1 ≤ 18446744073709551615 := by simpa [Lit.wf, IntKind.min, IntKind.max, IntKind.signed, IntKind.bits] using w1
  clear w0 w1
  by_cases hr : 8 ≤ a0 ∧ a0 ≤ 65536 ∧ a0 % 8 = 0
  · obtain ⟨k, hk⟩ : ∃ k : Nat, a0 = 8 * (k : Int) := ⟨(a0 / 8).toNat, by omega⟩
    exact walk_good k a1 w (by omega) (by omega) hh.1 hh.2 a0 hk
  · have hd : decide (8 ≤ a0 ∧ a0 ≤ 65536 ∧ a0 % 8 = 0) = false := by simpa using hr
    have hright := fun w => right_any a0 w
    simp only [hd] at hright
    have HR := Lib.hid hright
    have HN := Lib.hid hr
    clear hright hd hr
    go_enter Try.func6, Try.ntmps6
    go_wp2_with fail
    refine (wakes_any w).mono ?_
    rintro e w1 ⟨rfl, hb1⟩
    have HB1 := Lib.hid hb1
    clear hb1
    go_wp2_with fail
    refine (new_bad a0 _ (by have := HN.out; omega)).mono ?_
    rintro e w2 ⟨rfl, rfl⟩
    go_wp2_with fail
    refine (HR.out _).mono ?_
    rintro e w' ⟨rfl, rfl⟩
    go_wp2_with fail
    go_ret
    exact ⟨rfl, HB1.out⟩

set_option maxRecDepth 100000 in
theorem lifted (os : Os) (started : os.Started) (H : Type) (enc : TypeId × Value → H) :
    ReturnsInHanded {} Try.checked os 6 .any (Rows.bloomSizesSpec.pre6 enc Try.prog Try.f6 Rows.bloomSizesRow.domain false) (Rows.bloomSizesSpec.post enc Try.prog Try.f6 false true false false) := by
  refine returnsInHanded_of_change (C := Try.checked) own started (by kernel_rfl) Try.func6
    (ChangeSpec.witness6 (enc := enc) (C := Try.checked) false ⟨#[], #[.int .i64 0, .int .u64 0], []⟩ 8 (by kernel_rfl) (by kernel_rfl) (by kernel_rfl) (by kernel_rfl)) ?_
  intro W base args ds gs before hval0 hW hcnd _
  have hval : ∀ (j : Nat) t v, Try.f6.params[j]? = some t → args[j]? = some v → Value.okWide Try.prog W .any base t v := hval0
  have hW' := hW
  obtain ⟨p, q, hA0, hV, rfl, hfz, hnd⟩ := hW
  have hA : DataW.TrodAll enc Try.prog W 0 (fun _ => true) true Try.f6.params.toList args.toList ds p := hA0
  rw [Try.params6] at hA hval
  obtain ⟨v0, vs0, d0, ds0, p0, q0, hargs, rfl, rfl, h0, r0⟩ := trodAll_cons hA
  obtain ⟨v1, vs1, d1, ds1, p1, q1, rfl, rfl, rfl, h1, r1⟩ := trodAll_cons r0
  obtain ⟨rfl, rfl, rfl⟩ := trodAll_nil r1
  obtain rfl : args = #[v0, v1] := by cases args; simp_all
  obtain ⟨rfl, rfl⟩ := trodVars_none hV
  obtain ⟨a0, rfl, rfl, rfl, w0⟩ := open_int Try.underlying3 (hval 0 3 v0 rfl rfl) h0
  obtain ⟨a1, rfl, rfl, rfl, w1⟩ := open_int Try.underlying31 (hval 1 31 v1 rfl rfl) h1
  clear hA0 hval0
  refine (walk a0 a1 W w0 w1).mono fun e W' ⟨he, bel⟩ => ?_
  subst he
  exact ⟨_, rfl, _, _, _, [], _, [], hW', trodAll_mk1 (shut_bool Try.underlying4 _), (trodAll_cons_mk (shut_int Try.underlying3 w0) (trodAll_cons_mk (shut_int Try.underlying31 w1) trodAll_mk0)), rfl, bel.frame _, fun h => by cases h⟩

theorem over : Rows.bloomSizesRow.holds Try.pinned (OpenSpec.ofChange Rows.bloomSizesSpec) :=
  OpenClaim.holds_of_wide 6 Try.f6 rfl rfl rfl rfl rfl rfl rfl ⟨rfl, rfl, rfl, rfl, rfl⟩ rfl rfl rfl rfl rfl (by kernel_rfl) Try.func6 (by kernel_rfl)
    (of_decide_eq_true (by kernel_rfl)) (by unfold Func.isWrapper; first | (rw [if_pos (by decide +kernel)]; kernel_rfl) | (rw [if_neg (by decide +kernel)]; exact ⟨rfl, rfl⟩))
    (fun os started H enc _ => lifted os started H enc)

theorem proved : Rows.BloomSizesSaid := over
end Go.Proofs.Yteblfcbfgkbanaa.bloomSizes
