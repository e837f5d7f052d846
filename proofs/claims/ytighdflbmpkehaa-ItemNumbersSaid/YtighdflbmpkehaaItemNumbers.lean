/- For every list of bytes and every number of 64 bits: Number and Text of package item answer what the document's definitions answer; the arguments read as they did. No condition. -/
import Derived.Test.YtighdflbmpkehaaRows
import Derived.WalkKit
import Derived.ProofKit
import Derived.OpenShut
import Derived.ShutString
import Derived.ChangeOld
import Derived.Below
import Derived.SizedLaws
import Derived.Test.YtighdflbmpkehaaLaw17
namespace Go.Proofs.Ytighdflbmpkehaa.itemNumbers
open Go.ChangeShapes Go.WideShapes Go.ChangeAt Go.RowKit
open Go.ChangeMaps (open_string shut_string)
set_option linter.unusedVariables false

theorem own : ownKnob Try.prog.godebug = none := by kernel_rfl
theorem laidOut : laidOutB Try.prog = true := by kernel_rfl
theorem bytes5 : Try.prog.bytesOf 5 = 1 := by kernel_rfl

/-- A slice of integers that came in: nil; or a row of 'cap' cells, the numbers 'zs', each fitting its kind. -/
def IsRow (k : IntKind) (w : World) (a : Option Addr) (len cap : Nat) (zs : List Int) : Prop :=
  (a = none ∧ len = 0 ∧ cap = 0 ∧ zs = []) ∨
  ∃ x : Addr, a = some x ∧ len ≤ cap ∧ cap ≤ maxLen ∧ zs.length = cap ∧ (∀ i, i < zs.length → w.cell? (x.add i) = some (.int k (zs.getD i 0))) ∧ ∀ n ∈ zs, (Lit.int k n).wf = true

set_option maxHeartbeats 4000000 in
set_option maxRecDepth 100000 in
theorem walk (a0 : Option Addr) (len0 cap0 : Nat) (z0 : List Int) (a1 : Int) (w : World) (w0 : IsRow .u8 w a0 len0 cap0 z0) (b0 : cap0 ≤ 140737488351232) (w1 : (Lit.int .u64 a1).wf = true) :
    Calls Try.prog 4 #[.slice a0 len0 cap0, .int .u64 a1] w fun e w' => e = .returned (.bool true) ∧ Below w.heap.size w w' := by
  obtain ⟨hx, hbx, hlc0, hl0, hn0⟩ := row8_of w0
  obtain ⟨n, rfl, hn⟩ := u64_of w1 -- HEARTS
  clear w0 w1
  generalize z0.take len0 = xs at hx hbx
  have HX := Lib.hid hx
  have HI := Lib.hid (info_parts info_u8)
  have HNV := Lib.hid (show numT xs = none ∧ numV xs = 0 ∧ numE xs = 270 ∧ (numT xs).isSome = false ∨ ∃ m, numT xs = some m ∧ numV xs = m ∧ numE xs = 0 ∧ (numT xs).isSome = true from by
    rcases h : numT xs with _ | m
    · exact .inl ⟨rfl, (numV_none h).1, (numV_none h).2, rfl⟩
    · exact .inr ⟨m, rfl, (numV_some h).1, (numV_some h).2, rfl⟩)
  clear hx
  go_enter Try.func4, Try.ntmps4
  go_wp2_with fail
  refine (wakes_any w).mono ?_
  rintro e w1 ⟨rfl, hb1⟩
  have HX1 := Lib.hid (HX.out.below hb1 (fun b h => h))
  have HB1 := Lib.hid hb1
  clear hb1
  have HW1 := Lib.hid (show (fun b => b < w.heap.size) = (fun b => b < w.heap.size) from rfl)
  obtain ⟨i0, hi, hz0, hz1, hz2⟩ := HI.out
  have HIP := Lib.hid (show _ ∧ _ ∧ _ ∧ _ from ⟨hi, hz0, hz1, hz2⟩)
  have HE := Lib.hid (own_empty w1 5)
  have HBE := Lib.hid ((Below.refl w1.heap.size w1).alloc (Nat.le_refl _) (.cells #[] 5))
  clear hi hz0 hz1 hz2
  go_wp2_with (first
    | (at_builtin; refine wpList_append_rowG (mk := Value.int .u8) (d := 0) rfl (.tmp 12) (.tmp 13) 27 rfl w1.heap.size 5 i0 (.int .u8 0) 1 Try.underlying27 HIP.out.1 HIP.out.2.1 HIP.out.2.2.1 HIP.out.2.2.2 rfl (fun _ => rfl) _ 0 _ rfl HE.out (fun b => b < w.heap.size) a0 len0 cap0 xs rfl (HX1.out.below HBE.out (fun b h => Nat.lt_of_lt_of_le h HB1.out.size)) hn0 (by unfold maxLen; omega) (by omega) HBE.out.size ?_
       intro v2 w2 hown hgrow _
       rw [List.nil_append, Nat.zero_add] at hown
       have HO2 := Lib.hid hown
       have HB2 := Lib.hid (HBE.out.grown hgrow HBE.out.size (fun g hg => (HE.out.lt g hg).1))
       clear hown hgrow
       obtain ⟨A2, c2, rfl, hc2, hn2, hr2⟩ := rowG_own 0 HO2.out
       have HR2 := Lib.hid hr2
       clear hc2 hn2 hr2)
    | fail)
  refine (number_any A2 len0 c2 xs _ w2 HR2.out (fun b h => h.2.1) hbx).mono ?_
  rintro e w3 ⟨rfl, hb3⟩
  have HB3 := Lib.hid (HB1.out.trans ((HB2.out.trans (hb3.mono HB2.out.size)).mono HB1.out.size))
  have HX3 := Lib.hid (HX.out.below HB3.out (fun b h => h))
  clear hb3
  go_wp2_with fail
  refine (ref_number a0 len0 cap0 xs _ w3 HX3.out (fun b h => Nat.lt_of_lt_of_le h HB3.out.size) hbx).mono ?_
  rintro e w4 ⟨rfl, hb4⟩
  have HB4 := Lib.hid (HB3.out.trans (hb4.mono HB3.out.size))
  clear hb4
  have HT := Lib.hid (fun u : World => text_any n u hn)
  have e4 : w4.drew.heap.size = w4.heap.size := rfl
  have HRT := Lib.hid (fun u : World => ref_text n u hn)
  rcases HNV.out with ⟨-, h1, h2, h3⟩ | ⟨m, -, h1, h2, h3⟩
  · rw [h1, h2, h3]
    go_wp2_with fail
    go_region_with (first
      | (go_at_call 16; refine (HT.out _).mono ?_; rintro e w5 ⟨at5, rfl, hr5, hb5⟩; simp only [e4] at hr5; have hcv0 := conv_txt (txt n).length w5 hr5 (fun b h => h.2) (txt_bytes n); have HB5 := Lib.hid hb5; clear hr5 hb5)
      | (go_at_call 17; refine (HRT.out _).mono ?_; rintro e w6 ⟨rfl, rfl⟩))
    all_goals (
      go_wp2
      go_ret
      exact ⟨by first | rfl | (refine ret_bool ?_; simp), (HB4.out.drew).trans (HB5.out.mono HB4.out.size)⟩)
  · rw [h1, h2, h3]
    go_wp2_with fail
    go_region_with (first
      | (go_at_call 16; refine (HT.out _).mono ?_; rintro e w5 ⟨at5, rfl, hr5, hb5⟩; simp only [e4] at hr5; have hcv0 := conv_txt (txt n).length w5 hr5 (fun b h => h.2) (txt_bytes n); have HB5 := Lib.hid hb5; clear hr5 hb5)
      | (go_at_call 17; refine (HRT.out _).mono ?_; rintro e w6 ⟨rfl, rfl⟩))
    all_goals (
      go_wp2
      go_ret
      exact ⟨by first | rfl | (refine ret_bool ?_; simp), (HB4.out.drew).trans (HB5.out.mono HB4.out.size)⟩)

set_option maxRecDepth 100000 in
theorem lifted (os : Os) (started : os.Started) (H : Type) (enc : TypeId × Value → H) :
    ReturnsInHanded {} Try.checked os 4 .any (Rows.itemNumbersSpec.pre6 enc Try.prog Try.f4 Rows.itemNumbersRow.domain false) (Rows.itemNumbersSpec.post enc Try.prog Try.f4 false true false false) := by
  refine returnsInHanded_of_change_sized (C := Try.checked) own started (by kernel_rfl) Try.func4
    (ChangeSpec.witness6 (enc := enc) (C := Try.checked) false ⟨#[], #[.slice none 0 0, .int .u64 0], []⟩ 8 (by kernel_rfl) (by kernel_rfl) (by kernel_rfl) (by kernel_rfl)) ?_
  intro W base args ds gs before hval0 hW hcnd hsz0 _
  have hval : ∀ (j : Nat) t v, Try.f4.params[j]? = some t → args[j]? = some v → Value.okWide Try.prog W .any base t v := hval0
  have hW' := hW
  have hsz : (DataW.weightsEach Try.prog (Try.f4.params.toList ++ Rows.itemNumbersSpec.plain.varTypes Try.prog) (ds ++ gs)).all (· ≤ reachBytes) = true := hsz0
  obtain ⟨p, q, hA0, hV, rfl, hfz, hnd⟩ := hW
  have hA : DataW.TrodAll enc Try.prog W 0 (fun _ => true) true Try.f4.params.toList args.toList ds p := hA0
  rw [Try.params4] at hA hval hsz
  obtain ⟨v0, vs0, d0, ds0, p0, q0, hargs, rfl, rfl, h0, r0⟩ := trodAll_cons hA
  obtain ⟨v1, vs1, d1, ds1, p1, q1, rfl, rfl, rfl, h1, r1⟩ := trodAll_cons r0
  obtain ⟨rfl, rfl, rfl⟩ := trodAll_nil r1
  obtain rfl : args = #[v0, v1] := by cases args; simp_all
  obtain ⟨rfl, rfl⟩ := trodVars_none hV
  obtain ⟨a0, len0, cap0, rfl⟩ := okWide_slice Try.underlying27 (hval 0 27 v0 rfl rfl)
  have k0 := h0
  have lt0 : ∀ x ∈ p0, x.block < W.heap.size := by obtain ⟨m, hm⟩ := k0; exact DataW.trod_lt m _ _ _ hm
  obtain ⟨z0, w0, e0⟩ : ∃ zs, IsRow .u8 W a0 len0 cap0 zs ∧ (cap0 = 0 ∨ d0 = .slice (ChangeShapes.lits .u8 (zs.take len0)) (ChangeShapes.lits .u8 (zs.drop len0)) ∧ zs.length = cap0) := by
    obtain ⟨fuel, hf⟩ := h0
    rcases open_ints Try.underlying27 Try.underlying5 (by kernel_rfl) hf with ⟨hcs, _⟩ | ⟨x, l, c, zs, hcs, _, hl, hm, hz, hx, hcell, hwz⟩
    · simp [Value.cells] at hcs
      obtain ⟨rfl, rfl, rfl⟩ := hcs
      exact ⟨[], .inl ⟨rfl, rfl, rfl, rfl⟩, .inl rfl⟩
    · simp [Value.cells] at hcs
      obtain ⟨rfl, rfl, rfl⟩ := hcs
      have hz' : zs.length = cap0 := by simpa using hz
      exact ⟨zs, .inr ⟨_, rfl, hl, hm, hz', hcell, hwz⟩, .inr ⟨(Prod.mk.injEq _ _ _ _ ▸ hx).1, hz'⟩⟩
  obtain ⟨a1, rfl, rfl, rfl, w1⟩ := open_int Try.underlying28 (hval 1 28 v1 rfl rfl) h1
  have b0 : cap0 ≤ 140737488351232 := by
    rcases e0 with h | ⟨rfl, hl⟩
    · omega
    · have h := sized_slice hsz (j := 0) (t := 27) (e := 5) rfl rfl Try.underlying27
      rw [bytes5] at h
      simp only [ChangeShapes.lits, List.length_map, List.length_take, List.length_drop, reachBytes] at h
      omega
  clear hA0 hval0
  refine (walk a0 len0 cap0 z0 a1 W w0 b0 w1).mono fun e W' ⟨he, bel⟩ => ?_
  subst he
  exact ⟨_, rfl, _, _, _, [], _, [], hW', trodAll_mk1 (shut_bool Try.underlying4 _), (trodAll_cons_mk (Below.trod laidOut (by kernel_rfl) (of_decide_eq_true (by kernel_rfl)) k0 bel lt0) (trodAll_cons_mk (shut_int Try.underlying28 w1) trodAll_mk0)), rfl, bel.frame _, fun h => by cases h⟩

theorem over : Rows.itemNumbersRow.holds Try.pinned (OpenSpec.ofChange Rows.itemNumbersSpec) :=
  OpenClaim.holds_of_wide 4 Try.f4 rfl rfl rfl rfl rfl rfl rfl ⟨rfl, rfl, rfl, rfl, rfl⟩ rfl rfl rfl rfl rfl (by kernel_rfl) Try.func4 (by kernel_rfl)
    (of_decide_eq_true (by kernel_rfl)) (by unfold Func.isWrapper; first | (rw [if_pos (by decide +kernel)]; kernel_rfl) | (rw [if_neg (by decide +kernel)]; exact ⟨rfl, rfl⟩))
    (fun os started H enc _ => lifted os started H enc)

theorem proved : Rows.ItemNumbersSaid := over
end Go.Proofs.Ytighdflbmpkehaa.itemNumbers
