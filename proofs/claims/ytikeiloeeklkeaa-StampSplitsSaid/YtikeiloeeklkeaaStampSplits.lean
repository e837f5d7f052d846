/- For every generation, position and bytes (longer ones than 16384 the law itself lets by): Split answers the document's sectors, or ErrArg and none; Sectors counts them. No condition. -/
import Derived.Test.YtikeiloeeklkeaaRows
import Derived.WalkKit
import Derived.ProofKit
import Derived.OpenShut
import Derived.ShutString
import Derived.ChangeOld
import Derived.Below
import Derived.SizedLaws
import Derived.Test.YtikeiloeeklkeaaWakes
import Derived.Test.YtikeiloeeklkeaaSplit2
import Derived.Test.YtikeiloeeklkeaaRSplit
import Derived.Test.YtikeiloeeklkeaaSameB
import Derived.Test.YtikeiloeeklkeaaArgs
namespace Go.Proofs.Ytikeiloeeklkeaa.stampSplits
open Go.ChangeShapes Go.WideShapes Go.ChangeAt Go.RowKit
open Go.ChangeMaps (open_string shut_string)
set_option linter.unusedVariables false

theorem own : ownKnob Try.prog.godebug = none := by kernel_rfl
theorem laidOut : laidOutB Try.prog = true := by kernel_rfl
theorem bytes5 : Try.prog.bytesOf 5 = 1 := by kernel_rfl

/-- A slice of integers that came in: nil; or a row of 'cap' cells, the numbers 'zs', each fitting its kind. -/
def IsRow (k : IntKind) (w : World) (a : Option Addr) (len cap : Nat) (zs : List Int) : Prop :=
  (a = none ∧ len = 0 ∧ cap = 0 ∧ zs = []) ∨
  ∃ x : Addr, a = some x ∧ len ≤ cap ∧ cap ≤ maxLen ∧ zs.length = cap ∧ (∀ i, i < zs.length → w.cell? (x.add i) = some (.int k (zs.getD i 0))) ∧ ∀ n ∈ zs, (Lit.int k n).wf = true

set_option maxRecDepth 100000 in
theorem walk (a0 : Int) (a1 : Int) (a2 : Option Addr) (len2 cap2 : Nat) (z2 : List Int) (w : World) (w0 : (Lit.int .u64 a0).wf = true) (w1 : (Lit.int .u32 a1).wf = true) (w2 : IsRow .u8 w a2 len2 cap2 z2) (b2 : cap2 ≤ 140737488351232) :
    Calls Try.prog 5 #[.int .u64 a0, .int .u32 a1, .slice a2 len2 cap2] w fun e w' => e = .returned (.bool true) ∧ Below w.heap.size w w' := by
  have r2 := row8_of w2
  obtain ⟨hx2, hv2, hc2, hl2, hnl2⟩ := r2
  obtain ⟨i0, hi, hz0, hz1, hz2⟩ := info_parts info_u8
  have hw0 : 0 ≤ a0 ∧ a0 ≤ 18446744073709551615 := by simpa [Lit.wf, IntKind.min, IntKind.max, IntKind.signed, IntKind.bits] using w0
  have hw1 : 0 ≤ a1 ∧ a1 ≤ 4294967295 := by simpa [Lit.wf, IntKind.min, IntKind.max, IntKind.signed, IntKind.bits] using w1
  generalize z2.take len2 = xs at *
  have HX := Lib.hid hx2
  have HL := Lib.hid hx2.1
  have HW0 := Lib.hid hw0
  have HW1 := Lib.hid hw1
  clear w0 w1 w2 hx2 hv2 hw0 hw1
  go_enter Try.func5, Try.ntmps5
  go_wp2_with fail
  refine (wakes_any w).mono ?_
  rintro e w1 ⟨rfl, hb1⟩
  have HB1 := Lib.hid hb1
  have HX1 := Lib.hid ((HX.out.below hb1 (fun b h => h)).more (T := fun b => b < w1.heap.size) (fun b h => Nat.lt_of_lt_of_le h hb1.size))
  clear hb1
  by_cases d0 : 16384 < len2
  · have e0 : (16384 : Int) < len2 := by omega
    clear d0
    go_wp2
    go_ret
    exact ⟨rfl, HB1.out⟩
  have e0 : ¬ (16384 : Int) < len2 := by omega
  have hn : len2 ≤ 16384 := by omega
  clear d0
  go_wp2_with (at_builtin; refine wpList_append_rowG rfl (.tmp 18) (.tmp 19) 24 rfl w1.heap.size 5 i0 (.int .u8 0) 1 Try.underlying24 hi hz0 hz1 hz2 rfl (fun _ => rfl) _ _ _ rfl (own_empty w1 5) (fun b => b < w1.heap.size) a2 len2 cap2 xs rfl (HX1.out.keep ?c0) hnl2 ?c2 ?c3 ?c4 ?_)
  case c0 => exact fun p hp => World.cell?_alloc_lt w1 _ p hp
  case c2 => unfold maxLen; omega
  case c3 => omega
  case c4 => simp
  intro v2 w2 hown2 hgrow2 _
  have hb2 : Below w1.heap.size w1 w2 := ((Below.refl _ _).alloc (Nat.le_refl _) _).grown hgrow2 (by simp) (fun k hk => by simp [Value.ownBlock] at hk; omega)
  have hown2 : w2.ownsRow w1.heap.size 5 1 v2 len2 (xs.map (Value.int .u8)) := by first | exact hown2 | simpa using hown2
  obtain ⟨A2, c2, rfl, hcc, hnn, hr2⟩ := rowG_own 0 hown2
  have HR2 := Lib.hid (hr2.more (T := fun b => b < w2.heap.size) (fun b h => h.2.1))
  have HX2 := Lib.hid ((HX1.out.below hb2 (fun b h => h)).more (T := fun b => b < w2.heap.size) (fun b h => Nat.lt_of_lt_of_le h hb2.size))
  have HB2 := Lib.hid (HB1.out.trans (hb2.mono HB1.out.size))
  have HNN := Lib.hid hnn
  have HCC := Lib.hid hcc
  clear hown2 hgrow2 hb2 hr2 hcc hnn
  have hcb := cnt_bounds len2 hn
  have hse := fun W => sectors_any len2 W (by omega)
  have hrs := fun W => rsectors_any len2 W hn
  have hsg := fun W => sectors_neg (-1 - (len2 : Int)) W (by omega)
  have HSE := Lib.hid hse
  have HRS := Lib.hid hrs
  have HSG := Lib.hid hsg
  clear hse hrs hsg
  by_cases d1 : 4294967296 < a1 + cntOf len2
  · have d1' : (4294967296 : Int) < a1 + (cntOf len2 : Int) := d1
    have HOV := Lib.hid (fun W => split_over a0 a1 A2 len2 c2 W hn HW1.out.1 HW1.out.2 d1)
    have hw1a := HW1.out.1
    have hw1b := HW1.out.2
    generalize cntOf len2 = c at *
    clear d1
    by_cases d2 : a0 = 0
    · have e2 : (a0 == 0) = true := by simpa using d2
      have HD2 := Lib.hid d2
      clear d2
      go_wp2_with fail
      refine (HOV.out _).mono ?_
      rintro e w' ⟨rfl, rfl⟩
      go_wp2_with fail
      refine (HRS.out _).mono ?_
      rintro e w' ⟨rfl, rfl⟩
      go_wp2_with fail
      refine (HSE.out _).mono ?_
      rintro e w' ⟨rfl, rfl⟩
      go_wp2_with fail
      refine (HSG.out _).mono ?_
      rintro e w' ⟨rfl, rfl⟩
      go_wp2_with fail
      go_ret
      exact ⟨rfl, HB2.out⟩
    · have e2 : (a0 == 0) = false := by simpa using d2
      have HD2 := Lib.hid d2
      clear d2
      go_wp2_with fail
      refine (HOV.out _).mono ?_
      rintro e w' ⟨rfl, rfl⟩
      go_wp2_with fail
      refine (HRS.out _).mono ?_
      rintro e w' ⟨rfl, rfl⟩
      go_wp2_with fail
      refine (HSE.out _).mono ?_
      rintro e w' ⟨rfl, rfl⟩
      go_wp2_with fail
      refine (HSG.out _).mono ?_
      rintro e w' ⟨rfl, rfl⟩
      go_wp2_with fail
      go_ret
      exact ⟨rfl, HB2.out⟩
  by_cases d2 : a0 = 0
  · subst d2
    go_wp2_with fail
    refine (split_zero a1 A2 len2 c2 xs _ w2 HR2.out (fun b h => h) HNN.out HCC.out hn HW1.out.1 HW1.out.2 (by omega)).mono ?_
    rintro e w3 ⟨rfl, hb⟩
    have HB3 := Lib.hid (HB2.out.trans (hb.mono HB2.out.size))
    clear hb
    generalize cntOf len2 = c at *
    go_wp2_with fail
    refine (HRS.out _).mono ?_
    rintro e w' ⟨rfl, rfl⟩
    go_wp2_with fail
    refine (HSE.out _).mono ?_
    rintro e w' ⟨rfl, rfl⟩
    go_wp2_with fail
    refine (HSG.out _).mono ?_
    rintro e w' ⟨rfl, rfl⟩
    go_wp2_with fail
    go_ret
    exact ⟨rfl, HB3.out⟩
  have e2 : (a0 == 0) = false := by simpa using d2
  have HD2 := Lib.hid d2
  have hg1 : 1 ≤ a0 := by have := HW0.out; omega
  have d1' : ¬ (4294967296 : Int) < a1 + (cntOf len2 : Int) := d1
  have hw1a := HW1.out.1
  have hw1b := HW1.out.2
  clear d2
  go_wp2_with fail
  refine (split_ok a0 a1 A2 len2 c2 xs _ w2 HR2.out (fun b h => h) HNN.out HCC.out hn hg1 HW0.out.2 HW1.out.1 HW1.out.2 (by omega)).mono ?_
  rintro e w3 ⟨rfl, ha, hb⟩
  have hsl := split_length a0 a1 xs
  rw [HL.out] at hsl
  have HRK := Lib.hid (ha.rowK (split_secs a0 a1 xs) hsl (S := fun b => b = w2.heap.size) rfl)
  have HLT := Lib.hid ha.lt
  have HRSP := Lib.hid (fun W h h2 => rsplit_any a0 a1 a2 len2 cap2 xs (fun b => b < w2.heap.size) W h h2 hnl2 hc2 hn (by omega) HW0.out.2 HW1.out.1 HW1.out.2 (by omega))
  have HX3 := Lib.hid (HX2.out.below hb (fun b h => h))
  have HS3 := Lib.hid hb.size
  have HB3 := Lib.hid (HB2.out.trans (hb.mono HB2.out.size))
  have HSL := Lib.hid hsl
  clear ha hb hsl d1
  generalize cntOf len2 = c at *
  go_wp2_with fail
  refine (HRS.out _).mono ?_
  rintro e w' ⟨rfl, rfl⟩
  go_wp2_with fail
  refine (HSE.out _).mono ?_
  rintro e w' ⟨rfl, rfl⟩
  go_wp2_with fail
  refine (HSG.out _).mono ?_
  rintro e w' ⟨rfl, rfl⟩
  go_wp2_with fail
  refine (HRSP.out w3 HX3.out (fun b h => Nat.lt_of_lt_of_le h HS3.out)).mono ?_
  rintro e w4 ⟨v4, rfl, hown4, hb4⟩
  rw [HSL.out] at hown4
  obtain ⟨A4, c4, rfl, _, _, hr4⟩ := rowK_own hown4 (split_secs a0 a1 xs)
  have HR4 := Lib.hid hr4
  have HRK4 := Lib.hid (HRK.out.below hb4 (fun b h => by rw [h]; exact HLT.out))
  have HB4 := Lib.hid (HB3.out.trans (hb4.mono HB3.out.size))
  clear hown4 hb4 hr4
  go_wp2_with fail
  refine (same_secs _ _ _ _ _ (splitL a0 a1 xs) _ _ w4 HRK4.out HR4.out (split_secs a0 a1 xs) (by omega)).mono ?_
  rintro e w' ⟨rfl, d, rfl⟩
  go_wp2_with fail
  go_ret
  exact ⟨rfl, below_drewN HB4.out _⟩

set_option maxRecDepth 100000 in
theorem lifted (os : Os) (started : os.Started) (H : Type) (enc : TypeId × Value → H) :
    ReturnsInHanded {} Try.checked os 5 .any (Rows.stampSplitsSpec.pre6 enc Try.prog Try.f5 Rows.stampSplitsRow.domain false) (Rows.stampSplitsSpec.post enc Try.prog Try.f5 false true false false) := by
  refine returnsInHanded_of_change_sized (C := Try.checked) own started (by kernel_rfl) Try.func5
    (ChangeSpec.witness6 (enc := enc) (C := Try.checked) false ⟨#[], #[.int .u64 0, .int .u32 0, .slice none 0 0], []⟩ 8 (by kernel_rfl) (by kernel_rfl) (by kernel_rfl) (by kernel_rfl)) ?_
  intro W base args ds gs before hval0 hW hcnd hsz0 _
  have hval : ∀ (j : Nat) t v, Try.f5.params[j]? = some t → args[j]? = some v → Value.okWide Try.prog W .any base t v := hval0
  have hW' := hW
  have hsz : (DataW.weightsEach Try.prog (Try.f5.params.toList ++ Rows.stampSplitsSpec.plain.varTypes Try.prog) (ds ++ gs)).all (· ≤ reachBytes) = true := hsz0
  obtain ⟨p, q, hA0, hV, rfl, hfz, hnd⟩ := hW
  have hA : DataW.TrodAll enc Try.prog W 0 (fun _ => true) true Try.f5.params.toList args.toList ds p := hA0
  rw [Try.params5] at hA hval hsz
  obtain ⟨v0, vs0, d0, ds0, p0, q0, hargs, rfl, rfl, h0, r0⟩ := trodAll_cons hA
  obtain ⟨v1, vs1, d1, ds1, p1, q1, rfl, rfl, rfl, h1, r1⟩ := trodAll_cons r0
  obtain ⟨v2, vs2, d2, ds2, p2, q2, rfl, rfl, rfl, h2, r2⟩ := trodAll_cons r1
  obtain ⟨rfl, rfl, rfl⟩ := trodAll_nil r2
  obtain rfl : args = #[v0, v1, v2] := by cases args; simp_all
  obtain ⟨rfl, rfl⟩ := trodVars_none hV
  obtain ⟨a0, rfl, rfl, rfl, w0⟩ := open_int Try.underlying22 (hval 0 22 v0 rfl rfl) h0
  obtain ⟨a1, rfl, rfl, rfl, w1⟩ := open_int Try.underlying23 (hval 1 23 v1 rfl rfl) h1
  obtain ⟨a2, len2, cap2, rfl⟩ := okWide_slice Try.underlying24 (hval 2 24 v2 rfl rfl)
  have k2 := h2
  have lt2 : ∀ x ∈ p2, x.block < W.heap.size := by obtain ⟨m, hm⟩ := k2; exact DataW.trod_lt m _ _ _ hm
  obtain ⟨z2, w2, e2⟩ : ∃ zs, IsRow .u8 W a2 len2 cap2 zs ∧ (cap2 = 0 ∨ d2 = .slice (ChangeShapes.lits .u8 (zs.take len2)) (ChangeShapes.lits .u8 (zs.drop len2)) ∧ zs.length = cap2) := by
    obtain ⟨fuel, hf⟩ := h2
    rcases open_ints Try.underlying24 Try.underlying5 (by kernel_rfl) hf with ⟨hcs, _⟩ | ⟨x, l, c, zs, hcs, _, hl, hm, hz, hx, hcell, hwz⟩
    · simp [Value.cells] at hcs
      obtain ⟨rfl, rfl, rfl⟩ := hcs
      exact ⟨[], .inl ⟨rfl, rfl, rfl, rfl⟩, .inl rfl⟩
    · simp [Value.cells] at hcs
      obtain ⟨rfl, rfl, rfl⟩ := hcs
      have hz' : zs.length = cap2 := by simpa using hz
      exact ⟨zs, .inr ⟨_, rfl, hl, hm, hz', hcell, hwz⟩, .inr ⟨(Prod.mk.injEq _ _ _ _ ▸ hx).1, hz'⟩⟩
  have b2 : cap2 ≤ 140737488351232 := by
    rcases e2 with h | ⟨rfl, hl⟩
    · omega
    · have h := sized_slice hsz (j := 2) (t := 24) (e := 5) rfl rfl Try.underlying24
      rw [bytes5] at h
      simp only [ChangeShapes.lits, List.length_map, List.length_take, List.length_drop, reachBytes] at h
      omega
  clear hA0 hval0
  refine (walk a0 a1 a2 len2 cap2 z2 W w0 w1 w2 b2).mono fun e W' ⟨he, bel⟩ => ?_
  subst he
  exact ⟨_, rfl, _, _, _, [], _, [], hW', trodAll_mk1 (shut_bool Try.underlying4 _), (trodAll_cons_mk (shut_int Try.underlying22 w0) (trodAll_cons_mk (shut_int Try.underlying23 w1) (trodAll_cons_mk (Below.trod laidOut (by kernel_rfl) (of_decide_eq_true (by kernel_rfl)) k2 bel lt2) trodAll_mk0))), rfl, bel.frame _, fun h => by cases h⟩

theorem over : Rows.stampSplitsRow.holds Try.pinned (OpenSpec.ofChange Rows.stampSplitsSpec) :=
  OpenClaim.holds_of_wide 5 Try.f5 rfl rfl rfl rfl rfl rfl rfl ⟨rfl, rfl, rfl, rfl, rfl⟩ rfl rfl rfl rfl rfl (by kernel_rfl) Try.func5 (by kernel_rfl)
    (of_decide_eq_true (by kernel_rfl)) (by unfold Func.isWrapper; first | (rw [if_pos (by decide +kernel)]; kernel_rfl) | (rw [if_neg (by decide +kernel)]; exact ⟨rfl, rfl⟩))
    (fun os started H enc _ => lifted os started H enc)

theorem proved : Rows.StampSplitsSaid := over
end Go.Proofs.Ytikeiloeeklkeaa.stampSplits
