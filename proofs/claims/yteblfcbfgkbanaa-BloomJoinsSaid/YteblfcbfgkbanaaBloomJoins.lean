/- For every two ints and every list of hashes: two filters that hashes were added to are joined bit by bit where they are of one size, and are left alone where they are not; a filter joined to itself stays. No condition. -/
import Derived.Test.YteblfcbfgkbanaaRows
import Derived.WalkKit
import Derived.ProofKit
import Derived.OpenShut
import Derived.ShutString
import Derived.ChangeOld
import Derived.Below
import Derived.Test.YteblfcbfgkbanaaPlay2
import Derived.Deep.DeepCutAuto
namespace Go.Proofs.Yteblfcbfgkbanaa.bloomJoins
open Go.ChangeShapes Go.WideShapes Go.ChangeAt Go.RowKit
open Go.ChangeMaps (open_string shut_string)
set_option linter.unusedVariables false

theorem own : ownKnob Try.prog.godebug = none := by kernel_rfl
theorem laidOut : laidOutB Try.prog = true := by kernel_rfl

/-- A slice of integers that came in: nil; or a row of 'cap' cells, the numbers 'zs', each fitting its kind. -/
def IsRow (k : IntKind) (w : World) (a : Option Addr) (len cap : Nat) (zs : List Int) : Prop :=
  (a = none ∧ len = 0 ∧ cap = 0 ∧ zs = []) ∨
  ∃ x : Addr, a = some x ∧ len ≤ cap ∧ cap ≤ maxLen ∧ zs.length = cap ∧ (∀ i, i < zs.length → w.cell? (x.add i) = some (.int k (zs.getD i 0))) ∧ ∀ n ∈ zs, (Lit.int k n).wf = true

set_option maxHeartbeats 4000000 in
set_option maxRecDepth 100000 in
theorem walk (a0 : Int) (a1 : Int) (a2 : Option Addr) (len2 cap2 : Nat) (z2 : List Int) (w : World) (w0 : (Lit.int .i64 a0).wf = true) (w1 : (Lit.int .i64 a1).wf = true) (w2 : IsRow .u64 w a2 len2 cap2 z2) :
    Calls Try.prog 4 #[.int .i64 a0, .int .i64 a1, .slice a2 len2 cap2] w fun e w' => e = .returned (.bool true) ∧ Below w.heap.size w w' := by
  have r2 := row64_of w2 -- HEARTS
  obtain ⟨hx2, hv2, hc2, hl2, hnl2⟩ := r2
  generalize z2.take len2 = zs at *
  have hsb := sizeK_bounds a0
  have htb := sizeK_bounds a1
  have hsize := fun w => size_any a0 w
  have hsize' := fun w => size_any a1 w
  generalize sizeK a0 = s at *
  generalize sizeK a1 = t at *
  have HSIZE := Lib.hid hsize
  have HSIZE' := Lib.hid hsize'
  have hmk := fun u => make_bools (8 * s) (8 * (s : Int)) (by omega) (by omega) u
  have hmk' := fun u => make_bools (8 * t) (8 * (t : Int)) (by omega) (by omega) u
  obtain ⟨n2, hn2⟩ : ∃ n, n = min len2 100 := ⟨_, rfl⟩
  have n2le : n2 ≤ 100 := by omega
  have n2l : n2 ≤ len2 := by omega
  have HN2 := Lib.hid hn2
  have HX2 := Lib.hid hx2
  have HV2 := Lib.hid hv2
  have hs1 := hsb.1
  have hs2 := hsb.2
  have ht1 := htb.1
  have ht2 := htb.2
  clear w0 w1 w2 hx2 hv2 hn2 hnl2 hsize hsize' hsb htb
  go_enter Try.func4, Try.ntmps4
  go_wp2_with fail
  refine (wakes_any w).mono ?_
  rintro e w1 ⟨rfl, hb1⟩
  have HB1 := Lib.hid hb1
  clear hb1
  go_wp2_with fail
  refine (HSIZE.out _).mono ?_
  rintro e w' ⟨rfl, rfl⟩
  go_wp2_with fail
  refine (new_ok _ s _ rfl hs1 (by omega)).mono ?_
  rintro e w2 ⟨rfl, hf, hb⟩
  have HB2 := Lib.hid (HB1.out.trans (hb.mono HB1.out.size))
  have HF2 := Lib.hid hf
  generalize hff : w1.heap.size + 1 = f at *
  generalize hgg : w1.heap.size = g at *
  have HFF := Lib.hid (show w.heap.size ≤ f by have := HB1.out.size; omega)
  have HGG := Lib.hid (show w.heap.size ≤ g by have := HB1.out.size; omega)
  clear hb hf hff hgg
  go_wp2_with fail
  refine (HSIZE'.out _).mono ?_
  rintro e w' ⟨rfl, rfl⟩
  go_wp2_with fail
  refine (new_ok _ t _ rfl ht1 (by omega)).mono ?_
  rintro e w3 ⟨rfl, hf, hb⟩
  have HB3 := Lib.hid (HB2.out.trans (hb.mono HB2.out.size))
  have HF3 := Lib.hid hf
  have HF23 := Lib.hid (HF2.out.belowAll hb)
  generalize hff : w2.heap.size + 1 = f' at *
  generalize hgg : w2.heap.size = g' at *
  have HGG' := Lib.hid (show w.heap.size ≤ g' by have := HB2.out.size; omega)
  have HNE := Lib.hid (show g ≠ g' by have := HF2.out.lth; omega)
  clear hb hf hff hgg
  go_upto_region 7 with fail
  go_cut [11, 12] (fun v v' wx => Beside2 w wx f g f' g' s t v v')
  case first =>
    go_region_held3 (fun _ => True) (exact trivial) (first
      | (go_at_call 12; (with_reducible refine (HSIZE.out _).mono ?_); rintro e w' ⟨rfl, rfl⟩)
      | (go_at_call 12; (with_reducible refine (HSIZE'.out _).mono ?_); rintro e w' ⟨rfl, rfl⟩))
    all_goals (go_wp2_with fail; go_meet; first | exact beside2_made HF23.out HF3.out HB3.out | exact beside2_made' HF23.out HF3.out HB3.out)
  case rest =>
    have HCUT := Lib.hid hcut
    clear hcut
    go_wp2_with fail
    refine (few_any a2 len2 cap2 n2 _ hl2 hc2 HN2.out).mono ?_
    rintro e w' ⟨rfl, rfl⟩
    go_wp2_with fail
    go_loopw [11, 12, 13, 14, 44] (fun v v' _ _ i wr => ∃ k : Nat, k ≤ n2 ∧ i = .int .i64 k ∧ Beside2 w wr f g f' g' s t v v') (fun _ _ _ _ i _ => n2 - (intOf i).toNat)
    case atStart => exact ⟨0, by omega, rfl, HCUT.out⟩
    case round =>
      obtain ⟨k, hk, rfl, xs, ys, hxs, hys, hfil, hfil', ⟨A, c, rfl, hni, hrow⟩, ⟨A', c', rfl, hni', hrow'⟩, hbel⟩ := hrel
      by_cases hlt : k < n2
      · obtain ⟨b0, off0, e0, hb0, hc⟩ := (HX2.out.below hbel (fun b h => h)).2 (by omega)
        subst e0
        have hcell := hc k (by omega)
        have hv := HV2.out k
        generalize zs.getD k 0 = hh at *
        obtain ⟨h0, h1⟩ := hv
        have HFI := Lib.hid hfil
        have HFI' := Lib.hid hfil'
        have HXS := Lib.hid hxs
        have HYS := Lib.hid hys
        have HNI := Lib.hid hni
        have HNI' := Lib.hid hni'
        have HRO := Lib.hid hrow
        have HRO' := Lib.hid hrow'
        have HBL := Lib.hid hbel
        clear hc hfil hxs hni hrow hbel hfil' hys hni' hrow'
        by_cases h2 : (k : Int) % 2 = 0
        · have d2 : ((k : Int) % 2 == 0) = true := by simpa using h2
          clear h2
          go_wp2_with fail
          refine (add_told _ f g xs hh HFI.out h0).mono ?_
          rintro e wc ⟨rfl, hf, hk⟩
          have HFC := Lib.hid hf
          have HKC := Lib.hid hk
          clear hf hk
          go_wp2_with fail
          refine (ref_add_bits A s c xs _ hh _ HXS.out (HRO.out.kept HKC.out (fun b h => ⟨h.1, h.2.1⟩)) (fun b h => Nat.lt_of_lt_of_le h.1 HKC.out.size) HNI.out hs1 (by omega) h0 h1).mono ?_
          rintro e wd ⟨A2, c2, rfl, hn2, hr2, hb2⟩
          have HBE := Lib.hid (beside2_add HXS.out HYS.out HBL.out HGG.out HNE.out HFI.out HFI'.out ⟨A', c', rfl, HNI'.out, HRO'.out⟩ HFC.out HKC.out hn2 hr2 hb2)
          clear hn2 hr2 hb2
          go_wp2_with fail
          go_roundw
          case rel => exact ⟨k + 1, by omega, by go_num, HBE.out⟩
          case measure => (simp [intOf] <;> omega)
        · have d2 : ((k : Int) % 2 == 0) = false := by simpa using h2
          clear h2
          go_wp2_with fail
          refine (add_told _ f' g' ys hh HFI'.out h0).mono ?_
          rintro e wc ⟨rfl, hf, hk⟩
          have HFC := Lib.hid hf
          have HKC := Lib.hid hk
          clear hf hk
          go_wp2_with fail
          refine (ref_add_bits A' t c' ys _ hh _ HYS.out (HRO'.out.kept HKC.out (fun b h => ⟨h.1, h.2.2⟩)) (fun b h => Nat.lt_of_lt_of_le h.1 HKC.out.size) HNI'.out ht1 (by omega) h0 h1).mono ?_
          rintro e wd ⟨A2, c2, rfl, hn2, hr2, hb2⟩
          have HBE := Lib.hid (beside2_add (f' := f) (g' := g) HYS.out HXS.out HBL.out HGG'.out HNE.out.symm HFI'.out HFI.out ⟨A, c, rfl, HNI.out, HRO.out.more (fun b h => ⟨h.1, h.2.2, h.2.1⟩)⟩ HFC.out HKC.out hn2 hr2 hb2).swap
          clear hn2 hr2 hb2
          go_wp2_with fail
          go_roundw
          case rel => exact ⟨k + 1, by omega, by go_num, HBE.out⟩
          case measure => (simp [intOf] <;> omega)
      · have HFI := Lib.hid hfil
        have HFI' := Lib.hid hfil'
        have HXS := Lib.hid hxs
        have HYS := Lib.hid hys
        have HNI := Lib.hid hni
        have HNI' := Lib.hid hni'
        have HRO := Lib.hid hrow
        have HRO' := Lib.hid hrow'
        have HBL := Lib.hid hbel
        clear hfil hxs hni hrow hbel hfil' hys hni' hrow'
        by_cases hst : s = t
        · subst hst
          have hxy : xs.length = ys.length := HXS.out.trans HYS.out.symm
          have HXY := Lib.hid hxy
          have hJs : (joinB xs ys).length = s := (joinB_length xs ys hxy).trans HXS.out
          have HRJ := Lib.hid (fun (A A' : Option Addr) (c c' : Nat) (S : Nat → Prop) (w : World) (hl : RowB w S A (8 * s) (bitsOf xs)) (hl' : RowB w S A' (8 * s) (bitsOf ys)) (hS : ∀ b, S b → b < w.heap.size) (hnil : A = none → c = 0) => ref_join_bits A A' s c c' xs ys S w HXS.out HYS.out hl hl' hS hnil hs1 (by omega))
          have HJA := Lib.hid (fun (w : World) (H : Filt w f g xs) (H' : Filt w f' g' ys) => join_any w f g f' g' xs ys H H' HXY.out)
          clear hxy
          generalize joinB xs ys = J at *
          have HJS := Lib.hid hJs
          clear hJs
          go_wp2_with fail
          refine (HJA.out _ HFI.out HFI'.out).mono ?_
          rintro e wj ⟨rfl, hf, hk⟩
          have HFJ := Lib.hid hf
          have HFJ' := Lib.hid (HFI.out.kept_far HFI'.out HNE.out hk)
          have HRJA := Lib.hid (HRO.out.kept hk (fun b h => ⟨h.1, h.2.1⟩))
          have HRJA' := Lib.hid (HRO'.out.kept hk (fun b h => ⟨h.1, h.2.1⟩))
          have HWJ := Lib.hid (HBL.out.trans (hk.to_below (B := w.heap.size) (fun b hb => ⟨Nat.lt_of_lt_of_le hb HBL.out.size, by have := HGG.out; omega⟩)))
          have HSZ := Lib.hid hk.size
          clear hf hk
          go_wp2_with fail
          refine (HSIZE.out _).mono ?_
          rintro e w' ⟨rfl, rfl⟩
          go_wp2_with fail
          refine (HSIZE'.out _).mono ?_
          rintro e w' ⟨rfl, rfl⟩
          go_wp2_with fail
          refine (HRJ.out A A' c c' _ _ HRJA.out HRJA'.out (fun b h => Nat.lt_of_lt_of_le h.1 HSZ.out) HNI.out).mono ?_
          rintro e wk ⟨A2, c2, rfl, hn2, hr2, hb2⟩
          have HR2 := Lib.hid hr2
          have HB2' := Lib.hid hb2
          clear hn2 hr2 hb2
          go_wp2_with fail
          refine (agree_any _ f g J A2 (8 * s) c2 _ (HFJ.out.belowAll HB2'.out) HR2.out (fun b h => h.2)).mono ?_
          rintro e wl ⟨rfl, hb⟩
          have HWL := Lib.hid (HB2'.out.trans (hb.mono HB2'.out.size))
          clear hb
          go_wp2_with fail
          refine (agree_any _ f' g' ys A' (8 * s) c' _ (HFJ'.out.belowAll HWL.out) (HRJA'.out.below HWL.out (fun b h => Nat.lt_of_lt_of_le h.1 HSZ.out)) (fun b h => Nat.lt_of_lt_of_le h.1 (Nat.le_trans HSZ.out HWL.out.size))).mono ?_
          rintro e wm ⟨rfl, hb⟩
          have HWM := Lib.hid (HWL.out.trans (hb.mono HWL.out.size))
          have HFM := Lib.hid (HFJ.out.belowAll HWM.out)
          clear hb
          go_wp2_with fail
          refine (join_any _ f g f g J J HFM.out HFM.out rfl).mono ?_
          rintro e wn ⟨rfl, hf, hk⟩
          rw [joinB_self HFM.out.bytes] at hf
          have HFN := Lib.hid hf
          have HRN := Lib.hid ((HRJA.out.below HWM.out (fun b h => Nat.lt_of_lt_of_le h.1 HSZ.out)).kept hk (fun b h => ⟨Nat.lt_of_lt_of_le h.1 (Nat.le_trans HSZ.out HWM.out.size), h.2.1⟩))
          have HRN' := Lib.hid ((HRJA'.out.below HWM.out (fun b h => Nat.lt_of_lt_of_le h.1 HSZ.out)).kept hk (fun b h => ⟨Nat.lt_of_lt_of_le h.1 (Nat.le_trans HSZ.out HWM.out.size), h.2.1⟩))
          have hjm : w.heap.size ≤ wm.heap.size := Nat.le_trans HWJ.out.size HWM.out.size
          have HJM := Lib.hid hjm
          have HWN := Lib.hid ((HWJ.out.trans (HWM.out.mono HWJ.out.size)).trans (hk.to_below (B := w.heap.size) (fun b hb => ⟨Nat.lt_of_lt_of_le hb hjm, by have := HGG.out; omega⟩)))
          have HSN := Lib.hid (Nat.le_trans HSZ.out (Nat.le_trans HWM.out.size hk.size))
          clear hf hk hjm
          go_wp2_with fail
          refine (HRJ.out A A' c c' _ _ HRN.out HRN'.out (fun b h => Nat.lt_of_lt_of_le h.1 HSN.out) HNI.out).mono ?_
          rintro e wo ⟨A3, c3, rfl, hn3, hr3, hb3⟩
          have HR3 := Lib.hid hr3
          have HB3' := Lib.hid hb3
          clear hn3 hr3 hb3
          go_wp2_with fail
          refine (agree_any _ f g J A3 (8 * s) c3 _ (HFN.out.belowAll HB3'.out) HR3.out (fun b h => h.2)).mono ?_
          rintro e wp ⟨rfl, hb⟩
          have HWP := Lib.hid ((HWN.out.trans (HB3'.out.mono HWN.out.size)).trans (hb.mono (Nat.le_trans HWN.out.size HB3'.out.size)))
          clear hb
          go_wp2_with fail
          go_ret
          exact ⟨rfl, HWP.out⟩
        · have hne : (8 * (s : Int) != 8 * (t : Int)) = true := by simp; omega
          have hne2 : ¬ (8 * (s : Int) = 8 * (t : Int)) := by omega
          have hne3 : ¬ ((s : Int) = (t : Int)) := by omega
          have HST := Lib.hid hst
          clear hst
          go_wp2_with fail
          refine (join_unlike _ f g f' g' xs ys HFI.out HFI'.out (by rw [HXS.out, HYS.out]; exact HST.out)).mono ?_
          rintro e w' ⟨rfl, rfl⟩
          go_wp2_with fail
          refine (HSIZE.out _).mono ?_
          rintro e w' ⟨rfl, rfl⟩
          go_wp2_with fail
          refine (HSIZE'.out _).mono ?_
          rintro e w' ⟨rfl, rfl⟩
          go_wp2_with fail
          refine (agree_any _ f g xs A (8 * s) c _ HFI.out HRO.out (fun b h => h.1)).mono ?_
          rintro e w6 ⟨rfl, hb⟩
          have HW6 := Lib.hid hb
          clear hb
          go_wp2_with fail
          refine (agree_any _ f' g' ys A' (8 * t) c' _ (HFI'.out.belowAll HW6.out) (HRO'.out.below HW6.out (fun b h => h.1)) (fun b h => Nat.lt_of_lt_of_le h.1 HW6.out.size)).mono ?_
          rintro e w7 ⟨rfl, hb⟩
          have HW7 := Lib.hid hb
          clear hb
          go_wp2_with fail
          go_ret
          exact ⟨rfl, (HBL.out.trans (HW6.out.mono HBL.out.size)).trans (HW7.out.mono (Nat.le_trans HBL.out.size HW6.out.size))⟩

set_option maxRecDepth 100000 in
theorem lifted (os : Os) (started : os.Started) (H : Type) (enc : TypeId × Value → H) :
    ReturnsInHanded {} Try.checked os 4 .any (Rows.bloomJoinsSpec.pre6 enc Try.prog Try.f4 Rows.bloomJoinsRow.domain false) (Rows.bloomJoinsSpec.post enc Try.prog Try.f4 false true false false) := by
  refine returnsInHanded_of_change (C := Try.checked) own started (by kernel_rfl) Try.func4
    (ChangeSpec.witness6 (enc := enc) (C := Try.checked) false ⟨#[], #[.int .i64 0, .int .i64 0, .slice none 0 0], []⟩ 8 (by kernel_rfl) (by kernel_rfl) (by kernel_rfl) (by kernel_rfl)) ?_
  intro W base args ds gs before hval0 hW hcnd _
  have hval : ∀ (j : Nat) t v, Try.f4.params[j]? = some t → args[j]? = some v → Value.okWide Try.prog W .any base t v := hval0
  have hW' := hW
  obtain ⟨p, q, hA0, hV, rfl, hfz, hnd⟩ := hW
  have hA : DataW.TrodAll enc Try.prog W 0 (fun _ => true) true Try.f4.params.toList args.toList ds p := hA0
  rw [Try.params4] at hA hval
  obtain ⟨v0, vs0, d0, ds0, p0, q0, hargs, rfl, rfl, h0, r0⟩ := trodAll_cons hA
  obtain ⟨v1, vs1, d1, ds1, p1, q1, rfl, rfl, rfl, h1, r1⟩ := trodAll_cons r0
  obtain ⟨v2, vs2, d2, ds2, p2, q2, rfl, rfl, rfl, h2, r2⟩ := trodAll_cons r1
  obtain ⟨rfl, rfl, rfl⟩ := trodAll_nil r2
  obtain rfl : args = #[v0, v1, v2] := by cases args; simp_all
  obtain ⟨rfl, rfl⟩ := trodVars_none hV
  obtain ⟨a0, rfl, rfl, rfl, w0⟩ := open_int Try.underlying3 (hval 0 3 v0 rfl rfl) h0
  obtain ⟨a1, rfl, rfl, rfl, w1⟩ := open_int Try.underlying3 (hval 1 3 v1 rfl rfl) h1
  obtain ⟨a2, len2, cap2, rfl⟩ := okWide_slice Try.underlying22 (hval 2 22 v2 rfl rfl)
  have k2 := h2
  have lt2 : ∀ x ∈ p2, x.block < W.heap.size := by obtain ⟨m, hm⟩ := k2; exact DataW.trod_lt m _ _ _ hm
  obtain ⟨z2, w2, e2⟩ : ∃ zs, IsRow .u64 W a2 len2 cap2 zs ∧ (cap2 = 0 ∨ d2 = .slice (ChangeShapes.lits .u64 (zs.take len2)) (ChangeShapes.lits .u64 (zs.drop len2)) ∧ zs.length = cap2) := by
    obtain ⟨fuel, hf⟩ := h2
    rcases open_ints Try.underlying22 Try.underlying31 (by kernel_rfl) hf with ⟨hcs, _⟩ | ⟨x, l, c, zs, hcs, _, hl, hm, hz, hx, hcell, hwz⟩
    · simp [Value.cells] at hcs
      obtain ⟨rfl, rfl, rfl⟩ := hcs
      exact ⟨[], .inl ⟨rfl, rfl, rfl, rfl⟩, .inl rfl⟩
    · simp [Value.cells] at hcs
      obtain ⟨rfl, rfl, rfl⟩ := hcs
      have hz' : zs.length = cap2 := by simpa using hz
      exact ⟨zs, .inr ⟨_, rfl, hl, hm, hz', hcell, hwz⟩, .inr ⟨(Prod.mk.injEq _ _ _ _ ▸ hx).1, hz'⟩⟩
  clear hA0 hval0
  refine (walk a0 a1 a2 len2 cap2 z2 W w0 w1 w2).mono fun e W' ⟨he, bel⟩ => ?_
  subst he
  exact ⟨_, rfl, _, _, _, [], _, [], hW', trodAll_mk1 (shut_bool Try.underlying4 _), (trodAll_cons_mk (shut_int Try.underlying3 w0) (trodAll_cons_mk (shut_int Try.underlying3 w1) (trodAll_cons_mk (Below.trod laidOut (by kernel_rfl) (of_decide_eq_true (by kernel_rfl)) k2 bel lt2) trodAll_mk0))), rfl, bel.frame _, fun h => by cases h⟩

theorem over : Rows.bloomJoinsRow.holds Try.pinned (OpenSpec.ofChange Rows.bloomJoinsSpec) :=
  OpenClaim.holds_of_wide 4 Try.f4 rfl rfl rfl rfl rfl rfl rfl ⟨rfl, rfl, rfl, rfl, rfl⟩ rfl rfl rfl rfl rfl (by kernel_rfl) Try.func4 (by kernel_rfl)
    (of_decide_eq_true (by kernel_rfl)) (by unfold Func.isWrapper; first | (rw [if_pos (by decide +kernel)]; kernel_rfl) | (rw [if_neg (by decide +kernel)]; exact ⟨rfl, rfl⟩))
    (fun os started H enc _ => lifted os started H enc)

theorem proved : Rows.BloomJoinsSaid := over
end Go.Proofs.Yteblfcbfgkbanaa.bloomJoins
