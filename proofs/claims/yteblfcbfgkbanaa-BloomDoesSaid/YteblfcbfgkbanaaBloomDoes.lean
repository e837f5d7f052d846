/- For every int, every list of hashes and every list of hashes asked: a filter answers each May and Add as the document's list of bits does, Clear in between, and at the end holds just those bits, as bytes and in number. No condition. -/
import Derived.Test.YteblfcbfgkbanaaRows
import Derived.WalkKit
import Derived.ProofKit
import Derived.OpenShut
import Derived.ShutString
import Derived.ChangeOld
import Derived.Below
import Derived.Test.YteblfcbfgkbanaaPlay
namespace Go.Proofs.Yteblfcbfgkbanaa.bloomDoes
open Go.ChangeShapes Go.WideShapes Go.ChangeAt Go.RowKit
open Go.ChangeMaps (open_string shut_string)
set_option linter.unusedVariables false

theorem own : ownKnob Try.prog.godebug = none := by kernel_rfl
theorem laidOut : laidOutB Try.prog = true := by kernel_rfl

/-- A slice of integers that came in: nil; or a row of 'cap' cells, the numbers 'zs', each fitting its kind. -/
def IsRow (k : IntKind) (w : World) (a : Option Addr) (len cap : Nat) (zs : List Int) : Prop :=
  (a = none ∧ len = 0 ∧ cap = 0 ∧ zs = []) ∨
  ∃ x : Addr, a = some x ∧ len ≤ cap ∧ cap ≤ maxLen ∧ zs.length = cap ∧ (∀ i, i < zs.length → w.cell? (x.add i) = some (.int k (zs.getD i 0))) ∧ ∀ n ∈ zs, (Lit.int k n).wf = true

theorem walk (a0 : Int) (a1 : Option Addr) (len1 cap1 : Nat) (z1 : List Int) (a2 : Option Addr) (len2 cap2 : Nat) (z2 : List Int) (w : World) (w0 : (Lit.int .i64 a0).wf = true) (w1 : IsRow .u64 w a1 len1 cap1 z1) (w2 : IsRow .u64 w a2 len2 cap2 z2) :
    Calls Try.prog 3 #[.int .i64 a0, .slice a1 len1 cap1, .slice a2 len2 cap2] w fun e w' => e = .returned (.bool true) ∧ Below w.heap.size w w' := by
  have r1 := row64_of w1
  have r2 := row64_of w2
  obtain ⟨hx1, hv1, hc1, hl1, hnl1⟩ := r1
  obtain ⟨hx2, hv2, hc2, hl2, hnl2⟩ := r2
  generalize z1.take len1 = ys at *
  generalize z2.take len2 = zs at *
  have hsb := sizeK_bounds a0
  have hsize := fun w => size_any a0 w
  generalize sizeK a0 = s at *
  have HSIZE := Lib.hid hsize
  have hmk := fun u => make_bools (8 * s) (8 * (s : Int)) (by omega) (by omega) u
  obtain ⟨n1, hn1⟩ : ∃ n, n = min len1 100 := ⟨_, rfl⟩
  obtain ⟨n2, hn2⟩ : ∃ n, n = min len2 100 := ⟨_, rfl⟩
  have n1le : n1 ≤ 100 := by omega
  have n2le : n2 ≤ 100 := by omega
  have n1l : n1 ≤ len1 := by omega
  have n2l : n2 ≤ len2 := by omega
  have HN1 := Lib.hid hn1
  have HN2 := Lib.hid hn2
  have HX1 := Lib.hid hx1
  have HX2 := Lib.hid hx2
  have HV1 := Lib.hid hv1
  have HV2 := Lib.hid hv2
  have hs1 := hsb.1
  have hs2 := hsb.2
  clear w0 w1 w2 hx1 hx2 hv1 hv2 hn1 hn2 hnl1 hnl2 hsize hsb
  go_enter Try.func3, Try.ntmps3
  go_wp2_with fail
  refine (wakes_any w).mono ?_
  rintro e w1 ⟨rfl, hb1⟩
  have HB1 := Lib.hid hb1
  clear hb1
  go_wp2_with fail
  refine (HSIZE.out _).mono ?_
  rintro e w' ⟨rfl, rfl⟩
  go_wp2_with fail
  refine (new_ok _ s _ rfl hs1 (by omega)).mono ?_
  rintro e w2 ⟨rfl, hf, hb⟩
  have HB2 := Lib.hid (HB1.out.trans (hb.mono HB1.out.size))
  have HF2 := Lib.hid hf
  generalize hff : w1.heap.size + 1 = f at *
  generalize hgg : w1.heap.size = g at *
  have HFF := Lib.hid (show w.heap.size ≤ f by have := HB1.out.size; omega)
  have HGG := Lib.hid (show w.heap.size ≤ g by have := HB1.out.size; omega)
  clear hb hf hff hgg
  go_wp2_with fail
  refine (HSIZE.out _).mono ?_
  rintro e w' ⟨rfl, rfl⟩
  go_wp2_with fail
  refine (few_any a1 len1 cap1 n1 _ hl1 hc1 HN1.out).mono ?_
  rintro e w' ⟨rfl, rfl⟩
  go_wp2_with fail
  go_loopw [9, 10, 11, 34] (fun v _ _ i wr => ∃ k : Nat, k ≤ n1 ∧ i = .int .i64 k ∧ Beside w wr f g s v) (fun _ _ _ i _ => n1 - (intOf i).toNat)
  case atStart =>
    have hb := (HB2.out.alloc HB2.out.size (.cells (madeCells #[.bool false] (8 * s)) 4))
    refine ⟨0, by omega, rfl, List.replicate s 0, by simp, HF2.out.belowAll ((Below.refl _ _).alloc (Nat.le_refl _) _), ⟨_, _, rfl, (fun h => by cases h), (made_bits w2 s).more (fun b e => ?_)⟩, hb⟩
    rw [e]
    have := HF2.out.lth
    exact ⟨by simp, by omega⟩
  case round =>
    obtain ⟨k, hk, rfl, xs, hxs, hfil, ⟨A, c, rfl, hni, hrow⟩, hbel⟩ := hrel
    by_cases hlt : k < n1
    · obtain ⟨b0, off0, e0, hb0, hc⟩ := (HX1.out.below hbel (fun b h => h)).2 (by omega)
      subst e0
      have hcell := hc k (by omega)
      have hv := HV1.out k
      generalize ys.getD k 0 = hh at *
      obtain ⟨h0, h1⟩ := hv
      have HFI := Lib.hid hfil
      have HXS := Lib.hid hxs
      have HNI := Lib.hid hni
      have HRO := Lib.hid hrow
      have HBL := Lib.hid hbel
      clear hc hfil hxs hni hrow hbel
      by_cases h17 : (k : Int) % 17 = 16
      · have d17 : ((k : Int) % 17 == 16) = true := by simpa using h17
        clear h17
        go_wp2_with fail
        refine (HSIZE.out _).mono ?_
        rintro e w' ⟨rfl, rfl⟩
        go_wp2_with fail
        refine (clear_any _ f g xs (HFI.out.belowAll ((Below.refl _ _).alloc (Nat.le_refl _) _))).mono ?_
        rintro e wcl ⟨rfl, hf, hk⟩
        rw [HXS.out] at hf
        have hrow := (made_bits wr s).kept hk (fun b e => ⟨by rw [e]; simp, by rw [e]; have := HFI.out.lth; omega⟩)
        have hlt2 : wr.heap.size < wcl.heap.size := Nat.lt_of_lt_of_le (by simp) hk.size
        have HRO2 := Lib.hid (hrow.more (T := fun b => b < wcl.heap.size ∧ b ≠ g) (fun b e => ⟨by omega, by have := HFI.out.lth; omega⟩))
        have HBL2 := Lib.hid ((HBL.out.alloc HBL.out.size _).trans (hk.to_below (B := w.heap.size) (fun b hb => ⟨by have := HBL.out.size; simp; omega, by have := HGG.out; omega⟩)))
        have HNI2 := Lib.hid (show some (⟨wr.heap.size, 0, none⟩ : Addr) = none → 8 * s = 0 from fun h => by cases h)
        obtain ⟨xs2, hxs2⟩ : ∃ x, x = List.replicate s (0 : Int) := ⟨_, rfl⟩
        have HXS2 := Lib.hid (show xs2.length = s by rw [hxs2, List.length_replicate])
        rw [← hxs2] at hf HRO2
        have HFI2 := Lib.hid hf
        clear hf hk hrow hlt2 hxs2
        obtain ⟨bb, hbb⟩ : ∃ b, allSet (bitsOf xs2) (nums4 hh xs2) = b := ⟨_, rfl⟩
        have HBB := Lib.hid hbb
        clear hbb
        go_wp2_with fail
        refine (may_is _ f g xs2 hh HFI2.out h0 bb HBB.out).mono ?_
        rintro e wa ⟨rfl, hb⟩
        have HWA := Lib.hid hb
        clear hb
        go_wp2_with fail
        refine (ref_may_is (some ⟨wr.heap.size, 0, none⟩) s (8 * s) xs2 _ hh _ HXS2.out (HRO2.out.below HWA.out (fun b h => h.1)) (fun b h => Nat.lt_of_lt_of_le h.1 HWA.out.size) hs1 (by omega) h0 h1 bb HBB.out).mono ?_
        rintro e wb ⟨rfl, hb⟩
        have HWB := Lib.hid hb
        have HFB := Lib.hid ((HFI2.out.belowAll HWA.out).belowAll hb)
        have HRB := Lib.hid ((HRO2.out.below HWA.out (fun b h => h.1)).below hb (fun b h => Nat.lt_of_lt_of_le h.1 HWA.out.size))
        clear hb
        go_wp2_with fail
        refine (add_told _ f g xs2 hh HFB.out h0).mono ?_
        rintro e wc ⟨rfl, hf, hk⟩
        have HFC := Lib.hid hf
        have HKC := Lib.hid hk
        clear hf hk
        go_wp2_with fail
        refine (ref_add_bits (some ⟨wr.heap.size, 0, none⟩) s (8 * s) xs2 _ hh _ HXS2.out (HRB.out.kept HKC.out (fun b h => ⟨Nat.lt_of_lt_of_le h.1 (Nat.le_trans HWA.out.size HWB.out.size), h.2⟩)) (fun b h => Nat.lt_of_lt_of_le h.1 (Nat.le_trans HWA.out.size (Nat.le_trans HWB.out.size HKC.out.size))) HNI2.out hs1 (by omega) h0 h1).mono ?_
        rintro e wd ⟨A2, c2, rfl, hn2, hr2, hb2⟩
        have HBE := Lib.hid (beside_add HXS2.out ((HBL2.out.trans (HWA.out.mono HBL2.out.size)).trans (HWB.out.mono (Nat.le_trans HBL2.out.size HWA.out.size))) HGG.out HFC.out HKC.out hn2 hr2 hb2)
        clear hn2 hr2 hb2
        go_wp2_with fail
        go_roundw
        case rel => exact ⟨k + 1, by omega, by go_num, HBE.out⟩
        case measure => (simp [intOf] <;> omega)
      · have d17 : ((k : Int) % 17 == 16) = false := by simpa using h17
        clear h17
        obtain ⟨bb, hbb⟩ : ∃ b, allSet (bitsOf xs) (nums4 hh xs) = b := ⟨_, rfl⟩
        have HBB := Lib.hid hbb
        clear hbb
        go_wp2_with fail
        refine (may_is _ f g xs hh HFI.out h0 bb HBB.out).mono ?_
        rintro e wa ⟨rfl, hb⟩
        have HWA := Lib.hid hb
        clear hb
        go_wp2_with fail
        refine (ref_may_is A s c xs _ hh _ HXS.out (HRO.out.below HWA.out (fun b h => h.1)) (fun b h => Nat.lt_of_lt_of_le h.1 HWA.out.size) hs1 (by omega) h0 h1 bb HBB.out).mono ?_
        rintro e wb ⟨rfl, hb⟩
        have HWB := Lib.hid hb
        have HFB := Lib.hid ((HFI.out.belowAll HWA.out).belowAll hb)
        have HRB := Lib.hid ((HRO.out.below HWA.out (fun b h => h.1)).below hb (fun b h => Nat.lt_of_lt_of_le h.1 HWA.out.size))
        clear hb
        go_wp2_with fail
        refine (add_told _ f g xs hh HFB.out h0).mono ?_
        rintro e wc ⟨rfl, hf, hk⟩
        have HFC := Lib.hid hf
        have HKC := Lib.hid hk
        clear hf hk
        go_wp2_with fail
        refine (ref_add_bits A s c xs _ hh _ HXS.out (HRB.out.kept HKC.out (fun b h => ⟨Nat.lt_of_lt_of_le h.1 (Nat.le_trans HWA.out.size HWB.out.size), h.2⟩)) (fun b h => Nat.lt_of_lt_of_le h.1 (Nat.le_trans HWA.out.size (Nat.le_trans HWB.out.size HKC.out.size))) HNI.out hs1 (by omega) h0 h1).mono ?_
        rintro e wd ⟨A2, c2, rfl, hn2, hr2, hb2⟩
        have HBE := Lib.hid (beside_add HXS.out ((HBL.out.trans (HWA.out.mono HBL.out.size)).trans (HWB.out.mono (Nat.le_trans HBL.out.size HWA.out.size))) HGG.out HFC.out HKC.out hn2 hr2 hb2)
        clear hn2 hr2 hb2
        go_wp2_with fail
        go_roundw
        case rel => exact ⟨k + 1, by omega, by go_num, HBE.out⟩
        case measure => (simp [intOf] <;> omega)
    · obtain rfl : k = n1 := by omega
      have HFI := Lib.hid hfil
      have HXS := Lib.hid hxs
      have HNI := Lib.hid hni
      have HRO := Lib.hid hrow
      have HBL := Lib.hid hbel
      clear hfil hxs hni hrow hbel
      obtain ⟨w5, hw5⟩ : ∃ w5 : World, w5 = wr := ⟨_, rfl⟩
      rw [← hw5]
      rw [← hw5] at HFI HRO HBL
      clear hw5
      go_wp2_with fail
      refine (few_any a2 len2 cap2 n2 _ hl2 hc2 HN2.out).mono ?_
      rintro e w' ⟨rfl, rfl⟩
      go_wp2_with fail
      go_loopw [13, 68] (fun _ i wr => ∃ k : Nat, k ≤ n2 ∧ i = .int .i64 k ∧ Below w5.heap.size w5 wr) (fun _ i _ => n2 - (intOf i).toNat)
      case atStart => exact ⟨0, by omega, rfl, Below.refl _ _⟩
      case round =>
        obtain ⟨k, hk, rfl, hbel⟩ := hrel
        by_cases hlt2 : k < n2
        · obtain ⟨b0, off0, e0, hb0, hc⟩ := ((HX2.out.below HBL.out (fun b h => h)).below hbel (fun b h => Nat.lt_of_lt_of_le h HBL.out.size)).2 (by omega)
          subst e0
          have hcell := hc k (by omega)
          have hv := HV2.out k
          generalize zs.getD k 0 = hh at *
          obtain ⟨h0, h1⟩ := hv
          have HW := Lib.hid hbel
          obtain ⟨bb, hbb⟩ : ∃ b, allSet (bitsOf xs) (nums4 hh xs) = b := ⟨_, rfl⟩
          have HBB := Lib.hid hbb
          clear hc hbel hbb
          go_wp2_with fail
          refine (may_is _ f g xs hh (HFI.out.belowAll HW.out) h0 bb HBB.out).mono ?_
          rintro e wa ⟨rfl, hb⟩
          have HWA := Lib.hid (HW.out.trans (hb.mono HW.out.size))
          clear hb
          go_wp2_with fail
          refine (ref_may_is A s c xs _ hh _ HXS.out (HRO.out.below HWA.out (fun b h => h.1)) (fun b h => Nat.lt_of_lt_of_le h.1 HWA.out.size) hs1 (by omega) h0 h1 bb HBB.out).mono ?_
          rintro e wb ⟨rfl, hb⟩
          have HWB := Lib.hid (HWA.out.trans (hb.mono HWA.out.size))
          clear hb
          go_wp2_with fail
          go_roundw
          case rel => exact ⟨k + 1, by omega, by go_num, HWB.out⟩
          case measure => (simp [intOf] <;> omega)
        · have HW := Lib.hid hbel
          clear hbel
          have hk2 : ¬ ((k : Int) < n2) := by omega
          go_wp2_with fail
          refine (agree_any _ f g xs A (8 * s) c _ (HFI.out.belowAll HW.out) (HRO.out.below HW.out (fun b h => h.1)) (fun b h => Nat.lt_of_lt_of_le h.1 HW.out.size)).mono ?_
          rintro e w6 ⟨rfl, hb⟩
          have HW6 := Lib.hid ((HBL.out.trans (HW.out.mono HBL.out.size)).trans (hb.mono (Nat.le_trans HBL.out.size HW.out.size)))
          clear hb
          go_wp2_with fail
          go_ret
          exact ⟨rfl, HW6.out⟩

set_option maxRecDepth 100000 in
theorem lifted (os : Os) (started : os.Started) (H : Type) (enc : TypeId × Value → H) :
    ReturnsInHanded {} Try.checked os 3 .any (Rows.bloomDoesSpec.pre6 enc Try.prog Try.f3 Rows.bloomDoesRow.domain false) (Rows.bloomDoesSpec.post enc Try.prog Try.f3 false true false false) := by
  refine returnsInHanded_of_change (C := Try.checked) own started (by kernel_rfl) Try.func3
    (ChangeSpec.witness6 (enc := enc) (C := Try.checked) false ⟨#[], #[.int .i64 0, .slice none 0 0, .slice none 0 0], []⟩ 8 (by kernel_rfl) (by kernel_rfl) (by kernel_rfl) (by kernel_rfl)) ?_
  intro W base args ds gs before hval0 hW hcnd _
  have hval : ∀ (j : Nat) t v, Try.f3.params[j]? = some t → args[j]? = some v → Value.okWide Try.prog W .any base t v := hval0
  have hW' := hW
  obtain ⟨p, q, hA0, hV, rfl, hfz, hnd⟩ := hW
  have hA : DataW.TrodAll enc Try.prog W 0 (fun _ => true) true Try.f3.params.toList args.toList ds p := hA0
  rw [Try.params3] at hA hval
  obtain ⟨v0, vs0, d0, ds0, p0, q0, hargs, rfl, rfl, h0, r0⟩ := trodAll_cons hA
  obtain ⟨v1, vs1, d1, ds1, p1, q1, rfl, rfl, rfl, h1, r1⟩ := trodAll_cons r0
  obtain ⟨v2, vs2, d2, ds2, p2, q2, rfl, rfl, rfl, h2, r2⟩ := trodAll_cons r1
  obtain ⟨rfl, rfl, rfl⟩ := trodAll_nil r2
  obtain rfl : args = #[v0, v1, v2] := by cases args; simp_all
  obtain ⟨rfl, rfl⟩ := trodVars_none hV
  obtain ⟨a0, rfl, rfl, rfl, w0⟩ := open_int Try.underlying3 (hval 0 3 v0 rfl rfl) h0
  obtain ⟨a1, len1, cap1, rfl⟩ := okWide_slice Try.underlying22 (hval 1 22 v1 rfl rfl)
  have k1 := h1
  have lt1 : ∀ x ∈ p1, x.block < W.heap.size := by obtain ⟨m, hm⟩ := k1; exact DataW.trod_lt m _ _ _ hm
  obtain ⟨z1, w1, e1⟩ : ∃ zs, IsRow .u64 W a1 len1 cap1 zs ∧ (cap1 = 0 ∨ d1 = .slice (ChangeShapes.lits .u64 (zs.take len1)) (ChangeShapes.lits .u64 (zs.drop len1)) ∧ zs.length = cap1) := by
    obtain ⟨fuel, hf⟩ := h1
    rcases open_ints Try.underlying22 Try.underlying31 (by kernel_rfl) hf with ⟨hcs, _⟩ | ⟨x, l, c, zs, hcs, _, hl, hm, hz, hx, hcell, hwz⟩
    · simp [Value.cells] at hcs
      obtain ⟨rfl, rfl, rfl⟩ := hcs
      exact ⟨[], .inl ⟨rfl, rfl, rfl, rfl⟩, .inl rfl⟩
    · simp [Value.cells] at hcs
      obtain ⟨rfl, rfl, rfl⟩ := hcs
      have hz' : zs.length = cap1 := by simpa using hz
      exact ⟨zs, .inr ⟨_, rfl, hl, hm, hz', hcell, hwz⟩, .inr ⟨(Prod.mk.injEq _ _ _ _ ▸ hx).1, hz'⟩⟩
  obtain ⟨a2, len2, cap2, rfl⟩ := okWide_slice Try.underlying22 (hval 2 22 v2 rfl rfl)
  have k2 := h2
  have lt2 : ∀ x ∈ p2, x.block < W.heap.size := by obtain ⟨m, hm⟩ := k2; exact DataW.trod_lt m _ _ _ hm
  obtain ⟨z2, w2, e2⟩ : ∃ zs, IsRow .u64 W a2 len2 cap2 zs ∧ (cap2 = 0 ∨ d2 = .slice (ChangeShapes.lits .u64 (zs.take len2)) (ChangeShapes.lits .u64 (zs.drop len2)) ∧ zs.length = cap2) := by
    obtain ⟨fuel, hf⟩ := h2
    rcases open_ints Try.underlying22 Try.underlying31 (by kernel_rfl) hf with ⟨hcs, _⟩ | ⟨x, l, c, zs, hcs, _, hl, hm, hz, hx, hcell, hwz⟩
    · simp [Value.cells] at hcs
      obtain ⟨rfl, rfl, rfl⟩ := hcs
      exact ⟨[], .inl ⟨rfl, rfl, rfl, rfl⟩, .inl rfl⟩
    · simp [Value.cells] at hcs
      obtain ⟨rfl, rfl, rfl⟩ := hcs
      have hz' : zs.length = cap2 := by simpa using hz
      exact ⟨zs, .inr ⟨_, rfl, hl, hm, hz', hcell, hwz⟩, .inr ⟨(Prod.mk.injEq _ _ _ _ ▸ hx).1, hz'⟩⟩
  clear hA0 hval0
  refine (walk a0 a1 len1 cap1 z1 a2 len2 cap2 z2 W w0 w1 w2).mono fun e W' ⟨he, bel⟩ => ?_
  subst he
  exact ⟨_, rfl, _, _, _, [], _, [], hW', trodAll_mk1 (shut_bool Try.underlying4 _), (trodAll_cons_mk (shut_int Try.underlying3 w0) (trodAll_cons_mk (Below.trod laidOut (by kernel_rfl) (of_decide_eq_true (by kernel_rfl)) k1 bel lt1) (trodAll_cons_mk (Below.trod laidOut (by kernel_rfl) (of_decide_eq_true (by kernel_rfl)) k2 bel lt2) trodAll_mk0))), rfl, bel.frame _, fun h => by cases h⟩

theorem over : Rows.bloomDoesRow.holds Try.pinned (OpenSpec.ofChange Rows.bloomDoesSpec) :=
  OpenClaim.holds_of_wide 3 Try.f3 rfl rfl rfl rfl rfl rfl rfl ⟨rfl, rfl, rfl, rfl, rfl⟩ rfl rfl rfl rfl rfl (by kernel_rfl) Try.func3 (by kernel_rfl)
    (of_decide_eq_true (by kernel_rfl)) (by unfold Func.isWrapper; first | (rw [if_pos (by decide +kernel)]; kernel_rfl) | (rw [if_neg (by decide +kernel)]; exact ⟨rfl, rfl⟩))
    (fun os started H enc _ => lifted os started H enc)

theorem proved : Rows.BloomDoesSaid := over
end Go.Proofs.Yteblfcbfgkbanaa.bloomDoes
