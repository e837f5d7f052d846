/- For every int and every two lists of hashes: what was added to a filter, or to one that was joined to it, is not denied, by it or by the filter of its bytes; Set does not fall by Add, rises by four at most, and is at most four times the hashes added. No condition. -/
import Derived.Test.YteblfcbfgkbanaaRows
import Derived.WalkKit
import Derived.ProofKit
import Derived.OpenShut
import Derived.ShutString
import Derived.ChangeOld
import Derived.Below
import Derived.Test.YteblfcbfgkbanaaPlay4
import Derived.Deep.DeepCutAuto
namespace Go.Proofs.Yteblfcbfgkbanaa.bloomHolds
open Go.ChangeShapes Go.WideShapes Go.ChangeAt Go.RowKit
open Go.ChangeMaps (open_string shut_string)
set_option linter.unusedVariables false

theorem own : ownKnob Try.prog.godebug = none := by kernel_rfl
theorem laidOut : laidOutB Try.prog = true := by kernel_rfl

/-- A slice of integers that came in: nil; or a row of 'cap' cells, the numbers 'zs', each fitting its kind. -/
def IsRow (k : IntKind) (w : World) (a : Option Addr) (len cap : Nat) (zs : List Int) : Prop :=
  (a = none ∧ len = 0 ∧ cap = 0 ∧ zs = []) ∨
  ∃ x : Addr, a = some x ∧ len ≤ cap ∧ cap ≤ maxLen ∧ zs.length = cap ∧ (∀ i, i < zs.length → w.cell? (x.add i) = some (.int k (zs.getD i 0))) ∧ ∀ n ∈ zs, (Lit.int k n).wf = true

theorem info_u64 : (Try.prog.info? 31).map (fun i => (i.zero, i.size, i.bytes)) = some (some (.int .u64 0), 1, 8) := by kernel_rfl

set_option maxHeartbeats 4000000 in
set_option maxRecDepth 100000 in
theorem walk (a0 : Int) (a1 : Option Addr) (len1 cap1 : Nat) (z1 : List Int) (a2 : Option Addr) (len2 cap2 : Nat) (z2 : List Int) (w : World) (w0 : (Lit.int .i64 a0).wf = true) (w1 : IsRow .u64 w a1 len1 cap1 z1) (w2 : IsRow .u64 w a2 len2 cap2 z2) :
    Calls Try.prog 8 #[.int .i64 a0, .slice a1 len1 cap1, .slice a2 len2 cap2] w fun e w' => e = .returned (.bool true) ∧ Below w.heap.size w w' := by
  have r1 := row64_of w1 -- HEARTS
  have r2 := row64_of w2
  obtain ⟨hx1, hv1, hc1, hl1, hnl1⟩ := r1
  obtain ⟨hx2, hv2, hc2, hl2, hnl2⟩ := r2
  obtain ⟨i0, hi, hz0, hz1, hz2⟩ := info_parts info_u64
  have hsb := sizeK_bounds a0
  have hsize := fun w => size_any a0 w
  generalize sizeK a0 = s at *
  have HSIZE := Lib.hid hsize
  obtain ⟨n1, hn1⟩ : ∃ n, n = min len1 100 := ⟨_, rfl⟩
  obtain ⟨n2, hn2⟩ : ∃ n, n = min len2 100 := ⟨_, rfl⟩
  have n1le : n1 ≤ 100 := by omega
  have n2le : n2 ≤ 100 := by omega
  have n1l : n1 ≤ len1 := by omega
  have n2l : n2 ≤ len2 := by omega
  have hx1' := hx1.take n1 n1l
  have hx2' := hx2.take n2 n2l
  have hv1' := hv1.take n1
  have hv2' := hv2.take n2
  generalize (z1.take len1).take n1 = ys at *
  generalize (z2.take len2).take n2 = zs at *
  have HN1 := Lib.hid hn1
  have HN2 := Lib.hid hn2
  have HX1 := Lib.hid hx1'
  have HX2 := Lib.hid hx2'
  have HY := Lib.hid hx1'.1
  have HZ := Lib.hid hx2'.1
  have HV1 := Lib.hid hv1'
  have HV2 := Lib.hid hv2'
  have hs1 := hsb.1
  have hs2 := hsb.2
  clear w0 w1 w2 hx1 hx2 hv1 hv2 hn1 hn2 hsize hsb hx1' hx2' hv1' hv2'
  obtain ⟨o, ho⟩ : ∃ o, o = List.replicate s (0 : Int) := ⟨_, rfl⟩
  have HOL := Lib.hid (show o.length = s by rw [ho, List.length_replicate])
  have HOP := Lib.hid (show popAll o = 0 by rw [ho]; exact pop_zeros s)
  have hnew := Lib.hid (fun w => new_ok (8 * (s : Int)) s w rfl hs1 (by omega))
  rw [← ho] at hnew
  clear ho
  go_enter Try.func8, Try.ntmps8
  go_wp2_with fail
  refine (wakes_any w).mono ?_
  rintro e w1 ⟨rfl, hb1⟩
  have HB1 := Lib.hid hb1
  clear hb1
  go_wp2_with fail
  refine (HSIZE.out _).mono ?_
  rintro e w' ⟨rfl, rfl⟩
  go_wp2_with fail
  refine (hnew.out _).mono ?_
  rintro e w2 ⟨rfl, hf, hb⟩
  have HB2 := Lib.hid (HB1.out.trans (hb.mono HB1.out.size))
  have HF2 := Lib.hid hf
  generalize hff : w1.heap.size + 1 = f at *
  generalize hgg : w1.heap.size = g at *
  have HFF := Lib.hid (show w.heap.size ≤ f by have := HB1.out.size; omega)
  have HGG := Lib.hid (show w.heap.size ≤ g by have := HB1.out.size; omega)
  clear hb hf hff hgg
  go_wp2_with fail
  refine (HSIZE.out _).mono ?_
  rintro e w' ⟨rfl, rfl⟩
  go_wp2_with fail
  refine (hnew.out _).mono ?_
  rintro e w3 ⟨rfl, hf, hb⟩
  have HB3 := Lib.hid (HB2.out.trans (hb.mono HB2.out.size))
  have HF3 := Lib.hid hf
  have HF23 := Lib.hid (HF2.out.belowAll hb)
  generalize hff : w2.heap.size + 1 = f' at *
  generalize hgg : w2.heap.size = g' at *
  have HGG' := Lib.hid (show w.heap.size ≤ g' by have := HB2.out.size; omega)
  have HNE := Lib.hid (show g ≠ g' by have := HF2.out.lth; omega)
  clear hb hf hff hgg
  go_wp2_with fail
  refine (few_any a1 len1 cap1 n1 _ hl1 hc1 HN1.out).mono ?_
  rintro e w' ⟨rfl, rfl⟩
  go_wp2_with fail
  go_loopw [11, 13, 42] (fun l _ i wr => ∃ (k : Nat) (p : Int) (xs : List Int), k ≤ n1 ∧ i = .int .i64 k ∧ l = .int .i64 p ∧ xs = adds o (ys.take k) ∧ popAll xs = p ∧ Filt wr f g xs ∧ Filt wr f' g' o ∧ Below w.heap.size w wr) (fun _ _ i _ => n1 - (intOf i).toNat)
  case atStart => exact ⟨0, 0, o, by omega, rfl, rfl, rfl, HOP.out, HF23.out, HF3.out, HB3.out⟩
  case round =>
    obtain ⟨k, p, xs, hk, rfl, rfl, hxs, hp, hfil, hfil', hbel⟩ := hrel
    by_cases hlt : k < n1
    · obtain ⟨b0, off0, e0, hb0, hc⟩ := (HX1.out.below hbel (fun b h => h)).2 (by omega)
      subst e0
      have hcell := hc k (by omega)
      have hv := HV1.out k
      have hstep := adds_take o ys k (by have := HY.out; omega)
      rw [← hxs] at hstep
      generalize ys.getD k 0 = hh at *
      obtain ⟨h0, h1⟩ := hv
      have hx1 : 1 ≤ xs.length := hfil.one
      have hpop := pop_add xs hh hx1
      have hpb := popAll_bounds (addF xs hh)
      have hpb0 := popAll_bounds xs
      rw [addF_length] at hpb
      have hxm := hfil.most
      have HFI := Lib.hid hfil
      have HFI' := Lib.hid hfil'
      have HST := Lib.hid hstep
      have HBL := Lib.hid hbel
      rw [hp] at hpop hpb0
      obtain ⟨p', hp'⟩ : ∃ p', popAll (addF xs hh) = p' := ⟨_, rfl⟩
      rw [hp'] at hpop hpb
      have HP' := Lib.hid hp'
      have d1 : ¬ (p' < p) := by omega
      have d2 : ¬ (p + 4 < p') := by omega
      have q0 : 0 ≤ p := by omega
      have q1 : p ≤ 70000 := by omega
      clear hc hfil hfil' hstep hbel hp hp' hxs hpop hpb hpb0
      go_wp2_with fail
      refine (add_told _ f g xs hh HFI.out h0).mono ?_
      rintro e wc ⟨rfl, hf, hk⟩
      have HFC := Lib.hid hf
      have HFC' := Lib.hid (HFI.out.kept_far HFI'.out HNE.out hk)
      have HBC := Lib.hid (HBL.out.trans (hk.to_below (B := w.heap.size) (fun b hb => ⟨Nat.lt_of_lt_of_le hb HBL.out.size, by have := HGG.out; omega⟩)))
      clear hf hk
      go_wp2_with fail
      refine (set_is _ f g _ HFC.out p' HP'.out).mono ?_
      rintro e w' ⟨rfl, rfl⟩
      go_wp2_with fail
      refine (set_is _ f g _ HFC.out p' HP'.out).mono ?_
      rintro e w' ⟨rfl, rfl⟩
      go_wp2_with fail
      refine (set_is _ f g _ HFC.out p' HP'.out).mono ?_
      rintro e w' ⟨rfl, rfl⟩
      go_wp2_with fail
      go_roundw
      case rel => exact ⟨k + 1, p', addF xs hh, by omega, by go_num, rfl, HST.out.symm, HP'.out, HFC.out, HFC'.out, HBC.out⟩
      case measure => (simp [intOf] <;> omega)
    · obtain rfl : n1 = k := by omega
      rw [List.take_of_length_le (by have := HY.out; omega)] at hxs
      obtain ⟨w4, hw4⟩ : ∃ w4 : World, w4 = wr := ⟨_, rfl⟩
      rw [← hw4]
      rw [← hw4] at hfil hfil' hbel
      have HFI := Lib.hid hfil
      have HFI' := Lib.hid hfil'
      have HXS := Lib.hid hxs
      have HBL := Lib.hid hbel
      clear hfil hfil' hbel hp hxs hw4
      go_wp2_with fail
      refine (few_any a2 len2 cap2 n2 _ hl2 hc2 HN2.out).mono ?_
      rintro e w' ⟨rfl, rfl⟩
      go_wp2_with fail
      go_loopw [15, 66] (fun _ i wr => ∃ (k : Nat) (us : List Int), k ≤ n2 ∧ i = .int .i64 k ∧ us = adds o (zs.take k) ∧ Filt wr f g xs ∧ Filt wr f' g' us ∧ Below w.heap.size w wr) (fun _ i _ => n2 - (intOf i).toNat)
      case atStart => exact ⟨0, o, by omega, rfl, rfl, HFI.out, HFI'.out, HBL.out⟩
      case round =>
        obtain ⟨k2, us, hk, rfl, hus, hfil, hfil', hbel⟩ := hrel
        by_cases hlt2 : k2 < n2
        · obtain ⟨b0, off0, e0, hb0, hc⟩ := (HX2.out.below hbel (fun b h => h)).2 (by omega)
          subst e0
          have hcell := hc k2 (by omega)
          have hv := HV2.out k2
          have hstep := adds_take o zs k2 (by have := HZ.out; omega)
          rw [← hus] at hstep
          generalize zs.getD k2 0 = hh at *
          obtain ⟨h0, h1⟩ := hv
          have HGI := Lib.hid hfil
          have HGI' := Lib.hid hfil'
          have HST := Lib.hid hstep
          have HBM := Lib.hid hbel
          clear hc hfil hfil' hstep hbel hus
          go_wp2_with fail
          refine (add_told _ f' g' us hh HGI'.out h0).mono ?_
          rintro e wc ⟨rfl, hf, hk⟩
          have HFC := Lib.hid hf
          have HFC' := Lib.hid (HGI'.out.kept_far HGI.out HNE.out.symm hk)
          have HBC := Lib.hid (HBM.out.trans (hk.to_below (B := w.heap.size) (fun b hb => ⟨Nat.lt_of_lt_of_le hb HBM.out.size, by have := HGG'.out; omega⟩)))
          clear hf hk
          go_wp2_with fail
          go_roundw
          case rel => exact ⟨k2 + 1, addF us hh, by omega, by go_num, HST.out.symm, HFC'.out, HFC.out, HBC.out⟩
          case measure => (simp [intOf] <;> omega)
        · obtain rfl : n2 = k2 := by omega
          rw [List.take_of_length_le (by have := HZ.out; omega)] at hus
          obtain ⟨w5, hw5⟩ : ∃ w5 : World, w5 = wr := ⟨_, rfl⟩
          rw [← hw5]
          rw [← hw5] at hfil hfil' hbel
          have hxl : xs.length = us.length := by rw [HXS.out, hus, adds_length, adds_length]
          have hxs1 : xs.length = s := by rw [HXS.out, adds_length, HOL.out]
          have hx1 : 1 ≤ xs.length := hfil.one
          have HGI := Lib.hid hfil
          have HGI' := Lib.hid hfil'
          have HBM := Lib.hid hbel
          have HXL := Lib.hid hxl
          have hJl : (joinB xs us).length = s := (joinB_length _ _ hxl).trans hxs1
          have hHas : ∀ h, h ∈ ys ++ zs → Has (joinB xs us) h := by
            intro h hm
            have ho1 : 1 ≤ o.length := by rw [HOL.out]; exact hs1
            rcases List.mem_append.1 hm with hm | hm
            · exact (HXS.out ▸ has_adds o ys h ho1 hm : Has xs h).grow (grows_join _ _ hxl) hx1
            · exact (hus ▸ has_adds o zs h ho1 hm : Has us h).grow (grows_join' _ _ hxl) (by omega)
          have hPop : popAll (joinB xs us) ≤ 4 * ((n1 : Int) + n2) := by
            have ho1 : 1 ≤ o.length := by rw [HOL.out]; exact hs1
            have e1 := pop_join xs us hxl
            have e2 := pop_adds o ys ho1
            have e3 := pop_adds o zs ho1
            rw [← HXS.out, HOP.out, HY.out] at e2
            rw [← hus, HOP.out, HZ.out] at e3
            omega
          have HJA := Lib.hid (fun (w : World) (H : Filt w f g xs) (H' : Filt w f' g' us) => join_any w f g f' g' xs us H H' HXL.out)
          clear hfil hfil' hbel hus hxl hw5 hxs1 hx1
          generalize joinB xs us = J at *
          have HJL := Lib.hid hJl
          have HHAS := Lib.hid hHas
          obtain ⟨pj, hpj⟩ : ∃ p, popAll J = p := ⟨_, rfl⟩
          have hpb := popAll_bounds J
          rw [hpj] at hPop hpb
          rw [hJl] at hpb
          have HPJ := Lib.hid hpj
          have HPOP := Lib.hid hPop
          have pj0 : 0 ≤ pj := hpb.1
          clear hJl hHas hPop hpj hpb
          go_wp2_with fail
          refine (HJA.out _ HGI.out HGI'.out).mono ?_
          rintro e wj ⟨rfl, hf, hk⟩
          have HFJ := Lib.hid hf
          have HWJ := Lib.hid (HBM.out.trans (hk.to_below (B := w.heap.size) (fun b hb => ⟨Nat.lt_of_lt_of_le hb HBM.out.size, by have := HGG.out; omega⟩)))
          clear hf hk
          go_wp2_with fail
          refine (bytes_any _ f g J HFJ.out).mono ?_
          rintro e wk ⟨v, rfl, hown, hb⟩
          rw [fileOf_length, HJL.out] at hown
          obtain ⟨A1, cap3, rfl, hc3, hn3, hr3⟩ := own_row hown
          have HR3 := Lib.hid hr3
          have HBK := Lib.hid hb
          clear hown hb hr3 hn3
          go_wp2_with fail
          refine (of_ok A1 (4 + s) cap3 s (fileOf J) _ _ HR3.out (fun b h => h.2.1) (fileOf_bytes HFJ.out.bytes) (by rw [file_num J HFJ.out.most, HJL.out]) hs1 (by omega) rfl).mono ?_
          rintro e wl ⟨fo, go, rfl, hf, hfl, hgl, hb⟩
          rw [file_drop] at hf
          have HFO := Lib.hid hf
          have HFJ2 := Lib.hid ((HFJ.out.belowAll HBK.out).belowAll hb)
          have HWL := Lib.hid ((HWJ.out.trans (HBK.out.mono HWJ.out.size)).trans (hb.mono (Nat.le_trans HWJ.out.size HBK.out.size)))
          clear hf hfl hgl hb
          go_wp2_with fail
          refine (few_any a1 len1 cap1 n1 _ hl1 hc1 HN1.out).mono ?_
          rintro e w' ⟨rfl, rfl⟩
          have HX1L := Lib.hid (HX1.out.below HWL.out (fun b h => h))
          have HX2L := Lib.hid (HX2.out.below HWL.out (fun b h => h))
          go_wp2_with (at_builtin; refine wpList_append_rowG (mk := Value.int .u64) (d := 0) rfl (.tmp 86) (.tmp 88) 22 rfl wl.heap.size 31 i0 (.int .u64 0) 8 Try.underlying22 hi hz0 hz1 hz2 rfl (fun _ => rfl) _ _ _ rfl (own_empty wl 31) (· < w.heap.size) a1 n1 cap1 ys rfl (HX1L.out.keep ?c0) hnl1 ?c2 ?c3 ?c4 ?_)
          case c0 => exact fun p hp => World.cell?_alloc_lt wl _ p (Nat.lt_of_lt_of_le hp HWL.out.size)
          case c2 => unfold maxLen; omega
          case c3 => omega
          case c4 => simp
          intro v1 wm hown1 hgrow1 _
          have hbm : Below wl.heap.size wl wm := ((Below.refl _ _).alloc (Nat.le_refl _) _).grown hgrow1 (by simp) (fun k hk => by simp [Value.ownBlock] at hk; omega)
          have hown1 : wm.ownsRow wl.heap.size 31 1 v1 n1 (ys.map (Value.int .u64)) := by first | exact hown1 | simpa using hown1
          have HBMM := Lib.hid hbm
          have HO1 := Lib.hid hown1
          clear hbm hown1 hgrow1
          go_wp2_with fail
          refine (few_any a2 len2 cap2 n2 _ hl2 hc2 HN2.out).mono ?_
          rintro e w' ⟨rfl, rfl⟩
          go_wp2_with (at_builtin; refine wpList_append_rowG (mk := Value.int .u64) (d := 0) rfl (.tmp 89) (.tmp 91) 22 rfl wl.heap.size 31 i0 (.int .u64 0) 8 Try.underlying22 hi hz0 hz1 hz2 rfl (fun _ => rfl) _ n1 _ rfl HO1.out (· < w.heap.size) a2 n2 cap2 zs rfl (HX2L.out.below HBMM.out (fun b h => Nat.lt_of_lt_of_le h HWL.out.size)) hnl2 ?c2 ?c3 ?c4 ?_)
          case c2 => unfold maxLen; omega
          case c3 => omega
          case c4 => exact HBMM.out.size
          intro v2 wn hown2 hgrow2 _
          have hbn : Below wl.heap.size wl wn := HBMM.out.grown hgrow2 HBMM.out.size (fun g hg => (HO1.out.lt g hg).1)
          have hown2 : wn.ownsRow wl.heap.size 31 1 v2 (n1 + n2) ((ys ++ zs).map (Value.int .u64)) := by first | exact hown2 | (rw [List.map_append]; exact hown2) | simpa using hown2
          obtain ⟨A4, c4, rfl, hc4, hn4, hr4⟩ := rowG_own (mk := Value.int .u64) 0 hown2
          have HR4 := Lib.hid hr4
          have HBN := Lib.hid hbn
          have HFJ3 := Lib.hid (HFJ2.out.belowAll hbn)
          have HFO3 := Lib.hid (HFO.out.belowAll hbn)
          have HWN := Lib.hid (HWL.out.trans (hbn.mono HWL.out.size))
          have HVZ := Lib.hid (show ∀ j, j < n1 + n2 → 0 ≤ (ys ++ zs).getD j 0 ∧ (ys ++ zs).getD j 0 ≤ 18446744073709551615 ∧ (ys ++ zs).getD j 0 ∈ ys ++ zs from fun j hj => by
            have hyl := HY.out
            have hzl := HZ.out
            have hjl : j < (ys ++ zs).length := by rw [List.length_append]; omega
            have hm : (ys ++ zs).getD j 0 ∈ ys ++ zs := by simp only [List.getD, List.getElem?_eq_getElem hjl, Option.getD_some]; exact List.getElem_mem hjl
            have hb : 0 ≤ (ys ++ zs).getD j 0 ∧ (ys ++ zs).getD j 0 ≤ 18446744073709551615 := ?_
            · exact ⟨hb.1, hb.2, hm⟩
            by_cases h : j < n1
            · have := HV1.out j
              simpa [List.getD, List.getElem?_append, show j < ys.length by omega] using this
            · have := HV2.out (j - n1)
              simpa [List.getD, List.getElem?_append, show ¬ j < ys.length by omega, hyl, h] using this)
          generalize ys ++ zs = us2 at *
          clear hbn hown2 hgrow2 hr4 hn4
          go_wp2_with fail
          go_loopw [18, 94] (fun _ i wr => ∃ k : Nat, k ≤ n1 + n2 ∧ i = .int .i64 k ∧ Below wn.heap.size wn wr) (fun _ i _ => n1 + n2 - (intOf i).toNat)
          case atStart => exact ⟨0, by omega, rfl, Below.refl _ _⟩
          case round =>
            obtain ⟨q, hq, rfl, hbel⟩ := hrel
            by_cases hlq : q < n1 + n2
            · obtain ⟨b0, off0, e0, hb0, hc⟩ := (HR4.out.below hbel (fun b h => h.2.1)).2 (by omega)
              subst e0
              have hcell := hc q (by omega)
              have hv := HVZ.out q hlq
              generalize us2.getD q 0 = hh at *
              obtain ⟨h0, h1, hm⟩ := hv
              have HHH := Lib.hid (HHAS.out hh hm)
              have HW := Lib.hid hbel
              have hq2 : (q : Int) < (n1 : Int) + n2 := by omega
              clear hc hbel hm hb0
              go_wp2_with fail
              refine (may_yes _ f g J hh (HFJ3.out.belowAll HW.out) h0 HHH.out).mono ?_
              rintro e wa ⟨rfl, hb⟩
              have HWA := Lib.hid (HW.out.trans (hb.mono HW.out.size))
              clear hb
              go_wp2_with fail
              refine (may_yes _ fo go J hh (HFO3.out.belowAll HWA.out) h0 HHH.out).mono ?_
              rintro e wb ⟨rfl, hb⟩
              have HWB := Lib.hid (HWA.out.trans (hb.mono HWA.out.size))
              clear hb
              go_wp2_with fail
              go_roundw
              case rel => exact ⟨q + 1, by omega, by go_num, HWB.out⟩
              case measure => (simp [intOf] <;> omega)
            · have HW := Lib.hid hbel
              have hq2 : ¬ ((q : Int) < (n1 : Int) + n2) := by omega
              clear hbel
              go_wp2_with fail
              refine (set_is _ f g J (HFJ3.out.belowAll HW.out) pj HPJ.out).mono ?_
              rintro e w' ⟨rfl, rfl⟩
              go_wp2_with fail
              refine (few_any a1 len1 cap1 n1 _ hl1 hc1 HN1.out).mono ?_
              rintro e w' ⟨rfl, rfl⟩
              go_wp2_with fail
              refine (few_any a2 len2 cap2 n2 _ hl2 hc2 HN2.out).mono ?_
              rintro e w' ⟨rfl, rfl⟩
              have hfin : pj ≤ 4 * ((n1 : Int) + n2) := HPOP.out
              go_wp2_with fail
              go_ret
              exact ⟨rfl, HWN.out.trans (HW.out.mono HWN.out.size)⟩

set_option maxRecDepth 100000 in
theorem lifted (os : Os) (started : os.Started) (H : Type) (enc : TypeId × Value → H) :
    ReturnsInHanded {} Try.checked os 8 .any (Rows.bloomHoldsSpec.pre6 enc Try.prog Try.f8 Rows.bloomHoldsRow.domain false) (Rows.bloomHoldsSpec.post enc Try.prog Try.f8 false true false false) := by
  refine returnsInHanded_of_change (C := Try.checked) own started (by kernel_rfl) Try.func8
    (ChangeSpec.witness6 (enc := enc) (C := Try.checked) false ⟨#[], #[.int .i64 0, .slice none 0 0, .slice none 0 0], []⟩ 8 (by kernel_rfl) (by kernel_rfl) (by kernel_rfl) (by kernel_rfl)) ?_
  intro W base args ds gs before hval0 hW hcnd _
  have hval : ∀ (j : Nat) t v, Try.f8.params[j]? = some t → args[j]? = some v → Value.okWide Try.prog W .any base t v := hval0
  have hW' := hW
  obtain ⟨p, q, hA0, hV, rfl, hfz, hnd⟩ := hW
  have hA : DataW.TrodAll enc Try.prog W 0 (fun _ => true) true Try.f8.params.toList args.toList ds p := hA0
  rw [Try.params8] at hA hval
  obtain ⟨v0, vs0, d0, ds0, p0, q0, hargs, rfl, rfl, h0, r0⟩ := trodAll_cons hA
  obtain ⟨v1, vs1, d1, ds1, p1, q1, rfl, rfl, rfl, h1, r1⟩ := trodAll_cons r0
  obtain ⟨v2, vs2, d2, ds2, p2, q2, rfl, rfl, rfl, h2, r2⟩ := trodAll_cons r1
  obtain ⟨rfl, rfl, rfl⟩ := trodAll_nil r2
  obtain rfl : args = #[v0, v1, v2] := by cases args; simp_all
  obtain ⟨rfl, rfl⟩ := trodVars_none hV
  obtain ⟨a0, rfl, rfl, rfl, w0⟩ := open_int Try.underlying3 (hval 0 3 v0 rfl rfl) h0
  obtain ⟨a1, len1, cap1, rfl⟩ := okWide_slice Try.underlying22 (hval 1 22 v1 rfl rfl)
  have k1 := h1
  have lt1 : ∀ x ∈ p1, x.block < W.heap.size := by obtain ⟨m, hm⟩ := k1; exact DataW.trod_lt m _ _ _ hm
  obtain ⟨z1, w1, e1⟩ : ∃ zs, IsRow .u64 W a1 len1 cap1 zs ∧ (cap1 = 0 ∨ d1 = .slice (ChangeShapes.lits .u64 (zs.take len1)) (ChangeShapes.lits .u64 (zs.drop len1)) ∧ zs.length = cap1) := by
    obtain ⟨fuel, hf⟩ := h1
    rcases open_ints Try.underlying22 Try.underlying31 (by kernel_rfl) hf with ⟨hcs, _⟩ | ⟨x, l, c, zs, hcs, _, hl, hm, hz, hx, hcell, hwz⟩
    · simp [Value.cells] at hcs
      obtain ⟨rfl, rfl, rfl⟩ := hcs
      exact ⟨[], .inl ⟨rfl, rfl, rfl, rfl⟩, .inl rfl⟩
    · simp [Value.cells] at hcs
      obtain ⟨rfl, rfl, rfl⟩ := hcs
      have hz' : zs.length = cap1 := by simpa using hz
      exact ⟨zs, .inr ⟨_, rfl, hl, hm, hz', hcell, hwz⟩, .inr ⟨(Prod.mk.injEq _ _ _ _ ▸ hx).1, hz'⟩⟩
  obtain ⟨a2, len2, cap2, rfl⟩ := okWide_slice Try.underlying22 (hval 2 22 v2 rfl rfl)
  have k2 := h2
  have lt2 : ∀ x ∈ p2, x.block < W.heap.size := by obtain ⟨m, hm⟩ := k2; exact DataW.trod_lt m _ _ _ hm
  obtain ⟨z2, w2, e2⟩ : ∃ zs, IsRow .u64 W a2 len2 cap2 zs ∧ (cap2 = 0 ∨ d2 = .slice (ChangeShapes.lits .u64 (zs.take len2)) (ChangeShapes.lits .u64 (zs.drop len2)) ∧ zs.length = cap2) := by
    obtain ⟨fuel, hf⟩ := h2
    rcases open_ints Try.underlying22 Try.underlying31 (by kernel_rfl) hf with ⟨hcs, _⟩ | ⟨x, l, c, zs, hcs, _, hl, hm, hz, hx, hcell, hwz⟩
    · simp [Value.cells] at hcs
      obtain ⟨rfl, rfl, rfl⟩ := hcs
      exact ⟨[], .inl ⟨rfl, rfl, rfl, rfl⟩, .inl rfl⟩
    · simp [Value.cells] at hcs
      obtain ⟨rfl, rfl, rfl⟩ := hcs
      have hz' : zs.length = cap2 := by simpa using hz
      exact ⟨zs, .inr ⟨_, rfl, hl, hm, hz', hcell, hwz⟩, .inr ⟨(Prod.mk.injEq _ _ _ _ ▸ hx).1, hz'⟩⟩
  clear hA0 hval0
  refine (walk a0 a1 len1 cap1 z1 a2 len2 cap2 z2 W w0 w1 w2).mono fun e W' ⟨he, bel⟩ => ?_
  subst he
  exact ⟨_, rfl, _, _, _, [], _, [], hW', trodAll_mk1 (shut_bool Try.underlying4 _), (trodAll_cons_mk (shut_int Try.underlying3 w0) (trodAll_cons_mk (Below.trod laidOut (by kernel_rfl) (of_decide_eq_true (by kernel_rfl)) k1 bel lt1) (trodAll_cons_mk (Below.trod laidOut (by kernel_rfl) (of_decide_eq_true (by kernel_rfl)) k2 bel lt2) trodAll_mk0))), rfl, bel.frame _, fun h => by cases h⟩

theorem over : Rows.bloomHoldsRow.holds Try.pinned (OpenSpec.ofChange Rows.bloomHoldsSpec) :=
  OpenClaim.holds_of_wide 8 Try.f8 rfl rfl rfl rfl rfl rfl rfl ⟨rfl, rfl, rfl, rfl, rfl⟩ rfl rfl rfl rfl rfl (by kernel_rfl) Try.func8 (by kernel_rfl)
    (of_decide_eq_true (by kernel_rfl)) (by unfold Func.isWrapper; first | (rw [if_pos (by decide +kernel)]; kernel_rfl) | (rw [if_neg (by decide +kernel)]; exact ⟨rfl, rfl⟩))
    (fun os started H enc _ => lifted os started H enc)

theorem proved : Rows.BloomHoldsSaid := over
end Go.Proofs.Yteblfcbfgkbanaa.bloomHolds
