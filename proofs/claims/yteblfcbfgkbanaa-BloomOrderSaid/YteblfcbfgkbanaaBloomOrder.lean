/- For every two ints and every list of hashes: hashes added in order, and added twice each in an order that is turned, make filters of the same bytes. No condition. -/
import Derived.Test.YteblfcbfgkbanaaRows
import Derived.WalkKit
import Derived.ProofKit
import Derived.OpenShut
import Derived.ShutString
import Derived.ChangeOld
import Derived.Below
import Derived.Test.YteblfcbfgkbanaaPlay5
namespace Go.Proofs.Yteblfcbfgkbanaa.bloomOrder
open Go.ChangeShapes Go.WideShapes Go.ChangeAt Go.RowKit
open Go.ChangeMaps (open_string shut_string)
set_option linter.unusedVariables false

theorem own : ownKnob Try.prog.godebug = none := by kernel_rfl
theorem laidOut : laidOutB Try.prog = true := by kernel_rfl

/-- A slice of integers that came in: nil; or a row of 'cap' cells, the numbers 'zs', each fitting its kind. -/
def IsRow (k : IntKind) (w : World) (a : Option Addr) (len cap : Nat) (zs : List Int) : Prop :=
  (a = none ∧ len = 0 ∧ cap = 0 ∧ zs = []) ∨
  ∃ x : Addr, a = some x ∧ len ≤ cap ∧ cap ≤ maxLen ∧ zs.length = cap ∧ (∀ i, i < zs.length → w.cell? (x.add i) = some (.int k (zs.getD i 0))) ∧ ∀ n ∈ zs, (Lit.int k n).wf = true

/-- Where the turned order stands, as the law reckons it. -/
theorem turn_index (t : Int) (k n : Nat) (hk : k < n) (hn : n ≤ 100) (q : Nat) (hq : q = (k + (t % 18446744073709551616 % n).toNat) % n) :
    (wrap64 ((k : Int) + wrap64 ((IntKind.u64.wrap t).tmod (n : Int)))).tmod (n : Int) = (q : Int) := by
  have h0 : 0 ≤ t % 18446744073709551616 := by omega
  rw [IntKind.wrap_u64, Int.tmod_eq_emod_of_nonneg h0]
  have h1 := Int.emod_nonneg (t % 18446744073709551616) (show (n : Int) ≠ 0 by omega)
  have h2 := Int.emod_lt_of_pos (t % 18446744073709551616) (show (0 : Int) < n by omega)
  subst hq
  generalize t % 18446744073709551616 % (n : Int) = x at *
  obtain ⟨r, rfl⟩ := Int.eq_ofNat_of_zero_le h1
  rw [IntWalk.wrap64_in (r : Int) ⟨by omega, by omega⟩, IntWalk.wrap64_in ((k : Int) + r) ⟨by omega, by omega⟩, Int.tmod_eq_emod_of_nonneg (by omega), Int.toNat_natCast]
  simp

set_option maxHeartbeats 4000000 in
set_option maxRecDepth 100000 in
theorem walk (a0 : Int) (a1 : Option Addr) (len1 cap1 : Nat) (z1 : List Int) (a2 : Int) (w : World) (w0 : (Lit.int .i64 a0).wf = true) (w1 : IsRow .u64 w a1 len1 cap1 z1) (w2 : (Lit.int .i64 a2).wf = true) :
    Calls Try.prog 9 #[.int .i64 a0, .slice a1 len1 cap1, .int .i64 a2] w fun e w' => e = .returned (.bool true) ∧ Below w.heap.size w w' := by
  have r1 := row64_of w1 -- HEARTS
  obtain ⟨hx1, hv1, hc1, hl1, hnl1⟩ := r1
  have ht : -9223372036854775808 ≤ a2 ∧ a2 ≤ 9223372036854775807 := by simpa [Lit.wf, IntKind.min, IntKind.max, IntKind.signed, IntKind.bits] using w2
  have hsb := sizeK_bounds a0
  have hsize := fun w => size_any a0 w
  generalize sizeK a0 = s at *
  have HSIZE := Lib.hid hsize
  obtain ⟨n1, hn1⟩ : ∃ n, n = min len1 100 := ⟨_, rfl⟩
  have n1le : n1 ≤ 100 := by omega
  have n1l : n1 ≤ len1 := by omega
  have hx1' := hx1.take n1 n1l
  have hv1' := hv1.take n1
  generalize (z1.take len1).take n1 = ys at *
  have HN1 := Lib.hid hn1
  have HX1 := Lib.hid hx1'
  have HY := Lib.hid hx1'.1
  have HV1 := Lib.hid hv1'
  have hs1 := hsb.1
  have hs2 := hsb.2
  obtain ⟨t0, t1⟩ := ht
  clear w0 w1 w2 hx1 hv1 hn1 hsize hsb hx1' hv1' hnl1
  obtain ⟨o, ho⟩ : ∃ o, o = List.replicate s (0 : Int) := ⟨_, rfl⟩
  have HOL := Lib.hid (show o.length = s by rw [ho, List.length_replicate])
  have HOB := Lib.hid (show Bytes o by rw [ho]; exact zeros_bytes s)
  have hnew := Lib.hid (fun w => new_ok (8 * (s : Int)) s w rfl hs1 (by omega))
  rw [← ho] at hnew
  clear ho
  go_enter Try.func9, Try.ntmps9
  go_wp2_with fail
  refine (wakes_any w).mono ?_
  rintro e w1 ⟨rfl, hb1⟩
  have HB1 := Lib.hid hb1
  clear hb1
  go_wp2_with fail
  refine (HSIZE.out _).mono ?_
  rintro e w' ⟨rfl, rfl⟩
  go_wp2_with fail
  refine (hnew.out _).mono ?_
  rintro e w2 ⟨rfl, hf, hb⟩
  have HB2 := Lib.hid (HB1.out.trans (hb.mono HB1.out.size))
  have HF2 := Lib.hid hf
  generalize hff : w1.heap.size + 1 = f at *
  generalize hgg : w1.heap.size = g at *
  have HGG := Lib.hid (show w.heap.size ≤ g by have := HB1.out.size; omega)
  clear hb hf hff hgg
  go_wp2_with fail
  refine (HSIZE.out _).mono ?_
  rintro e w' ⟨rfl, rfl⟩
  go_wp2_with fail
  refine (hnew.out _).mono ?_
  rintro e w3 ⟨rfl, hf, hb⟩
  have HB3 := Lib.hid (HB2.out.trans (hb.mono HB2.out.size))
  have HF3 := Lib.hid hf
  have HF23 := Lib.hid (HF2.out.belowAll hb)
  generalize hff : w2.heap.size + 1 = f' at *
  generalize hgg : w2.heap.size = g' at *
  have HGG' := Lib.hid (show w.heap.size ≤ g' by have := HB2.out.size; omega)
  have HNE := Lib.hid (show g ≠ g' by have := HF2.out.lth; omega)
  clear hb hf hff hgg
  go_wp2_with fail
  refine (few_any a1 len1 cap1 n1 _ hl1 hc1 HN1.out).mono ?_
  rintro e w' ⟨rfl, rfl⟩
  go_wp2_with fail
  go_loopw [11, 36] (fun _ i wr => ∃ (k : Nat) (xs us : List Int), k ≤ n1 ∧ i = .int .i64 k ∧ xs = adds o (ys.take k) ∧ us = adds o (turned ys (a2 % 18446744073709551616 % n1).toNat n1 k) ∧ Filt wr f g xs ∧ Filt wr f' g' us ∧ Below w.heap.size w wr) (fun _ i _ => n1 - (intOf i).toNat)
  case atStart => exact ⟨0, o, o, by omega, rfl, rfl, rfl, HF23.out, HF3.out, HB3.out⟩
  case round =>
    obtain ⟨k, xs, us, hk, rfl, hxs, hus, hfil, hfil', hbel⟩ := hrel
    by_cases hlt : k < n1
    · obtain ⟨b0, off0, e0, hb0, hc⟩ := HX1.out.2 (by omega)
      subst e0
      have hcell := (hbel.cell (p := ⟨b0, off0 + k, none⟩) hb0).trans (hc k (by omega))
      obtain ⟨q, hq⟩ : ∃ q, q = (k + (a2 % 18446744073709551616 % n1).toNat) % n1 := ⟨_, rfl⟩
      have hqn : q < n1 := by rw [hq]; exact Nat.mod_lt _ (by omega)
      have hidx := turn_index a2 k n1 hlt n1le q hq
      have hturn : adds o (turned ys (a2 % 18446744073709551616 % n1).toNat n1 (k + 1)) = addF (addF us (ys.getD q 0)) (ys.getD q 0) := by
        rw [turned_succ, ← hq, adds_snoc, adds_snoc, ← hus]
      have hcq := hc q hqn
      have hvq := HV1.out q
      generalize ys.getD q 0 = hj at *
      obtain ⟨h2, h3⟩ := hvq
      have HCQ := Lib.hid hcq
      have HUT := Lib.hid hturn.symm
      clear hcq hturn hq
      have hv := HV1.out k
      have hstep := adds_take o ys k (by have := HY.out; omega)
      rw [← hxs] at hstep
      generalize ys.getD k 0 = hh at *
      obtain ⟨h0, h1⟩ := hv
      have HGI := Lib.hid hfil
      have HGI' := Lib.hid hfil'
      have HST := Lib.hid hstep
      have HBM := Lib.hid hbel
      have HUS := Lib.hid hus
      have hn0 : ((n1 : Int) == 0) = false := by simp; omega
      have hn00 : (0 : Int) < n1 := by omega
      clear hc hfil hfil' hstep hbel hus hxs
      go_wp2_with fail
      refine (add_told _ f g xs hh HGI.out h0).mono ?_
      rintro e wc ⟨rfl, hf, hk⟩
      have HFC := Lib.hid hf
      have HFC' := Lib.hid (HGI.out.kept_far HGI'.out HNE.out hk)
      have HBC := Lib.hid (HBM.out.trans (hk.to_below (B := w.heap.size) (fun b hb => ⟨Nat.lt_of_lt_of_le hb HBM.out.size, by have := HGG.out; omega⟩)))
      clear hf hk
      have hcellq := (HBC.out.cell (p := ⟨b0, off0 + q, none⟩) hb0).trans HCQ.out
      go_wp2_with fail
      refine (add_told _ f' g' us hj HFC'.out h2).mono ?_
      rintro e wd ⟨rfl, hf, hk⟩
      have HFD := Lib.hid hf
      have HFD' := Lib.hid (HFC'.out.kept_far HFC.out HNE.out.symm hk)
      have HBD := Lib.hid (HBC.out.trans (hk.to_below (B := w.heap.size) (fun b hb => ⟨Nat.lt_of_lt_of_le hb HBC.out.size, by have := HGG'.out; omega⟩)))
      clear hf hk hcellq
      have hcellq := (HBD.out.cell (p := ⟨b0, off0 + q, none⟩) hb0).trans HCQ.out
      go_wp2_with fail
      refine (add_told _ f' g' _ hj HFD.out h2).mono ?_
      rintro e we ⟨rfl, hf, hk⟩
      have HFE := Lib.hid hf
      have HFE' := Lib.hid (HFD.out.kept_far HFD'.out HNE.out.symm hk)
      have HBE := Lib.hid (HBD.out.trans (hk.to_below (B := w.heap.size) (fun b hb => ⟨Nat.lt_of_lt_of_le hb HBD.out.size, by have := HGG'.out; omega⟩)))
      clear hf hk hcellq
      go_wp2_with fail
      go_roundw
      case rel => exact ⟨k + 1, _, _, by omega, by go_num, HST.out.symm, HUT.out, HFE'.out, HFE.out, HBE.out⟩
      case measure => (simp [intOf] <;> omega)
    · obtain rfl : n1 = k := by omega
      rw [List.take_of_length_le (by have := HY.out; omega)] at hxs
      have ho1 : 1 ≤ o.length := by rw [HOL.out]; exact hs1
      have hsame : xs = us := by
        rw [hxs, hus]
        by_cases h0 : n1 = 0
        · have : ys = [] := List.eq_nil_of_length_eq_zero (by rw [HY.out]; exact h0)
          subst h0
          rw [this]
          simp [turned]
        · refine adds_same HOB.out ho1 _ _ (turned_mem ys _ n1 HY.out ?_)
          have h1 := Int.emod_nonneg (a2 % 18446744073709551616) (show (n1 : Int) ≠ 0 by omega)
          have h2 := Int.emod_lt_of_pos (a2 % 18446744073709551616) (show (0 : Int) < n1 by omega)
          omega
      subst hsame
      have HGI := Lib.hid hfil
      have HGI' := Lib.hid hfil'
      have HBM := Lib.hid hbel
      obtain ⟨m, hm⟩ : ∃ m, (fileOf xs).length = m := ⟨_, rfl⟩
      have HM := Lib.hid hm
      clear hfil hfil' hbel hxs hus ho1 hm
      go_wp2_with fail
      refine (bytes_any _ f g xs HGI.out).mono ?_
      rintro e wk ⟨v, rfl, hown, hb⟩
      rw [HM.out] at hown
      obtain ⟨A1, cap3, rfl, _, _, hr3⟩ := own_row hown
      have HR3 := Lib.hid hr3
      have HBK := Lib.hid hb
      clear hown hb hr3
      go_wp2_with fail
      refine (bytes_any _ f' g' xs (HGI'.out.belowAll HBK.out)).mono ?_
      rintro e wl ⟨v, rfl, hown, hb⟩
      rw [HM.out] at hown
      obtain ⟨A2, cap4, rfl, _, _, hr4⟩ := own_row hown
      have HR4 := Lib.hid hr4
      have HR34 := Lib.hid (HR3.out.below hb (fun b h => h.2.1))
      have HBL2 := Lib.hid hb
      clear hown hb hr4
      go_wp2_with fail
      refine (equal_yes _ _ _ _ _ (fileOf xs) _ _ _ HR34.out HR4.out (fun b h => Nat.lt_of_lt_of_le h.2.1 HBL2.out.size) (fun b h => h.2.1) (fileOf_bytes HGI.out.bytes)).mono ?_
      rintro e w' ⟨rfl, rfl⟩
      go_wp2_with fail
      go_ret
      exact ⟨rfl, (HBM.out.trans (HBK.out.mono HBM.out.size)).trans (HBL2.out.mono (Nat.le_trans HBM.out.size HBK.out.size))⟩

set_option maxRecDepth 100000 in
theorem lifted (os : Os) (started : os.Started) (H : Type) (enc : TypeId × Value → H) :
    ReturnsInHanded {} Try.checked os 9 .any (Rows.bloomOrderSpec.pre6 enc Try.prog Try.f9 Rows.bloomOrderRow.domain false) (Rows.bloomOrderSpec.post enc Try.prog Try.f9 false true false false) := by
  refine returnsInHanded_of_change (C := Try.checked) own started (by kernel_rfl) Try.func9
    (ChangeSpec.witness6 (enc := enc) (C := Try.checked) false ⟨#[], #[.int .i64 0, .slice none 0 0, .int .i64 0], []⟩ 8 (by kernel_rfl) (by kernel_rfl) (by kernel_rfl) (by kernel_rfl)) ?_
  intro W base args ds gs before hval0 hW hcnd _
  have hval : ∀ (j : Nat) t v, Try.f9.params[j]? = some t → args[j]? = some v → Value.okWide Try.prog W .any base t v := hval0
  have hW' := hW
  obtain ⟨p, q, hA0, hV, rfl, hfz, hnd⟩ := hW
  have hA : DataW.TrodAll enc Try.prog W 0 (fun _ => true) true Try.f9.params.toList args.toList ds p := hA0
  rw [Try.params9] at hA hval
  obtain ⟨v0, vs0, d0, ds0, p0, q0, hargs, rfl, rfl, h0, r0⟩ := trodAll_cons hA
  obtain ⟨v1, vs1, d1, ds1, p1, q1, rfl, rfl, rfl, h1, r1⟩ := trodAll_cons r0
  obtain ⟨v2, vs2, d2, ds2, p2, q2, rfl, rfl, rfl, h2, r2⟩ := trodAll_cons r1
  obtain ⟨rfl, rfl, rfl⟩ := trodAll_nil r2
  obtain rfl : args = #[v0, v1, v2] := by cases args; simp_all
  obtain ⟨rfl, rfl⟩ := trodVars_none hV
  obtain ⟨a0, rfl, rfl, rfl, w0⟩ := open_int Try.underlying3 (hval 0 3 v0 rfl rfl) h0
  obtain ⟨a1, len1, cap1, rfl⟩ := okWide_slice Try.underlying22 (hval 1 22 v1 rfl rfl)
  have k1 := h1
  have lt1 : ∀ x ∈ p1, x.block < W.heap.size := by obtain ⟨m, hm⟩ := k1; exact DataW.trod_lt m _ _ _ hm
  obtain ⟨z1, w1, e1⟩ : ∃ zs, IsRow .u64 W a1 len1 cap1 zs ∧ (cap1 = 0 ∨ d1 = .slice (ChangeShapes.lits .u64 (zs.take len1)) (ChangeShapes.lits .u64 (zs.drop len1)) ∧ zs.length = cap1) := by
    obtain ⟨fuel, hf⟩ := h1
    rcases open_ints Try.underlying22 Try.underlying31 (by kernel_rfl) hf with ⟨hcs, _⟩ | ⟨x, l, c, zs, hcs, _, hl, hm, hz, hx, hcell, hwz⟩
    · simp [Value.cells] at hcs
      obtain ⟨rfl, rfl, rfl⟩ := hcs
      exact ⟨[], .inl ⟨rfl, rfl, rfl, rfl⟩, .inl rfl⟩
    · simp [Value.cells] at hcs
      obtain ⟨rfl, rfl, rfl⟩ := hcs
      have hz' : zs.length = cap1 := by simpa using hz
      exact ⟨zs, .inr ⟨_, rfl, hl, hm, hz', hcell, hwz⟩, .inr ⟨(Prod.mk.injEq _ _ _ _ ▸ hx).1, hz'⟩⟩
  obtain ⟨a2, rfl, rfl, rfl, w2⟩ := open_int Try.underlying3 (hval 2 3 v2 rfl rfl) h2
  clear hA0 hval0
  refine (walk a0 a1 len1 cap1 z1 a2 W w0 w1 w2).mono fun e W' ⟨he, bel⟩ => ?_
  subst he
  exact ⟨_, rfl, _, _, _, [], _, [], hW', trodAll_mk1 (shut_bool Try.underlying4 _), (trodAll_cons_mk (shut_int Try.underlying3 w0) (trodAll_cons_mk (Below.trod laidOut (by kernel_rfl) (of_decide_eq_true (by kernel_rfl)) k1 bel lt1) (trodAll_cons_mk (shut_int Try.underlying3 w2) trodAll_mk0))), rfl, bel.frame _, fun h => by cases h⟩

theorem over : Rows.bloomOrderRow.holds Try.pinned (OpenSpec.ofChange Rows.bloomOrderSpec) :=
  OpenClaim.holds_of_wide 9 Try.f9 rfl rfl rfl rfl rfl rfl rfl ⟨rfl, rfl, rfl, rfl, rfl⟩ rfl rfl rfl rfl rfl (by kernel_rfl) Try.func9 (by kernel_rfl)
    (of_decide_eq_true (by kernel_rfl)) (by unfold Func.isWrapper; first | (rw [if_pos (by decide +kernel)]; kernel_rfl) | (rw [if_neg (by decide +kernel)]; exact ⟨rfl, rfl⟩))
    (fun os started H enc _ => lifted os started H enc)

theorem proved : Rows.BloomOrderSaid := over
end Go.Proofs.Yteblfcbfgkbanaa.bloomOrder
