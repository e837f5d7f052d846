/- What the laws of layer 4 call besides: bytes.Equal, size, few, agree, wakes. -/
import Derived.Test.YteblfcbfgkbanaaBloomOf
import Derived.Test.YteblfcbfgkbanaaRef4
import Derived.Test.YteblfcbfgkbanaaRef6
namespace Go.Proofs.Yteblfcbfgkbanaa
open Go.RowKit
set_option linter.unusedVariables false

theorem nums_inj {s t : ByteArray} (h : nums s = nums t) : s = t := by
  have hl : s.size = t.size := by rw [← nums_length s, h, nums_length]
  apply ByteArray.ext
  apply Array.ext hl
  intro i h1 h2
  have g1 := nums_get s i h1
  have g2 := nums_get t i h2
  rw [h, g2] at g1
  have : t[i].toNat = s[i].toNat := by omega
  exact (UInt8.toNat_inj.1 this).symm

theorem equal_yes (A A' : Option Addr) (n c c' : Nat) (xs : List Int) (S S' : Nat → Prop) (w : World) (hx : RowI .u8 w S A n xs) (hx' : RowI .u8 w S' A' n xs) (hS : ∀ b, S b → b < w.heap.size) (hS' : ∀ b, S' b → b < w.heap.size) (hb : Bytes xs) :
    Calls Try.prog 24 #[.slice A n c, .slice A' n c'] w fun e w' => e = .returned (.bool true) ∧ w = w' := by
  obtain ⟨s, hs, hns⟩ := conv_string (P := Try.prog) w 42 9 5 Try.underlying42 Try.underlying5 Try.underlying9 c (hx.more (T := (· < w.heap.size)) hS).toRow hb
  obtain ⟨t, ht, hnt⟩ := conv_string (P := Try.prog) w 42 9 5 Try.underlying42 Try.underlying5 Try.underlying9 c' (hx'.more (T := (· < w.heap.size)) hS').toRow hb
  obtain rfl : s = t := nums_inj (hns.trans hnt.symm)
  clear hns hnt hx hx'
  go_enter Try.func24, Try.ntmps24
  go_wp2
  go_ret
  exact ⟨rfl, rfl⟩

/-- How many bytes of bits a filter has that is played with. -/
def sizeK (n : Int) : Nat := 1 + (n % 18446744073709551616 % 200).toNat
theorem sizeK_bounds (n : Int) : 1 ≤ sizeK n ∧ sizeK n ≤ 200 := by unfold sizeK; omega

theorem size_any (n : Int) (w : World) : Calls Try.prog 12 #[.int .i64 n] w fun e w' => e = .returned (.int .i64 (8 * (sizeK n : Int))) ∧ w = w' := by
  go_enter Try.func12, Try.ntmps12
  go_wp2
  go_ret
  refine ⟨ret_int ?_, rfl⟩
  have h1 : (sizeK n : Int) = 1 + n % 18446744073709551616 % 200 := by unfold sizeK; omega
  have hx : 0 ≤ n % 18446744073709551616 % 200 ∧ n % 18446744073709551616 % 200 < 200 := by omega
  rw [IntKind.wrap_u64, Int.tmod_eq_emod_of_nonneg (by omega), h1]
  generalize n % 18446744073709551616 % 200 = x at *
  rw [IntWalk.wrap64_in x ⟨by omega, by omega⟩, IntWalk.wrap64_in (1 + x) ⟨by omega, by omega⟩, IntWalk.wrap64_in (8 * (1 + x)) ⟨by omega, by omega⟩]

theorem few_any (A : Option Addr) (n c m : Nat) (w : World) (hn : n ≤ 9223372036854775807) (hc : n ≤ c) (hm : m = min n 100) :
    Calls Try.prog 13 #[.slice A n c] w fun e w' => e = .returned (.slice A m c) ∧ w = w' := by
  by_cases h : n ≤ 100
  · obtain rfl : m = n := by omega
    have h2 : ¬ (100 : Int) < m := by omega
    clear hm
    go_enter Try.func13, Try.ntmps13
    go_wp2
    go_ret
    exact ⟨rfl, rfl⟩
  · obtain rfl : m = 100 := by omega
    have h2 : (100 : Int) < n := by omega
    clear hm
    go_enter Try.func13, Try.ntmps13
    go_wp2
    go_ret
    exact ⟨rfl, rfl⟩

/-- One more row of bytes of the call's own, as the calls below ask it. -/
theorem own_row {w : World} {base : Nat} {v : Value} {n : Nat} {xs : List Int} (h : w.ownsRow base 5 1 v n (xs.map (Value.int .u8))) :
    ∃ A cap, v = .slice A n cap ∧ n ≤ cap ∧ (A = none → cap = 0) ∧ RowI .u8 w (fun b => base ≤ b ∧ b < w.heap.size ∧ v.ownBlock = some b) A n xs := rowG_own 0 h

theorem fileOf_bytes {xs : List Int} (h : Bytes xs) : Bytes (fileOf xs) := by
  intro j
  unfold fileOf
  by_cases hj : j < 4
  · have := beBytes_bytes ((8 * xs.length : Nat) : Int) 4 j
    simpa [List.getD, List.getElem?_append, beBytes_length, hj] using this
  · have := h (j - 4)
    simpa [List.getD, List.getElem?_append, beBytes_length, hj] using this
theorem fileOf_length (xs : List Int) : (fileOf xs).length = 4 + xs.length := by simp [fileOf, beBytes_length]

set_option maxHeartbeats 2000000 in
theorem agree_any (w : World) (f h : Nat) (xs : List Int) (A : Option Addr) (m c : Nat) (S : Nat → Prop) (H : Filt w f h xs) (hl : RowB w S A m (bitsOf xs)) (hS : ∀ b, S b → b < w.heap.size) :
    Calls Try.prog 19 #[.pointer (some ⟨f, 0, none⟩), .slice A m c] w fun e w' => e = .returned (.bool true) ∧ Below w.heap.size w w' := by
  have hm : m = 8 * xs.length := by rw [← bitsOf_length]; exact hl.1.symm
  have hn := H.most
  have h1 := H.one
  have HF := Lib.hid H
  have HL := Lib.hid hl
  subst hm
  clear H hl
  go_enter Try.func19, Try.ntmps19
  go_wp2_with fail
  refine (bytes_any _ f h xs HF.out).mono ?_
  rintro e w1 ⟨v1, rfl, hown1, hb1⟩
  obtain ⟨A1, cap1, rfl, hc1, hn1, hr1⟩ := own_row hown1
  have HO1 := Lib.hid hown1
  have HB1 := Lib.hid hb1
  have HR1 := Lib.hid hr1
  clear hown1 hb1 hr1
  go_wp2_with fail
  refine (ref_bytes A (8 * xs.length) c xs S _ (HL.out.below HB1.out hS) (fun b hb => Nat.lt_of_lt_of_le (hS b hb) HB1.out.size) HF.out.bytes hn h1).mono ?_
  rintro e w2 ⟨v2, rfl, hown2, hb2⟩
  obtain ⟨A2, cap2, rfl, hc2, hn2, hr2⟩ := own_row hown2
  have HO2 := Lib.hid hown2
  have HB2 := Lib.hid hb2
  have HR2 := Lib.hid hr2
  have HR12 := Lib.hid (HR1.out.below hb2 (fun b h => h.2.1))
  have HF2 := Lib.hid ((HF.out.belowAll HB1.out).belowAll hb2)
  clear hown2 hb2 hr2
  go_wp2_with fail
  refine (bits_any _ f h xs HF2.out).mono ?_
  rintro e w' ⟨rfl, rfl⟩
  go_wp2_with fail
  refine (set_any _ f h xs HF2.out).mono ?_
  rintro e w' ⟨rfl, rfl⟩
  rw [popAll_count]
  go_wp2_with fail
  refine (ref_set A (8 * xs.length) c (bitsOf xs) S _ ((HL.out.below HB1.out hS).below HB2.out (fun b hb => Nat.lt_of_lt_of_le (hS b hb) HB1.out.size)) (by omega)).mono ?_
  rintro e w' ⟨rfl, rfl⟩
  go_wp2_with fail
  refine (equal_yes _ _ _ _ _ (fileOf xs) _ _ _ HR12.out HR2.out (fun b hb => Nat.lt_of_lt_of_le hb.2.1 HB2.out.size) (fun b hb => hb.2.1) (fileOf_bytes HF.out.bytes)).mono ?_
  rintro e w' ⟨rfl, rfl⟩
  obtain ⟨g, cap, hv, hg, hgl⟩ := HO1.out.form (by rw [fileOf_length]; omega)
  injection hv with hA1 _ hcp
  subst hA1 hcp
  have HO12 := Lib.hid (HO1.out.kept (row := none) ⟨HB2.out.os, HB2.out.tape, HB2.out.output, HB2.out.size, fun k hk _ => HB2.out.block k hk⟩ (.inr (by simp [Value.ownBlock])))
  have HG := Lib.hid hg
  have HGL := Lib.hid hgl
  clear hg hgl
  have hlen := fileOf_length xs
  generalize hfn : (fileOf xs).length = n at *
  have HFN := Lib.hid hfn
  have hn4 : n ≤ 9000 := by omega
  clear hfn hlen
  go_wp2_with fail
  go_loopw [7, 32] (fun _ i wr => ∃ (k : Nat) (ys : List Value), k ≤ n ∧ i = .int .i64 k ∧ wr.ownsRow w.heap.size 5 1 (.slice (some ⟨g, 0, none⟩) n cap1) n ys ∧ Kept (fun b => b < w2.heap.size ∧ b ≠ g) w2 wr) (fun _ i _ => n - (intOf i).toNat)
  case atStart => exact ⟨0, _, by omega, rfl, HO12.out, Kept.refl _ _⟩
  case round =>
    obtain ⟨k, ys, hk, rfl, hown, hkept⟩ := hrel
    by_cases hlt : k < n
    · have hyl : ys.length = n := by simpa using hown.1
      have hch := hown.cellAt k (by omega)
      rw [List.getElem?_eq_getElem (by omega)] at hch
      generalize ys[k]'(by omega) = u at hch
      have hfr := hown.frozenAt k
      have hst := hown.stored k (.int .u8 238)
      have HST := Lib.hid hst
      have HK := Lib.hid hkept
      clear hst hkept hown hyl
      go_wp2
      go_roundw
      case rel => exact ⟨k + 1, _, by omega, by go_num, HST.out.1, HK.out.setCell (fun h => h.2 rfl) _⟩
      case measure => (simp [intOf] <;> omega)
    · obtain rfl : k = n := by omega
      have HK := Lib.hid hkept
      clear hkept hown
      go_wp2_with fail
      have HW2 := Lib.hid (Nat.le_trans HB1.out.size HB2.out.size)
      refine (bytes_any _ f h xs (HF2.out.kept HK.out ⟨HF2.out.ltf, by have := HF.out.ltf; have := HG.out; omega⟩ ⟨HF2.out.lth, by have := HF.out.lth; have := HG.out; omega⟩)).mono ?_
      rintro e w3 ⟨v3, rfl, hown3, hb3⟩
      rw [HFN.out] at hown3
      obtain ⟨A3, cap3, rfl, hc3, hn3, hr3⟩ := own_row hown3
      have HB3 := Lib.hid hb3
      have HR3 := Lib.hid hr3
      have HR23 := Lib.hid ((HR2.out.kept HK.out (fun b hb => ⟨hb.2.1, by have := HGL.out; omega⟩)).below hb3 (fun b hb => Nat.lt_of_lt_of_le hb.2.1 HK.out.size))
      clear hown3 hb3 hr3
      go_wp2_with fail
      refine (equal_yes _ _ _ _ _ (fileOf xs) _ _ _ HR3.out HR23.out (fun b hb => hb.2.1) (fun b hb => Nat.lt_of_lt_of_le hb.2.1 (Nat.le_trans HK.out.size HB3.out.size)) (fileOf_bytes HF.out.bytes)).mono ?_
      rintro e w' ⟨rfl, rfl⟩
      go_wp2_with fail
      go_ret
      refine ⟨rfl, ((HB1.out.trans (HB2.out.mono HB1.out.size)).trans (HK.out.to_below (fun b hb => ⟨?_, ?_⟩))).trans (HB3.out.mono ?_)⟩
      · have := HW2.out; omega
      · have := HG.out; omega
      · exact Nat.le_trans HW2.out HK.out.size

/-! The layer does something. -/

theorem bitsOf_zeros (k : Nat) : bitsOf (List.replicate k 0) = List.replicate (8 * k) false := by
  apply List.ext_getElem
  · simp [bitsOf_length]
  · intro j h1 h2
    have hj : j < 8 * k := by simpa using h2
    have g := bitsOf_get (List.replicate k 0) j (by simpa using hj)
    rw [List.getD_eq_getElem?_getD, List.getElem?_eq_getElem h1, Option.getD_some] at g
    rw [g]
    have e : (List.replicate k (0 : Int)).getD (j / 8) 0 = 0 := by
      by_cases h : j / 8 < k <;> simp [List.getD, h]
    rw [e]
    simp [bitOf]

set_option maxHeartbeats 1000000 in
theorem wakes_any (w : World) : Calls Try.prog 10 #[] w fun e w' => e = .returned (.bool true) ∧ Below w.heap.size w w' := by
  have hm0 : allSet (bitsOf (List.replicate 2 0)) (nums4 0 (List.replicate 2 0)) = false := by decide +kernel
  have hm1 : allSet (bitsOf (setBits (List.replicate 2 0) (nums4 0 (List.replicate 2 0)))) (nums4 0 (setBits (List.replicate 2 0) (nums4 0 (List.replicate 2 0)))) = true := by decide +kernel
  have hs : popAll (setBits (List.replicate 2 0) (nums4 0 (List.replicate 2 0))) = 4 := by decide +kernel
  have hl : (setBits (List.replicate 2 0) (nums4 0 (List.replicate 2 0))).length = 2 := by decide +kernel
  have HM0 := Lib.hid hm0
  have HM1 := Lib.hid hm1
  have HS := Lib.hid hs
  have HLEN := Lib.hid hl
  clear hm0 hm1 hs hl
  go_enter Try.func10, Try.ntmps10
  go_wp2_with fail
  refine (new_ok 16 2 _ rfl (by omega) (by omega)).mono ?_
  rintro e w1 ⟨rfl, hf, hb⟩
  generalize hff : w.heap.size + 1 = f at *
  generalize hhh : w.heap.size = h at *
  have HFF := Lib.hid (show h ≤ f by omega)
  have HF1 := Lib.hid hf
  have HB1 := Lib.hid hb
  clear hf hb hff
  go_wp2_with fail
  refine (may_any _ f h (List.replicate 2 0) 0 HF1.out (by omega)).mono ?_
  rintro e w2 ⟨rfl, hb⟩
  rw [HM0.out]
  have HF2 := Lib.hid (HF1.out.belowAll hb)
  have HB2 := Lib.hid hb
  clear hb
  go_wp2_with fail
  refine (add_any _ f h (List.replicate 2 0) 0 HF2.out (by omega)).mono ?_
  rintro e w3 ⟨rfl, hf, hk⟩
  generalize setBits (List.replicate 2 0) (nums4 0 (List.replicate 2 0)) = xs at *
  have HF3 := Lib.hid hf
  have HK3 := Lib.hid hk
  clear hf hk
  go_wp2_with fail
  refine (may_any _ f h xs 0 HF3.out (by omega)).mono ?_
  rintro e w4 ⟨rfl, hb⟩
  rw [HM1.out]
  have HF4 := Lib.hid (HF3.out.belowAll hb)
  have HB4 := Lib.hid hb
  clear hb
  go_wp2_with fail
  refine (set_any _ f h xs HF4.out).mono ?_
  rintro e w' ⟨rfl, rfl⟩
  rw [HS.out]
  go_wp2_with fail
  refine (bits_any _ f h xs HF4.out).mono ?_
  rintro e w' ⟨rfl, rfl⟩
  rw [HLEN.out]
  go_wp2_with fail
  refine (bytes_any _ f h xs HF4.out).mono ?_
  rintro e w5 ⟨v, rfl, hown, hb⟩
  rw [fileOf_length, HLEN.out] at hown
  obtain ⟨g, cap, rfl, _, _⟩ := hown.form (by omega)
  have HB5 := Lib.hid hb
  clear hb hown
  go_wp2_with fail
  go_ret
  refine ⟨rfl, ?_⟩
  have h12 : w.heap.size ≤ w2.heap.size := Nat.le_trans HB1.out.size HB2.out.size
  have h13 : w.heap.size ≤ w3.heap.size := Nat.le_trans h12 HK3.out.size
  rw [hhh]
  rw [hhh] at h12 h13
  refine (((HB1.out.trans (HB2.out.mono ?_)).trans (HK3.out.to_below (fun b hb => ⟨by omega, by omega⟩))).trans (HB4.out.mono h13)).trans (HB5.out.mono (Nat.le_trans h13 HB4.out.size))
  have := HB1.out.size
  omega

end Go.Proofs.Yteblfcbfgkbanaa
