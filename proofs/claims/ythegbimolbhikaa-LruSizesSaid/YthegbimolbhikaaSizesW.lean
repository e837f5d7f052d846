/- Stage 12: LruSizes. -/
import Derived.Test.YthegbimolbhikaaWakes12
import Derived.Test.YthegbimolbhikaaArgs
namespace Go.Proofs.Ythegbimolbhikaa
open Go.RowKit
attribute [local go_sem] Oper.semAt_some
set_option linter.unusedVariables false
set_option linter.unusedSimpArgs false
set_option maxRecDepth 100000
theorem pushX_no {n : Nat} {xs : List (List Nat)} {i k : Int} (h : pushE n xs i k ≠ 0) : pushX n xs i k = xs := if_neg h
def rightX (n L : Int) : Bool := decide (1 ≤ n ∧ n ≤ 65536 ∧ 1 ≤ L ∧ L ≤ 64)
theorem right_any (n L : Int) (w : World) : Calls Try.prog 20 #[.int .i64 n, .int .i64 L] w fun e w' => e = .returned (.bool (rightX n L)) ∧ w' = w := by
  unfold rightX
  go_enter Try.func20, Try.ntmps20
  by_cases h1 : 1 ≤ n
  · by_cases h2 : n ≤ 65536
    · by_cases h3 : 1 ≤ L
      · by_cases h4 : L ≤ 64
        · go_wp2
          go_ret
          exact ⟨ret_bool (by simp [h1, h2, h3, h4]), rfl⟩
        · go_wp2
          go_ret
          exact ⟨ret_bool (by simp [h1, h2, h3, h4]), rfl⟩
      · go_wp2
        go_ret
        exact ⟨ret_bool (by simp [h1, h2, h3]; omega), rfl⟩
    · go_wp2
      go_ret
      exact ⟨ret_bool (by simp [h1, h2]; omega), rfl⟩
  · go_wp2
    go_ret
    exact ⟨ret_bool (by simp; omega), rfl⟩
set_option maxHeartbeats 4000000 in
theorem sizes_law (n L : Int) (w : World) (hn : n ≤ 9223372036854775807 ∧ -9223372036854775808 ≤ n ∧ L ≤ 9223372036854775807 ∧ -9223372036854775808 ≤ L) : Calls Try.prog 4 #[.int .i64 n, .int .i64 L] w fun e w' => e = .returned (.bool true) ∧ Below w.heap.size w w' := by
  have HW := Lib.hid (wakes12 w)
  have HR := Lib.hid (right_any n L)
  by_cases hr : 1 ≤ n ∧ n ≤ 65536 ∧ 1 ≤ L ∧ L ≤ 64
  · rw [show rightX n L = true from decide_eq_true hr] at HR
    obtain ⟨n, rfl⟩ : ∃ m : Nat, n = (m : Int) := ⟨n.toNat, by omega⟩
    obtain ⟨L, rfl⟩ : ∃ m : Nat, L = (m : Int) := ⟨L.toNat, by omega⟩
    have HN := Lib.hid (fun (W : World) => new_ok n L (by omega) (by omega) (by omega) (by omega) W)
    have hr2 : 1 ≤ n ∧ n ≤ 65536 ∧ 1 ≤ L ∧ L ≤ 64 := by omega
    have hg : ∀ i, (List.replicate L ([] : List Nat)).getD i [] = [] := fun i => by simp only [List.getD, List.getElem?_replicate]; split <;> rfl
    have hw0 : ∀ k, whX (List.replicate L []) k = 0 := fun k => whX_zero.2 fun i => by rw [hg]; simp
    have e1 : pushE n (List.replicate L []) ((L : Int) - 1) ((n : Int) - 1) = 0 := by
      unfold pushE
      rw [if_neg, if_neg (by rw [hw0]; simp)]
      unfold hasL hasN
      rw [List.length_replicate]
      omega
    have e2 : ∀ xs : List (List Nat), xs.length = L → pushE n xs (L : Int) 0 = 2 := fun xs h => by
      unfold pushE
      rw [if_pos (.inl (by unfold hasL; omega))]
    have e3 : ∀ xs : List (List Nat), xs.length = L → pushE n xs 0 (n : Int) = 2 := fun xs h => by
      unfold pushE
      rw [if_pos (.inr (by unfold hasN; omega))]
    have e4 : ∀ xs : List (List Nat), outE n xs (n : Int) = 2 ∧ outE n xs (-1) = 2 := fun xs => by
      unfold outE
      rw [if_pos (by unfold hasN; omega), if_pos (by unfold hasN; omega)]
      exact ⟨rfl, rfl⟩
    have e5 : (ofX (pushX n (List.replicate L []) ((L : Int) - 1) ((n : Int) - 1)) ((L : Int) - 1)).length = 1 := by
      have hp : pushX n (List.replicate L []) ((L : Int) - 1) ((n : Int) - 1) = putX (List.replicate L []) (L - 1) (n - 1) := by
        unfold pushX
        rw [if_pos e1, outX_none (by intro i; rw [hg]; simp), show ((L : Int) - 1).toNat = L - 1 by omega, show ((n : Int) - 1).toNat = n - 1 by omega]
      rw [hp]
      unfold ofX
      rw [if_pos (by unfold hasL; rw [putX_len, List.length_replicate]; omega), show ((L : Int) - 1).toNat = L - 1 by omega, putX_same _ _ (by rw [List.length_replicate]; omega), hg]
      rfl
    have HE1 := Lib.hid e1
    have HE2 := Lib.hid e2
    have HE3 := Lib.hid e3
    have HE4 := Lib.hid e4
    have HE5 := Lib.hid e5
    clear e1 e2 e3 e4 e5 hw0 hg hr hn
    go_enter Try.func4, Try.ntmps4
    go_wp2_with fail
    refine HW.out.mono ?_
    rintro e w1 ⟨rfl, hb⟩
    have HB1 := Lib.hid hb
    have hs1 := hb.size
    clear hb HW
    go_wp2_with fail
    refine (HN.out w1).mono ?_
    rintro e w2 ⟨x, p, rfl, hl, hb1, hx, hp⟩
    have HB2 := Lib.hid (HB1.out.trans (hb1.mono hs1))
    have HP := Lib.hid (push_lr hl ((L : Int) - 1) ((n : Int) - 1))
    rw [HE1.out] at HP
    clear hl hb1 HN
    go_wp2_with (first | (go_at_call 20; refine (HR.out _).mono ?_; rintro e w3 ⟨rfl, rfl⟩) | fail)
    refine HP.out.mono ?_
    rintro e w4 ⟨rfl, hl, hk⟩
    have HB3 := Lib.hid (HB2.out.trans (hk.to_below fun b hb => ⟨by omega, by omega⟩))
    have HL := Lib.hid (len_any hl ((L : Int) - 1))
    rw [HE5.out] at HL
    have hlen := pushX_len n (List.replicate L []) ((L : Int) - 1) ((n : Int) - 1)
    rw [List.length_replicate] at hlen
    generalize pushX n (List.replicate L []) ((L : Int) - 1) ((n : Int) - 1) = xs at *
    have HP2 := Lib.hid (push_lr hl (L : Int) 0)
    rw [HE2.out xs hlen, pushX_no (by rw [HE2.out xs hlen]; decide)] at HP2
    clear hl hk HP
    go_wp2_with fail
    refine HP2.out.mono ?_
    rintro e w5 ⟨rfl, hl, hk⟩
    have HB4 := Lib.hid (HB3.out.trans (hk.to_below fun b hb => ⟨by omega, by omega⟩))
    have HP3 := Lib.hid (push_lr hl 0 (n : Int))
    rw [HE3.out xs hlen, pushX_no (by rw [HE3.out xs hlen]; decide)] at HP3
    clear hl hk HP2
    go_wp2_with fail
    refine HP3.out.mono ?_
    rintro e w6 ⟨rfl, hl, hk⟩
    have HB5 := Lib.hid (HB4.out.trans (hk.to_below fun b hb => ⟨by omega, by omega⟩))
    have HL2 := Lib.hid (len_any hl ((L : Int) - 1))
    rw [HE5.out] at HL2
    have HT := Lib.hid (touch_lr hl (n : Int))
    rw [(HE4.out xs).1] at HT
    rw [show touchX n xs (n : Int) = xs from if_neg (by rw [(HE4.out xs).1]; decide)] at HT
    clear hl hk HP3 HL
    go_wp2_with (first | (go_at_call 21; refine HL2.out.mono ?_; rintro e w3 ⟨rfl, rfl⟩) | fail)
    refine HT.out.mono ?_
    rintro e w7 ⟨rfl, hl, hk⟩
    have HB6 := Lib.hid (HB5.out.trans (hk.to_below fun b hb => ⟨by omega, by omega⟩))
    have HRM := Lib.hid (remove_lr hl (-1))
    rw [(HE4.out xs).2] at HRM
    clear hl hk HT
    go_wp2_with fail
    refine HRM.out.mono ?_
    rintro e w8 ⟨rfl, hl, hk⟩
    have HB7 := Lib.hid (HB6.out.trans (hk.to_below fun b hb => ⟨by omega, by omega⟩))
    clear hl hk HRM
    go_wp2
    (first | go_ret | go_ret2)
    exact ⟨rfl, HB7.out⟩
  · rw [show rightX n L = false from decide_eq_false hr] at HR
    have HN := Lib.hid (fun (W : World) => new_bad n L (by omega) W)
    clear hr
    go_enter Try.func4, Try.ntmps4
    go_wp2_with fail
    refine HW.out.mono ?_
    rintro e w1 ⟨rfl, hb⟩
    have HB1 := Lib.hid hb
    clear hb HW
    go_wp2_with (first | (go_at_call 9; refine (HN.out _).mono ?_; rintro e w3 ⟨rfl, rfl⟩) | (go_at_call 20; refine (HR.out _).mono ?_; rintro e w3 ⟨rfl, rfl⟩))
    go_ret
    exact ⟨rfl, HB1.out⟩
end Go.Proofs.Ythegbimolbhikaa
