/- Lists in memory: Push, Touch, Remove. -/
import Derived.Test.YthegbimolbhikaaLrC
namespace Go.Proofs.Ythegbimolbhikaa
open Go.RowKit
attribute [local go_sem] Oper.semAt_some
set_option linter.unusedVariables false
set_option linter.unusedSimpArgs false
set_option maxRecDepth 100000
section
variable {w w' : World} {x p n : Nat} {xs : List (List Nat)}
/-- putIn, takeOut, by the lists alone. -/
theorem put_lr (h : LrV w x p n xs) (i k : Nat) (hi : i < xs.length) (hk : k < n) (h0 : whX xs k = 0) : Calls Try.prog 32 #[.pointer (some ⟨x, 0, none⟩), .int .i64 (i : Nat), .int .i64 (k : Nat)] w
    fun e w' => e = .returned (.tuple #[]) ∧ LrV w' x p n (putX xs i k) ∧ Kept (fun b => b ≠ x ∧ b ≠ p) w w' := by
  have hlen := h.len i
  obtain ⟨A, B, C, len, hM, hR⟩ := h
  have hw := hR.wh hk
  have hb : B (n + i) < n + xs.length := by
    rw [hR.first hi]
    cases e : xs.getD i [] with
    | nil => simp; exact hi
    | cons y l => have := hR.lt i y (by rw [e]; simp); simp; omega
  refine (putIn_any hM i k _ hi hk rfl hb (by rw [hR.ln i hi]; exact hlen)).mono ?_
  rintro e w2 ⟨rfl, h2, h3⟩
  exact ⟨rfl, ⟨_, _, _, _, by rw [putX_len]; exact h2, hR.put hi hk (by omega) rfl⟩, h3⟩
theorem out_lr (h : LrV w x p n xs) (k i : Nat) (hi : whX xs k = i + 1) : Calls Try.prog 37 #[.pointer (some ⟨x, 0, none⟩), .int .i64 (i : Nat), .int .i64 (k : Nat)] w
    fun e w' => e = .returned (.tuple #[]) ∧ LrV w' x p n (outX xs k) ∧ Kept (fun b => b ≠ x ∧ b ≠ p) w w' := by
  have hlen := h.len i
  obtain ⟨A, B, C, len, hM, hR⟩ := h
  obtain ⟨h1, h2⟩ := whX_some (xs := xs) (x := k) (by omega)
  rw [hi, Nat.add_sub_cancel] at h1 h2
  have hk := hR.lt i k h2
  obtain ⟨r1, r2, r3⟩ := hR.out h1 h2 rfl rfl
  have hpos : 1 ≤ (xs.getD i []).length := by
    cases e : xs.getD i [] with
    | nil => rw [e] at h2; cases h2
    | cons y l => simp
  have hl := hR.ln i h1
  rw [hl] at r1
  refine (takeOut_any hM i k _ _ _ h1 hk rfl rfl r2 r3 hl ⟨hpos, hlen⟩).mono ?_
  rintro e w2 ⟨rfl, h2, h3⟩
  exact ⟨rfl, ⟨_, _, _, _, by rw [outX_len]; exact h2, r1⟩, h3⟩
theorem whX_out (xs : List (List Nat)) (k : Nat) : whX (outX xs k) k = 0 := by
  rw [whX_zero]
  intro i
  rw [outX_getD]
  simp
theorem ofE {n : Nat} {xs : List (List Nat)} {k : Int} (h : outE n xs k = 0) : ∃ (m i : Nat), k = m ∧ m < n ∧ whX xs m = i + 1 := by
  unfold outE at h
  split at h
  · cases h
  · rename_i hn
    split at h
    · cases h
    · rename_i h0
      have hn := Decidable.not_not.1 hn
      exact ⟨k.toNat, whX xs k.toNat - 1, by have := hn.1; omega, by have := hn.1; have := hn.2; omega, by omega⟩
theorem remove_lr (h : LrV w x p n xs) (k : Int) : Calls Try.prog 17 #[.pointer (some ⟨x, 0, none⟩), .int .i64 k] w
    fun e w' => e = .returned (.int .i64 (outE n xs k)) ∧ LrV w' x p n (remX n xs k) ∧ Kept (fun b => b ≠ x ∧ b ≠ p) w w' := by
  have HW := Lib.hid (where_any h k)
  have HX := Lib.hid h
  by_cases he : outE n xs k = 0
  · obtain ⟨m, i, rfl, hm, hi⟩ := ofE he
    have HO := Lib.hid (out_lr h m i hi)
    have e1 : whV n xs (m : Int) = (i : Int) := by unfold whV; rw [if_pos he]; simp [hi]
    have e2 : remX n xs (m : Int) = outX xs m := by unfold remX; rw [if_pos he]; simp
    rw [he, e2]
    rw [e1, he] at HW
    clear h e1 e2 he hi
    go_enter Try.func17, Try.ntmps17
    go_wp2_with fail
    refine HW.out.mono ?_
    rintro e w2 ⟨rfl, rfl⟩
    go_wp2_with fail
    refine HO.out.mono ?_
    rintro e w3 ⟨rfl, h2, h3⟩
    have H2 := Lib.hid h2
    have H3 := Lib.hid h3
    clear h2 h3
    go_wp2
    (first | go_ret | go_ret2)
    exact ⟨rfl, H2.out, H3.out⟩
  · have e1 : whV n xs k = 0 := by unfold whV; rw [if_neg he]
    have e2 : remX n xs k = xs := by unfold remX; rw [if_neg he]
    rw [e2]
    rw [e1] at HW
    clear h e1 e2
    generalize outE n xs k = v at *
    go_enter Try.func17, Try.ntmps17
    go_wp2_with fail
    refine HW.out.mono ?_
    rintro e w2 ⟨rfl, rfl⟩
    go_wp2
    (first | go_ret | go_ret2)
    exact ⟨rfl, HX.out, Kept.refl _ _⟩
theorem touch_lr (h : LrV w x p n xs) (k : Int) : Calls Try.prog 15 #[.pointer (some ⟨x, 0, none⟩), .int .i64 k] w
    fun e w' => e = .returned (.int .i64 (outE n xs k)) ∧ LrV w' x p n (touchX n xs k) ∧ Kept (fun b => b ≠ x ∧ b ≠ p) w w' := by
  have HW := Lib.hid (where_any h k)
  have HX := Lib.hid h
  by_cases he : outE n xs k = 0
  · obtain ⟨m, i, rfl, hm, hi⟩ := ofE he
    have hil := (whX_some (xs := xs) (x := m) (by omega)).1
    rw [hi, Nat.add_sub_cancel] at hil
    have HO := Lib.hid (out_lr h m i hi)
    have HP := Lib.hid (fun (W : World) (hW : LrV W x p n (outX xs m)) => put_lr hW i m (by rw [outX_len]; exact hil) hm (whX_out xs m))
    have e1 : whV n xs (m : Int) = (i : Int) := by unfold whV; rw [if_pos he]; simp [hi]
    have e2 : touchX n xs (m : Int) = putX (outX xs m) i m := by unfold touchX; rw [if_pos he]; simp [hi]
    rw [he, e2]
    rw [e1, he] at HW
    clear h e1 e2 he hi
    go_enter Try.func15, Try.ntmps15
    go_wp2_with fail
    refine HW.out.mono ?_
    rintro e w2 ⟨rfl, rfl⟩
    go_wp2_with fail
    refine HO.out.mono ?_
    rintro e w3 ⟨rfl, h2, h3⟩
    have HP2 := Lib.hid (HP.out _ h2)
    have H3 := Lib.hid h3
    clear h2 h3
    go_wp2_with fail
    refine HP2.out.mono ?_
    rintro e w4 ⟨rfl, h2, h3⟩
    have H2 := Lib.hid h2
    have H4 := Lib.hid (H3.out.trans h3 fun _ h => h)
    clear h2 h3
    go_wp2
    (first | go_ret | go_ret2)
    exact ⟨rfl, H2.out, H4.out⟩
  · have e1 : whV n xs k = 0 := by unfold whV; rw [if_neg he]
    have e2 : touchX n xs k = xs := by unfold touchX; rw [if_neg he]
    rw [e2]
    rw [e1] at HW
    clear h e1 e2
    generalize outE n xs k = v at *
    go_enter Try.func15, Try.ntmps15
    go_wp2_with fail
    refine HW.out.mono ?_
    rintro e w2 ⟨rfl, rfl⟩
    go_wp2
    (first | go_ret | go_ret2)
    exact ⟨rfl, HX.out, Kept.refl _ _⟩
theorem push_lr (h : LrV w x p n xs) (i k : Int) : Calls Try.prog 13 #[.pointer (some ⟨x, 0, none⟩), .int .i64 i, .int .i64 k] w
    fun e w' => e = .returned (.int .i64 (pushE n xs i k)) ∧ LrV w' x p n (pushX n xs i k) ∧ Kept (fun b => b ≠ x ∧ b ≠ p) w w' := by
  have HX := Lib.hid h
  have hput := fun i k => put_lr h i k
  obtain ⟨A, B, C, len, hM, hR⟩ := h
  have HH := Lib.hid (hasList_any hM i)
  have HN := Lib.hid (hasNumber_any hM k)
  by_cases hi : hasL xs i
  · rw [decide_eq_true (show 0 ≤ i ∧ i < (xs.length : Nat) from hi)] at HH
    by_cases hk : hasN n k
    · rw [decide_eq_true hk] at HN
      obtain ⟨i, rfl⟩ : ∃ m : Nat, i = (m : Int) := ⟨i.toNat, by have := hi.1; omega⟩
      obtain ⟨k, rfl⟩ : ∃ m : Nat, k = (m : Int) := ⟨k.toNat, by have := hk.1; omega⟩
      have hi2 : i < xs.length := by have := hi.2; omega
      have hk2 : k < n := by have := hk.2; omega
      have hcc := hM.cc (a := k) (by omega)
      rw [← hR.wh hk2] at hcc
      have HP := Lib.hid (plist_any hM k (by omega))
      have e0 : pushE n xs (i : Int) (k : Int) = if whX xs k = 0 then 0 else 5 := by unfold pushE; rw [if_neg (by simp [hi, hk])]; by_cases h0 : whX xs k = 0 <;> simp [h0]
      by_cases h0 : whX xs k = 0
      · have e1 : pushX n xs (i : Int) (k : Int) = putX xs i k := by
          unfold pushX; rw [e0, if_pos h0, if_pos rfl]
          simp only [Int.toNat_natCast]
          rw [outX_none (whX_zero.1 h0)]
        rw [e0, e1, if_pos h0]
        rw [h0] at hcc
        have HPI := Lib.hid (hput i k hi2 hk2 h0)
        clear hM hR e0 e1 hi hk hput h0
        go_enter Try.func13, Try.ntmps13
        go_wp2_with (first | (go_at_call 29; refine HH.out.mono ?_; rintro e w2 ⟨rfl, rfl⟩) | (go_at_call 30; refine HN.out.mono ?_; rintro e w2 ⟨rfl, rfl⟩) | (go_at_call 31; refine HP.out.mono ?_; rintro e w2 ⟨rfl, rfl⟩) | (go_at_call 32; refine HPI.out.mono ?_; rintro e w3 ⟨rfl, h2, h3⟩; have H2 := Lib.hid h2; have H3 := Lib.hid h3; clear h2 h3))
        (first | go_ret | go_ret2)
        exact ⟨rfl, H2.out, H3.out⟩
      · have e1 : pushX n xs (i : Int) (k : Int) = xs := by unfold pushX; rw [e0, if_neg h0, if_neg (by decide)]
        rw [e0, e1, if_neg h0]
        have h0' : ((whX xs k : Int) != 0) = true := by simp; exact h0
        clear hM hR e0 e1 hi hk hput h0
        generalize whX xs k = c at *
        go_enter Try.func13, Try.ntmps13
        go_wp2_with (first | (go_at_call 29; refine HH.out.mono ?_; rintro e w2 ⟨rfl, rfl⟩) | (go_at_call 30; refine HN.out.mono ?_; rintro e w2 ⟨rfl, rfl⟩) | (go_at_call 31; refine HP.out.mono ?_; rintro e w2 ⟨rfl, rfl⟩))
        (first | go_ret | go_ret2)
        exact ⟨rfl, HX.out, Kept.refl _ _⟩
    · rw [decide_eq_false hk] at HN
      have e0 : pushE n xs i k = 2 := by unfold pushE; rw [if_pos (.inr hk)]
      have e1 : pushX n xs i k = xs := by unfold pushX; rw [e0, if_neg (by decide)]
      rw [e0, e1]
      clear hM hR e0 e1 hi hk hput
      go_enter Try.func13, Try.ntmps13
      go_wp2_with (first | (go_at_call 29; refine HH.out.mono ?_; rintro e w2 ⟨rfl, rfl⟩) | (go_at_call 30; refine HN.out.mono ?_; rintro e w2 ⟨rfl, rfl⟩))
      (first | go_ret | go_ret2)
      exact ⟨rfl, HX.out, Kept.refl _ _⟩
  · rw [decide_eq_false (show ¬ (0 ≤ i ∧ i < (xs.length : Nat)) from hi)] at HH
    have e0 : pushE n xs i k = 2 := by unfold pushE; rw [if_pos (.inl hi)]
    have e1 : pushX n xs i k = xs := by unfold pushX; rw [e0, if_neg (by decide)]
    rw [e0, e1]
    clear hM hR e0 e1 hi hput
    go_enter Try.func13, Try.ntmps13
    go_wp2_with (first | (go_at_call 29; refine HH.out.mono ?_; rintro e w2 ⟨rfl, rfl⟩))
    (first | go_ret | go_ret2)
    exact ⟨rfl, HX.out, Kept.refl _ _⟩
end
end Go.Proofs.Ythegbimolbhikaa
