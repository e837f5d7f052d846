/- Lists in memory: the small functions, and how a number comes and goes. -/
import Derived.Test.YthegbimolbhikaaLrM
namespace Go.Proofs.Ythegbimolbhikaa
open Go.RowKit
attribute [local go_sem] Oper.semAt_some
set_option linter.unusedVariables false
set_option linter.unusedSimpArgs false
set_option maxRecDepth 100000
section
variable {w w' : World} {x p n L : Nat} {A B C len : Nat → Nat}
theorem behind_any (h : LrM w x p n L A B C len) (a : Nat) (ha : a < n + L) : Calls Try.prog 46 #[.pointer (some ⟨x, 0, none⟩), .int .i64 (a : Nat)] w fun e w' => e = .returned (.pointer (some ⟨p, aC a + 64, none⟩)) ∧ w' = w := by
  have h1 := h.cp
  have h2 := h.n2
  have h3 := h.l2
  have HX := Lib.hid h
  clear h
  go_enter Try.func46, Try.ntmps46
  go_wp2
  go_ret
  exact ⟨by simp [aC], rfl⟩
theorem plist_any (h : LrM w x p n L A B C len) (a : Nat) (ha : a < n + L) : Calls Try.prog 31 #[.pointer (some ⟨x, 0, none⟩), .int .i64 (a : Nat)] w fun e w' => e = .returned (.pointer (some ⟨p, aC a + 128, none⟩)) ∧ w' = w := by
  have h1 := h.cp
  have h2 := h.n2
  have h3 := h.l2
  have HX := Lib.hid h
  clear h
  go_enter Try.func31, Try.ntmps31
  go_wp2
  go_ret
  exact ⟨by simp [aC], rfl⟩
theorem hasList_any (h : LrM w x p n L A B C len) (i : Int) : Calls Try.prog 29 #[.pointer (some ⟨x, 0, none⟩), .int .i64 i] w fun e w' => e = .returned (.bool (decide (0 ≤ i ∧ i < L))) ∧ w' = w := by
  have h1 := h.cl
  have HX := Lib.hid h
  clear h
  go_enter Try.func29, Try.ntmps29
  by_cases q1 : 0 ≤ i
  · by_cases q2 : i < L
    · go_wp2
      go_ret
      exact ⟨ret_bool (by simp [q1, q2]), rfl⟩
    · go_wp2
      go_ret
      exact ⟨ret_bool (by simp [q1, q2]), rfl⟩
  · go_wp2
    go_ret
    exact ⟨ret_bool (by simp; omega), rfl⟩
theorem hasList_nil (w : World) (i : Int) : Calls Try.prog 29 #[.pointer none, .int .i64 i] w fun e w' => e = .returned (.bool false) ∧ w' = w := by
  go_enter Try.func29, Try.ntmps29
  go_wp2
  go_ret
  exact ⟨rfl, rfl⟩
theorem hasNumber_any (h : LrM w x p n L A B C len) (i : Int) : Calls Try.prog 30 #[.pointer (some ⟨x, 0, none⟩), .int .i64 i] w fun e w' => e = .returned (.bool (decide (hasN n i))) ∧ w' = w := by
  have h1 := h.cn
  have HX := Lib.hid h
  clear h
  unfold hasN
  go_enter Try.func30, Try.ntmps30
  by_cases q1 : 0 ≤ i
  · by_cases q2 : i < n
    · go_wp2
      go_ret
      exact ⟨ret_bool (by simp [q1, q2]), rfl⟩
    · go_wp2
      go_ret
      exact ⟨ret_bool (by simp [q1, q2]), rfl⟩
  · go_wp2
    go_ret
    exact ⟨ret_bool (decide_eq_false (by omega)).symm, rfl⟩
theorem join_any (h : LrM w x p n L A B C len) (u v : Nat) (hu : u < n + L) (hv : v < n + L) : Calls Try.prog 27 #[.pointer (some ⟨x, 0, none⟩), .int .i64 (u : Nat), .int .i64 (v : Nat)] w
    fun e w' => e = .returned (.tuple #[]) ∧ LrM w' x p n L (updN A v u) (updN B u v) C len ∧ Kept (fun b => b ≠ x ∧ b ≠ p) w w' := by
  have h1 := h.cb hu
  have h2 := h.ca hv
  have f1 := h.pc.frozen (aC u + 64)
  have f2 := h.pc.frozen (aC v)
  have HX := Lib.hid h
  have HB := Lib.hid (behind_any h u hu)
  have HA := Lib.hid (ahead_any h v hv)
  have HS := Lib.hid (h.setB u v)
  clear h hu hv
  obtain ⟨cu, hcu⟩ : ∃ cu, cu = aC u + 64 := ⟨_, rfl⟩
  obtain ⟨cv, hcv⟩ : ∃ cv, cv = aC v := ⟨_, rfl⟩
  have HS2 := Lib.hid (HS.out.setA v u)
  rw [← hcu] at h1 f1 HB HS2
  rw [← hcv] at h2 f2 HA HS2
  have hne : cu ≠ cv := by rw [hcu, hcv]; unfold aC; omega
  have HC := Lib.hid hcu
  clear hcu hcv
  go_enter Try.func27, Try.ntmps27
  go_wp2_with fail
  refine HB.out.mono ?_
  rintro e w2 ⟨rfl, rfl⟩
  go_wp2_with fail
  refine HA.out.mono ?_
  rintro e w2 ⟨rfl, rfl⟩
  go_wp2
  (first | go_ret | go_ret2 | go_end0)
  exact ⟨rfl, HS2.out, ((Kept.refl _ _).setCell (by simp) _).setCell (by simp) _⟩
end
end Go.Proofs.Ythegbimolbhikaa
