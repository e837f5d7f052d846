/- The document's Size and Class; SlabClasses. -/
import Derived.Test.YtgipkdkfecegkaaDoorWakes11
namespace Go.Proofs.YtgipkdkfecegkaaDoor
open Go.RowKit Go.Shelf PgM
attribute [local go_sem] Oper.semAt_some
set_option linter.unusedVariables false
set_option linter.unusedSimpArgs false
set_option maxHeartbeats 2000000 in
theorem ref_size (c : Int) (w : World) : Calls Tryd.prog 11 #[.int .i64 c] w fun e w' => e = .returned (.int .i64 (szZ c : Nat)) ∧ Below w.heap.size w w' := by
  go_enter Tryd.func11, Tryd.ntmps11
  by_cases h0 : c < 0
  · go_wp2
    go_ret
    refine ⟨?_, Below.refl _ _⟩
    unfold szZ
    rw [if_pos h0]
    rfl
  · by_cases h8 : 7 < c
    · have h8' : c > 7 := h8
      go_wp2
      go_ret
      refine ⟨?_, Below.refl _ _⟩
      unfold szZ
      rw [if_neg (by omega), (szN_hi (k := c.toNat) (by omega)).1]
      rfl
    · obtain rfl | rfl | rfl | rfl | rfl | rfl | rfl | rfl : c = 0 ∨ c = 1 ∨ c = 2 ∨ c = 3 ∨ c = 4 ∨ c = 5 ∨ c = 6 ∨ c = 7 := by omega
      all_goals (
        go_wp2
        go_ret
        exact ⟨rfl, (Below.refl _ w).alloc (Nat.le_refl _) _⟩)
set_option maxHeartbeats 2000000 in
theorem ref_class (n : Int) (w : World) : Calls Tryd.prog 10 #[.int .i64 n] w fun e w' => e = .returned (.tuple #[.int .i64 (clsK n : Nat), .int .i64 (clsE n : Nat)]) ∧ Below w.heap.size w w' := by
  go_enter Tryd.func10, Tryd.ntmps10
  by_cases h0 : n < 0
  · go_wp2
    go_ret2
    refine ⟨?_, Below.refl _ _⟩
    unfold clsK clsE
    rw [if_pos h0, if_pos h0]
    rfl
  · go_wp2_with fail
    go_loopw [4] (fun i wr => ∃ j : Nat, i = .int .i64 j ∧ j ≤ 8 ∧ (1 ≤ j → (szN (j - 1) : Int) < n) ∧ Below w.heap.size w wr) (fun i _ => 8 - (intOf i).toNat)
    case atStart => exact ⟨0, rfl, by omega, fun h => absurd h (by omega), Below.refl _ _⟩
    case round =>
      obtain ⟨j, rfl, hj, hlt, hB⟩ := hrel
      have HB := Lib.hid hB
      clear hB
      have hkey : ∀ (s : Int) (k : Nat), (k < 8) → szN k = s → (∀ n : Int, 0 ≤ n → n ≤ s → (1 ≤ k → (szN (k - 1) : Int) < n) → clsK n = k ∧ clsE n = 0) := by
        intro s k hk hs n hn hle hl
        have h8 : k = 0 ∨ k = 1 ∨ k = 2 ∨ k = 3 ∨ k = 4 ∨ k = 5 ∨ k = 6 ∨ k = 7 := by omega
        subst hs
        rcases h8 with rfl | rfl | rfl | rfl | rfl | rfl | rfl | rfl <;> simp [szN] at hle hl <;> (unfold clsK clsE; constructor <;> repeat' split) <;> omega
      have HKEY := Lib.hid hkey
      have h0' : 0 ≤ n := by omega
      clear hkey
      by_cases h8 : j = 8
      · subst h8
        go_wp2
        go_ret2
        refine ⟨?_, HB.out⟩
        simp [szN] at hlt
        have e1 : clsK n = 0 := by (unfold clsK; repeat' split) <;> omega
        have e2 : clsE n = 3 := by (unfold clsE; repeat' split) <;> omega
        rw [e1, e2]
        rfl
      · have hjl : j < 8 := by omega
        have hz : szZ (j : Int) = szN j := szZ_nat j
        have hrs := ref_size (j : Int)
        rw [hz] at hrs
        obtain ⟨s, hs⟩ : ∃ s, szN j = s := ⟨_, rfl⟩
        rw [hs] at hrs
        by_cases hle : n ≤ s
        · have hk := HKEY.out s j hjl (by rw [hs]) n h0' hle hlt
          have HK := Lib.hid hk
          have HRS := Lib.hid hrs
          clear hk hs hz hlt hrs
          go_wp2_with fail
          refine (HRS.out _).mono ?_
          rintro e w3 ⟨rfl, hb3⟩
          go_wp2
          go_ret2
          refine ⟨?_, HB.out.trans (hb3.mono HB.out.size)⟩
          rw [HK.out.1, HK.out.2]
          rfl
        · have HS := Lib.hid (show ((szN (j + 1 - 1) : Nat) : Int) < n by simp [hs]; omega)
          have HRS := Lib.hid hrs
          clear hs hz hlt hrs
          go_wp2_with fail
          refine (HRS.out _).mono ?_
          rintro e w3 ⟨rfl, hb3⟩
          have HB3 := Lib.hid (HB.out.trans (hb3.mono HB.out.size))
          clear hb3
          go_wp2
          go_roundw
          case rel => exact ⟨j + 1, by simp, by omega, fun _ => HS.out, HB3.out⟩
          case measure => show 8 - (Int.toNat ((j : Int) + 1)) < 8 - (Int.toNat (j : Int)); omega

theorem quo_sz (c : Int) : szZ c ≠ 0 → 1024 / szZ c = chZ c := by
  intro h
  unfold szZ chZ at *
  by_cases h0 : c < 0
  · rw [if_pos h0] at h; exact absurd rfl h
  · rw [if_neg h0] at h ⊢
    rw [if_neg h0]
    rcases Nat.lt_or_ge c.toNat 8 with h8 | h8
    · exact (chN_div h8).1
    · exact absurd (szN_hi h8).1 h
theorem ch_zero (c : Int) : szZ c = 0 → chZ c = 0 := by
  intro h
  unfold szZ chZ at *
  by_cases h0 : c < 0
  · rw [if_pos h0]
  · rw [if_neg h0] at h ⊢
    rcases Nat.lt_or_ge c.toNat 8 with h8 | h8
    · exact absurd h (chN_div h8).2.1
    · exact (szN_hi h8).2
theorem szZ_le (c : Int) : szZ c ≤ 1024 ∧ chZ c ≤ 32 := by
  have : ∀ k : Fin 8, szN k ≤ 1024 ∧ chN k ≤ 32 := by decide
  unfold szZ chZ
  by_cases h0 : c < 0
  · rw [if_pos h0, if_pos h0]; omega
  · rw [if_neg h0, if_neg h0]
    rcases Nat.lt_or_ge c.toNat 8 with h8 | h8
    · exact this ⟨_, h8⟩
    · rw [(szN_hi h8).1, (szN_hi h8).2]; omega
set_option maxHeartbeats 2000000 in
theorem classes_law (n c : Int) (w : World) (hT : Tab w) : Calls Tryd.prog 3 #[.int .i64 n, .int .i64 c] w fun e w' => e = .returned (.bool true) ∧ Below w.heap.size w w' := by
  have HW := Lib.hid (wakes11 w hT)
  have HC := Lib.hid (class_any n)
  have HR := Lib.hid (ref_class n)
  have HS := Lib.hid (size_any c)
  have HRS := Lib.hid (ref_size c)
  have HCH := Lib.hid (chunks_any c)
  have hq := quo_sz c
  have hz0 := ch_zero c
  have hle := szZ_le c
  obtain ⟨k, hk⟩ : ∃ k, clsK n = k := ⟨_, rfl⟩
  obtain ⟨E, hE⟩ : ∃ k, clsE n = k := ⟨_, rfl⟩
  obtain ⟨s, hs⟩ : ∃ k, szZ c = k := ⟨_, rfl⟩
  obtain ⟨h, hh⟩ : ∃ k, chZ c = k := ⟨_, rfl⟩
  rw [hk, hE] at HC HR
  rw [hs] at HS HRS hq hz0 hle
  rw [hh] at HCH hq hz0 hle
  clear hk hE hs hh hT
  go_enter Tryd.func3, Tryd.ntmps3
  go_wp2_with fail
  refine HW.out.mono ?_
  rintro e w1 ⟨rfl, hb1⟩
  have HB1 := Lib.hid hb1
  clear hb1
  go_wp2_with fail
  refine (HC.out _).mono ?_
  rintro e w2 ⟨rfl, hb⟩
  have HB2 := Lib.hid (HB1.out.trans (hb.mono HB1.out.size))
  clear hb
  go_wp2_with fail
  refine (HR.out _).mono ?_
  rintro e w3 ⟨rfl, hb⟩
  have HB3 := Lib.hid (HB2.out.trans (hb.mono HB2.out.size))
  clear hb
  go_wp2_with fail
  refine (HRS.out _).mono ?_
  rintro e w4 ⟨rfl, hb⟩
  have HB4 := Lib.hid (HB3.out.trans (hb.mono HB3.out.size))
  clear hb
  by_cases h0 : s = 0
  · subst h0
    obtain rfl := hz0 rfl
    clear hq hz0 hle
    go_wp2_with fail
    refine (HS.out _).mono ?_
    rintro e w5 ⟨rfl, hb⟩
    have HB5 := Lib.hid (HB4.out.trans (hb.mono HB4.out.size))
    clear hb
    go_wp2_with fail
    refine (HRS.out _).mono ?_
    rintro e w6 ⟨rfl, hb⟩
    have HB6 := Lib.hid (HB5.out.trans (hb.mono HB5.out.size))
    clear hb
    go_wp2_with fail
    refine (HCH.out _).mono ?_
    rintro e w7 ⟨rfl, hb⟩
    have HB7 := Lib.hid (HB6.out.trans (hb.mono HB6.out.size))
    clear hb
    go_wp2
    go_ret
    exact ⟨rfl, HB7.out⟩
  · have hq2 : (1024 : Int) / (s : Int) = (h : Nat) := by have := hq h0; rw [← this]; rfl
    have hq3 : (1024 : Int).tdiv (s : Int) = (h : Nat) := by rw [Int.tdiv_eq_ediv_of_nonneg (by omega)]; exact hq2
    have hs0 : (0 : Int) < (s : Int) := by omega
    have hs1 : ¬ ((s : Int) = 0) := by omega
    clear hq hz0
    go_wp2_with fail
    refine (HRS.out _).mono ?_
    rintro e w5 ⟨rfl, hb⟩
    have HB5 := Lib.hid (HB4.out.trans (hb.mono HB4.out.size))
    clear hb
    go_wp2_with fail
    refine (HS.out _).mono ?_
    rintro e w6 ⟨rfl, hb⟩
    have HB6 := Lib.hid (HB5.out.trans (hb.mono HB5.out.size))
    clear hb
    go_wp2_with fail
    refine (HRS.out _).mono ?_
    rintro e w7 ⟨rfl, hb⟩
    have HB7 := Lib.hid (HB6.out.trans (hb.mono HB6.out.size))
    clear hb
    go_wp2_with fail
    refine (HCH.out _).mono ?_
    rintro e w8 ⟨rfl, hb⟩
    have HB8 := Lib.hid (HB7.out.trans (hb.mono HB7.out.size))
    clear hb
    go_wp2
    go_ret
    exact ⟨rfl, HB8.out⟩
end Go.Proofs.YtgipkdkfecegkaaDoor
