/- SlabAgain. -/
import Derived.Test.YtgipkdkfecegkaaDoorAgM
namespace Go.Proofs.YtgipkdkfecegkaaDoor
open Go.RowKit Go.Shelf PgM
attribute [local go_sem] Oper.semAt_some
set_option linter.unusedVariables false
set_option linter.unusedSimpArgs false
theorem used_any' {w : World} {x g : Nat} {ps : List Pg} (h : ArM w x g ps) (k : Nat) : Calls Tryd.prog 25 #[.pointer (some ⟨x, 0, none⟩), .int .i64 (k : Nat)] w fun e w' => e = .returned (.int .i64 (usedP k ps : Nat)) ∧ Below w.heap.size w w' := by
  have := used_all h (k : Int)
  rw [hasZ_nat] at this
  exact this
theorem take_any_inv {ps : List Pg} (hi : InvP ps) {c : Int} (hc : findE ps c = 0) : InvP (takeX ps c) := by
  have hx : takeX ps c = ps.set (c / 32).toNat (clrP (ps.getD (c / 32).toNat pg0) (c % 32).toNat) := by unfold takeX; rw [if_pos hc]
  obtain ⟨b, p, _, hp, hb, ht, e1, e2, _⟩ := find_ok hc
  rw [hx, e1, e2]
  exact hi.set ((hi.get b).clr hp ht)
theorem take_len (ps : List Pg) (c : Int) : (takeX ps c).length = ps.length := by
  unfold takeX
  split <;> simp
theorem used_le (k : Nat) (ps : List Pg) (h : ps.length ≤ 256) : usedP k ps ≤ 8192 := by
  unfold usedP
  have h1 := sum_le (ps.filter (hasP k))
  have h2 := List.length_filter_le (hasP k) ps
  omega
set_option maxRecDepth 100000 in
set_option maxHeartbeats 4000000 in
theorem again_law {A : Option Addr} {n cap : Nat} {z : List Int} (at_ : Int) (w : World) (hT : Tab w) (hr : RowI .i64 w (· < w.heap.size) A n z) (hn : n ≤ 9223372036854775807) :
    Calls Tryd.prog 7 #[.slice A n cap, .int .i64 at_] w fun e w' => e = .returned (.bool true) ∧ Below w.heap.size w w' := by
  have HW := Lib.hid (wakes11 w hT)
  have HT := Lib.hid hT
  have HR := Lib.hid hr
  have HN := Lib.hid hn
  have hB0 : 0 < w.heap.size := hT.1
  obtain ⟨i0, hi, hz0, hz1, hz2⟩ := info_parts info_int
  clear hT hr hn
  go_enter Tryd.func7, Tryd.ntmps7
  go_wp2_with fail
  refine HW.out.mono ?_
  rintro e w1 ⟨rfl, hb1⟩
  have HB1 := Lib.hid hb1
  have hnew := new_ok 9 (by decide) (by decide) w1 (HT.out.below hb1 hB0)
  have HNEW := Lib.hid hnew
  clear hb1 hnew
  go_wp2_with fail
  refine HNEW.out.mono ?_
  rintro e w2 ⟨x, rfl, g, ha2, hb2, hx2, hg2⟩
  have HA2 := Lib.hid ha2
  have HB2 := Lib.hid (HB1.out.trans (hb2.mono HB1.out.size))
  have HXG := Lib.hid (show w.heap.size ≤ x ∧ w.heap.size ≤ g from ⟨Nat.le_trans HB1.out.size hx2, Nat.le_trans HB1.out.size hg2⟩)
  clear ha2 hb2 hx2 hg2
  have hn := HN.out
  go_wp2_with fail
  go_loopw [7, 8, 27] (fun v u i wr => ∃ (j : Nat) (ps : List Pg) (cs os : List Int), i = .int .i64 j ∧ j ≤ n ∧ ps.length = 9 ∧ AgI ps cs os ∧ cs.length ≤ j ∧ cs.length ≤ 100 ∧ ArM wr x g ps ∧ ApO w.heap.size v u cs os wr ∧ Below w.heap.size w wr) (fun _ _ i _ => n - (intOf i).toNat)
  case atStart => exact ⟨0, _, [], [], rfl, Nat.zero_le _, by simp, AgI.nil _, by simp, by simp, HA2.out, ApO.start _ _, HB2.out⟩
  case round =>
    obtain ⟨j, ps, cs, os, rfl, hj, hl9, hag, hcj, hc100, ha, hap, hB⟩ := hrel
    have HAG := Lib.hid hag
    have HA := Lib.hid ha
    have HAP := Lib.hid hap
    have HBL := Lib.hid hB
    have HL9 := Lib.hid hl9
    clear hag ha hap hB hl9
    by_cases hjn : j < n
    · obtain ⟨b, off, rfl, hbS, hcells⟩ := (HR.out.below HBL.out (fun b h => h)).2 (by omega)
      have hc0 := hcells j hjn
      obtain ⟨s, hs⟩ : ∃ s, z.getD j 0 = s := ⟨_, rfl⟩
      rw [hs] at hc0
      have hgv := give_any HA.out s
      obtain ⟨E, hE⟩ : ∃ E, giveE ps s = E := ⟨_, rfl⟩
      obtain ⟨K0, hK0⟩ : ∃ E, giveN ps s = E := ⟨_, rfl⟩
      rw [hE, hK0] at hgv
      have HGV := Lib.hid hgv
      have HI := Lib.hid HA.out.2.2.2.1
      have HE := Lib.hid hE
      have HK0 := Lib.hid hK0
      have hnew := inv_give HI.out s
      have HNI := Lib.hid hnew
      clear hs hgv hcells hbS hE hK0 hnew
      by_cases hE0 : E = 0
      · subst hE0
        by_cases hj100 : j < 100
        · go_wp2_with fail
          refine HGV.out.mono ?_
          rintro e w3 ⟨rfl, ha3, hk3⟩
          have HA3 := Lib.hid ha3
          have HAP3 := Lib.hid (HAP.out.kept HA.out hk3)
          have HB3 := Lib.hid (HBL.out.trans (hk3.to_below (B := w.heap.size) (fun b hb => ⟨Nat.lt_of_lt_of_le hb HBL.out.size, by have := HXG.out.2; omega⟩)))
          have HAL3 := Lib.hid (show Below w3.heap.size w3 (w3.alloc (.cells #[.int .i64 (K0 : Nat)] 3)) from (Below.refl _ w3).alloc (Nat.le_refl _) _)
          have HAP4 := Lib.hid (HAP3.out.belowAll HAL3.out)
          have HA4 := Lib.hid (HA3.out.belowAll HAL3.out)
          have HB4 := Lib.hid (HB3.out.alloc HB3.out.size (.cells #[.int .i64 (K0 : Nat)] 3))
          have hsz3 := HB3.out.size
          clear ha3 hk3 hc0
          go_wp2_with (first
            | (at_builtin; refine wpList_append_rowG rfl (.tmp 44) (.tmp 46) 49 rfl w.heap.size 3 i0 (.int .i64 0) 8 Tryd.underlying49 hi hz0 hz1 hz2 rfl (fun _ => rfl) _ cs.length _ rfl HAP4.out.o7 (· = w3.heap.size) (some ⟨w3.heap.size, 0, none⟩) 1 1 [(K0 : Int)] rfl (row_new1 (Value.int .i64) 0 w3 3 (K0 : Int)) (fun h => by cases h) (by unfold maxLen; omega) (by omega) (by simp; omega) ?_; intro v5 w5 hown5 hgrow5 hf5; have HAP5 := Lib.hid (HAP4.out.one hown5 hgrow5 hf5); have HA5 := Lib.hid (HA4.out.grown HAP4.out.o7 hB0 hgrow5); have HB5 := Lib.hid (HB4.out.grown hgrow5 HB4.out.size (fun k hk => (HAP4.out.o7.lt k hk).1)); have hsz5 := HB5.out.size; have HAL5 := Lib.hid (show Below w5.heap.size w5 (w5.alloc (.cells #[.int .i64 s] 3)) from (Below.refl _ w5).alloc (Nat.le_refl _) _); have HAP6 := Lib.hid (HAP5.out.belowAll HAL5.out); have HA6 := Lib.hid (HA5.out.belowAll HAL5.out); have HB6 := Lib.hid (HB5.out.alloc HB5.out.size (.cells #[.int .i64 s] 3)); have hol : os.length ≤ 100 := (by have := HAG.out.len; omega); clear hown5 hgrow5 hf5)
            | (at_builtin; refine wpList_append_rowG rfl (.tmp 48) (.tmp 50) 49 rfl w.heap.size 3 i0 (.int .i64 0) 8 Tryd.underlying49 hi hz0 hz1 hz2 rfl (fun _ => rfl) _ os.length _ rfl HAP6.out.o8 (· = w5.heap.size) (some ⟨w5.heap.size, 0, none⟩) 1 1 [s] rfl (row_new1 (Value.int .i64) 0 w5 3 s) (fun h => by cases h) (by unfold maxLen; omega) (by omega) (by simp; omega) ?_; intro v7 w7 hown7 hgrow7 hf7; have HAP7 := Lib.hid (HAP6.out.two hown7 hgrow7 hf7); have HA7 := Lib.hid (HA6.out.grown HAP6.out.o8 hB0 hgrow7); have HB7 := Lib.hid (HB6.out.grown hgrow7 HB6.out.size (fun k hk => (HAP6.out.o8.lt k hk).1)); clear hown7 hgrow7 hf7))
          go_roundw
          case rel =>
            refine ⟨j + 1, _, _, _, by simp, by omega, by rw [HNI.out.2]; exact HL9.out, ?_, by simp; omega, by simp; omega, HA7.out, HAP7.out, HB7.out⟩
            have := HAG.out.add HI.out HE.out
            rw [HK0.out] at this
            exact this
          case measure => show n - (Int.toNat ((j : Int) + 1)) < n - (Int.toNat (j : Int)); omega
        · go_wp2_with fail
          refine HGV.out.mono ?_
          rintro e w3 ⟨rfl, ha3, hk3⟩
          have HA3 := Lib.hid ha3
          have HAP3 := Lib.hid (HAP.out.kept HA.out hk3)
          have HB3 := Lib.hid (HBL.out.trans (hk3.to_below (B := w.heap.size) (fun b hb => ⟨Nat.lt_of_lt_of_le hb HBL.out.size, by have := HXG.out.2; omega⟩)))
          clear ha3 hk3 hc0
          go_wp2
          go_roundw
          case rel => exact ⟨j + 1, _, cs, os, by simp, by omega, by rw [HNI.out.2]; exact HL9.out, HAG.out.give HI.out s, by omega, by omega, HA3.out, HAP3.out, HB3.out⟩
          case measure => show n - (Int.toNat ((j : Int) + 1)) < n - (Int.toNat (j : Int)); omega
      · have hne : ((E : Int) == 0) = false := by simp; omega
        go_wp2_with fail
        refine HGV.out.mono ?_
        rintro e w3 ⟨rfl, ha3, hk3⟩
        have HA3 := Lib.hid ha3
        have HAP3 := Lib.hid (HAP.out.kept HA.out hk3)
        have HB3 := Lib.hid (HBL.out.trans (hk3.to_below (B := w.heap.size) (fun b hb => ⟨Nat.lt_of_lt_of_le hb HBL.out.size, by have := HXG.out.2; omega⟩)))
        clear ha3 hk3 hc0
        go_wp2
        go_roundw
        case rel => exact ⟨j + 1, _, cs, os, by simp, by omega, by rw [HNI.out.2]; exact HL9.out, HAG.out.give HI.out s, by omega, by omega, HA3.out, HAP3.out, HB3.out⟩
        case measure => show n - (Int.toNat ((j : Int) + 1)) < n - (Int.toNat (j : Int)); omega
    · obtain rfl : j = n := by omega
      by_cases hc0 : cs.length = 0
      · obtain ⟨A7, cap7, rfl⟩ := ownsRow_slice HAP.out.o7
        have hc0' : ((cs.length : Nat) : Int) = 0 := by omega
        go_wp2
        go_ret
        exact ⟨rfl, HBL.out⟩
      have hcpos : 0 < cs.length := by omega
      by_cases hneg : at_ < 0
      · obtain ⟨q, hqe⟩ : ∃ q : Nat, q = 0 := ⟨_, rfl⟩
        have hq : q < cs.length := by omega
        obtain ⟨g7, cap7, rfl, e7⟩ := own_cell HAP.out.o7 hq
        obtain ⟨g8, cap8, rfl, e8⟩ := own_cell (cs := os) HAP.out.o8 (j := q) (by have := HAG.out.len; omega)
        have hagq := HAG.out.all q hq
        have hol := HAG.out.len
        obtain ⟨c, hc⟩ : ∃ c, cs.getD q 0 = c := ⟨_, rfl⟩
        obtain ⟨s, hs⟩ : ∃ s, os.getD q 0 = s := ⟨_, rfl⟩
        rw [hc] at e7 hagq
        rw [hs] at e8 hagq
        have HE7 := Lib.hid hc
        have HE8 := Lib.hid hs
        obtain ⟨hf, hce, hwk⟩ := hagq
        have hfw := find_wrap (by rw [HL9.out]; decide) hf
        have hag1 := give_again HA.out.2.2.2.1 hf hce hwk
        have htu := take_used hf
        have hgu := given_of (take_any_inv HA.out.2.2.2.1 hf) hag1
        obtain ⟨ga, hga⟩ := hgu
        have hgu := hga.used
        rw [← hwk] at hgu
        have hwh := where_any HA.out c hfw.1
        have htk := take_any HA.out c hfw.1
        rw [hf] at hwh htk
        obtain ⟨kk, hkk⟩ : ∃ k, whereK ps c = k := ⟨_, rfl⟩
        rw [hkk] at hwh htu hgu
        have HGV := Lib.hid (fun (W : World) (h : ArM W x g (takeX ps c)) => give_any h s)
        rw [hag1] at HGV
        obtain ⟨K0, hK0⟩ : ∃ k, giveN (takeX ps c) s = k := ⟨_, rfl⟩
        rw [hK0] at HGV
        have HU1 := Lib.hid (fun (W : World) (h : ArM W x g ps) => used_any' h kk)
        have HU2 := Lib.hid (fun (W : World) (h : ArM W x g (takeX ps c)) => used_any' h kk)
        have HU3 := Lib.hid (fun (W : World) (h : ArM W x g (giveX (takeX ps c) s)) => used_any' h kk)
        obtain ⟨U, hU⟩ : ∃ k, usedP kk (takeX ps c) = k := ⟨_, rfl⟩
        rw [hU] at HU2 htu hgu
        rw [← htu] at HU1
        rw [hgu] at HU3
        have hUle : U ≤ 8192 := by rw [← hU]; exact used_le _ _ (by rw [take_len]; rw [HL9.out]; decide)
        have HWH := Lib.hid hwh
        have HTK := Lib.hid htk
        have hc2 := hfw.2
        have hq8 : q < os.length := by omega
        have HF := Lib.hid hf
        clear hf hce hwk hfw hag1 htu hga hgu hwh htk hkk hK0 hU hc hs hol
        subst hqe
        go_wp2_with fail
        refine HWH.out.mono ?_
        rintro e w3 ⟨rfl, rfl⟩
        go_wp2_with fail
        refine (HU1.out _ HA.out).mono ?_
        rintro e w4 ⟨rfl, hb4⟩
        have HA4 := Lib.hid (HA.out.belowAll hb4)
        have HAP4 := Lib.hid (HAP.out.belowAll hb4)
        have HB4 := Lib.hid (HBL.out.trans (hb4.mono HBL.out.size))
        obtain ⟨q7, qc7, eq7, e74⟩ := own_cell HAP4.out.o7 hq
        cases eq7
        rw [HE7.out] at e74
        have htk4 := take_any HA4.out c (find_wrap (by rw [HL9.out]; decide) HF.out).1
        rw [HF.out] at htk4
        have HTK4 := Lib.hid htk4
        clear hb4 e7 htk4
        go_wp2_with fail
        refine HTK4.out.mono ?_
        rintro e w5 ⟨rfl, ha5, hk5⟩
        have HA5 := Lib.hid ha5
        have HAP5 := Lib.hid (HAP4.out.kept HA4.out hk5)
        have HB5 := Lib.hid (HB4.out.trans (hk5.to_below (B := w.heap.size) (fun b hb => ⟨Nat.lt_of_lt_of_le hb HB4.out.size, by have := HXG.out.2; omega⟩)))
        clear ha5 hk5 e74
        go_wp2_with fail
        refine (HU2.out _ HA5.out).mono ?_
        rintro e w6 ⟨rfl, hb6⟩
        have HA6 := Lib.hid (HA5.out.belowAll hb6)
        have HAP6 := Lib.hid (HAP5.out.belowAll hb6)
        have HB6 := Lib.hid (HB5.out.trans (hb6.mono HB5.out.size))
        obtain ⟨q8, qc8, eq8, e86⟩ := own_cell HAP6.out.o8 hq8
        cases eq8
        rw [HE8.out] at e86
        clear hb6 e8
        go_wp2_with fail
        refine (HGV.out _ HA6.out).mono ?_
        rintro e w7 ⟨rfl, ha7, hk7⟩
        have HA7 := Lib.hid ha7
        have HB7 := Lib.hid (HB6.out.trans (hk7.to_below (B := w.heap.size) (fun b hb => ⟨Nat.lt_of_lt_of_le hb HB6.out.size, by have := HXG.out.2; omega⟩)))
        clear ha7 hk7 e86
        go_wp2_with fail
        refine (HU3.out _ HA7.out).mono ?_
        rintro e w8 ⟨rfl, hb8⟩
        have HB8 := Lib.hid (HB7.out.trans (hb8.mono HB7.out.size))
        clear hb8
        go_wp2
        go_ret
        exact ⟨rfl, HB8.out⟩
      · obtain ⟨q, hqe⟩ : ∃ q : Nat, at_ % (cs.length : Int) = (q : Nat) := ⟨(at_ % (cs.length : Int)).toNat, by have := Int.emod_nonneg at_ (show (cs.length : Int) ≠ 0 by omega); omega⟩
        have hq : q < cs.length := by have := Int.emod_lt_of_pos at_ (show (0 : Int) < (cs.length : Int) by omega); omega
        obtain ⟨g7, cap7, rfl, e7⟩ := own_cell HAP.out.o7 hq
        obtain ⟨g8, cap8, rfl, e8⟩ := own_cell (cs := os) HAP.out.o8 (j := q) (by have := HAG.out.len; omega)
        have hagq := HAG.out.all q hq
        have hol := HAG.out.len
        obtain ⟨c, hc⟩ : ∃ c, cs.getD q 0 = c := ⟨_, rfl⟩
        obtain ⟨s, hs⟩ : ∃ s, os.getD q 0 = s := ⟨_, rfl⟩
        rw [hc] at e7 hagq
        rw [hs] at e8 hagq
        have HE7 := Lib.hid hc
        have HE8 := Lib.hid hs
        obtain ⟨hf, hce, hwk⟩ := hagq
        have hfw := find_wrap (by rw [HL9.out]; decide) hf
        have hag1 := give_again HA.out.2.2.2.1 hf hce hwk
        have htu := take_used hf
        have hgu := given_of (take_any_inv HA.out.2.2.2.1 hf) hag1
        obtain ⟨ga, hga⟩ := hgu
        have hgu := hga.used
        rw [← hwk] at hgu
        have hwh := where_any HA.out c hfw.1
        have htk := take_any HA.out c hfw.1
        rw [hf] at hwh htk
        obtain ⟨kk, hkk⟩ : ∃ k, whereK ps c = k := ⟨_, rfl⟩
        rw [hkk] at hwh htu hgu
        have HGV := Lib.hid (fun (W : World) (h : ArM W x g (takeX ps c)) => give_any h s)
        rw [hag1] at HGV
        obtain ⟨K0, hK0⟩ : ∃ k, giveN (takeX ps c) s = k := ⟨_, rfl⟩
        rw [hK0] at HGV
        have HU1 := Lib.hid (fun (W : World) (h : ArM W x g ps) => used_any' h kk)
        have HU2 := Lib.hid (fun (W : World) (h : ArM W x g (takeX ps c)) => used_any' h kk)
        have HU3 := Lib.hid (fun (W : World) (h : ArM W x g (giveX (takeX ps c) s)) => used_any' h kk)
        obtain ⟨U, hU⟩ : ∃ k, usedP kk (takeX ps c) = k := ⟨_, rfl⟩
        rw [hU] at HU2 htu hgu
        rw [← htu] at HU1
        rw [hgu] at HU3
        have hUle : U ≤ 8192 := by rw [← hU]; exact used_le _ _ (by rw [take_len]; rw [HL9.out]; decide)
        have HWH := Lib.hid hwh
        have HTK := Lib.hid htk
        have hc2 := hfw.2
        have hq8 : q < os.length := by omega
        have HF := Lib.hid hf
        clear hf hce hwk hfw hag1 htu hga hgu hwh htk hkk hK0 hU hc hs hol
        go_wp2_with fail
        refine HWH.out.mono ?_
        rintro e w3 ⟨rfl, rfl⟩
        go_wp2_with fail
        refine (HU1.out _ HA.out).mono ?_
        rintro e w4 ⟨rfl, hb4⟩
        have HA4 := Lib.hid (HA.out.belowAll hb4)
        have HAP4 := Lib.hid (HAP.out.belowAll hb4)
        have HB4 := Lib.hid (HBL.out.trans (hb4.mono HBL.out.size))
        obtain ⟨q7, qc7, eq7, e74⟩ := own_cell HAP4.out.o7 hq
        cases eq7
        rw [HE7.out] at e74
        have htk4 := take_any HA4.out c (find_wrap (by rw [HL9.out]; decide) HF.out).1
        rw [HF.out] at htk4
        have HTK4 := Lib.hid htk4
        clear hb4 e7 htk4
        go_wp2_with fail
        refine HTK4.out.mono ?_
        rintro e w5 ⟨rfl, ha5, hk5⟩
        have HA5 := Lib.hid ha5
        have HAP5 := Lib.hid (HAP4.out.kept HA4.out hk5)
        have HB5 := Lib.hid (HB4.out.trans (hk5.to_below (B := w.heap.size) (fun b hb => ⟨Nat.lt_of_lt_of_le hb HB4.out.size, by have := HXG.out.2; omega⟩)))
        clear ha5 hk5 e74
        go_wp2_with fail
        refine (HU2.out _ HA5.out).mono ?_
        rintro e w6 ⟨rfl, hb6⟩
        have HA6 := Lib.hid (HA5.out.belowAll hb6)
        have HAP6 := Lib.hid (HAP5.out.belowAll hb6)
        have HB6 := Lib.hid (HB5.out.trans (hb6.mono HB5.out.size))
        obtain ⟨q8, qc8, eq8, e86⟩ := own_cell HAP6.out.o8 hq8
        cases eq8
        rw [HE8.out] at e86
        clear hb6 e8
        go_wp2_with fail
        refine (HGV.out _ HA6.out).mono ?_
        rintro e w7 ⟨rfl, ha7, hk7⟩
        have HA7 := Lib.hid ha7
        have HB7 := Lib.hid (HB6.out.trans (hk7.to_below (B := w.heap.size) (fun b hb => ⟨Nat.lt_of_lt_of_le hb HB6.out.size, by have := HXG.out.2; omega⟩)))
        clear ha7 hk7 e86
        go_wp2_with fail
        refine (HU3.out _ HA7.out).mono ?_
        rintro e w8 ⟨rfl, hb8⟩
        have HB8 := Lib.hid (HB7.out.trans (hb8.mono HB7.out.size))
        clear hb8
        go_wp2
        go_ret
        exact ⟨rfl, HB8.out⟩
end Go.Proofs.YtgipkdkfecegkaaDoor
