/- SlabApart. -/
import Derived.Test.YtgipkdkfecegkaaDoorApM
import Derived.Test.YtgipkdkfecegkaaDoorClassW
import Derived.Test.YtgipkdkfecegkaaDoorAgainW
import Derived.Deep.DeepCutAuto
import Derived.Deep.CutBlock
namespace Go.Proofs.YtgipkdkfecegkaaDoor
open Go.RowKit Go.Shelf PgM Go.Maps
attribute [local go_sem] Oper.semAt_some
set_option linter.unusedVariables false
set_option linter.unusedSimpArgs false
theorem pages_any' {w : World} {x g : Nat} {ps : List Pg} (h : ArM w x g ps) (k : Nat) : Calls Tryd.prog 26 #[.pointer (some ⟨x, 0, none⟩), .int .i64 (k : Nat)] w fun e w' => e = .returned (.int .i64 (pagesP k ps : Nat)) ∧ Below w.heap.size w w' := by
  have := pages_any h (k : Int)
  rw [hasZ_nat] at this
  exact this
theorem used_any2 {w : World} {x g : Nat} {ps : List Pg} (h : ArM w x g ps) (k : Nat) : Calls Tryd.prog 25 #[.pointer (some ⟨x, 0, none⟩), .int .i64 (k : Nat)] w fun e w' => e = .returned (.int .i64 (usedP k ps : Nat)) ∧ Below w.heap.size w w' := by
  have := used_all h (k : Int)
  rw [hasZ_nat] at this
  exact this
theorem take_no {ps : List Pg} {c : Int} (h : findE ps c ≠ 0) : takeX ps c = ps := by unfold takeX; rw [if_neg h]
/-- What holds between two rounds of the giving. -/
structure GvI (B x g b m j : Nat) (w : World) (ps : List Pg) (D : DataW Unit) (s : Int) (wr : World) : Prop where
  len : ps.length = m
  a : ArM wr x g ps
  own : wr.ownsMap Tryd.prog 3 elemB b j D
  api : ApI D ps
  sum : s = (totalP ps : Nat)
  bel : Below B w wr
set_option maxRecDepth 100000 in
set_option maxHeartbeats 4000000 in
theorem apart_law {A : Option Addr} {n cap : Nat} {z : List Int} (pg : Int) (w : World) (hT : Tab w) (hr : RowI .i64 w (· < w.heap.size) A n z) (hn : n ≤ 9223372036854775807) :
    Calls Tryd.prog 6 #[.int .i64 pg, .slice A n cap] w fun e w' => e = .returned (.bool true) ∧ Below w.heap.size w w' := by
  have HW := Lib.hid (wakes11 w hT)
  have HT := Lib.hid hT
  have HR := Lib.hid hr
  have HN := Lib.hid hn
  have hB0 : 0 < w.heap.size := hT.1
  have hmk := @run_makeMap Tryd.prog
  clear hT hr hn
  go_enter Tryd.func6, Tryd.ntmps6
  go_wp2_with fail
  refine HW.out.mono ?_
  rintro e w1 ⟨rfl, hb1⟩
  have HB1 := Lib.hid hb1
  have HT1 := Lib.hid (HT.out.below hb1 hB0)
  clear hb1
  go_upto_region 3 with fail
  go_cut [5] from 19 to 22 (fun s wx => ∃ m : Nat, s = .int .i64 m ∧ 1 ≤ m ∧ m ≤ 20 ∧ wx = w1)
  case first =>
    by_cases hneg : pg < 0
    · go_wp2_with fail
      go_meet
      exact ⟨1, rfl, by decide, by decide, rfl⟩
    · obtain ⟨q, hq⟩ : ∃ q : Nat, pg % 20 = (q : Nat) := ⟨(pg % 20).toNat, by omega⟩
      have hq20 : q < 20 := by omega
      go_wp2_with fail
      go_meet
      exact ⟨1 + q, by simp, by omega, by omega, rfl⟩
  case rest =>
    obtain ⟨m, rfl, hm1, hm2, rfl⟩ := hcut
    have hnew := new_ok m hm1 (by omega) wc HT1.out
    have HNEW := Lib.hid hnew
    clear hnew
    go_wp2_with fail
    refine HNEW.out.mono ?_
    rintro e w2 ⟨x, rfl, g, ha2, hb2, hx2, hg2⟩
    have HA2 := Lib.hid ha2
    have HB2 := Lib.hid (HB1.out.trans (hb2.mono HB1.out.size))
    have HXG := Lib.hid (show w.heap.size ≤ x ∧ w.heap.size ≤ g ∧ x < w2.heap.size ∧ g < w2.heap.size from ⟨Nat.le_trans HB1.out.size hx2, Nat.le_trans HB1.out.size hg2, ha2.lt.1, ha2.lt.2⟩)
    clear ha2 hb2 hx2 hg2
    obtain ⟨b, hb⟩ : ∃ b, b = w2.heap.size := ⟨_, rfl⟩
    have HBb := Lib.hid hb
    have HOW3 := Lib.hid (World.ownsMap_made w2 Tryd.prog 3 elemB)
    have HA3 := Lib.hid (HA2.out.belowAll ((Below.refl _ w2).alloc (Nat.le_refl _) (.map #[] 0)))
    have HB3 := Lib.hid (HB2.out.alloc HB2.out.size (.map #[] 0))
    clear hb
    have hn := HN.out
    go_upto_block 0 with fail
    go_cut [9, 10, 11, 12, 13, 14, 15] from 33 to 89 (fun s _ _ _ _ _ _ wx => ∃ (ps : List Pg) (D : DataW Unit), GvI w.heap.size x g w2.heap.size m 300 w ps D (match s with | .int _ v => v | _ => 0) wx ∧ ∃ v, s = .int .i64 v)
    case first =>
      go_wp2_with fail
      go_loopw [9, 33] (fun s i wr => ∃ (j : Nat) (ps : List Pg) (D : DataW Unit) (v : Int), i = .int .i64 j ∧ j ≤ n ∧ j ≤ 300 ∧ s = .int .i64 v ∧ GvI w.heap.size x g w2.heap.size m j w ps D v wr) (fun _ i _ => n - (intOf i).toNat)
      case atStart => exact ⟨0, List.replicate m pg0, .map [], 0, rfl, Nat.zero_le _, by decide, rfl, ⟨by simp, HA3.out, HOW3.out, ApI.start m, by simp [totalP, bytP, pop_zero], HB3.out⟩⟩
      case round =>
        obtain ⟨j, ps, D, v, rfl, hj, hj3, rfl, hgv⟩ := hrel
        have HG := Lib.hid hgv
        clear hgv
        by_cases hjn : j < n
        · obtain ⟨b, off, rfl, hbS, hcells⟩ := (HR.out.below HG.out.bel (fun b h => h)).2 (by omega)
          have hc0 := hcells j hjn
          obtain ⟨s, hs⟩ : ∃ s, z.getD j 0 = s := ⟨_, rfl⟩
          rw [hs] at hc0
          clear hs hcells hbS
          by_cases hj300 : j = 300
          · subst hj300
            go_wp2_with fail
            go_meet
            exact ⟨ps, D, HG.out, _, rfl⟩
          · have hj30 : j < 300 := by omega
            have hi := HG.out.a.2.2.2.1
            have HI := Lib.hid hi
            have hgv := give_any HG.out.a s
            have hne : g ≠ w2.heap.size := by obtain ⟨_, cs, hp⟩ := HG.out.a.blks; exact map_ne HG.out.own hp
            have hnx : x ≠ w2.heap.size := by obtain ⟨⟨cs, hp⟩, _⟩ := HG.out.a.blks; exact map_ne HG.out.own hp
            have HNE := Lib.hid hne
            have HNX := Lib.hid hnx
            have htl := total_le hi
            rw [HG.out.len] at htl
            have hvs := HG.out.sum
            have hv0 : 0 ≤ v ∧ v ≤ 20480 := by omega
            have HCL := Lib.hid (class_any s)
            have HNI := Lib.hid (inv_give hi s)
            clear hne hnx htl hvs hi
            rcases giveE_cases ps s with he | ⟨he1, he2⟩ | ⟨he1, he2, he3, he4⟩
            · obtain ⟨ga, hga⟩ := given_of HI.out he
              have HGA := Lib.hid hga
              have hce := hga.cls
              obtain ⟨n1, n2, n3⟩ := hga.new_
              have hfw := find_wrap (ps := giveX ps s) (by rw [HNI.out.2, HG.out.len]; omega) n1
              have hno : has D (.int .i64 (giveN ps s : Nat)) = false := by
                cases hh : has D (.int .i64 (giveN ps s : Nat)) with
                | false => rfl
                | true => have := (HG.out.api.iff _).1 hh; rw [n3] at this; cases this
              obtain ⟨K0, hK0⟩ : ∃ k, giveN ps s = k := ⟨_, rfl⟩
              obtain ⟨kk, hkk⟩ : ∃ k, clsK s = k := ⟨_, rfl⟩
              have hsz := (szZ_le (kk : Int)).1
              rw [szZ_nat] at hsz
              have HSZ := Lib.hid (size_any (kk : Int))
              rw [szZ_nat] at HSZ
              rw [he, hK0] at hgv
              rw [hce, hkk] at HCL
              rw [hK0] at hno hfw
              obtain ⟨sz, hszE⟩ : ∃ q, szN kk = q := ⟨_, rfl⟩
              rw [hszE] at hsz HSZ
              have HWF := Lib.hid (show (Lit.int .i64 (K0 : Nat)).wf = true from WalkArith.wf_i64 (by omega))
              have HNO := Lib.hid hno
              have HGV := Lib.hid hgv
              have HTOT := Lib.hid (show totalP (giveX ps s) = totalP ps + sz by rw [hga.total HI.out, hkk, hszE])
              have HPUT := Lib.hid (show ApI (D.put (.int .i64 (K0 : Nat)) (.lit (.bool true))) (giveX ps s) by have := HG.out.api.put HI.out hga (.lit (.bool true)) (by rw [hK0]; exact HWF.out); rw [hK0] at this; exact this)
              clear hgv hga hce n1 n2 n3 hfw hno hK0 hkk hszE he
              go_wp2_with fail
              refine HGV.out.mono ?_
              rintro e w3 ⟨rfl, ha3, hk3⟩
              have HA3 := Lib.hid ha3
              have HO3 := Lib.hid (HG.out.own.kept (kept_grown hk3) (fun e => HNE.out (by injection e with e; exact e.symm)))
              have HB3 := Lib.hid (HG.out.bel.trans (hk3.to_below (B := w.heap.size) (fun k hk => ⟨Nat.lt_of_lt_of_le hk HG.out.bel.size, by have := HXG.out.2.1; omega⟩)))
              clear ha3 hk3 hc0
              go_wp2_with fail
              refine (HCL.out _).mono ?_
              rintro e w4 ⟨rfl, hb4⟩
              have HA4 := Lib.hid (HA3.out.belowAll hb4)
              have HO4 := Lib.hid (HO3.out.kept (below_grown hb4) (by simp))
              have HB4 := Lib.hid (HB3.out.trans (hb4.mono HB3.out.size))
              clear hb4
              go_wp2_with (first
                | (at_lookup; refine wpList_lookup_no _ rfl _ _ rfl w2.heap.size j D rfl HO4.out (K0 : Nat) rfl HWF.out HNO.out ?_)
                | (at_mapUpdate; refine wpList_mapUpdate_own _ rfl _ _ _ 50 rfl 3 4 keyed Tryd.underlying50 elemB w2.heap.size j D rfl HO4.out (by unfold maxLen; omega) _ _ (.int .i64 (K0 : Nat)) rfl rfl (keyOf_int_mk Tryd.underlying3 HWF.out) (.lit (.bool true)) [] (plainElem_bool Tryd.underlying4 true) ?_; intro w5 hown5 hgrow5; have HO5 := Lib.hid hown5; have HA5 := Lib.hid (HA4.out.grown' hgrow5 (fun e => HNX.out (by injection e)) (fun e => HNE.out (by injection e)) (fun e => by injection e with e; have := HXG.out; omega)); have HB5 := Lib.hid (HB4.out.grown hgrow5 HB4.out.size (fun k hk => by injection hk with hk; have := HXG.out; have := HB2.out.size; omega)); clear hown5 hgrow5))
              refine (HSZ.out _).mono ?_
              rintro e w6 ⟨rfl, hb6⟩
              have HA6 := Lib.hid (HA5.out.belowAll hb6)
              have HO6 := Lib.hid (HO5.out.kept (below_grown hb6) (by simp))
              have HB6 := Lib.hid (HB5.out.trans (hb6.mono HB5.out.size))
              clear hb6
              go_wp2
              go_roundw
              case rel =>
                refine ⟨j + 1, _, _, _, by simp, by omega, by omega, rfl, ⟨by rw [HNI.out.2, HG.out.len], HA6.out, HO6.out, HPUT.out, ?_, HB6.out⟩⟩
                have := HG.out.sum
                rw [HTOT.out]
                omega
              case measure => show n - (Int.toNat ((j : Int) + 1)) < n - (Int.toNat (j : Int)); omega
            · have hgx : giveX ps s = ps := giveX_no (by rw [he2]; exact he1)
              rw [hgx, he2] at hgv
              obtain ⟨K0, hK0⟩ : ∃ k, giveN ps s = k := ⟨_, rfl⟩
              obtain ⟨kk, hkk⟩ : ∃ k, clsK s = k := ⟨_, rfl⟩
              obtain ⟨E, hE⟩ : ∃ k, clsE s = k := ⟨_, rfl⟩
              rw [hK0, hE] at hgv
              rw [hkk, hE] at HCL
              rw [hE] at he1
              have hEne : ((E : Int) != 0) = true := by simp; omega
              have HGV := Lib.hid hgv
              clear hgv hgx hK0 hkk hE he1 he2
              go_wp2_with fail
              refine HGV.out.mono ?_
              rintro e w3 ⟨rfl, ha3, hk3⟩
              have HA3 := Lib.hid ha3
              have HO3 := Lib.hid (HG.out.own.kept (kept_grown hk3) (fun e => HNE.out (by injection e with e; exact e.symm)))
              have HB3 := Lib.hid (HG.out.bel.trans (hk3.to_below (B := w.heap.size) (fun k hk => ⟨Nat.lt_of_lt_of_le hk HG.out.bel.size, by have := HXG.out.2.1; omega⟩)))
              clear ha3 hk3 hc0
              go_wp2_with fail
              refine (HCL.out _).mono ?_
              rintro e w4 ⟨rfl, hb4⟩
              have HA4 := Lib.hid (HA3.out.belowAll hb4)
              have HO4 := Lib.hid (HO3.out.kept (below_grown hb4) (by simp))
              have HB4 := Lib.hid (HB3.out.trans (hb4.mono HB3.out.size))
              clear hb4
              go_wp2
              go_roundw
              case rel => exact ⟨j + 1, ps, D, v, by simp, by omega, by omega, rfl, ⟨HG.out.len, HA4.out, HO4.out.mono (Nat.le_succ _), HG.out.api, HG.out.sum, HB4.out⟩⟩
              case measure => show n - (Int.toNat ((j : Int) + 1)) < n - (Int.toNat (j : Int)); omega
            · have hgx : giveX ps s = ps := giveX_no (by rw [he2]; decide)
              rw [hgx, he2] at hgv
              obtain ⟨hfr, hus⟩ := full_all he3 he4
              obtain ⟨K0, hK0⟩ : ∃ k, giveN ps s = k := ⟨_, rfl⟩
              obtain ⟨kk, hkk⟩ : ∃ k, clsK s = k := ⟨_, rfl⟩
              have hkk8 : kk < 8 := by rw [← hkk]; exact clsK_lt s
              rw [hK0] at hgv
              rw [hkk, he1] at HCL
              rw [hkk] at hus
              have HFR := Lib.hid (fun (W : World) (h : ArM W x g ps) => free_all h)
              have HUS := Lib.hid (fun (W : World) (h : ArM W x g ps) => used_any2 h kk)
              have HPG := Lib.hid (fun (W : World) (h : ArM W x g ps) => pages_any' h kk)
              have HCH := Lib.hid (chunks_any (kk : Int))
              rw [chZ_nat] at HCH
              have hC := chN_pos hkk8
              have hPle : pagesP kk ps ≤ 256 := by unfold pagesP; exact Nat.le_trans (List.length_filter_le _ _) (by rw [HG.out.len]; omega)
              obtain ⟨P, hP⟩ : ∃ k, pagesP kk ps = k := ⟨_, rfl⟩
              obtain ⟨C, hCC⟩ : ∃ k, chN kk = k := ⟨_, rfl⟩
              obtain ⟨U, hU⟩ : ∃ k, usedP kk ps = k := ⟨_, rfl⟩
              rw [hfr] at HFR
              rw [hU] at HUS hus
              rw [hP] at HPG hus hPle
              rw [hCC] at HCH hus hC
              have hUle : U ≤ 8192 := by rw [hus]; exact Nat.le_trans (Nat.mul_le_mul hPle hC.2) (by decide)
              have hmul : (P : Int) * (C : Int) = (U : Nat) := by rw [hus]; simp
              have HGV := Lib.hid hgv
              clear hgv hgx hK0 hkk he1 he2 he3 he4 hfr hus hP hCC hU hkk8 hPle hC
              go_wp2_with fail
              refine HGV.out.mono ?_
              rintro e w3 ⟨rfl, ha3, hk3⟩
              have HA3 := Lib.hid ha3
              have HO3 := Lib.hid (HG.out.own.kept (kept_grown hk3) (fun e => HNE.out (by injection e with e; exact e.symm)))
              have HB3 := Lib.hid (HG.out.bel.trans (hk3.to_below (B := w.heap.size) (fun k hk => ⟨Nat.lt_of_lt_of_le hk HG.out.bel.size, by have := HXG.out.2.1; omega⟩)))
              clear ha3 hk3 hc0
              go_wp2_with fail
              refine (HCL.out _).mono ?_
              rintro e w4 ⟨rfl, hb4⟩
              have HA4 := Lib.hid (HA3.out.belowAll hb4)
              have HO4 := Lib.hid (HO3.out.kept (below_grown hb4) (by simp))
              have HB4 := Lib.hid (HB3.out.trans (hb4.mono HB3.out.size))
              clear hb4
              go_wp2_with fail
              refine (HFR.out _ HA4.out).mono ?_
              rintro e w5 ⟨rfl, hb5⟩
              have HA5 := Lib.hid (HA4.out.belowAll hb5)
              have HO5 := Lib.hid (HO4.out.kept (below_grown hb5) (by simp))
              have HB5 := Lib.hid (HB4.out.trans (hb5.mono HB4.out.size))
              clear hb5
              go_wp2_with fail
              refine (HUS.out _ HA5.out).mono ?_
              rintro e w6 ⟨rfl, hb6⟩
              have HA6 := Lib.hid (HA5.out.belowAll hb6)
              have HO6 := Lib.hid (HO5.out.kept (below_grown hb6) (by simp))
              have HB6 := Lib.hid (HB5.out.trans (hb6.mono HB5.out.size))
              clear hb6
              go_wp2_with fail
              refine (HPG.out _ HA6.out).mono ?_
              rintro e w7 ⟨rfl, hb7⟩
              have HA7 := Lib.hid (HA6.out.belowAll hb7)
              have HO7 := Lib.hid (HO6.out.kept (below_grown hb7) (by simp))
              have HB7 := Lib.hid (HB6.out.trans (hb7.mono HB6.out.size))
              clear hb7
              go_wp2_with fail
              refine (HCH.out _).mono ?_
              rintro e w8 ⟨rfl, hb8⟩
              have HA8 := Lib.hid (HA7.out.belowAll hb8)
              have HO8 := Lib.hid (HO7.out.kept (below_grown hb8) (by simp))
              have HB8 := Lib.hid (HB7.out.trans (hb8.mono HB7.out.size))
              clear hb8
              go_wp2
              go_roundw
              case rel => exact ⟨j + 1, ps, D, v, by simp, by omega, by omega, rfl, ⟨HG.out.len, HA8.out, HO8.out.mono (Nat.le_succ _), HG.out.api, HG.out.sum, HB8.out⟩⟩
              case measure => show n - (Int.toNat ((j : Int) + 1)) < n - (Int.toNat (j : Int)); omega
        · obtain rfl : j = n := by omega
          go_wp2_with fail
          go_meet
          exact ⟨ps, D, ⟨HG.out.len, HG.out.a, HG.out.own.mono hj3, HG.out.api, HG.out.sum, HG.out.bel⟩, _, rfl⟩
    case rest =>
      obtain ⟨ps, D, hgv, v, rfl⟩ := hcut
      have HG := Lib.hid hgv
      have htl := total_le HG.out.a.2.2.2.1
      rw [HG.out.len] at htl
      have hvs := HG.out.sum
      have hv : 0 ≤ v ∧ v ≤ 1024 * (m : Int) := by simp only [] at hvs; omega
      have hmm : 1024 * (m : Int) ≤ 20480 := by omega
      clear hgv htl hvs
      go_wp2_with (at_range; refine wpList_range_own _ rfl _ 50 rfl 3 4 keyed Tryd.underlying50 elemB w2.heap.size 300 D rfl HG.out.own ?_; intro w3 hrg3 hg3 hs3)
      have HRG := Lib.hid hrg3
      have HAs := Lib.hid (HG.out.a.grown' hg3 (by simp) (by simp) (by simp))
      have HBs := Lib.hid (HG.out.bel.grown hg3 HG.out.bel.size (fun g hg => by cases hg))
      have HAPI := Lib.hid HG.out.api
      have HLEN := Lib.hid HG.out.len
      clear hrg3 hg3 hs3
      obtain ⟨r, hr⟩ : ∃ r, wc.heap.size = r := ⟨_, rfl⟩
      rw [hr] at HRG ⊢
      have HR0 := Lib.hid (show w.heap.size ≤ r by rw [← hr]; exact HG.out.bel.size)
      clear hr
      go_loopw [16] (fun _ wr => ∃ (qs : List Pg) (left : Lit → Bool) (cnt : Nat), wr.ranges Tryd.prog 3 elemB w2.heap.size r 300 D left cnt ∧ ArM wr x g qs ∧ qs.length = m ∧ (∀ c : Int, findE qs c = 0 ↔ left (.int .i64 c) = true) ∧ Below w.heap.size w wr) (fun _ wr => wr.rangeLeft w2.heap.size r)
      case atStart => exact ⟨ps, _, _, HRG.out, HAs.out, HLEN.out, fun c => (HAPI.out.iff c).symm, HBs.out⟩
      case round =>
        obtain ⟨qs, left, cnt, hrg, ha, hl, hiff, hB⟩ := hrel
        have HRW := Lib.hid hrg
        have HAW := Lib.hid ha
        have HLW := Lib.hid hl
        have HIF := Lib.hid hiff
        have HBW := Lib.hid hB
        clear hrg ha hl hiff hB
        go_wp2_with (at_next; refine wpList_next_map _ rfl _ rfl w2.heap.size r 300 D left cnt rfl HRW.out ?_ ?_)
        · intro hl0
          have hfree := all_free HAW.out.2.2.2.1 (fun c h => by have := (HIF.out c).1 h; rw [hl0] at this; cases this)
          have hfa := free_all HAW.out
          rw [hfree, HLW.out] at hfa
          have HFA := Lib.hid hfa
          clear hfree hfa hl0
          go_wp2_with fail
          refine HFA.out.mono ?_
          rintro e w5 ⟨rfl, hb5⟩
          go_wp2
          go_ret
          exact ⟨rfl, HBW.out.trans (hb5.mono HBW.out.size)⟩
        · intro k0 u0 w4 cnt4 hlk hrg4 hlt hg4 hen
          have hf := (HIF.out k0).2 hlk
          have hfw := find_wrap (by rw [HLW.out]; omega) hf
          have hnb : g ≠ w2.heap.size := by obtain ⟨_, cs, hp⟩ := HAW.out.blks; exact map_ne HRW.out.owns hp
          have hnr : g ≠ r := by obtain ⟨_, cs, hp⟩ := HAW.out.blks; exact iter_ne HRW.out hp
          have hxr : x ≠ r := by obtain ⟨⟨cs, hp⟩, _⟩ := HAW.out.blks; exact iter_ne HRW.out hp
          have hr0 := HR0.out
          have HA4 := Lib.hid (HAW.out.grown' hg4 (fun e => hxr (by injection e)) (fun e => hnr (by injection e)) (fun e => by injection e with e; omega))
          have HB4 := Lib.hid (HBW.out.grown hg4 HBW.out.size (fun k hk => by injection hk with hk; omega))
          obtain ⟨htf, ht4⟩ := take_find hf k0
          have HTF := Lib.hid (fun c => (take_find hf c).1)
          have hx2 : takeX (takeX qs k0) k0 = takeX qs k0 := take_no (by rw [ht4]; decide)
          have HT1 := Lib.hid (fun (W : World) (h : ArM W x g qs) => take_any h k0 hfw.1)
          have HT2 := Lib.hid (fun (W : World) (h : ArM W x g (takeX qs k0)) => take_any h k0 hfw.1)
          rw [hf] at HT1
          rw [ht4, hx2] at HT2
          have HRG4 := Lib.hid hrg4
          have HNB := Lib.hid hnb
          have HNR := Lib.hid hnr
          have hk0b := hfw.2
          have HLT := Lib.hid hlt
          clear hlk hrg4 hlt hg4 hf hfw hnb hnr hxr hr0 htf ht4 hx2
          go_wp2_with fail
          refine (HT1.out _ HA4.out).mono ?_
          rintro e w5 ⟨rfl, ha5, hk5⟩
          have HA5 := Lib.hid ha5
          have HRG5 := Lib.hid (HRG4.out.kept (kept_grown hk5) (fun e => HNB.out (by injection e with e; exact e.symm)) (fun e => HNR.out (by injection e with e; exact e.symm)))
          have HB5 := Lib.hid (HB4.out.trans (hk5.to_below (B := w.heap.size) (fun k hk => ⟨Nat.lt_of_lt_of_le hk HB4.out.size, by have := HXG.out.2.1; omega⟩)))
          clear ha5 hk5 hen
          go_wp2_with fail
          refine (HT2.out _ HA5.out).mono ?_
          rintro e w6 ⟨rfl, ha6, hk6⟩
          have HA6 := Lib.hid ha6
          have HRG6 := Lib.hid (HRG5.out.kept (kept_grown hk6) (fun e => HNB.out (by injection e with e; exact e.symm)) (fun e => HNR.out (by injection e with e; exact e.symm)))
          have HB6 := Lib.hid (HB5.out.trans (hk6.to_below (B := w.heap.size) (fun k hk => ⟨Nat.lt_of_lt_of_le hk HB5.out.size, by have := HXG.out.2.1; omega⟩)))
          clear ha6 hk6
          go_wp2
          go_roundw
          case rel =>
            refine ⟨takeX qs k0, _, cnt4, HRG6.out, HA6.out, by rw [take_len, HLW.out], fun c => ?_, HB6.out⟩
            rw [HTF.out c, HIF.out c]
            by_cases e : c = k0
            · subst e
              simp [WideAt.sameKey_self (show WideAt.IsKeyLit (.int .i64 c) by unfold WideAt.IsKeyLit; trivial)]
            · rw [sameKey_ne (fun e2 => e (by injection e2))]
              simp [e]
          case measure => rw [HRG6.out.left_eq, HRW.out.left_eq]; exact HLT.out
end Go.Proofs.YtgipkdkfecegkaaDoor
