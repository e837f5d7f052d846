/- SlabGives. -/
import Derived.Test.YtgipkdkfecegkaaDoorGivesP
import Derived.Deep.DeepCutAuto
import Derived.Deep.CutBlock
namespace Go.Proofs.YtgipkdkfecegkaaDoor
open Go.RowKit Go.Shelf PgM
attribute [local go_sem] Oper.semAt_some
set_option linter.unusedVariables false
set_option linter.unusedSimpArgs false
set_option maxRecDepth 100000 in
set_option maxHeartbeats 8000000 in
theorem gives_law {A : Option Addr} {n cap : Nat} {z : List OpE} (pg : Int) (w : World) (hT : Tab w) (ho : IsOps w A n cap z) :
    Calls Tryd.prog 4 #[.int .i64 pg, .slice A n cap] w fun e w' => e = .returned (.bool true) ∧ Below w.heap.size w w' := by
  have HW := Lib.hid (wakes11 w hT)
  have HT := Lib.hid hT
  have HO := Lib.hid ho
  have hB0 : 0 < w.heap.size := hT.1
  have hn := ho.n63
  clear hT ho
  by_cases hbad : pg < 1 ∨ 256 < pg
  · have HNB := Lib.hid (new_bad pg hbad)
    go_enter Tryd.func4, Tryd.ntmps4
    go_wp2_with fail
    refine HW.out.mono ?_
    rintro e w1 ⟨rfl, hb1⟩
    have HB1 := Lib.hid hb1
    clear hb1
    go_wp2_with fail
    refine (HNB.out _).mono ?_
    rintro e w2 ⟨rfl, rfl⟩
    by_cases h1 : pg < 1
    · go_wp2
      go_ret
      exact ⟨rfl, HB1.out⟩
    · have h2 : pg > 256 := by omega
      go_wp2
      go_ret
      exact ⟨rfl, HB1.out⟩
  obtain ⟨m, rfl⟩ : ∃ m : Nat, pg = m := ⟨pg.toNat, by omega⟩
  have hm1 : 1 ≤ m := by omega
  have hm2 : m ≤ 256 := by omega
  have g1 : ¬ ((m : Int) < 1) := by omega
  have g2 : ¬ ((m : Int) > 256) := by omega
  have HNW := Lib.hid (fun (W : World) (hb : Below w.heap.size w W) => new_ok m hm1 hm2 W (HT.out.below hb hB0))
  clear hbad
  go_enter Tryd.func4, Tryd.ntmps4
  go_wp2_with fail
  refine HW.out.mono ?_
  rintro e w1 ⟨rfl, hb1⟩
  have HB1 := Lib.hid hb1
  clear hb1
  go_wp2_with fail
  refine (HNW.out _ HB1.out).mono ?_
  rintro e w2 ⟨x, rfl, g, ha2, hb2, hx2, hg2⟩
  have HA2 := Lib.hid ha2
  have HB2 := Lib.hid (HB1.out.trans (hb2.mono HB1.out.size))
  have HXG := Lib.hid (show w.heap.size ≤ x ∧ w.heap.size ≤ g ∧ x < w2.heap.size ∧ g < w2.heap.size from ⟨Nat.le_trans HB1.out.size hx2, Nat.le_trans HB1.out.size hg2, ha2.lt.1, ha2.lt.2⟩)
  clear ha2 hb2 hx2 hg2
  by_cases h40 : m > 40
  · have h40' : (m : Int) > 40 := by omega
    have HFR := Lib.hid (free_all HA2.out)
    rw [free_new] at HFR
    go_wp2_with fail
    refine HFR.out.mono ?_
    rintro e w3 ⟨rfl, hb3⟩
    go_wp2
    go_ret
    exact ⟨rfl, HB2.out.trans (hb3.mono HB2.out.size)⟩
  have h40' : ¬ ((m : Int) > 40) := by omega
  have HRN := Lib.hid (ref_new m hm2 w2)
  go_wp2_with fail
  refine HRN.out.mono ?_
  rintro e w3 ⟨⟨v, rows, rfl, hl, hO⟩, hb3⟩
  obtain ⟨A3, cap3, rfl, hM3⟩ := hO.toM
  rw [hl] at hM3 ⊢
  have HG3 := Lib.hid (show GsJ w x g w3.heap.size m (List.replicate m pg0) (List.replicate m pg0) (w3.alloc (.cells #[.slice A3 m cap3] 35)) from by
    have hb4 := (Below.refl _ w3).alloc (Nat.le_refl _) (.cells #[.slice A3 m cap3] 35)
    have h1 := HB2.out.size
    have h2 := hb3.size
    have h3 := HXG.out
    refine ⟨⟨by simp, by simp⟩, (HA2.out.belowAll hb3).belowAll hb4, InvP.rep m, (HB2.out.trans (hb3.mono HB2.out.size)).alloc (by omega) _, ⟨h3.2.1, h3.1, by omega, hB0⟩, A3, cap3, rows, Blk.new w3 _ _, ?_⟩
    exact ((hM3.below hb4 (fun b hb => hb.2)).more (fun b hb => ⟨⟨by omega, by omega⟩, by simp; omega⟩)).congr (fun i hi k hk => cell_new m i k))
  clear hl hO hM3 hb3
  go_upto_block 0 with fail
  generalize hw4 : w3.alloc (.cells #[.slice A3 m cap3] 35) = w4 at *
  generalize hq : w3.heap.size = q at *
  clear hw4 hq
  go_cut [8, 9, 10, 11, 12, 13, 14, 15, 16, 17, 18, 19, 20, 21] from 56 to 135 (fun _ _ _ _ _ _ _ _ _ _ _ _ _ _ wx => ∃ ps, GsJ w x g q m ps ps wx)
  case first =>
    go_wp2_with fail
    go_loopw [56] (fun i wr => ∃ (j : Nat) (ps : List Pg), i = .int .i64 j ∧ j ≤ n ∧ j ≤ 60 ∧ GsJ w x g q m ps ps wr) (fun i _ => n - (intOf i).toNat)
    case atStart => exact ⟨0, _, rfl, Nat.zero_le _, by decide, HG3.out⟩
    case round =>
      obtain ⟨j, ps, rfl, hj, hj60, hgs⟩ := hrel
      have HG := Lib.hid hgs
      clear hgs
      by_cases hjn : j < n
      · obtain ⟨b, off, rfl, hbS, hc⟩ := (HO.out.row.below HG.out.bel (fun b h => h)).2 (by omega)
        have d0 := hc j hjn 0 _ rfl
        have d1 := hc j hjn 1 _ rfl
        have d2 := hc j hjn 2 _ rfl
        have hin := HO.out.fin j hjn
        obtain ⟨⟨tk, cp, N⟩, hz⟩ : ∃ o, z.getD j op0 = o := ⟨_, rfl⟩
        rw [hz] at d0 d1 d2 hin
        simp only [Nat.add_zero] at d0
        have HN63 := Lib.hid (show wrap64 (N / 32) = N / 32 from IntWalk.wrap64_in _ (by unfold OpIn at hin; simp only [] at hin; omega))
        clear hc hbS hz hin
        by_cases h60 : j = 60
        · subst h60
          go_wp2_with fail
          go_meet
          exact ⟨ps, HG.out.below ((Below.refl _ wr).alloc (Nat.le_refl _) _)⟩
        · have hj30 : j < 60 := by omega
          have h60b : ((j : Int) == 60) = false := by simp; omega
          have HK5 := Lib.hid (Blk.new wr 38 #[.bool tk, .bool cp, .int .i64 N])
          have HG5 := Lib.hid (HG.out.below ((Below.refl _ wr).alloc (Nat.le_refl _) (.cells #[.bool tk, .bool cp, .int .i64 N] 38)))
          go_upto_if 64 with fail
          generalize hw5 : wr.alloc (.cells #[.bool tk, .bool cp, .int .i64 N] 38) = w5 at *
          generalize hoq : wr.heap.size = oq at *
          clear hw5 hoq d0 d1 d2
          go_cut [10] from 65 to 70 (fun _ wx => GsJ w x g q m ps ps wx ∧ Blk wx oq 38 #[.bool tk, .bool cp, .int .i64 N])
          case first =>
            cases cp with
            | false =>
              go_wp2_with fail
              go_meet
              exact ⟨HG5.out, HK5.out⟩
            | true =>
              have HCP := Lib.hid (copy_any HG5.out.a)
              go_wp2_with fail
              refine HCP.out.mono ?_
              rintro e w6 ⟨⟨x2, g2, rfl, ha6, hx6, hg6⟩, hb6⟩
              have HB6 := Lib.hid hb6
              have HA6 := Lib.hid ha6
              have HG6 := Lib.hid hg6
              clear ha6 hx6 hg6 hb6
              go_wp2_with fail
              refine (give_any HA6.out 500).mono ?_
              rintro e w7 ⟨rfl, ha7, hk7⟩
              have HA7 := Lib.hid ha7
              have HB7 := Lib.hid (HB6.out.trans (hk7.to_below (B := w5.heap.size) (fun k hk => ⟨Nat.lt_of_lt_of_le hk HB6.out.size, by have := HG6.out; omega⟩)))
              clear ha7 hk7
              go_wp2_with fail
              refine (take_any HA7.out 0 (IntWalk.wrap64_in _ (by decide))).mono ?_
              rintro e w8 ⟨rfl, ha8, hk8⟩
              have HB8 := Lib.hid (HB7.out.trans (hk8.to_below (B := w5.heap.size) (fun k hk => ⟨Nat.lt_of_lt_of_le hk HB7.out.size, by have := HG6.out; omega⟩)))
              clear ha8 hk8
              go_wp2_with fail
              go_meet
              exact ⟨HG5.out.below HB8.out, HK5.out.below HB8.out HK5.out.lt⟩
          case rest =>
            obtain ⟨hg6, hk6⟩ := hcut
            have HG6 := Lib.hid hg6
            have HK6 := Lib.hid hk6
            have d0 := (hk6.cell 0).trans (show _ = some (Value.bool tk) from rfl)
            have d2 := (hk6.cell 2).trans (show _ = some (Value.int .i64 N) from rfl)
            have hlen := hg6.len
            have HL := Lib.hid hlen
            obtain ⟨A6, c6, r6, hq6, hm6⟩ := hg6.m
            have k0 := (hq6.cell 0).trans (show _ = some (Value.slice A6 m c6) from rfl)
            have HM6 := Lib.hid hm6
            have HQ6 := Lib.hid hq6
            clear hg6 hk6 hlen hq6 hm6
            cases tk with
            | true =>
              have HWA := Lib.hid (where_any HG6.out.a N HN63.out)
              go_wp2_with fail
              refine HWA.out.mono ?_
              rintro e w7 ⟨rfl, rfl⟩
              have HRW := Lib.hid (ref_where (cap := c6) HM6.out (fun b hb => hb.2) hm2 HL.out.2 HG6.out.inv N HN63.out)
              go_wp2_with fail
              refine HRW.out.mono ?_
              rintro e w8 ⟨rfl, hb8⟩
              have HG8 := Lib.hid (HG6.out.below hb8)
              have HK8 := Lib.hid (HK6.out.below hb8 HK6.out.lt)
              have HQ8 := Lib.hid (HQ6.out.below hb8 HQ6.out.lt)
              have HM8 := Lib.hid ((HM6.out.below hb8 (fun b hb => hb.2)).more (T := fun b => (b ≠ g ∧ b ≠ q) ∧ b < w8.heap.size) (fun b hb => ⟨hb.1, Nat.lt_of_lt_of_le hb.2 hb8.size⟩))
              clear hb8 d0 d2 k0
              have d2 := (HK8.out.cell 2).trans (show _ = some (Value.int .i64 N) from rfl)
              have k0 := (HQ8.out.cell 0).trans (show _ = some (Value.slice A6 m c6) from rfl)
              have HRT := Lib.hid (ref_take (cap := c6) HM8.out (fun b hb => hb.2) hm2 HL.out.2 HG6.out.inv N HN63.out)
              go_wp2_with fail
              refine HRT.out.mono ?_
              rintro e w9 ⟨⟨A9, c9, r9, rfl, hm9⟩, hb9⟩
              have HM9 := Lib.hid (HG8.out.fresh hb9.size hm9)
              have hb10 := (Below.refl _ w9).alloc (Nat.le_refl _) (.cells #[.slice A9 m c9] 35)
              have HG10 := Lib.hid ((HG8.out.below hb9).below hb10)
              have HK10 := Lib.hid ((HK8.out.below hb9 HK8.out.lt).below hb10 (HK8.out.below hb9 HK8.out.lt).lt)
              have HN10 := Lib.hid (Blk.new w9 35 #[.slice A9 m c9])
              have HM10 := Lib.hid ((HM9.out.below hb10 (fun b hb => hb.2)).more (T := fun b => (b ≠ g ∧ b ≠ q) ∧ b < (w9.alloc (.cells #[.slice A9 m c9] 35)).heap.size) (fun b hb => ⟨hb.1, Nat.lt_of_lt_of_le hb.2 hb10.size⟩))
              have HTA := Lib.hid (take_any HG10.out.a N HN63.out)
              have d2' := (HK10.out.cell 2).trans (show _ = some (Value.int .i64 N) from rfl)
              have HQ10 := Lib.hid ((HQ8.out.below hb9 HQ8.out.lt).below hb10 (HQ8.out.below hb9 HQ8.out.lt).lt)
              have hg9 : g < w9.heap.size := (HG8.out.below hb9).ne.2.2.2.1
              have HSZ := Lib.hid (show (w9.alloc (.cells #[.slice A9 m c9] 35)).heap.size = w9.heap.size + 1 from World.size_alloc _ _)
              clear hm9 hb9 hb10 d2 k0
              have hti := take_inv HG6.out.inv N
              have HTI := Lib.hid hti
              clear hti
              go_wp2_with fail
              refine HTA.out.mono ?_
              rintro e w11 ⟨rfl, ha11, hk11⟩
              have HG11 := Lib.hid (HG10.out.turn hk11 ha11 (by rw [HTI.out.2]; exact HL.out.1))
              have HM11 := Lib.hid ((HM10.out.kept hk11 (fun b hb => ⟨hb.2, hb.1.1⟩)).more (T := fun b => (b ≠ g ∧ b ≠ q) ∧ b < w11.heap.size) (fun b hb => ⟨hb.1, Nat.lt_of_lt_of_le hb.2 hk11.size⟩))
              have HN11 := Lib.hid (HN10.out.kept hk11 ⟨HN10.out.lt, by omega⟩)
              have HQ11 := Lib.hid (HQ10.out.kept hk11 ⟨HQ10.out.lt, HG10.out.ne.1⟩)
              clear ha11 hk11 d2'
              have n0 := (HN11.out.cell 0).trans (show _ = some (Value.slice A9 m c9) from rfl)
              have k0 := (HQ11.out.cell 0).trans (show _ = some (Value.slice A6 m c6) from rfl)
              have f0 := HQ11.out.frozen 0
              go_wp2
              go_roundw
              case rel => exact ⟨j + 1, takeX ps N, by simp, by omega, by omega, HG11.out.store HM11.out c9 (by rw [HTI.out.2]; exact HL.out.1) HTI.out.1⟩
              case measure => show n - (Int.toNat ((j : Int) + 1)) < n - (Int.toNat (j : Int)); omega
            | false =>
              have HGA := Lib.hid (give_any HG6.out.a N)
              have hgi := inv_give HG6.out.inv N
              have HGI := Lib.hid hgi
              clear hgi
              go_wp2_with fail
              refine HGA.out.mono ?_
              rintro e w7 ⟨rfl, ha7, hk7⟩
              have HG7 := Lib.hid (HG6.out.turn hk7 ha7 (by rw [HGI.out.2]; exact HL.out.1))
              have HM7 := Lib.hid ((HM6.out.kept hk7 (fun b hb => ⟨hb.2, hb.1.1⟩)).more (T := fun b => (b ≠ g ∧ b ≠ q) ∧ b < w7.heap.size) (fun b hb => ⟨hb.1, Nat.lt_of_lt_of_le hb.2 hk7.size⟩))
              have HK7 := Lib.hid (HK6.out.kept hk7 ⟨HK6.out.lt, fun e => by
                have h1 := HK6.out
                rw [e] at h1
                obtain ⟨cs, hp⟩ := HG6.out.a.page
                exact Blk.ne_ h1 hp (by decide) rfl⟩)
              have HQ7 := Lib.hid (HQ6.out.kept hk7 ⟨HQ6.out.lt, HG6.out.ne.1⟩)
              clear ha7 hk7 d0 d2 k0
              have d2 := (HK7.out.cell 2).trans (show _ = some (Value.int .i64 N) from rfl)
              have k0 := (HQ7.out.cell 0).trans (show _ = some (Value.slice A6 m c6) from rfl)
              have HRG := Lib.hid (ref_give (cap := c6) HM7.out (fun b hb => hb.2) hm2 HL.out.2 HG6.out.inv N)
              go_wp2_with fail
              refine HRG.out.mono ?_
              rintro e w9 ⟨⟨A9, c9, r9, rfl, hm9⟩, hb9⟩
              have HM9 := Lib.hid (HG7.out.fresh hb9.size hm9)
              have hb10 := (Below.refl _ w9).alloc (Nat.le_refl _) (.cells #[.slice A9 m c9] 35)
              have HG10 := Lib.hid ((HG7.out.below hb9).below hb10)
              have HN10 := Lib.hid (Blk.new w9 35 #[.slice A9 m c9])
              have HM10 := Lib.hid ((HM9.out.below hb10 (fun b hb => hb.2)).more (T := fun b => (b ≠ g ∧ b ≠ q) ∧ b < (w9.alloc (.cells #[.slice A9 m c9] 35)).heap.size) (fun b hb => ⟨hb.1, Nat.lt_of_lt_of_le hb.2 hb10.size⟩))
              have HQ10 := Lib.hid ((HQ7.out.below hb9 HQ7.out.lt).below hb10 (HQ7.out.below hb9 HQ7.out.lt).lt)
              clear hm9 hb9 hb10 d2 k0
              go_upto_region 30 with fail
              generalize w9.alloc (.cells #[.slice A9 m c9] 35) = w10 at *
              have n0 := (HN10.out.cell 0).trans (show _ = some (Value.slice A9 m c9) from rfl)
              have k0 := (HQ10.out.cell 0).trans (show _ = some (Value.slice A6 m c6) from rfl)
              have f0 := HQ10.out.frozen 0
              go_wp2
              go_roundw
              case rel => exact ⟨j + 1, giveX ps N, by simp, by omega, by omega, HG10.out.store HM10.out c9 (by rw [HGI.out.2]; exact HL.out.1) HGI.out.1⟩
              case measure => show n - (Int.toNat ((j : Int) + 1)) < n - (Int.toNat (j : Int)); omega
      · obtain rfl : j = n := by omega
        go_wp2_with fail
        go_meet
        exact ⟨ps, HG.out⟩
  case rest =>
    obtain ⟨ps, hgs⟩ := hcut
    have HG := Lib.hid hgs
    have HL := Lib.hid hgs.len
    clear hgs
    go_wp2_with fail
    go_loopw [22] (fun c wr => ∃ k : Nat, c = .int .i64 ((k : Int) - 1) ∧ k ≤ 10 ∧ GsJ w x g q m ps ps wr) (fun c _ => (9 - intOf c).toNat)
    case atStart => exact ⟨0, rfl, by decide, HG.out⟩
    case round =>
      obtain ⟨k, rfl, hk, hgs⟩ := hrel
      have HX := Lib.hid hgs
      clear hgs
      obtain ⟨A6, c6, r6, hq6, hm6⟩ := HX.out.m
      have k0 := (hq6.cell 0).trans (show _ = some (Value.slice A6 m c6) from rfl)
      by_cases hk10 : k = 10
      · subst hk10
        clear k0 hq6 hm6
        go_wp2
        go_ret
        exact ⟨rfl, HX.out.bel⟩
      · have HRC := Lib.hid (ref_count (cap := c6) hm6 (fun b hb => hb.2) hm2 HL.out.2 HX.out.inv ((k : Int) - 1))
        clear hq6 hm6
        by_cases hk0 : k = 0
        · subst hk0
          rw [show (((0 : Nat) : Int) - 1) = -1 from rfl] at HRC ⊢
          rw [cnt_free] at HRC
          obtain ⟨F, hF⟩ : ∃ f, freeP ps = f := ⟨_, rfl⟩
          have HFR := Lib.hid (fun (W : World) (h : ArM W x g ps) => free_all h)
          have HUS := Lib.hid (fun (W : World) (h : ArM W x g ps) => used_all h (-1))
          have HPG := Lib.hid (fun (W : World) (h : ArM W x g ps) => pages_any h (-1))
          rw [(used_neg ps).1] at HUS
          rw [(used_neg ps).2] at HPG
          rw [hF] at HRC HFR
          obtain ⟨U, hU⟩ : ∃ f, sumL (-1) ps = f := ⟨_, rfl⟩
          rw [hU] at HRC
          clear hF hU
          go_wp2_with fail
          refine HRC.out.mono ?_
          rintro e w2 ⟨rfl, hb2⟩
          have HX2 := Lib.hid (HX.out.below hb2)
          clear hb2 k0
          go_wp2_with fail
          refine (HFR.out _ HX2.out.a).mono ?_
          rintro e w3 ⟨rfl, hb3⟩
          have HX3 := Lib.hid (HX2.out.below hb3)
          clear hb3
          go_wp2_with fail
          refine (HUS.out _ HX3.out.a).mono ?_
          rintro e w4 ⟨rfl, hb4⟩
          have HX4 := Lib.hid (HX3.out.below hb4)
          clear hb4
          go_wp2_with fail
          refine (HPG.out _ HX4.out.a).mono ?_
          rintro e w5 ⟨rfl, hb5⟩
          have HX5 := Lib.hid (HX4.out.below hb5)
          clear hb5
          go_wp2
          go_roundw
          case rel => exact ⟨1, by simp, by decide, HX5.out⟩
          case measure => decide
        · obtain ⟨c, rfl⟩ : ∃ c, k = c + 1 := ⟨k - 1, by omega⟩
          have hc9 : c < 9 := by omega
          rw [show (((c + 1 : Nat) : Int) - 1) = (c : Int) by omega] at HRC ⊢
          rw [(cnt_pages c ps).1, (cnt_pages c ps).2] at HRC
          have HUS := Lib.hid (fun (W : World) (h : ArM W x g ps) => used_any2 h c)
          have HPG := Lib.hid (fun (W : World) (h : ArM W x g ps) => pages_any' h c)
          obtain ⟨P, hP⟩ : ∃ f, pagesP c ps = f := ⟨_, rfl⟩
          obtain ⟨U, hU⟩ : ∃ f, usedP c ps = f := ⟨_, rfl⟩
          rw [hP, hU] at HRC
          rw [hP] at HPG
          rw [hU] at HUS
          clear hP hU hk0 hk10 hk
          have hc0 : ¬ ((c : Int) < 0) := by omega
          have hc9' : (c : Int) < 9 := by omega
          go_wp2_with fail
          refine HRC.out.mono ?_
          rintro e w2 ⟨rfl, hb2⟩
          have HX2 := Lib.hid (HX.out.below hb2)
          clear hb2 k0
          go_wp2_with fail
          refine (HPG.out _ HX2.out.a).mono ?_
          rintro e w3 ⟨rfl, hb3⟩
          have HX3 := Lib.hid (HX2.out.below hb3)
          clear hb3
          go_wp2_with fail
          refine (HUS.out _ HX3.out.a).mono ?_
          rintro e w4 ⟨rfl, hb4⟩
          have HX4 := Lib.hid (HX3.out.below hb4)
          clear hb4
          go_wp2
          go_roundw
          case rel => exact ⟨c + 2, by simp; omega, by omega, HX4.out⟩
          case measure => show (9 - ((c : Int) + 1)).toNat < (9 - (c : Int)).toNat; omega
end Go.Proofs.YtgipkdkfecegkaaDoor
