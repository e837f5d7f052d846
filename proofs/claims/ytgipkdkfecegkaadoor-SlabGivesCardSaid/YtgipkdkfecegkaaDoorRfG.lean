/- The document's Give. -/
import Derived.Test.YtgipkdkfecegkaaDoorRfT
namespace Go.Proofs.YtgipkdkfecegkaaDoor
open Go.RowKit Go.Shelf PgM
attribute [local go_sem] Oper.semAt_some
set_option linter.unusedVariables false
set_option linter.unusedSimpArgs false
/-- What lies about while pages are looked through. -/
structure GvR (w : World) (A : Option Addr) (n cap : Nat) (wr : World) : Prop where
  bel : Below w.heap.size w wr
  k0 : Blk wr w.heap.size 35 #[.slice A n cap]
  k1 : Blk wr (w.heap.size + 1) 35 #[.slice none 0 0]
theorem GvR.below {w : World} {A : Option Addr} {n cap : Nat} {wr w' : World} (h : GvR w A n cap wr) (hb : Below wr.heap.size wr w') : GvR w A n cap w' :=
  ⟨h.bel.trans (hb.mono h.bel.size), h.k0.below hb h.k0.lt, h.k1.below hb h.k1.lt⟩
set_option maxRecDepth 100000 in
set_option maxHeartbeats 8000000 in
theorem ref_give {w : World} {S : Nat → Prop} {A : Option Addr} {n cap : Nat} {rows : List Nat} {ps : List Pg} (h : RefM w S A n rows (cellF ps)) (hS : ∀ b, S b → b < w.heap.size) (hn : n ≤ 256) (hl : ps.length = n) (hi : InvP ps) (c : Int) :
    Calls Tryd.prog 23 #[arV A n cap, .int .i64 c] w fun e w' =>
      (∃ A' cap' rows', e = .returned (.tuple #[arV A' n cap', .int .i64 (giveN ps c : Nat), .int .i64 (giveE ps c : Nat)]) ∧ RefM w' (fun b => S b ∨ (w.heap.size ≤ b ∧ b < w'.heap.size)) A' n rows' (cellF (giveX ps c))) ∧ Below w.heap.size w w' := by
  obtain ⟨w1, hw1⟩ : ∃ w1, w1 = (w.alloc (.cells #[.slice A n cap] 35)).alloc (.cells #[.slice none 0 0] 35) := ⟨_, rfl⟩
  have HG1 := Lib.hid (show GvR w A n cap w1 from ⟨by rw [hw1]; exact ((Below.refl _ w).alloc (Nat.le_refl _) _).alloc (by simp) _, by rw [hw1]; exact (Blk.new w _ _).alloc _, by rw [hw1]; have h := Blk.new (w.alloc (.cells #[.slice A n cap] 35)) 35 #[.slice none 0 0]; simpa using h⟩)
  have HM := Lib.hid h
  have HS := Lib.hid hS
  have HW := Lib.hid hw1
  have HL := Lib.hid hl
  have HI := Lib.hid hi
  have HCL := Lib.hid (ref_class c)
  have hn64 : (n : Int) ≤ 256 := by omega
  clear h hS hw1 hl hi
  by_cases he : clsE c = 0
  case neg =>
    have e1 : giveE ps c = clsE c := by unfold giveE; rw [if_neg he]
    have e2 : giveN ps c = 0 := by unfold giveN; rw [e1, if_neg he]
    have e3 : giveX ps c = ps := by unfold giveX; rw [e1, if_neg he]
    rw [e1, e2, e3]
    obtain ⟨E, hE⟩ : ∃ E, clsE c = E := ⟨_, rfl⟩
    obtain ⟨K0, hK0⟩ : ∃ E, clsK c = E := ⟨_, rfl⟩
    rw [hE] at HCL he ⊢
    rw [hK0] at HCL
    have hne : ((E : Int) != 0) = true := by simp; omega
    clear hE hK0 e1 e2 e3 he
    go_enter Tryd.func23, Tryd.ntmps23
    go_wp2_with fail
    rw [← HW.out]
    refine (HCL.out _).mono ?_
    rintro e w2 ⟨rfl, hb2⟩
    have HG2 := Lib.hid (HG1.out.below hb2)
    clear hb2
    have k0 := (HG2.out.k0.cell 0).trans (show _ = some (Value.slice A n cap) from rfl)
    have k1 := (HG2.out.k1.cell 0).trans (show _ = some (Value.slice none 0 0) from rfl)
    have f1 := HG2.out.k1.frozen 0
    go_wp2_with (with_reducible refine halt_end ?_)
    have hst := HG2.out.k1.set_ 0 (.slice A n cap)
    have hbel := HG2.out.bel.setCell (p := ⟨w.heap.size + 1, 0, none⟩) (by simp) (.slice A n cap)
    refine Halt.ret (results_row3 rfl _ _ (w.heap.size + 1) 35 #[.slice A n cap] _ rfl hst Tryd.underlying35 rfl size_arR) rfl ⟨⟨A, cap, rows, rfl, ?_⟩, hbel⟩
    exact (HM.out.below hbel HS.out).more (fun b hb => .inl hb)
  obtain ⟨K, hK⟩ : ∃ K, clsK c = K := ⟨_, rfl⟩
  have hK8 : K < 8 := by rw [← hK]; exact clsK_lt c
  have HSZ := Lib.hid (ref_size (K : Int))
  have hq := chN_div hK8
  have hc32 := (chN_pos hK8).2
  rw [show szZ (K : Int) = szN K from szZ_nat K] at HSZ
  have HRM := Lib.hid (fun i hl hr hb => give_room (i := i) HI.out he hl hr hb)
  have HFR := Lib.hid (fun hb i hl hf hn => give_free HI.out he hb (i := i) hl hf hn)
  have HNO := Lib.hid (fun hb hn => give_none (ps := ps) he hb hn)
  have HOF := Lib.hid (fun (W : World) (hb : Below w.heap.size w W) (i : Nat) (hi : i < n) => ref_of (cap := cap) (HM.out.below hb HS.out) (fun b hb2 => Nat.lt_of_lt_of_le (HS.out b hb2) hb.size) hn i hi (HI.out.get i))
  have HWI := Lib.hid (fun (W : World) (hb : Below w.heap.size w W) (i k : Nat) (hi : i < n) (hk : k < 32) => ref_with (cap := cap) (HM.out.below hb HS.out) (fun b hb2 => Nat.lt_of_lt_of_le (HS.out b hb2) hb.size) hn i k hi hk ((K : Int) + 1))
  rw [hK] at HRM HFR HNO
  have HGC := Lib.hid (fun i (hg : Given ps c i) => hg.cells)
  rw [hK] at HGC
  rw [he, hK] at HCL
  obtain ⟨s, hs⟩ : ∃ s, szN K = s := ⟨_, rfl⟩
  obtain ⟨C, hC⟩ : ∃ s, chN K = s := ⟨_, rfl⟩
  rw [hs] at HSZ hq
  rw [hC] at hq hc32
  have hq3 : (1024 : Int).tdiv (s : Int) = (C : Nat) := by rw [Int.tdiv_eq_ediv_of_nonneg (by omega)]; have := hq.1; rw [← this]; rfl
  have hs1 : ¬ ((s : Int) = 0) := by have := hq.2.1; omega
  have hs2 : (s : Int) ≤ 1024 := by have := hq.2.2; have h1 : 1 ≤ C := by rw [← hC]; exact (chN_pos hK8).1
                                    have : s * 1 ≤ s * C := Nat.mul_le_mul_left _ h1
                                    omega
  have HCC := Lib.hid hC
  have HKK := Lib.hid hK
  have HHE := Lib.hid he
  clear hq hs hC hK he
  go_enter Tryd.func23, Tryd.ntmps23
  go_wp2_with fail
  rw [← HW.out]
  refine (HCL.out _).mono ?_
  rintro e w2 ⟨rfl, hb2⟩
  have HG2 := Lib.hid (HG1.out.below hb2)
  clear hb2
  go_wp2_with fail
  go_loopw [9, 10] (fun i0 _ wr => ∃ i : Nat, i0 = .int .i64 i ∧ i ≤ n ∧ (∀ j, j < i → roomB K (ps.getD j pg0) = false) ∧ GvR w A n cap wr) (fun i _ _ => n - (intOf i).toNat)
  case atStart => exact ⟨0, rfl, Nat.zero_le _, fun j hj => absurd hj (by omega), HG2.out⟩
  case round =>
    obtain ⟨i, rfl, hi, hR, hG⟩ := hrel
    have HR := Lib.hid hR
    have HG := Lib.hid hG
    clear hR hG
    have k0 := (HG.out.k0.cell 0).trans (show _ = some (Value.slice A n cap) from rfl)
    by_cases hin : i < n
    · obtain ⟨Z, hZ⟩ : ∃ z, ofZ (ps.getD i pg0) = z := ⟨_, rfl⟩
      have HOZ := Lib.hid (fun (W : World) (hb : Below w.heap.size w W) => HOF.out W hb i hin)
      rw [hZ] at HOZ
      have HOK := Lib.hid (HI.out.get i)
      have HZE := Lib.hid hZ
      clear hZ
      go_wp2_with fail
      clear k0
      go_loopw [10] (fun k0 wx => ∃ k : Nat, k0 = .int .i64 k ∧ k ≤ C ∧ (∀ j, j < k → (ps.getD i pg0).2.testBit j = true) ∧ GvR w A n cap wx) (fun k _ => C - (intOf k).toNat)
      case atStart => exact ⟨0, rfl, Nat.zero_le _, fun j hj => absurd hj (by omega), HG.out⟩
      case round =>
        obtain ⟨k, rfl, hk, hT, hX⟩ := hrel
        have HT := Lib.hid hT
        have HX := Lib.hid hX
        clear hT hX
        by_cases hkC : k < C
        · have hk64 : (k : Int) < (C : Nat) := by omega
          go_wp2_with fail
          refine (HSZ.out _).mono ?_
          rintro e w3 ⟨rfl, hb3⟩
          have HX3 := Lib.hid (HX.out.below hb3)
          clear hb3
          have k0 := (HX3.out.k0.cell 0).trans (show _ = some (Value.slice A n cap) from rfl)
          go_wp2_with fail
          refine (HOZ.out _ HX3.out.bel).mono ?_
          rintro e w4 ⟨rfl, hb4⟩
          have HX4 := Lib.hid (HX3.out.below hb4)
          clear hb4 k0
          by_cases hZK : Z = (K : Int)
          · have HHP := Lib.hid (ofZ_has.1 (HZE.out.trans hZK))
            subst hZK
            have k0 := (HX4.out.k0.cell 0).trans (show _ = some (Value.slice A n cap) from rfl)
            obtain ⟨b, off, r, rfl, d0, d1⟩ := (HM.out.below HX4.out.bel HS.out).at hin
            have hk32 : k < 32 := by omega
            have d1l : w4.cell? ⟨r, k, none⟩ = some (.int .i64 (cellP (ps.getD i pg0) k)) := d1 k hk32
            unfold cellP at d1l
            clear d1
            obtain ⟨⟨qc, qg⟩, hq⟩ : ∃ q, ps.getD i pg0 = q := ⟨_, rfl⟩
            rw [hq] at d1l HT HOK HHP
            have HQ := Lib.hid hq
            clear hq
            cases hv : qg.testBit k with
            | true =>
              have HV := Lib.hid hv
              simp only [hv, if_true] at d1l
              have hpos : ¬ ((qc : Int) + 1 = 0) := by omega
              clear hv
              go_wp2
              go_roundw
              case rel => exact ⟨k + 1, by simp, by omega, fun j hj => by
                rw [HQ.out]
                by_cases e : j = k
                · rw [e]; exact HV.out
                · exact HT.out j (by omega), HX4.out⟩
              case measure => show C - (Int.toNat ((k : Int) + 1)) < C - (Int.toNat (k : Int)); omega
            | false =>
              have hra := room_at HOK.out HHP.out (by rw [HCC.out]; exact hkC) hv HT.out
              have hg := HRM.out i (by rw [HL.out]; exact hin) (by rw [HQ.out]; exact hra.1) HR.out
              have HGN := Lib.hid hg
              have HGS := Lib.hid (HGC.out i hg)
              rw [HQ.out] at HGS
              have hnum := hg.num
              rw [HQ.out] at hnum
              rw [show fst0 (qc, qg).2 = k from hra.2] at hnum HGS
              have HNM := Lib.hid hnum
              have HGE := Lib.hid hg.e
              simp only [hv, Bool.false_eq_true, if_false] at d1l
              have i64 : (i : Int) < 256 := by omega
              have k64 : (k : Int) < 32 := by omega
              have K64 : (K : Int) < 8 := by omega
              clear hv hra hg hnum
              have HWX := Lib.hid (HWI.out _ HX4.out.bel i k hin hk32)
              go_wp2_with fail
              refine HWX.out.mono ?_
              rintro e w5 ⟨⟨A', cap', rows', rfl, hM⟩, hb5⟩
              have HX5 := Lib.hid (HX4.out.below hb5)
              have HM5 := Lib.hid hM
              have hlt4 := HX4.out.bel.size
              have hltk := HX4.out.k1.lt
              clear hM hb5 k0 d0 d1l
              have k1 := (HX5.out.k1.cell 0).trans (show _ = some (Value.slice none 0 0) from rfl)
              have f1 := HX5.out.k1.frozen 0
              go_wp2_with (with_reducible refine halt_end ?_)
              have hst := HX5.out.k1.set_ 0 (.slice A' n cap')
              have hbel := HX5.out.bel.setCell (p := ⟨w.heap.size + 1, 0, none⟩) (by simp) (.slice A' n cap')
              refine Halt.ret (results_row3 rfl _ _ (w.heap.size + 1) 35 #[.slice A' n cap'] _ rfl hst Tryd.underlying35 rfl size_arR) rfl ⟨⟨A', cap', rows', by rw [HNM.out, HGE.out]; simp; omega, ?_⟩, hbel⟩
              have h2 := HM5.out.kept ((Kept.refl (fun b => w4.heap.size ≤ b ∧ b < w5.heap.size) w5).setCell (p := ⟨w.heap.size + 1, 0, none⟩) (fun hh => by have h3 : w4.heap.size ≤ w.heap.size + 1 := hh.1; omega) (.slice A' n cap')) (fun b hb => hb)
              exact (h2.more (fun b hb => .inr ⟨by omega, by simpa using hb.2⟩)).congr (fun a ha d hd => HGS.out a d)
          · have HHP := Lib.hid (show hasP K (ps.getD i pg0) = false by
              cases hh : hasP K (ps.getD i pg0) with
              | false => rfl
              | true => exact absurd (HZE.out.symm.trans (ofZ_has.2 hh)) hZK)
            go_wp2
            go_roundw
            case rel => exact ⟨i + 1, by simp, by omega, fun j hj => by
              by_cases e : j = i
              · rw [e]; exact room_not HHP.out
              · exact HR.out j (by omega), HX4.out⟩
            case measure => show n - (Int.toNat ((i : Int) + 1)) < n - (Int.toNat (i : Int)); omega
        · obtain rfl : k = C := by omega
          go_wp2_with fail
          refine (HSZ.out _).mono ?_
          rintro e w3 ⟨rfl, hb3⟩
          have HX3 := Lib.hid (HX.out.below hb3)
          clear hb3
          go_wp2
          go_roundw
          case rel => exact ⟨i + 1, by simp, by omega, fun j hj => by
            by_cases e : j = i
            · rw [e]; exact room_full HOK.out (by rw [HCC.out]; exact HT.out)
            · exact HR.out j (by omega), HX3.out⟩
          case measure => show n - (Int.toNat ((i : Int) + 1)) < n - (Int.toNat (i : Int)); omega
    · obtain rfl : i = n := by omega
      have HR2 := Lib.hid (show ∀ j, j < ps.length → roomB K (ps.getD j pg0) = false by rw [HL.out]; exact HR.out)
      go_wp2_with fail
      clear k0
      go_loopw [11] (fun i0 wr => ∃ l : Nat, i0 = .int .i64 l ∧ l ≤ i ∧ (∀ j, j < l → (ps.getD j pg0).2 ≠ 0) ∧ GvR w A i cap wr) (fun l _ => i - (intOf l).toNat)
      case atStart => exact ⟨0, rfl, Nat.zero_le _, fun j hj => absurd hj (by omega), HG.out⟩
      case round =>
        obtain ⟨l, rfl, hl, hF, hX⟩ := hrel
        have HF := Lib.hid hF
        have HX := Lib.hid hX
        clear hF hX
        have k0 := (HX.out.k0.cell 0).trans (show _ = some (Value.slice A i cap) from rfl)
        by_cases hln : l < i
        · obtain ⟨Z, hZ⟩ : ∃ z, ofZ (ps.getD l pg0) = z := ⟨_, rfl⟩
          have HOZ := Lib.hid (HOF.out _ HX.out.bel l hln)
          rw [hZ] at HOZ
          have hl64 : (l : Int) < (i : Nat) := by omega
          by_cases h0 : (ps.getD l pg0).2 = 0
          · have hg := HFR.out HR2.out l (by rw [HL.out]; exact hln) h0 HF.out
            have HGS := Lib.hid (HGC.out l hg)
            have hnum := hg.num
            rw [h0, fst0_zero] at hnum HGS
            have HNM := Lib.hid hnum
            have HGE := Lib.hid hg.e
            obtain rfl : Z = -1 := by rw [← hZ]; unfold ofZ; rw [if_pos h0]
            have l64 : (l : Int) < 256 := by omega
            have K64 : (K : Int) < 8 := by omega
            clear h0 hg hnum hZ
            go_wp2_with fail
            refine HOZ.out.mono ?_
            rintro e w3 ⟨rfl, hb3⟩
            have HX3 := Lib.hid (HX.out.below hb3)
            clear hb3 k0
            have k0 := (HX3.out.k0.cell 0).trans (show _ = some (Value.slice A i cap) from rfl)
            have HWX := Lib.hid (HWI.out _ HX3.out.bel l 0 hln (by decide))
            go_wp2_with fail
            refine HWX.out.mono ?_
            rintro e w5 ⟨⟨A', cap', rows', rfl, hM⟩, hb5⟩
            have HX5 := Lib.hid (HX3.out.below hb5)
            have HM5 := Lib.hid hM
            have hlt4 := HX3.out.bel.size
            have hltk := HX3.out.k1.lt
            clear hM hb5 k0
            have k1 := (HX5.out.k1.cell 0).trans (show _ = some (Value.slice none 0 0) from rfl)
            have f1 := HX5.out.k1.frozen 0
            go_wp2_with (with_reducible refine halt_end ?_)
            have hst := HX5.out.k1.set_ 0 (.slice A' i cap')
            have hbel := HX5.out.bel.setCell (p := ⟨w.heap.size + 1, 0, none⟩) (by simp) (.slice A' i cap')
            refine Halt.ret (results_row3 rfl _ _ (w.heap.size + 1) 35 #[.slice A' i cap'] _ rfl hst Tryd.underlying35 rfl size_arR) rfl ⟨⟨A', cap', rows', by rw [HNM.out, HGE.out]; simp; omega, ?_⟩, hbel⟩
            have h2 := HM5.out.kept ((Kept.refl (fun b => w3.heap.size ≤ b ∧ b < w5.heap.size) w5).setCell (p := ⟨w.heap.size + 1, 0, none⟩) (fun hh => by have h3 : w3.heap.size ≤ w.heap.size + 1 := hh.1; omega) (.slice A' i cap')) (fun b hb => hb)
            exact (h2.more (fun b hb => .inr ⟨by omega, by simpa using hb.2⟩)).congr (fun a ha d hd => HGS.out a d)
          · have hZ0 : ¬ (Z < 0) := by rw [← hZ]; unfold ofZ; rw [if_neg h0]; omega
            have H0 := Lib.hid h0
            clear hZ h0
            go_wp2_with fail
            refine HOZ.out.mono ?_
            rintro e w3 ⟨rfl, hb3⟩
            have HX3 := Lib.hid (HX.out.below hb3)
            clear hb3 k0
            go_wp2
            go_roundw
            case rel => exact ⟨l + 1, by simp, by omega, fun j hj => by
              by_cases e : j = l
              · rw [e]; exact H0.out
              · exact HF.out j (by omega), HX3.out⟩
            case measure => show i - (Int.toNat ((l : Int) + 1)) < i - (Int.toNat (l : Int)); omega
        · obtain rfl : l = i := by omega
          obtain ⟨e1, e2, e3⟩ := HNO.out HR2.out (by rw [HL.out]; exact HF.out)
          have H3 := Lib.hid (And.intro e1 (And.intro e2 e3))
          clear e1 e2 e3
          have k1 := (HX.out.k1.cell 0).trans (show _ = some (Value.slice none 0 0) from rfl)
          have f1 := HX.out.k1.frozen 0
          go_wp2_with (with_reducible refine halt_end ?_)
          have hst := HX.out.k1.set_ 0 (.slice A l cap)
          have hbel := HX.out.bel.setCell (p := ⟨w.heap.size + 1, 0, none⟩) (by simp) (.slice A l cap)
          refine Halt.ret (results_row3 rfl _ _ (w.heap.size + 1) 35 #[.slice A l cap] _ rfl hst Tryd.underlying35 rfl size_arR) rfl ⟨⟨A, cap, rows, by rw [H3.out.1, H3.out.2.1]; rfl, ?_⟩, hbel⟩
          rw [H3.out.2.2]
          exact (HM.out.below hbel HS.out).more (fun b hb => .inl hb)
end Go.Proofs.YtgipkdkfecegkaaDoor
