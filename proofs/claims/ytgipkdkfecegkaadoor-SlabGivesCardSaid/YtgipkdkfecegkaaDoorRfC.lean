/- The document's Count. -/
import Derived.Test.YtgipkdkfecegkaaDoorRfR
namespace Go.Proofs.YtgipkdkfecegkaaDoor
open Go.RowKit Go.Shelf PgM
attribute [local go_sem] Oper.semAt_some
set_option linter.unusedVariables false
set_option linter.unusedSimpArgs false
def ofB (c : Int) (p : Pg) : Bool := decide (ofZ p = c)
def cntL (c : Int) (ps : List Pg) : Nat := (ps.filter (ofB c)).length
def sumL (c : Int) (ps : List Pg) : Nat := ((ps.filter (ofB c)).map (fun p => pop p.2)).sum
def popU (g j : Nat) : Nat := ((List.range j).filter (fun i => g.testBit i)).length
theorem popU_succ (g j : Nat) : popU g (j + 1) = popU g j + (if g.testBit j then 1 else 0) := by
  unfold popU
  rw [List.range_succ, List.filter_append, List.length_append]
  cases h : g.testBit j <;> simp [h]
theorem popU_le (g j : Nat) : popU g j ≤ j := by
  have := List.length_filter_le (fun i => g.testBit i) (List.range j)
  simpa [popU] using this
theorem take_snocP {ps : List Pg} {i : Nat} (hi : i < ps.length) : ps.take (i + 1) = ps.take i ++ [ps.getD i pg0] := by
  rw [List.take_add_one]
  simp [List.getD, List.getElem?_eq_getElem hi]
theorem cntL_snoc (c : Int) {ps : List Pg} {i : Nat} (hi : i < ps.length) : cntL c (ps.take (i + 1)) = cntL c (ps.take i) + (if ofZ (ps.getD i pg0) = c then 1 else 0) := by
  unfold cntL
  rw [take_snocP hi, List.filter_append, List.length_append]
  obtain ⟨q, hq⟩ : ∃ q, ps.getD i pg0 = q := ⟨_, rfl⟩
  rw [hq]
  by_cases h : ofZ q = c <;> simp [ofB, h]
theorem sumL_snoc (c : Int) {ps : List Pg} {i : Nat} (hi : i < ps.length) : sumL c (ps.take (i + 1)) = sumL c (ps.take i) + (if ofZ (ps.getD i pg0) = c then pop (ps.getD i pg0).2 else 0) := by
  unfold sumL
  rw [take_snocP hi, List.filter_append, List.map_append, List.sum_append]
  obtain ⟨q, hq⟩ : ∃ q, ps.getD i pg0 = q := ⟨_, rfl⟩
  rw [hq]
  by_cases h : ofZ q = c <;> simp [ofB, h]
theorem cntL_le (c : Int) (ps : List Pg) : cntL c ps ≤ ps.length := List.length_filter_le _ _
theorem sumL_le (c : Int) (ps : List Pg) : sumL c ps ≤ 32 * ps.length := Nat.le_trans (sum_le _) (Nat.mul_le_mul_left _ (List.length_filter_le _ _))
set_option maxRecDepth 100000 in
set_option maxHeartbeats 4000000 in
theorem ref_count {w : World} {S : Nat → Prop} {A : Option Addr} {n cap : Nat} {rows : List Nat} {ps : List Pg} (h : RefM w S A n rows (cellF ps)) (hS : ∀ b, S b → b < w.heap.size) (hn : n ≤ 256) (hl : ps.length = n) (hi : InvP ps) (c : Int) :
    Calls Tryd.prog 24 #[arV A n cap, .int .i64 c] w fun e w' => e = .returned (.tuple #[.int .i64 (cntL c ps : Nat), .int .i64 (sumL c ps : Nat)]) ∧ Below w.heap.size w w' := by
  obtain ⟨w1, hw1⟩ : ∃ w1, w1 = w.alloc (.cells #[.slice A n cap] 35) := ⟨_, rfl⟩
  have hb1 : Below w.heap.size w w1 := by rw [hw1]; exact (Below.refl _ w).alloc (Nat.le_refl _) _
  have HB1 := Lib.hid hb1
  have HK1 := Lib.hid (show Blk w1 w.heap.size 35 #[.slice A n cap] by rw [hw1]; exact Blk.new w _ _)
  have HM := Lib.hid h
  have HS := Lib.hid hS
  have HW := Lib.hid hw1
  have hn64 : (n : Int) ≤ 256 := by omega
  have HI := Lib.hid hi
  have HL := Lib.hid hl
  clear h hb1 hw1 hi hl hS
  go_enter Tryd.func24, Tryd.ntmps24
  go_wp2_with fail
  rw [← HW.out]
  go_loopw [6, 7, 8] (fun a0 b0 i0 wr => ∃ i : Nat, i0 = .int .i64 i ∧ i ≤ n ∧ a0 = .int .i64 (cntL c (ps.take i) : Nat) ∧ b0 = .int .i64 (sumL c (ps.take i) : Nat) ∧ Below w.heap.size w wr ∧ Blk wr w.heap.size 35 #[.slice A n cap]) (fun _ _ i _ => n - (intOf i).toNat)
  case atStart => exact ⟨0, rfl, Nat.zero_le _, by simp [cntL], by simp [sumL], HB1.out, HK1.out⟩
  case round =>
    obtain ⟨i, rfl, hi, rfl, rfl, hB, hK⟩ := hrel
    have HB := Lib.hid hB
    have HK := Lib.hid hK
    have k0 := (hK.cell 0).trans (show _ = some (Value.slice A n cap) from rfl)
    clear hB hK
    by_cases hin : i < n
    · have hc1 := cntL_snoc c (ps := ps) (i := i) (by rw [HL.out]; exact hin)
      have hc2 := sumL_snoc c (ps := ps) (i := i) (by rw [HL.out]; exact hin)
      have hle1 := cntL_le c (ps.take i)
      have hle2 := sumL_le c (ps.take i)
      have hle3 : (ps.take i).length ≤ i := List.length_take_le _ _
      obtain ⟨T1, hT1⟩ : ∃ t, cntL c (ps.take i) = t := ⟨_, rfl⟩
      obtain ⟨T2, hT2⟩ : ∃ t, sumL c (ps.take i) = t := ⟨_, rfl⟩
      rw [hT1] at hc1 hle1 ⊢
      rw [hT2] at hc2 hle2 ⊢
      have h1 : T1 ≤ 256 := by omega
      have h2 : T2 ≤ 8192 := by omega
      have hof := fun (W : World) (hb : Below w.heap.size w W) => ref_of (cap := cap) (HM.out.below hb HS.out) (fun b h => Nat.lt_of_lt_of_le (HS.out b h) hb.size) hn i hin (HI.out.get i)
      have hu := (HI.out.get i).u32
      obtain ⟨b, off, r, hA, d0, d1⟩ := (HM.out.below HB.out HS.out).at hin
      have HD := Lib.hid (show ∀ (W : World), Below w.heap.size w W → ∃ b off r, A = some ⟨b, off, none⟩ ∧ W.cell? ⟨b, off + i, none⟩ = some (.slice (some ⟨r, 0, none⟩) 32 32) ∧ ∀ k, k < 32 → W.cell? ⟨r, k, none⟩ = some (.int .i64 (cellP (ps.getD i pg0) k)) from fun W hb => (HM.out.below hb HS.out).at hin)
      obtain ⟨⟨qc, qg⟩, hq⟩ : ∃ q, ps.getD i pg0 = q := ⟨_, rfl⟩
      rw [hq] at hc1 hc2 hof hu HD
      obtain ⟨Z, hZ⟩ : ∃ z, ofZ (qc, qg) = z := ⟨_, rfl⟩
      rw [hZ] at hof hc1 hc2
      have HOF := Lib.hid hof
      have HC1 := Lib.hid hc1
      have HC2 := Lib.hid hc2
      clear hc1 hc2 hle1 hle2 hle3 hT1 hT2 hof d0 d1 hA hq hZ
      go_wp2_with fail
      refine (HOF.out _ HB.out).mono ?_
      rintro e w2 ⟨rfl, hb2⟩
      have HB2 := Lib.hid (HB.out.trans (hb2.mono HB.out.size))
      have HK2 := Lib.hid (HK.out.below hb2 HK.out.lt)
      clear hb2 k0
      by_cases hZc : Z = c
      · subst hZc
        simp only [if_true] at HC1 HC2
        go_wp2_with fail
        go_loopw [7, 9] (fun b0 j0 wx => wx = w2 ∧ ∃ j : Nat, j0 = .int .i64 j ∧ j ≤ 32 ∧ b0 = .int .i64 (T2 + popU qg j : Nat)) (fun _ i _ => 32 - (intOf i).toNat)
        case atStart => exact ⟨rfl, 0, rfl, Nat.zero_le _, by simp [popU]⟩
        case round =>
          obtain ⟨rfl, j, rfl, hj, rfl⟩ := hrel
          have hps := popU_succ qg j
          have hpl := popU_le qg j
          obtain ⟨U, hU⟩ : ∃ u, popU qg j = u := ⟨_, rfl⟩
          rw [hU] at hps hpl ⊢
          by_cases hj32 : j < 32
          · obtain ⟨b, off, r, rfl, d0, d1⟩ := HD.out _ HB2.out
            have d1l := d1 j hj32
            have k0 := (HK2.out.cell 0).trans (show _ = some (Value.slice (some ⟨b, off, none⟩) n cap) from rfl)
            unfold cellP at d1l
            have hU32 : U ≤ 32 := by omega
            clear d1 hU
            cases hv : qg.testBit j with
            | true =>
              simp only [hv, if_true] at d1l hps
              have HPS := Lib.hid hps
              have hpos : (0 : Int) < (qc : Int) + 1 := by omega
              clear hps hv
              go_wp2
              go_roundw
              case rel => exact ⟨trivial, j + 1, by simp, by omega, by rw [HPS.out]; simp; omega⟩
              case measure => show 32 - (Int.toNat ((j : Int) + 1)) < 32 - (Int.toNat (j : Int)); omega
            | false =>
              simp only [hv, Bool.false_eq_true, if_false] at d1l hps
              have HPS := Lib.hid hps
              clear hps hv
              go_wp2
              go_roundw
              case rel => exact ⟨trivial, j + 1, by simp, by omega, by rw [HPS.out]; simp⟩
              case measure => show 32 - (Int.toNat ((j : Int) + 1)) < 32 - (Int.toNat (j : Int)); omega
          · obtain rfl : j = 32 := by omega
            have HU := Lib.hid (show pop qg = U from hU)
            clear hU hps
            go_wp2
            go_roundw
            case rel => exact ⟨i + 1, by simp, by omega, by rw [HC1.out]; simp, by rw [HC2.out]; simp [HU.out], HB2.out, HK2.out⟩
            case measure => show n - (Int.toNat ((i : Int) + 1)) < n - (Int.toNat (i : Int)); omega
      · rw [if_neg hZc] at HC1 HC2
        go_wp2
        go_roundw
        case rel => exact ⟨i + 1, by simp, by omega, by rw [HC1.out]; simp, by rw [HC2.out]; simp, HB2.out, HK2.out⟩
        case measure => show n - (Int.toNat ((i : Int) + 1)) < n - (Int.toNat (i : Int)); omega
    · obtain rfl : i = n := by omega
      have e : ps.take i = ps := List.take_of_length_le (by rw [HL.out]; exact Nat.le_refl _)
      rw [e]
      clear e
      go_wp2
      go_ret2
      exact ⟨rfl, HB.out⟩
end Go.Proofs.YtgipkdkfecegkaaDoor
