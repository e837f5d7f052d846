/- The document's Of, Where, Count. -/
import Derived.Test.YtgipkdkfecegkaaDoorRfW
namespace Go.Proofs.YtgipkdkfecegkaaDoor
open Go.RowKit Go.Shelf PgM
attribute [local go_sem] Oper.semAt_some
set_option linter.unusedVariables false
set_option linter.unusedSimpArgs false
def cellP (p : Pg) (k : Nat) : Int := if p.2.testBit k then (p.1 : Int) + 1 else 0
def cellF (ps : List Pg) (i k : Nat) : Int := cellP (ps.getD i pg0) k
def ofZ (p : Pg) : Int := if p.2 = 0 then -1 else (p.1 : Nat)
set_option maxRecDepth 100000 in
set_option maxHeartbeats 4000000 in
theorem ref_of {w : World} {S : Nat → Prop} {A : Option Addr} {n cap : Nat} {rows : List Nat} {ps : List Pg} (h : RefM w S A n rows (cellF ps)) (hS : ∀ b, S b → b < w.heap.size) (hn : n ≤ 256) (i : Nat) (hi : i < n) (hok : OkP (ps.getD i pg0)) :
    Calls Tryd.prog 34 #[arV A n cap, .int .i64 i] w fun e w' => e = .returned (.int .i64 (ofZ (ps.getD i pg0))) ∧ Below w.heap.size w w' := by
  obtain ⟨w1, hw1⟩ : ∃ w1, w1 = w.alloc (.cells #[.slice A n cap] 35) := ⟨_, rfl⟩
  have hb1 : Below w.heap.size w w1 := by rw [hw1]; exact (Below.refl _ w).alloc (Nat.le_refl _) _
  have HB1 := Lib.hid hb1
  have hk1 : Blk w1 w.heap.size 35 #[.slice A n cap] := by rw [hw1]; exact Blk.new w _ _
  obtain ⟨b, off, r, rfl, d0, d1⟩ := (h.below hb1 hS).at hi
  have k0 := (hk1.cell 0).trans (show _ = some (Value.slice (some ⟨b, off, none⟩) n cap) from rfl)
  have hd1 : ∀ k, k < 32 → w1.cell? ⟨r, k, none⟩ = some (.int .i64 (cellP (ps.getD i pg0) k)) := d1
  obtain ⟨⟨qc, qg⟩, hq⟩ : ∃ q, ps.getD i pg0 = q := ⟨_, rfl⟩
  rw [hq] at hok hd1 ⊢
  have hqc : qc < 8 := hok.1
  have hu : qg < 4294967296 := hok.u32
  have HD := Lib.hid hd1
  have HU := Lib.hid hu
  have HW := Lib.hid hw1
  have hi64 : (i : Int) < (n : Int) := by omega
  rw [hw1] at k0 d0
  clear h hb1 hk1 d1 hd1 hq hok hu hw1
  go_enter Tryd.func34, Tryd.ntmps34
  go_wp2_with fail
  rw [← HW.out] at k0 d0 ⊢
  go_loopw [5] (fun k0 wr => wr = w1 ∧ ∃ k : Nat, k0 = .int .i64 k ∧ k ≤ 32 ∧ ∀ j, j < k → qg.testBit j = false) (fun i _ => 32 - (intOf i).toNat)
  case atStart => exact ⟨rfl, 0, rfl, Nat.zero_le _, fun j hj => absurd hj (by omega)⟩
  case round =>
    obtain ⟨rfl, k, rfl, hk, hz⟩ := hrel
    have HZ := Lib.hid hz
    clear hz
    by_cases hk32 : k < 32
    · have d1 := HD.out k hk32
      unfold cellP at d1
      cases hv : qg.testBit k with
      | true =>
        have hne : qg ≠ 0 := fun e => by rw [e] at hv; simp at hv
        have HNE := Lib.hid hne
        simp only [hv, if_true] at d1
        clear hv hne
        have hpos : (0 : Int) < (qc : Int) + 1 := by omega
        have e1 : (qc : Int) + 1 - 1 = (qc : Int) := by omega
        go_wp2
        go_ret
        refine ⟨?_, HB1.out⟩
        unfold ofZ
        rw [if_neg HNE.out]
        simp
      | false =>
        have HV := Lib.hid hv
        simp only [hv, Bool.false_eq_true, if_false] at d1
        clear hv
        go_wp2
        go_roundw
        case rel => exact ⟨trivial, k + 1, by simp, by omega, fun j hj => by
          by_cases e : j = k
          · rw [e]; exact HV.out
          · exact HZ.out j (by omega)⟩
        case measure => show 32 - (Int.toNat ((k : Int) + 1)) < 32 - (Int.toNat (k : Int)); omega
    · obtain rfl : k = 32 := by omega
      have hz0 : qg = 0 := eq_zero_tb fun j => by
        by_cases hj : j < 32
        · exact HZ.out j hj
        · exact tb_high (c := 32) (by have := HU.out; omega) (by omega)
      go_wp2
      go_ret
      refine ⟨?_, HB1.out⟩
      unfold ofZ
      rw [if_pos hz0]
      rfl
set_option maxRecDepth 100000 in
set_option maxHeartbeats 4000000 in
theorem ref_where {w : World} {S : Nat → Prop} {A : Option Addr} {n cap : Nat} {rows : List Nat} {ps : List Pg} (h : RefM w S A n rows (cellF ps)) (hS : ∀ b, S b → b < w.heap.size) (hn : n ≤ 256) (hl : ps.length = n) (hi : InvP ps) (c : Int) (hc63 : wrap64 (c / 32) = c / 32) :
    Calls Tryd.prog 21 #[arV A n cap, .int .i64 c] w fun e w' => e = .returned (.tuple #[.int .i64 (whereK ps c : Nat), .int .i64 (findE ps c : Nat)]) ∧ Below w.heap.size w w' := by
  obtain ⟨w1, hw1⟩ : ∃ w1, w1 = w.alloc (.cells #[.slice A n cap] 35) := ⟨_, rfl⟩
  have hb1 : Below w.heap.size w w1 := by rw [hw1]; exact (Below.refl _ w).alloc (Nat.le_refl _) _
  have HB1 := Lib.hid hb1
  have hk1 : Blk w1 w.heap.size 35 #[.slice A n cap] := by rw [hw1]; exact Blk.new w _ _
  have HM1 := Lib.hid (h.below hb1 hS)
  have k0 := (hk1.cell 0).trans (show _ = some (Value.slice A n cap) from rfl)
  have HW := Lib.hid hw1
  have hn64 : (n : Int) ≤ 256 := by omega
  have HI := Lib.hid hi
  have HL := Lib.hid hl
  rw [hw1] at k0
  clear h hb1 hk1 hw1 hi hl
  by_cases hc : c < 0
  · clear hc63
    have e1 : findE ps c = 2 := by unfold findE; rw [if_pos hc]
    have e2 : whereK ps c = 0 := by unfold whereK; rw [e1]; rfl
    rw [e1, e2]
    go_enter Tryd.func21, Tryd.ntmps21
    go_wp2
    go_ret2
    rw [HW.out] at HB1
    exact ⟨rfl, HB1.out⟩
  · obtain ⟨m, rfl⟩ : ∃ m : Nat, c = m := ⟨c.toNat, by omega⟩
    clear hc
    by_cases hp : m < n * 32
    · obtain ⟨pg, hpg⟩ : ∃ q, m / 32 = q := ⟨_, rfl⟩
      obtain ⟨pl, hpl⟩ : ∃ q, m % 32 = q := ⟨_, rfl⟩
      have q1 : (m : Int) / 32 = (pg : Nat) := by omega
      have q2 : (m : Int) % 32 = (pl : Nat) := by omega
      have hpl32 : pl < 32 := by omega
      have q3 : (m : Int).tdiv 32 = (pg : Nat) := by rw [Int.tdiv_eq_ediv_of_nonneg (by omega)]; exact q1
      have q4 : (m : Int).tmod 32 = (pl : Nat) := by rw [Int.tmod_eq_emod_of_nonneg (by omega)]; exact q2
      have hpn : pg < n := by omega
      have hm : m = pg * 32 + pl := by omega
      have hm64 : ¬ ((m : Int) ≥ 32 * (n : Int)) := by omega
      have e1 := findE_at ps pg pl hpl32 (by rw [HL.out]; exact hpn)
      have e2 := whereK_at ps pg pl hpl32 (by rw [HL.out]; exact hpn)
      have e3 : ((ps.getD pg pg0).2.testBit pl = false) → whereK ps ((pg * 32 + pl : Nat) : Int) = 0 := fun hh => by unfold whereK; rw [e1, hh]; rfl
      rw [← hm] at e1 e2 e3
      rw [e1]
      obtain ⟨b, off, r, rfl, d0, d1⟩ := HM1.out.at hpn
      have d1l : w1.cell? ⟨r, pl, none⟩ = some (.int .i64 (cellP (ps.getD pg pg0) pl)) := d1 pl hpl32
      have hqc := (HI.out.get pg).1
      obtain ⟨⟨qc, qg⟩, hq⟩ : ∃ q, ps.getD pg pg0 = q := ⟨_, rfl⟩
      rw [hq] at d1l e2 e3 hqc ⊢
      rw [HW.out] at d0 d1l
      unfold cellP at d1l
      have hb2 := HB1.out
      rw [HW.out] at hb2
      have HB2 := Lib.hid hb2
      clear d1 hq hc63 hpg hpl hm e1 hb2 hp
      cases hv : qg.testBit pl with
      | true =>
        have HE := Lib.hid (e2 hv)
        simp only [hv, if_true] at d1l ⊢
        have hpos : ¬ ((qc : Int) + 1 = 0) := by omega
        have e1 : (qc : Int) + 1 - 1 = (qc : Int) := by omega
        have hqc8 : (qc : Int) < 8 := by have : qc < 8 := hqc; omega
        clear e2 e3 hv
        go_enter Tryd.func21, Tryd.ntmps21
        go_wp2
        go_ret2
        refine ⟨?_, HB2.out⟩
        rw [HE.out]
        simp
      | false =>
        have HE := Lib.hid (e3 hv)
        simp only [hv, Bool.false_eq_true, if_false] at d1l ⊢
        clear e2 e3 hv
        go_enter Tryd.func21, Tryd.ntmps21
        go_wp2
        go_ret2
        refine ⟨?_, HB2.out⟩
        rw [HE.out]
        rfl
    · have e1 : findE ps (m : Int) = 2 := by
        unfold findE
        rw [if_neg (by omega), if_pos (by rw [HL.out]; omega)]
      have e2 : whereK ps (m : Int) = 0 := by unfold whereK; rw [e1]; rfl
      rw [e1, e2]
      have hge : (m : Int) ≥ 32 * (n : Int) := by omega
      clear e1 e2 hc63 hp
      go_enter Tryd.func21, Tryd.ntmps21
      go_wp2
      go_ret2
      rw [HW.out] at HB1
      exact ⟨rfl, HB1.out⟩
end Go.Proofs.YtgipkdkfecegkaaDoor
