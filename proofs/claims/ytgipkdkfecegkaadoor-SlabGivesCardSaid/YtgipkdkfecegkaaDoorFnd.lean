/- find, Where, Take. -/
import Derived.Test.YtgipkdkfecegkaaDoorGive
namespace Go.Proofs.YtgipkdkfecegkaaDoor
open Go.RowKit Go.Shelf PgM
attribute [local go_sem] Oper.semAt_some
set_option linter.unusedVariables false
set_option linter.unusedSimpArgs false
theorem and_one (x : Nat) (h : x < 4294967296) : bits .and .u32 (x : Int) 1 = ((x % 2 : Nat) : Int) := by
  have := bits_and_u32_nat x 1 h (by omega)
  rw [show (((1 : Nat)) : Int) = 1 from rfl] at this
  rw [this, show (1 : Nat) = 2 ^ 1 - 1 from rfl, Nat.and_two_pow_sub_one_eq_mod]
theorem tb_mod (g p : Nat) : g / 2 ^ p % 2 = if g.testBit p then 1 else 0 := by
  rw [Nat.testBit_eq_decide_div_mod_eq]
  by_cases h : g / 2 ^ p % 2 = 1
  · simp [h]
  · simp [h]; omega
def findV (g : Nat) (ps : List Pg) (c : Int) : Value := .tuple #[if findE ps c = 0 then .pointer (some ⟨g, (c / 32).toNat * 2, none⟩) else .pointer none, .int .i64 (if findE ps c = 0 then c % 32 else 0), .int .i64 (findE ps c : Nat)]
set_option maxHeartbeats 2000000 in
theorem find_any {w : World} {x g : Nat} {ps : List Pg} (h : ArM w x g ps) (c : Int) (hc63 : wrap64 (c / 32) = c / 32) :
    Calls Tryd.prog 32 #[.pointer (some ⟨x, 0, none⟩), .int .i64 c] w fun e w' => e = .returned (findV g ps c) ∧ w' = w := by
  have HA := Lib.hid h
  have hln := h.2.2.1
  have hlp := h.2.1
  obtain ⟨⟨cap, X, hx, hg⟩, -, -, hi, ht, -⟩ := h
  have c0 := hx.cell 0
  have HG := Lib.hid hg
  clear hx ht
  by_cases hc : c < 0
  · clear hc63
    have e1 : findE ps c = 2 := by unfold findE; rw [if_pos hc]
    unfold findV
    rw [e1]
    go_enter Tryd.func32, Tryd.ntmps32
    go_wp2
    go_ret3
    exact ⟨rfl, rfl⟩
  · obtain ⟨m, rfl⟩ : ∃ m : Nat, c = m := ⟨c.toNat, by omega⟩
    clear hc
    have ed : ((m : Int) / 32).toNat = m / 32 := by omega
    have em : ((m : Int) % 32).toNat = m % 32 := by omega
    obtain ⟨pg, hpg⟩ : ∃ q, m / 32 = q := ⟨_, rfl⟩
    obtain ⟨pl, hpl⟩ : ∃ q, m % 32 = q := ⟨_, rfl⟩
    have q1 : (m : Int) / 32 = (pg : Nat) := by omega
    have q2 : (m : Int) % 32 = (pl : Nat) := by omega
    have hpl32 : pl < 32 := by omega
    have q3 : (m : Int).tdiv 32 = (pg : Nat) := by rw [Int.tdiv_eq_ediv_of_nonneg (by omega)]; exact q1
    have q4 : (m : Int).tmod 32 = (pl : Nat) := by rw [Int.tmod_eq_emod_of_nonneg (by omega)]; exact q2
    have HW := Lib.hid (show wrap64 (pg : Nat) = (pg : Nat) by rw [← q1]; exact hc63)
    clear hc63
    by_cases hp : pg < ps.length
    · have e1 : findE ps (m : Int) = if (ps.getD pg pg0).2.testBit pl then 0 else 4 := by
        unfold findE
        rw [if_neg (by omega), if_neg (by omega), ed, em, hpg, hpl]
      unfold findV
      rw [ed, hpg, q2, e1]
      have hu := (hi.get pg).u32
      obtain ⟨d0, d1⟩ := flat_cell hg hp
      obtain ⟨⟨qc, qg⟩, hq⟩ : ∃ q, ps.getD pg pg0 = q := ⟨_, rfl⟩
      rw [hq] at d0 d1 hu ⊢
      have hb := and_one (qg / 2 ^ pl) (Nat.lt_of_le_of_lt (Nat.div_le_self _ _) hu)
      rw [tb_mod] at hb
      have hb2 : bits .and .u32 ((qg : Int) / 2 ^ pl) 1 = ((if qg.testBit pl then 1 else 0 : Nat) : Int) := by
        rw [← hb]
        congr 1
      clear hg hi hq hu hb ed em e1
      cases hv : qg.testBit pl with
      | true =>
        rw [hv] at hb2
        simp only [if_true] at hb2
        have HV := Lib.hid hv
        clear hv
        go_enter Tryd.func32, Tryd.ntmps32
        go_wp2
        go_ret3
        exact ⟨rfl, rfl⟩
      | false =>
        rw [hv] at hb2
        simp only [Bool.false_eq_true, if_false] at hb2
        have HV := Lib.hid hv
        clear hv
        go_enter Tryd.func32, Tryd.ntmps32
        go_wp2
        go_ret3
        exact ⟨rfl, rfl⟩
    · have e1 : findE ps (m : Int) = 2 := by
        unfold findE
        rw [if_neg (by omega), if_pos (by omega)]
      unfold findV
      rw [e1]
      have hge : (ps.length : Int) ≤ (pg : Int) := Int.ofNat_le.2 (Nat.le_of_not_lt hp)
      have hw := HW.out
      clear e1 hi ed em
      go_enter Tryd.func32, Tryd.ntmps32
      go_wp2
      go_ret3
      exact ⟨rfl, rfl⟩
theorem find_ok {ps : List Pg} {c : Int} (h : findE ps c = 0) : ∃ a p, c = ((a * 32 + p : Nat) : Int) ∧ p < 32 ∧ a < ps.length ∧ (ps.getD a pg0).2.testBit p = true ∧ (c / 32).toNat = a ∧ (c % 32).toNat = p ∧ c % 32 = (p : Nat) := by
  unfold findE at h
  by_cases h0 : c < 0
  · rw [if_pos h0] at h; cases h
  rw [if_neg h0] at h
  by_cases h1 : (ps.length : Int) ≤ c / 32
  · rw [if_pos h1] at h; cases h
  rw [if_neg h1] at h
  cases hb : (ps.getD (c / 32).toNat pg0).2.testBit (c % 32).toNat with
  | false => rw [hb] at h; simp at h
  | true => exact ⟨(c / 32).toNat, (c % 32).toNat, by omega, by omega, by omega, hb, rfl, rfl, by omega⟩
theorem where_any {w : World} {x g : Nat} {ps : List Pg} (h : ArM w x g ps) (c : Int) (hc63 : wrap64 (c / 32) = c / 32) :
    Calls Tryd.prog 20 #[.pointer (some ⟨x, 0, none⟩), .int .i64 c] w fun e w' => e = .returned (.tuple #[.int .i64 (whereK ps c : Nat), .int .i64 (findE ps c : Nat)]) ∧ w' = w := by
  have hf := find_any h c hc63
  by_cases he : findE ps c = 0
  · obtain ⟨a, p, hc, hp, ha, hb, e1, e2, e3⟩ := find_ok he
    have e4 : whereK ps c = (ps.getD a pg0).1 := by unfold whereK; rw [if_pos he, e1]
    unfold findV at hf
    rw [he, e1, e3] at hf
    simp only [if_true] at hf
    rw [he, e4]
    obtain ⟨⟨cap, X, hx, hg⟩, -⟩ := h
    obtain ⟨d0, d1⟩ := flat_cell hg ha
    obtain ⟨⟨qc, qg⟩, hq⟩ : ∃ q, ps.getD a pg0 = q := ⟨_, rfl⟩
    rw [hq] at d0 d1 ⊢
    clear hx hg he e1 e2 e3 e4 hc hb hq hc63 d1
    go_enter Tryd.func20, Tryd.ntmps20
    go_wp2_with fail
    refine hf.mono ?_
    rintro e w2 ⟨rfl, rfl⟩
    go_wp2
    go_ret2
    exact ⟨rfl, rfl⟩
  · have e4 : whereK ps c = 0 := by unfold whereK; rw [if_neg he]
    rw [e4]
    unfold findV at hf
    obtain ⟨E, hE⟩ : ∃ E, findE ps c = E := ⟨_, rfl⟩
    rw [hE] at hf he ⊢
    simp only [he, if_false] at hf
    have hne : ((E : Int) != 0) = true := by simp; omega
    clear h hE hc63
    go_enter Tryd.func20, Tryd.ntmps20
    go_wp2_with fail
    refine hf.mono ?_
    rintro e w2 ⟨rfl, rfl⟩
    go_wp2
    go_ret2
    exact ⟨rfl, rfl⟩
theorem andNot_u32 (a b : Nat) (ha : a < 4294967296) (hb : b < 4294967296) : bits .andNot .u32 (a : Int) (b : Int) = ((a &&& (4294967295 - b) : Nat) : Int) := by
  have hx : a &&& (4294967295 - b) < 2 ^ 32 := Nat.and_lt_two_pow _ (by omega)
  have h1 : (BitVec.ofInt 32 (a : Int)).toNat = a := by
    rw [BitVec.ofInt_natCast, BitVec.toNat_ofNat]; exact Nat.mod_eq_of_lt (by omega)
  have h2 : (BitVec.ofInt 32 (b : Int)).toNat = b := by
    rw [BitVec.ofInt_natCast, BitVec.toNat_ofNat]; exact Nat.mod_eq_of_lt (by omega)
  show IntKind.u32.wrap ((BitVec.ofInt 32 (a : Int) &&& ~~~ BitVec.ofInt 32 (b : Int)).toNat : Int) = _
  rw [BitVec.toNat_and, BitVec.toNat_not, h1, h2, wrap_u32', show 2 ^ 32 - 1 - b = 4294967295 - b from rfl]
  omega
theorem clr_eq {a p : Nat} (ha : a < 4294967296) (hp : p < 32) (h : a.testBit p = true) : a &&& (4294967295 - 2 ^ p) = a ^^^ 2 ^ p := by
  apply Nat.eq_of_testBit_eq
  intro i
  have h1 : 2 ^ p ≤ 2 ^ 31 := Nat.pow_le_pow_right (by decide) (by omega)
  rw [Nat.testBit_and, xor_tb]
  by_cases hi : i < 32
  · have := Nat.testBit_two_pow_sub_succ (x := 2 ^ p) (n := 32) (by omega) i
    rw [show (2 : Nat) ^ 32 - (2 ^ p + 1) = 4294967295 - 2 ^ p by omega] at this
    rw [this, Nat.testBit_two_pow]
    by_cases e : p = i
    · subst e; simp [h, hi]
    · simp [e, hi]
  · have e1 : a.testBit i = false := tb_high (c := 32) (by omega) (by omega)
    rw [e1]
    simp
    omega
theorem OkP.clr {q : Pg} (h : OkP q) {p : Nat} (hp : p < 32) (hb : q.2.testBit p = true) : OkP (clrP q p) := by
  unfold clrP
  by_cases h0 : q.2 ^^^ 2 ^ p = 0
  · rw [if_pos h0]; exact ok0
  · rw [if_neg h0]
    refine ⟨h.1, lt_pow_tb fun i hi => ?_, fun e => absurd e h0⟩
    have hi' : chN q.1 ≤ i := hi
    have hlt : p < chN q.1 := by
      rcases Nat.lt_or_ge p (chN q.1) with h1 | h1
      · exact h1
      · rw [tb_high h.2.1 h1] at hb; cases hb
    show (q.2 ^^^ 2 ^ p).testBit i = false
    rw [xor_tb, tb_high h.2.1 hi]
    simp
    omega
end Go.Proofs.YtgipkdkfecegkaaDoor
