/- Give. -/
import Derived.Test.YtgipkdkfecegkaaDoorArn2
namespace Go.Proofs.YtgipkdkfecegkaaDoor
open Go.RowKit Go.Shelf PgM
attribute [local go_sem] Oper.semAt_some
set_option linter.unusedVariables false
set_option linter.unusedSimpArgs false
theorem roomyP_spec (k : Nat) (ps : List Pg) : roomyP k ps = -1 ∨ ∃ a, a < ps.length ∧ roomyP k ps = (a : Nat) ∧ (roomB k (ps.getD a pg0) = true ∨ (ps.getD a pg0).2 = 0) := by
  unfold roomyP
  rcases idx_spec (roomB k) ps with ⟨h1, _⟩ | ⟨a, ha, h1, h2, _⟩
  · rw [h1, if_pos (by omega)]
    rcases idx_spec freeB ps with ⟨h3, _⟩ | ⟨a, ha, h3, h4, _⟩
    · exact .inl h3
    · exact .inr ⟨a, ha, h3, .inr (by simpa [freeB] using h4)⟩
  · rw [h1, if_neg (by omega)]
    exact .inr ⟨a, ha, rfl, .inl h2⟩
/-- The place at which the next chunk is given. -/
theorem give_place {ps : List Pg} (hi : InvP ps) {k a : Nat} (hk : k < 8) (h : roomB k (ps.getD a pg0) = true ∨ (ps.getD a pg0).2 = 0) :
    (ps.getD a pg0).2 < 4294967295 ∧ fst0 (ps.getD a pg0).2 < chN k ∧ (ps.getD a pg0).2.testBit (fst0 (ps.getD a pg0).2) = false ∧ (ps.getD a pg0).2 < 2 ^ chN k ∧ ((ps.getD a pg0).2 = 0 ∨ (ps.getD a pg0).1 = k) := by
  have hc := chN_pos hk
  rcases h with h | h
  · obtain ⟨h1, h2, h3, h4, h5⟩ := roomB_lt (hi.get a) h
    refine ⟨h3, h4, h5, ?_, .inr h1⟩
    rw [← h1]
    exact (hi.get a).2.1
  · rw [h, fst0_zero]
    exact ⟨by omega, by omega, by simp, Nat.two_pow_pos _, .inl rfl⟩
theorem or_lt {g p c : Nat} (h : g < 2 ^ c) (hp : p < c) : g ||| 2 ^ p < 2 ^ c := lt_pow_tb fun i hi => by
  rw [or_tb, tb_high h hi]
  simp
  omega
theorem OkP.give {k p : Nat} {g : Nat} (hk : k < 8) (hg : g < 2 ^ chN k) (hp : p < chN k) : OkP (k, g ||| 2 ^ p) :=
  ⟨hk, or_lt hg hp, fun h => by
    have := congrArg (fun x => x.testBit p) (show g ||| 2 ^ p = 0 from h)
    simp [or_tb] at this⟩
theorem or_u32 (a b : Nat) (ha : a < 4294967296) (hb : b < 4294967296) : bits .or .u32 (a : Int) (b : Int) = ((a ||| b : Nat) : Int) := by
  have hx : a ||| b < 2 ^ 32 := Nat.or_lt_two_pow (by omega) (by omega)
  have h1 : (BitVec.ofInt 32 (a : Int)).toNat = a := by
    rw [BitVec.ofInt_natCast, BitVec.toNat_ofNat]; exact Nat.mod_eq_of_lt (by omega)
  have h2 : (BitVec.ofInt 32 (b : Int)).toNat = b := by
    rw [BitVec.ofInt_natCast, BitVec.toNat_ofNat]; exact Nat.mod_eq_of_lt (by omega)
  show IntKind.u32.wrap ((BitVec.ofInt 32 (a : Int) ||| BitVec.ofInt 32 (b : Int)).toNat : Int) = _
  rw [BitVec.toNat_or, h1, h2, wrap_u32']
  omega
set_option maxHeartbeats 2000000 in
theorem give_any {w : World} {x g : Nat} {ps : List Pg} (h : ArM w x g ps) (n : Int) :
    Calls Tryd.prog 18 #[.pointer (some ⟨x, 0, none⟩), .int .i64 n] w fun e w' => e = .returned (.tuple #[.int .i64 (giveN ps n : Nat), .int .i64 (giveE ps n : Nat)]) ∧ ArM w' x g (giveX ps n) ∧ Kept (fun b => b < w.heap.size ∧ b ≠ g) w w' := by
  have hlt := h.lt
  have hne := h.ne
  have HA := Lib.hid h
  have hcl := class_any n w
  have hk8 := clsK_lt n
  by_cases he : clsE n = 0
  case neg =>
    have e1 : giveE ps n = clsE n := by unfold giveE; rw [if_neg he]
    have e2 : giveN ps n = 0 := by unfold giveN; rw [e1, if_neg he]
    have e3 : giveX ps n = ps := by unfold giveX; rw [e1, if_neg he]
    rw [e1, e2, e3]
    obtain ⟨E, hE⟩ : ∃ E, clsE n = E := ⟨_, rfl⟩
    obtain ⟨K0, hK0⟩ : ∃ E, clsK n = E := ⟨_, rfl⟩
    rw [hE] at hcl he ⊢
    rw [hK0] at hcl
    clear hE hK0 e1 e2 e3 h hk8
    have he' : ((E : Int) != 0) = true := by simp; omega
    go_enter Tryd.func18, Tryd.ntmps18
    go_wp2_with (go_at_call 9; refine hcl.mono ?_; rintro e w2 ⟨rfl, hb2⟩)
    go_ret2
    exact ⟨rfl, HA.out.belowAll hb2, Kept.of_below hb2 (fun b hb => hb.1)⟩
  rw [he] at hcl
  have hsp := roomyP_spec (clsK n) ps
  have hpl := fun (a : Nat) hh => give_place (a := a) h.2.2.2.1 hk8 hh
  obtain ⟨k, hk⟩ : ∃ k, clsK n = k := ⟨_, rfl⟩
  have HRO := Lib.hid (fun (W : World) (hW : ArM W x g ps) => roomy_any hW (clsK n))
  rcases hsp with hr | ⟨a, ha, hr, hro⟩
  · have e1 : giveE ps n = 6 := by unfold giveE; rw [if_pos he, if_pos (by omega)]
    have e2 : giveN ps n = 0 := by unfold giveN; rw [e1, if_neg (by omega)]
    have e3 : giveX ps n = ps := by unfold giveX; rw [e1, if_neg (by omega)]
    rw [e1, e2, e3]
    rw [hr, hk] at HRO
    rw [hk] at hcl
    clear e1 e2 e3 h hk8 hpl hr hk he
    go_enter Tryd.func18, Tryd.ntmps18
    go_wp2_with fail
    refine hcl.mono ?_
    rintro e w2 ⟨rfl, hb2⟩
    have HA2 := Lib.hid (HA.out.belowAll hb2)
    have HB2 := Lib.hid hb2
    clear hb2
    go_wp2_with fail
    refine (HRO.out _ HA2.out).mono ?_
    rintro e w3 ⟨rfl, hb3⟩
    go_wp2
    go_ret2
    exact ⟨rfl, HA2.out.belowAll hb3, Kept.of_below (HB2.out.trans (hb3.mono HB2.out.size)) (fun b hb => hb.1)⟩
  · have e1 : giveE ps n = 0 := by unfold giveE; rw [if_pos he, if_neg (by omega)]
    have e4 : giveAt ps n = a := by unfold giveAt; rw [hr]; simp
    have e2 : giveN ps n = a * 32 + fst0 (ps.getD a pg0).2 := by unfold giveN givePl; rw [e1, if_pos rfl, e4]
    have e3 : giveX ps n = ps.set a (clsK n, (ps.getD a pg0).2 ||| 2 ^ fst0 (ps.getD a pg0).2) := by unfold giveX givePl; rw [e1, if_pos rfl, e4]
    rw [e1, e2, e3]
    obtain ⟨p1, p2, p3, p4, p5⟩ := hpl a hro
    have hok := OkP.give hk8 p4 p2
    have hc32 := (chN_pos hk8).2
    have hl256 := h.2.2.1
    rw [hr, hk] at HRO
    rw [hk] at hcl hok p2 hc32 ⊢
    have HOK := Lib.hid hok
    have HAL := Lib.hid ha
    obtain ⟨pl, hpl'⟩ : ∃ q, fst0 (ps.getD a pg0).2 = q := ⟨_, rfl⟩
    have hfi := fun (W : World) (hT : Tab W) => first_any (ps.getD a pg0).1 (ps.getD a pg0).2 (by omega) W hT
    rw [hpl'] at hfi HOK p2 ⊢
    have hor := or_u32 (ps.getD a pg0).2 (2 ^ pl) (by omega) (by have : 2 ^ pl ≤ 2 ^ 31 := Nat.pow_le_pow_right (by decide) (by omega); omega)
    obtain ⟨⟨qc, qg⟩, hq⟩ : ∃ q, ps.getD a pg0 = q := ⟨_, rfl⟩
    rw [hq] at hfi HOK hor ⊢
    have hor2 : bits .or .u32 (qg : Int) (2 ^ pl % 4294967296) = ((qg ||| 2 ^ pl : Nat) : Int) := by
      rw [← hor]
      congr 1
      have h1 : 2 ^ pl ≤ 2 ^ 31 := Nat.pow_le_pow_right (by decide) (by omega)
      have h2 : (2 : Int) ^ pl = ((2 ^ pl : Nat) : Int) := by simp
      rw [h2]
      generalize 2 ^ pl = P at h1
      omega
    have HQ := Lib.hid hq
    have HFI := Lib.hid hfi
    have hpl32 : pl < 32 := by omega
    clear e1 e2 e3 e4 h hk8 hpl hr hk he hok hro p1 p2 p3 p4 p5 hc32 hpl' hfi hq ha
    go_enter Tryd.func18, Tryd.ntmps18
    go_wp2_with fail
    refine hcl.mono ?_
    rintro e w2 ⟨rfl, hb2⟩
    have HA2 := Lib.hid (HA.out.belowAll hb2)
    have HB2 := Lib.hid hb2
    clear hb2
    go_wp2_with fail
    refine (HRO.out _ HA2.out).mono ?_
    rintro e w3 ⟨rfl, hb3⟩
    have ha3 := HA2.out.belowAll hb3
    have HB3 := Lib.hid (HB2.out.trans (hb3.mono HB2.out.size))
    have HA3 := Lib.hid ha3
    obtain ⟨⟨cap, X, hx3, hg3⟩, -, -, -, ht3, -⟩ := ha3
    have HT3 := Lib.hid ht3
    have HX3 := Lib.hid hx3
    have HG3 := Lib.hid hg3
    have c0 := hx3.cell 0
    obtain ⟨d0, d1⟩ := flat_cell hg3 HAL.out
    rw [HQ.out] at d0 d1
    have halt := HAL.out
    clear hb3 hx3 hg3 ht3
    go_wp2_with fail
    refine (HFI.out _ HT3.out).mono ?_
    rintro e w4 ⟨rfl, hb4⟩
    have HB4 := Lib.hid (HB3.out.trans (hb4.mono HB3.out.size))
    have HA4 := Lib.hid (HA3.out.belowAll hb4)
    have HG4 := Lib.hid (HG3.out.below hb4 HG3.out.lt)
    obtain ⟨d0, d1⟩ := flat_cell HG4.out HAL.out
    rw [HQ.out] at d0 d1
    have f0 := HG4.out.frozen (a * 2)
    have HG5 := Lib.hid (HG4.out.set_ (a * 2) (.int .i64 (k : Nat)))
    have d15 : (w4.setCell ⟨g, a * 2, none⟩ (.int .i64 (k : Nat))).cell? ⟨g, a * 2 + 1, none⟩ = some (.int .u32 (qg : Nat)) := by
      have h1 := HG5.out.cell (a * 2 + 1)
      rw [h1, Array.getElem?_setIfInBounds_ne (by omega), ← HG4.out.cell (a * 2 + 1)]
      exact d1
    have f15 := HG5.out.frozen (a * 2 + 1)
    clear hb4 c0
    go_wp2_with fail
    generalize hw5 : w4.setCell ⟨g, a * 2, none⟩ (.int .i64 (k : Nat)) = w5 at *
    clear d0 d1 f0
    go_region
    go_wp2
    go_ret2
    subst hw5
    have HKE := Lib.hid ((((Kept.of_below (S := fun b => b < w.heap.size ∧ b ≠ g) HB4.out (fun b hb => hb.1)).setCell (p := ⟨g, a * 2, none⟩) (fun h => h.2 rfl) (.int .i64 (k : Nat))).setCell (p := ⟨g, a * 2 + 1, none⟩) (fun h => h.2 rfl) (.int .u32 (qg ||| 2 ^ pl : Nat))).drew)
    obtain ⟨⟨cap', X', hx4, hg4⟩, h3, h4, h5, h6, h7, h8⟩ := HA4.out
    have hkg := (((Kept.refl (· ≠ g) w4).setCell (p := ⟨g, a * 2, none⟩) (fun h => h rfl) (.int .i64 (k : Nat))).setCell (p := ⟨g, a * 2 + 1, none⟩) (fun h => h rfl) (.int .u32 (qg ||| 2 ^ pl : Nat))).drew
    refine ⟨by simp, ⟨⟨cap', X', ?_, (flat_set2 hg4 HAL.out k (qg ||| 2 ^ pl)).drew⟩, by simp; omega, by simp; omega, h5.set HOK.out, h6.kept hkg (by show (0 : Nat) ≠ g; omega), h7, h8⟩, HKE.out⟩
    have := hx4.kept hkg hne
    simpa using this
end Go.Proofs.YtgipkdkfecegkaaDoor
