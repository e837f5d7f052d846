/- The document's arena and the pages: what giving and taking make of the cells. -/
import Derived.Test.YtgipkdkfecegkaaDoorRfC
import Derived.Test.YtgipkdkfecegkaaDoorApP
namespace Go.Proofs.YtgipkdkfecegkaaDoor
set_option linter.unusedVariables false
set_option linter.unusedSimpArgs false
theorem ofZ_has {k : Nat} {p : Pg} : ofZ p = (k : Int) ↔ hasP k p = true := by
  unfold ofZ hasP
  by_cases h : p.2 = 0
  · simp [h]
  · simp [h]; omega
theorem clr_tb {q : Pg} {p : Nat} (ht : q.2.testBit p = true) (i : Nat) : (clrP q p).2.testBit i = (q.2.testBit i && decide (i ≠ p)) := by
  have key : (q.2 ^^^ 2 ^ p).testBit i = (q.2.testBit i && decide (i ≠ p)) := by
    rw [xor_tb]
    by_cases e : p = i
    · subst e; rw [ht]; simp
    · simp [e, Ne.symm e]
  unfold clrP
  by_cases h0 : q.2 ^^^ 2 ^ p = 0
  · rw [if_pos h0, ← key, h0]
  · rw [if_neg h0]; exact key
theorem clr_cls {q : Pg} {p i : Nat} (h : (clrP q p).2.testBit i = true) : (clrP q p).1 = q.1 := by
  unfold clrP at *
  by_cases h0 : q.2 ^^^ 2 ^ p = 0
  · rw [if_pos h0] at h; simp at h
  · rw [if_neg h0]
/-- The cells behind a taking. -/
theorem take_cells {ps : List Pg} {a p : Nat} (hp : p < 32) (ha : a < ps.length) (ht : (ps.getD a pg0).2.testBit p = true) (i k : Nat) : cellF (takeX ps ((a * 32 + p : Nat) : Int)) i k = if i = a ∧ k = p then 0 else cellF ps i k := by
  have hf := findE_at ps a p hp ha
  rw [ht, if_pos rfl] at hf
  have hX : takeX ps ((a * 32 + p : Nat) : Int) = ps.set a (clrP (ps.getD a pg0) p) := by
    unfold takeX
    rw [if_pos hf, show (((a * 32 + p : Nat) : Int) / 32).toNat = a by omega, show (((a * 32 + p : Nat) : Int) % 32).toNat = p by omega]
  rw [hX]
  unfold cellF
  by_cases e : a = i
  · subst e
    rw [getD_set_self _ ha]
    have hb := clr_tb ht k
    unfold cellP
    by_cases e2 : k = p
    · subst e2
      rw [hb]
      simp
    · rw [if_neg (show ¬ (a = a ∧ k = p) from fun h => e2 h.2)]
      cases hv : (ps.getD a pg0).2.testBit k with
      | true =>
        have h1 : (clrP (ps.getD a pg0) p).2.testBit k = true := by rw [hb, hv]; simp [e2]
        rw [h1, clr_cls h1]
      | false => rw [hb, hv]; rfl
  · rw [getD_set_ne _ e, if_neg (by omega)]
/-- The cells behind a giving. -/
theorem Given.cells {ps : List Pg} {n : Int} {a : Nat} (h : Given ps n a) (i k : Nat) : cellF (giveX ps n) i k = if i = a ∧ k = fst0 (ps.getD a pg0).2 then (clsK n : Int) + 1 else cellF ps i k := by
  rw [h.x]
  have hl := h.lt
  unfold cellF
  by_cases e : a = i
  · subst e
    rw [getD_set_self _ hl]
    unfold cellP
    simp only [or_tb, true_and]
    by_cases e2 : k = fst0 (ps.getD a pg0).2
    · rw [if_pos (by rw [e2]; simp), if_pos e2]
    · rw [if_neg e2, show decide (fst0 (ps.getD a pg0).2 = k) = false by simp; exact fun h => e2 h.symm, Bool.or_false]
      cases hv : (ps.getD a pg0).2.testBit k with
      | true =>
        rcases h.old with h0 | h0
        · rw [h0] at hv; simp at hv
        · rw [h0]
      | false => rfl
  · rw [getD_set_ne _ e, if_neg (by omega)]
theorem room_not {k : Nat} {p : Pg} (h : hasP k p = false) : roomB k p = false := by unfold roomB; rw [h]; rfl
theorem room_full {k : Nat} {p : Pg} (hok : OkP p) (h : ∀ j, j < chN k → p.2.testBit j = true) : roomB k p = false := by
  cases hr : roomB k p with
  | false => rfl
  | true =>
    obtain ⟨_, _, _, h4, h5⟩ := roomB_lt hok hr
    rw [h _ h4] at h5
    cases h5
theorem room_at {k j : Nat} {p : Pg} (hok : OkP p) (hh : hasP k p = true) (hj : j < chN k) (h0 : p.2.testBit j = false) (hb : ∀ i, i < j → p.2.testBit i = true) : roomB k p = true ∧ fst0 p.2 = j := by
  have hk : p.1 = k := by unfold hasP at hh; simp at hh; exact hh.2
  have hc := chN_pos hok.1
  have hr : roomB k p = true := by
    unfold roomB
    rw [hh]
    simp only [Bool.true_and, Bool.not_eq_true', decide_eq_false_iff_not]
    intro e
    have h1 := pop_or (g := p.2) (p := j) (by rw [hk] at hc; omega) h0
    have h2 := pop_lt (p := (p.1, p.2 ||| 2 ^ j)) ⟨hok.1, or_lt hok.2.1 (by rw [hk]; exact hj), fun h => absurd h or_ne⟩
    simp only [] at h2
    omega
  refine ⟨hr, ?_⟩
  obtain ⟨_, _, h3, h4, h5⟩ := roomB_lt hok hr
  obtain ⟨⟨_, _⟩, hs⟩ := fst0_spec h3
  rcases Nat.lt_trichotomy (fst0 p.2) j with h | h | h
  · rw [hb _ h] at h5; cases h5
  · exact h
  · rw [hs _ h] at h0; cases h0
theorem give_room {ps : List Pg} (hi : InvP ps) {n : Int} (hc : clsE n = 0) {i : Nat} (hl : i < ps.length) (hr : roomB (clsK n) (ps.getD i pg0) = true) (hb : ∀ j, j < i → roomB (clsK n) (ps.getD j pg0) = false) : Given ps n i := by
  rcases roomyP_cases (clsK n) ps with ⟨h1, h2, _⟩ | ⟨a, ha, h1, h2⟩
  · rw [h2 i hl] at hr; cases hr
  · have he : giveE ps n = 0 := by unfold giveE; rw [if_pos hc, if_neg (by omega)]
    have hat : giveAt ps n = a := by unfold giveAt; rw [h1]; simp
    obtain ⟨a', hg⟩ := given_of hi he
    have hai : a = i := by
      rcases h2 with ⟨h3, h4⟩ | ⟨_, h4, _⟩
      · rcases Nat.lt_trichotomy a i with h | h | h
        · rw [hb a h] at h3; cases h3
        · exact h
        · rw [h4 i h] at hr; cases hr
      · rw [h4 i hl] at hr; cases hr
    have := hg.at_
    rw [hat, hai] at this
    rw [this]; exact hg
theorem give_free {ps : List Pg} (hi : InvP ps) {n : Int} (hc : clsE n = 0) (hb : ∀ j, j < ps.length → roomB (clsK n) (ps.getD j pg0) = false) {i : Nat} (hl : i < ps.length) (hf : (ps.getD i pg0).2 = 0) (hn : ∀ j, j < i → (ps.getD j pg0).2 ≠ 0) : Given ps n i := by
  rcases roomyP_cases (clsK n) ps with ⟨h1, _, h2⟩ | ⟨a, ha, h1, h2⟩
  · have := h2 i hl
    unfold freeB at this
    rw [hf] at this
    cases this
  · have he : giveE ps n = 0 := by unfold giveE; rw [if_pos hc, if_neg (by omega)]
    have hat : giveAt ps n = a := by unfold giveAt; rw [h1]; simp
    obtain ⟨a', hg⟩ := given_of hi he
    have hai : a = i := by
      rcases h2 with ⟨h3, _⟩ | ⟨h3, _, h4⟩
      · rw [hb a ha] at h3; cases h3
      · rcases Nat.lt_trichotomy a i with h | h | h
        · exact absurd h3 (hn a h)
        · exact h
        · have := h4 i h
          unfold freeB at this
          rw [hf] at this
          cases this
    have := hg.at_
    rw [hat, hai] at this
    rw [this]; exact hg
theorem give_none {ps : List Pg} {n : Int} (hc : clsE n = 0) (hb : ∀ j, j < ps.length → roomB (clsK n) (ps.getD j pg0) = false) (hn : ∀ j, j < ps.length → (ps.getD j pg0).2 ≠ 0) : giveE ps n = 6 ∧ giveN ps n = 0 ∧ giveX ps n = ps := by
  have he : giveE ps n = 6 := by
    rcases roomyP_cases (clsK n) ps with ⟨h1, _, h2⟩ | ⟨a, ha, h1, h2⟩
    · unfold giveE; rw [if_pos hc, if_pos (by omega)]
    · rcases h2 with ⟨h3, _⟩ | ⟨h3, _, _⟩
      · rw [hb a ha] at h3; cases h3
      · exact absurd h3 (hn a ha)
  exact ⟨he, by unfold giveN; rw [he]; rfl, giveX_no (by rw [he]; decide)⟩
theorem cnt_pages (k : Nat) (ps : List Pg) : cntL (k : Int) ps = pagesP k ps ∧ sumL (k : Int) ps = usedP k ps := by
  have e : ofB (k : Int) = hasP k := by
    funext p
    unfold ofB
    cases h : hasP k p with
    | true => rw [decide_eq_true (ofZ_has.2 h)]
    | false => rw [decide_eq_false (fun h2 => by rw [ofZ_has.1 h2] at h; cases h)]
  unfold cntL sumL pagesP usedP
  rw [e]
  exact ⟨rfl, rfl⟩
theorem cnt_free (ps : List Pg) : cntL (-1) ps = freeP ps := by
  have e : ofB (-1) = freeB := by
    funext p
    unfold ofB freeB ofZ
    by_cases h : p.2 = 0
    · simp [h]
    · simp [h]
  unfold cntL freeP
  rw [e]
end Go.Proofs.YtgipkdkfecegkaaDoor
