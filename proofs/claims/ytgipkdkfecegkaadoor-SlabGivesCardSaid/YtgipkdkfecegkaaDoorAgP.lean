/- What giving and taking do to what is counted and to what was given before. Nothing of the program is spoken of here. -/
import Derived.Test.YtgipkdkfecegkaaDoorFnd
namespace Go.Proofs.YtgipkdkfecegkaaDoor
set_option linter.unusedVariables false
set_option linter.unusedSimpArgs false
theorem getD_set_self {ps : List Pg} {i : Nat} (q : Pg) (h : i < ps.length) : (ps.set i q).getD i pg0 = q := by simp [List.getD, List.getElem?_set_self h]
theorem getD_set_ne {ps : List Pg} {i j : Nat} (q : Pg) (h : i ≠ j) : (ps.set i q).getD j pg0 = ps.getD j pg0 := by simp [List.getD, List.getElem?_set_ne h]
/-- What a page counts for. -/
def cntP (k : Nat) (p : Pg) : Nat := if hasP k p then pop p.2 else 0
theorem usedP_sum (k : Nat) (ps : List Pg) : usedP k ps = (ps.map (cntP k)).sum := by
  unfold usedP
  induction ps with
  | nil => rfl
  | cons a ps ih =>
    by_cases h : hasP k a = true
    · rw [List.filter_cons_of_pos h]
      simp only [List.map_cons, List.sum_cons, ih, cntP, h, if_true]
    · rw [List.filter_cons_of_neg h]
      simp only [List.map_cons, List.sum_cons, ih, cntP, h]
      simp
theorem sum_set (f : Pg → Nat) : ∀ (ps : List Pg) (i : Nat) (q : Pg), i < ps.length → ((ps.set i q).map f).sum + f (ps.getD i pg0) = (ps.map f).sum + f q
  | [], i, q, h => by simp at h
  | a :: ps, 0, q, h => by simp; omega
  | a :: ps, i + 1, q, h => by
    have := sum_set f ps i q (by simpa using h)
    simp only [List.set_cons_succ, List.map_cons, List.sum_cons, List.getD_cons_succ]
    omega
theorem used_set (k : Nat) {ps : List Pg} {i : Nat} (q : Pg) (h : i < ps.length) : usedP k (ps.set i q) + cntP k (ps.getD i pg0) = usedP k ps + cntP k q := by
  rw [usedP_sum, usedP_sum]
  exact sum_set _ _ _ _ h
theorem roomyP_cases (k : Nat) (ps : List Pg) : (roomyP k ps = -1 ∧ (∀ i, i < ps.length → roomB k (ps.getD i pg0) = false) ∧ (∀ i, i < ps.length → freeB (ps.getD i pg0) = false)) ∨
    ∃ a, a < ps.length ∧ roomyP k ps = (a : Nat) ∧ ((roomB k (ps.getD a pg0) = true ∧ ∀ j, j < a → roomB k (ps.getD j pg0) = false) ∨ ((ps.getD a pg0).2 = 0 ∧ (∀ i, i < ps.length → roomB k (ps.getD i pg0) = false) ∧ ∀ j, j < a → freeB (ps.getD j pg0) = false)) := by
  unfold roomyP
  rcases idx_spec (roomB k) ps with ⟨h1, h1'⟩ | ⟨a, ha, h1, h2, h3⟩
  · rw [h1, if_pos (by omega)]
    rcases idx_spec freeB ps with ⟨h3, h4⟩ | ⟨a, ha, h3, h4, h5⟩
    · exact .inl ⟨h3, h1', h4⟩
    · exact .inr ⟨a, ha, h3, .inr ⟨by simpa [freeB] using h4, h1', h5⟩⟩
  · rw [h1, if_neg (by omega)]
    exact .inr ⟨a, ha, rfl, .inl ⟨h2, h3⟩⟩
/-- A chunk is given: where, and what becomes of the pages. -/
structure Given (ps : List Pg) (n : Int) (a : Nat) : Prop where
  cls : clsE n = 0
  lt : a < ps.length
  e : giveE ps n = 0
  at_ : giveAt ps n = a
  num : giveN ps n = a * 32 + fst0 (ps.getD a pg0).2
  x : giveX ps n = ps.set a (clsK n, (ps.getD a pg0).2 ||| 2 ^ fst0 (ps.getD a pg0).2)
  pl : fst0 (ps.getD a pg0).2 < chN (clsK n)
  pl32 : fst0 (ps.getD a pg0).2 < 32
  new : (ps.getD a pg0).2.testBit (fst0 (ps.getD a pg0).2) = false
  old : (ps.getD a pg0).2 = 0 ∨ (ps.getD a pg0).1 = clsK n
  lt2 : (ps.getD a pg0).2 < 2 ^ chN (clsK n)
theorem given_of {ps : List Pg} (hi : InvP ps) {n : Int} (h : giveE ps n = 0) : ∃ a, Given ps n a := by
  have hc : clsE n = 0 := by
    unfold giveE at h
    by_cases h0 : clsE n = 0
    · exact h0
    · rw [if_neg h0] at h; exact h
  rcases roomyP_cases (clsK n) ps with ⟨h1, _⟩ | ⟨a, ha, h1, h2⟩
  · unfold giveE at h
    rw [if_pos hc, if_pos (by omega)] at h
    cases h
  · have h3 : roomB (clsK n) (ps.getD a pg0) = true ∨ (ps.getD a pg0).2 = 0 := by
      rcases h2 with ⟨h2, _⟩ | ⟨h2, _⟩
      · exact .inl h2
      · exact .inr h2
    have e4 : giveAt ps n = a := by unfold giveAt; rw [h1]; simp
    obtain ⟨p1, p2, p3, p4, p5⟩ := give_place hi (clsK_lt n) h3
    have hc32 := (chN_pos (clsK_lt n)).2
    exact ⟨a, hc, ha, h, e4, by unfold giveN givePl; rw [if_pos h, e4], by unfold giveX givePl; rw [if_pos h, e4], p2, by omega, p3, p5, p4⟩
theorem giveE_cases (ps : List Pg) (n : Int) : giveE ps n = 0 ∨ (clsE n ≠ 0 ∧ giveE ps n = clsE n) ∨ (clsE n = 0 ∧ giveE ps n = 6 ∧ (∀ i, i < ps.length → roomB (clsK n) (ps.getD i pg0) = false) ∧ (∀ i, i < ps.length → freeB (ps.getD i pg0) = false)) := by
  by_cases hc : clsE n = 0
  · rcases roomyP_cases (clsK n) ps with ⟨h1, h2, h3⟩ | ⟨a, ha, h1, h2⟩
    · exact .inr (.inr ⟨hc, by unfold giveE; rw [if_pos hc, if_pos (by omega)], h2, h3⟩)
    · exact .inl (by unfold giveE; rw [if_pos hc, if_neg (by omega)])
  · exact .inr (.inl ⟨hc, by unfold giveE; rw [if_neg hc]⟩)
theorem giveX_no {ps : List Pg} {n : Int} (h : giveE ps n ≠ 0) : giveX ps n = ps := by unfold giveX; rw [if_neg h]
theorem Given.inv {ps : List Pg} {n : Int} {a : Nat} (h : Given ps n a) (hi : InvP ps) : InvP (giveX ps n) := by
  rw [h.x]
  exact hi.set (OkP.give (clsK_lt n) h.lt2 h.pl)
theorem Given.len {ps : List Pg} {n : Int} {a : Nat} (h : Given ps n a) : (giveX ps n).length = ps.length := by rw [h.x]; simp
/-- A chunk's page and place. -/
theorem findE_at (ps : List Pg) (a p : Nat) (hp : p < 32) (ha : a < ps.length) : findE ps ((a * 32 + p : Nat) : Int) = (if (ps.getD a pg0).2.testBit p then 0 else 4) := by
  unfold findE
  rw [if_neg (by omega), if_neg (by omega), show (((a * 32 + p : Nat) : Int) / 32).toNat = a by omega, show (((a * 32 + p : Nat) : Int) % 32).toNat = p by omega]
theorem whereK_at (ps : List Pg) (a p : Nat) (hp : p < 32) (ha : a < ps.length) (h : (ps.getD a pg0).2.testBit p = true) : whereK ps ((a * 32 + p : Nat) : Int) = (ps.getD a pg0).1 := by
  unfold whereK
  rw [findE_at ps a p hp ha, h, if_pos rfl, if_pos rfl, show (((a * 32 + p : Nat) : Int) / 32).toNat = a by omega]
theorem Given.new_ {ps : List Pg} {n : Int} {a : Nat} (h : Given ps n a) : findE (giveX ps n) (giveN ps n : Nat) = 0 ∧ whereK (giveX ps n) (giveN ps n : Nat) = clsK n ∧ findE ps (giveN ps n : Nat) = 4 := by
  have hl := h.lt
  have hp := h.pl32
  have hnew := h.new
  rw [h.num, h.x]
  obtain ⟨p, hpp⟩ : ∃ p, fst0 (ps.getD a pg0).2 = p := ⟨_, rfl⟩
  rw [hpp] at hp hnew ⊢
  have hb : ((ps.set a (clsK n, (ps.getD a pg0).2 ||| 2 ^ p)).getD a pg0).2.testBit p = true := by rw [getD_set_self _ hl, or_tb]; simp
  refine ⟨?_, ?_, ?_⟩
  · rw [findE_at _ a p hp (by simpa using hl), hb, if_pos rfl]
  · rw [whereK_at _ a p hp (by simpa using hl) hb, getD_set_self _ hl]
  · rw [findE_at _ a p hp hl, hnew]; rfl
/-- What was given stays. -/
theorem Given.keeps {ps : List Pg} {n : Int} {a : Nat} (h : Given ps n a) {c : Int} (hc : findE ps c = 0) : findE (giveX ps n) c = 0 ∧ whereK (giveX ps n) c = whereK ps c := by
  obtain ⟨b, p, rfl, hp, hb, ht, _⟩ := find_ok hc
  rw [h.x]
  obtain ⟨q, hq⟩ : ∃ q, (clsK n, (ps.getD a pg0).2 ||| 2 ^ fst0 (ps.getD a pg0).2) = q := ⟨_, rfl⟩
  have hbit : ((ps.set a q).getD b pg0).2.testBit p = true ∧ ((ps.set a q).getD b pg0).1 = (ps.getD b pg0).1 := by
    by_cases e : a = b
    · subst e
      rw [getD_set_self _ hb, ← hq]
      refine ⟨by rw [or_tb, ht]; rfl, ?_⟩
      rcases h.old with h0 | h0
      · rw [h0] at ht; simp at ht
      · exact h0.symm
    · rw [getD_set_ne _ e]
      exact ⟨ht, rfl⟩
  rw [hq]
  refine ⟨by rw [findE_at _ b p hp (by simpa using hb), hbit.1, if_pos rfl], ?_⟩
  rw [whereK_at _ b p hp (by simpa using hb) hbit.1, whereK_at _ b p hp hb ht, hbit.2]
theorem cnt_off {k : Nat} {p : Pg} (h : p.2 = 0 ∨ p.1 ≠ k) : cntP k p = 0 := by
  unfold cntP hasP
  rcases h with h | h
  · simp [h]
  · simp [h]
theorem cnt_on {k : Nat} {p : Pg} (h0 : p.2 ≠ 0) (h1 : p.1 = k) : cntP k p = pop p.2 := by
  unfold cntP hasP
  simp [h0, h1]
theorem or_ne {g p : Nat} : g ||| 2 ^ p ≠ 0 := fun h => by
  have := congrArg (fun x => x.testBit p) h
  simp [or_tb] at this
theorem cnt_all {k : Nat} {p : Pg} (h : p.1 = k) : cntP k p = pop p.2 := by
  by_cases h0 : p.2 = 0
  · rw [cnt_off (.inl h0), h0, pop_zero]
  · exact cnt_on h0 h
/-- One more is used. -/
theorem Given.used {ps : List Pg} {n : Int} {a : Nat} (h : Given ps n a) : usedP (clsK n) (giveX ps n) = usedP (clsK n) ps + 1 := by
  have h1 := used_set (clsK n) (clsK n, (ps.getD a pg0).2 ||| 2 ^ fst0 (ps.getD a pg0).2) h.lt
  have e9 : cntP (clsK n) (clsK n, (ps.getD a pg0).2 ||| 2 ^ fst0 (ps.getD a pg0).2) = pop ((ps.getD a pg0).2 ||| 2 ^ fst0 (ps.getD a pg0).2) := cnt_on (p := (clsK n, _)) or_ne rfl
  rw [← h.x, e9, pop_or h.pl32 h.new] at h1
  rcases h.old with h0 | h0
  · rw [cnt_off (.inl h0), h0, pop_zero] at h1
    omega
  · rw [cnt_all h0] at h1
    omega
/-- A chunk is taken. -/
theorem take_used {ps : List Pg} {c : Int} (hc : findE ps c = 0) : usedP (whereK ps c) (takeX ps c) + 1 = usedP (whereK ps c) ps := by
  have hx : takeX ps c = ps.set (c / 32).toNat (clrP (ps.getD (c / 32).toNat pg0) (c % 32).toNat) := by unfold takeX; rw [if_pos hc]
  obtain ⟨b, p, rfl, hp, hb, ht, e1, e2, _⟩ := find_ok hc
  rw [hx, e1, e2, whereK_at _ b p hp hb ht]
  have h1 := used_set (ps.getD b pg0).1 (clrP (ps.getD b pg0) p) hb
  have hne : (ps.getD b pg0).2 ≠ 0 := fun h => by rw [h] at ht; simp at ht
  rw [cnt_on hne rfl, pop_xor hp ht] at h1
  unfold clrP at h1 ⊢
  by_cases h0 : (ps.getD b pg0).2 ^^^ 2 ^ p = 0
  · rw [if_pos h0] at h1 ⊢
    rw [cnt_off (.inl rfl), h0, pop_zero] at h1
    omega
  · rw [if_neg h0] at h1 ⊢
    rw [show cntP (ps.getD b pg0).1 ((ps.getD b pg0).1, (ps.getD b pg0).2 ^^^ 2 ^ p) = pop ((ps.getD b pg0).2 ^^^ 2 ^ p) from cnt_on (p := ((ps.getD b pg0).1, (ps.getD b pg0).2 ^^^ 2 ^ p)) h0 rfl] at h1
    omega
/-- What is taken can be given again. -/
theorem give_again {ps : List Pg} (hi : InvP ps) {c n : Int} (hc : findE ps c = 0) (hn : clsE n = 0) (hk : whereK ps c = clsK n) : giveE (takeX ps c) n = 0 := by
  have hx : takeX ps c = ps.set (c / 32).toNat (clrP (ps.getD (c / 32).toNat pg0) (c % 32).toNat) := by unfold takeX; rw [if_pos hc]
  obtain ⟨b, p, rfl, hp, hb, ht, e1, e2, _⟩ := find_ok hc
  rw [whereK_at _ b p hp hb ht] at hk
  rw [hx, e1, e2]
  have hok := hi.get b
  rcases giveE_cases (ps.set b (clrP (ps.getD b pg0) p)) n with h | ⟨h, _⟩ | ⟨_, _, h1, h2⟩
  · exact h
  · exact absurd hn h
  · have h1 := h1 b (by simpa using hb)
    have h2 := h2 b (by simpa using hb)
    rw [getD_set_self _ hb] at h1 h2
    unfold clrP at h1 h2
    by_cases h0 : (ps.getD b pg0).2 ^^^ 2 ^ p = 0
    · rw [if_pos h0] at h2
      simp [freeB] at h2
    · rw [if_neg h0] at h1
      simp only [roomB, hasP, h0, hk, decide_false, Bool.not_false, decide_true, Bool.and_true, Bool.true_and, Bool.not_eq_false', decide_eq_true_eq] at h1
      have h3 := pop_xor hp ht
      have h4 : pop (ps.getD b pg0).2 ≤ chN (clsK n) := by
        rw [← hk]
        have hl := hok.2.1
        have h32 := chN_pos hok.1
        have key : ∀ m, ((List.range m).filter (fun i => (ps.getD b pg0).2.testBit i)).length ≤ min m (chN (ps.getD b pg0).1) := by
          intro m
          induction m with
          | zero => simp
          | succ m ih =>
            rw [List.range_succ, List.filter_append, List.length_append]
            by_cases e : m < chN (ps.getD b pg0).1
            · have : (List.filter (fun i => (ps.getD b pg0).2.testBit i) [m]).length ≤ 1 := List.length_filter_le _ _
              omega
            · have : (List.filter (fun i => (ps.getD b pg0).2.testBit i) [m]).length = 0 := by
                rw [List.filter_cons_of_neg (by rw [tb_high hl (show chN (ps.getD b pg0).1 ≤ m by omega)]; decide)]
                rfl
              omega
        have := key 32
        unfold pop
        omega
      omega
end Go.Proofs.YtgipkdkfecegkaaDoor
