/- What follows of all that is given, as numbers: bytes, full pages, what a taking leaves. Nothing of the program is spoken of here. -/
import Derived.Test.YtgipkdkfecegkaaDoorAgM
namespace Go.Proofs.YtgipkdkfecegkaaDoor
set_option linter.unusedVariables false
set_option linter.unusedSimpArgs false
def bytP (p : Pg) : Nat := pop p.2 * szN p.1
def totalP (ps : List Pg) : Nat := (ps.map bytP).sum
theorem pop_lt {p : Pg} (h : OkP p) : pop p.2 ≤ chN p.1 := by
  have hl := h.2.1
  have h32 := chN_pos h.1
  have key : ∀ m, ((List.range m).filter (fun i => p.2.testBit i)).length ≤ min m (chN p.1) := by
    intro m
    induction m with
    | zero => simp
    | succ m ih =>
      rw [List.range_succ, List.filter_append, List.length_append]
      by_cases e : m < chN p.1
      · have : (List.filter (fun i => p.2.testBit i) [m]).length ≤ 1 := List.length_filter_le _ _
        omega
      · have : (List.filter (fun i => p.2.testBit i) [m]).length = 0 := by
          rw [List.filter_cons_of_neg (by rw [tb_high hl (show chN p.1 ≤ m by omega)]; decide)]
          rfl
        omega
  have := key 32
  unfold pop
  omega
theorem byt_le {p : Pg} (h : OkP p) : bytP p ≤ 1024 := by
  have h1 := pop_lt h
  have h2 := (chN_div h.1).2.2
  unfold bytP
  have := Nat.mul_le_mul_right (szN p.1) h1
  rw [Nat.mul_comm (chN p.1)] at this
  omega
theorem total_le : ∀ {ps : List Pg}, InvP ps → totalP ps ≤ 1024 * ps.length
  | [], _ => by simp [totalP]
  | a :: ps, h => by
    have h1 := byt_le (h a (by simp))
    have h2 := total_le (ps := ps) (fun p hp => h p (by simp [hp]))
    unfold totalP at *
    simp only [List.map_cons, List.sum_cons, List.length_cons]
    omega
theorem Given.total {ps : List Pg} {n : Int} {a : Nat} (h : Given ps n a) (hi : InvP ps) : totalP (giveX ps n) = totalP ps + szN (clsK n) := by
  have h1 := sum_set bytP ps a (clsK n, (ps.getD a pg0).2 ||| 2 ^ fst0 (ps.getD a pg0).2) h.lt
  rw [← h.x] at h1
  have h2 : bytP (clsK n, (ps.getD a pg0).2 ||| 2 ^ fst0 (ps.getD a pg0).2) = (pop (ps.getD a pg0).2 + 1) * szN (clsK n) := by
    show pop ((ps.getD a pg0).2 ||| 2 ^ fst0 (ps.getD a pg0).2) * szN (clsK n) = _
    rw [pop_or h.pl32 h.new]
  rw [h2, Nat.add_mul, Nat.one_mul] at h1
  unfold totalP
  rcases h.old with h0 | h0
  · have h3 : bytP (ps.getD a pg0) = 0 := by unfold bytP; rw [h0, pop_zero, Nat.zero_mul]
    rw [h3, h0, pop_zero, Nat.zero_mul] at h1
    omega
  · have h3 : bytP (ps.getD a pg0) = pop (ps.getD a pg0).2 * szN (clsK n) := by unfold bytP; rw [h0]
    rw [h3] at h1
    omega
theorem mem_get {ps : List Pg} {p : Pg} (h : p ∈ ps) : ∃ i, i < ps.length ∧ ps.getD i pg0 = p := by
  obtain ⟨i, hi, e⟩ := List.getElem_of_mem h
  exact ⟨i, hi, by simp [List.getD, List.getElem?_eq_getElem hi, e]⟩
/-- All pages of the class are full, none is free. -/
theorem full_all {ps : List Pg} {k : Nat} (h1 : ∀ i, i < ps.length → roomB k (ps.getD i pg0) = false) (h2 : ∀ i, i < ps.length → freeB (ps.getD i pg0) = false) : freeP ps = 0 ∧ usedP k ps = pagesP k ps * chN k := by
  have g1 : ∀ p, p ∈ ps → roomB k p = false := fun p hp => by obtain ⟨i, hi, e⟩ := mem_get hp; rw [← e]; exact h1 i hi
  have g2 : ∀ p, p ∈ ps → freeB p = false := fun p hp => by obtain ⟨i, hi, e⟩ := mem_get hp; rw [← e]; exact h2 i hi
  refine ⟨?_, ?_⟩
  · unfold freeP
    rw [List.length_eq_zero_iff, List.filter_eq_nil_iff]
    exact fun p hp => by rw [g2 p hp]; decide
  · unfold usedP pagesP
    have key : ∀ qs : List Pg, (∀ p, p ∈ qs → hasP k p = true ∧ pop p.2 = chN k) → (qs.map (fun p => pop p.2)).sum = qs.length * chN k := by
      intro qs
      induction qs with
      | nil => intro _; simp
      | cons a qs ih =>
        intro h
        have := ih (fun p hp => h p (by simp [hp]))
        simp only [List.map_cons, List.sum_cons, List.length_cons, this, (h a (by simp)).2, Nat.add_mul, Nat.one_mul]
        omega
    refine key _ fun p hp => ?_
    obtain ⟨hm, hh⟩ := List.mem_filter.1 hp
    refine ⟨hh, ?_⟩
    have := g1 p hm
    unfold roomB at this
    rw [hh] at this
    have hk : p.1 = k := by unfold hasP at hh; simp at hh; exact hh.2
    rw [← hk]
    simpa using this
/-- Behind a taking. -/
theorem take_find {ps : List Pg} {x : Int} (hx : findE ps x = 0) (c : Int) : (findE (takeX ps x) c = 0 ↔ findE ps c = 0 ∧ c ≠ x) ∧ findE (takeX ps x) x = 4 := by
  have hX : takeX ps x = ps.set (x / 32).toNat (clrP (ps.getD (x / 32).toNat pg0) (x % 32).toNat) := by unfold takeX; rw [if_pos hx]
  obtain ⟨a, p, rfl, hp, ha, ht, e1, e2, _⟩ := find_ok hx
  rw [hX, e1, e2]
  have hbit : ∀ i, (clrP (ps.getD a pg0) p).2.testBit i = ((ps.getD a pg0).2.testBit i && decide (i ≠ p)) := fun i => by
    unfold clrP
    have key : ((ps.getD a pg0).2 ^^^ 2 ^ p).testBit i = ((ps.getD a pg0).2.testBit i && decide (i ≠ p)) := by
      rw [xor_tb]
      by_cases e : p = i
      · subst e; rw [ht]; simp
      · simp [e, Ne.symm e]
    by_cases h0 : (ps.getD a pg0).2 ^^^ 2 ^ p = 0
    · rw [if_pos h0, ← key, h0]
    · rw [if_neg h0]; exact key
  have hself : ∀ q : Nat, q < 32 → findE (ps.set a (clrP (ps.getD a pg0) p)) ((a * 32 + q : Nat) : Int) = if ((ps.getD a pg0).2.testBit q && decide (q ≠ p)) then 0 else 4 := fun q hq => by
    rw [findE_at _ a q hq (by simpa using ha), getD_set_self _ ha, hbit]
  refine ⟨⟨fun h => ?_, fun ⟨h, hne⟩ => ?_⟩, by rw [hself p hp]; simp⟩
  · obtain ⟨b, q, rfl, hq, hb, hb2, _⟩ := find_ok h
    simp only [List.length_set] at hb
    by_cases e : a = b
    · subst e
      rw [hself q hq] at h
      rw [findE_at _ a q hq ha]
      by_cases e2 : q = p
      · subst e2; simp at h
      · have hbq : (ps.getD a pg0).2.testBit q = true := by
          cases hv : (ps.getD a pg0).2.testBit q with
          | true => rfl
          | false => rw [hv] at h; simp at h
        rw [hbq]
        exact ⟨rfl, by omega⟩
    · rw [getD_set_ne _ e] at hb2
      rw [findE_at _ b q hq hb, hb2]
      exact ⟨rfl, by omega⟩
  · obtain ⟨b, q, rfl, hq, hb, hb2, _⟩ := find_ok h
    by_cases e : a = b
    · subst e
      have : q ≠ p := by rintro rfl; exact hne rfl
      rw [hself q hq, hb2]
      simp [this]
    · rw [findE_at _ b q hq (by simpa using hb), getD_set_ne _ e, hb2]
      rfl
/-- Nothing is given any more: all pages are free. -/
theorem all_free {ps : List Pg} (hi : InvP ps) (h : ∀ c : Int, findE ps c ≠ 0) : freeP ps = ps.length := by
  unfold freeP
  rw [List.filter_eq_self.2 fun p hp => ?_]
  obtain ⟨i, hil, e⟩ := mem_get hp
  have ho := hi p hp
  have hc := (chN_pos ho.1).2
  unfold freeB
  refine decide_eq_true (eq_zero_tb fun q => ?_)
  by_cases hq : q < 32
  · have h1 := h ((i * 32 + q : Nat) : Int)
    rw [findE_at _ i q hq hil, e] at h1
    cases hv : p.2.testBit q with
    | false => rfl
    | true => rw [hv] at h1; simp at h1
  · exact tb_high ho.2.1 (by omega)
end Go.Proofs.YtgipkdkfecegkaaDoor
