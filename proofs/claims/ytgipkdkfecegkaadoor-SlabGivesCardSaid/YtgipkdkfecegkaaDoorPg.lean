/- Pages and arenas as data: classes, sizes, bits; what giving and taking make of them. Nothing of the program is spoken of here. -/
import Derived.Lib.TrailingZeros
import Derived.Lib.SlBy
namespace Go.Proofs.YtgipkdkfecegkaaDoor
set_option linter.unusedVariables false
set_option linter.unusedSimpArgs false

/-- A page: its class, and its given chunks as bits. -/
abbrev Pg := Nat × Nat
abbrev pg0 : Pg := (0, 0)
def szN (k : Nat) : Nat := [32, 64, 96, 144, 216, 324, 486, 1024].getD k 0
def chN (k : Nat) : Nat := [32, 16, 10, 7, 4, 3, 2, 1].getD k 0
def clsE (n : Int) : Nat := if n < 0 then 2 else if n ≤ 1024 then 0 else 3
def clsK (n : Int) : Nat := if n < 0 then 0 else if n ≤ 32 then 0 else if n ≤ 64 then 1 else if n ≤ 96 then 2 else if n ≤ 144 then 3 else if n ≤ 216 then 4 else if n ≤ 324 then 5 else if n ≤ 486 then 6 else if n ≤ 1024 then 7 else 0
theorem clsK_lt (n : Int) : clsK n < 8 := by
  unfold clsK
  repeat' split
  all_goals omega
theorem chN_pos {k : Nat} (h : k < 8) : 1 ≤ chN k ∧ chN k ≤ 32 := by
  have : ∀ k : Fin 8, 1 ≤ chN k ∧ chN k ≤ 32 := by decide
  exact this ⟨k, h⟩
theorem chN_div {k : Nat} (h : k < 8) : 1024 / szN k = chN k ∧ szN k ≠ 0 ∧ szN k * chN k ≤ 1024 := by
  have : ∀ k : Fin 8, 1024 / szN k = chN k ∧ szN k ≠ 0 ∧ szN k * chN k ≤ 1024 := by decide
  exact this ⟨k, h⟩

/-- How many chunks are given. -/
def pop (g : Nat) : Nat := ((List.range 32).filter (fun i => g.testBit i)).length
/-- The least place that is not given. -/
def fst0 (g : Nat) : Nat := Lib.ctz 32 (4294967295 - g)
def hasP (k : Nat) (p : Pg) : Bool := !(decide (p.2 = 0)) && decide (p.1 = k)
def roomB (k : Nat) (p : Pg) : Bool := hasP k p && !(decide (pop p.2 = chN p.1))
def freeB (p : Pg) : Bool := decide (p.2 = 0)
def roomyP (k : Nat) (ps : List Pg) : Int := if Lib.idxBy (fun _ p => roomB k p) ps pg0 < 0 then Lib.idxBy (fun _ p => freeB p) ps pg0 else Lib.idxBy (fun _ p => roomB k p) ps pg0
/-- What is told, and the pages behind it, when a chunk is asked for. -/
def giveE (ps : List Pg) (n : Int) : Nat := if clsE n = 0 then (if roomyP (clsK n) ps < 0 then 6 else 0) else clsE n
def giveAt (ps : List Pg) (n : Int) : Nat := (roomyP (clsK n) ps).toNat
def givePl (ps : List Pg) (n : Int) : Nat := fst0 (ps.getD (giveAt ps n) pg0).2
def giveN (ps : List Pg) (n : Int) : Nat := if giveE ps n = 0 then giveAt ps n * 32 + givePl ps n else 0
def giveX (ps : List Pg) (n : Int) : List Pg := if giveE ps n = 0 then ps.set (giveAt ps n) (clsK n, (ps.getD (giveAt ps n) pg0).2 ||| 2 ^ givePl ps n) else ps
/-- A chunk that is given, or why it is none. -/
def findE (ps : List Pg) (c : Int) : Nat := if c < 0 then 2 else if (ps.length : Int) ≤ c / 32 then 2 else if (ps.getD (c / 32).toNat pg0).2.testBit (c % 32).toNat then 0 else 4
def whereK (ps : List Pg) (c : Int) : Nat := if findE ps c = 0 then (ps.getD (c / 32).toNat pg0).1 else 0
def clrP (p : Pg) (i : Nat) : Pg := if p.2 ^^^ 2 ^ i = 0 then pg0 else (p.1, p.2 ^^^ 2 ^ i)
def takeX (ps : List Pg) (c : Int) : List Pg := if findE ps c = 0 then ps.set (c / 32).toNat (clrP (ps.getD (c / 32).toNat pg0) (c % 32).toNat) else ps
def usedP (k : Nat) (ps : List Pg) : Nat := ((ps.filter (hasP k)).map (fun p => pop p.2)).sum
def pagesP (k : Nat) (ps : List Pg) : Nat := (ps.filter (hasP k)).length
def freeP (ps : List Pg) : Nat := (ps.filter freeB).length
/-- What a page may be. -/
def OkP (p : Pg) : Prop := p.1 < 8 ∧ p.2 < 2 ^ chN p.1 ∧ (p.2 = 0 → p.1 = 0)
def InvP (ps : List Pg) : Prop := ∀ p, p ∈ ps → OkP p

theorem ok0 : OkP pg0 := ⟨by decide, by decide, fun _ => rfl⟩
theorem OkP.u32 {p : Pg} (h : OkP p) : p.2 < 4294967296 := by
  have h1 := (chN_pos h.1).2
  have h2 : 2 ^ chN p.1 ≤ 2 ^ 32 := Nat.pow_le_pow_right (by decide) h1
  have := h.2.1
  omega
theorem InvP.get {ps : List Pg} (h : InvP ps) (i : Nat) : OkP (ps.getD i pg0) := by
  by_cases hi : i < ps.length
  · simp only [List.getD, List.getElem?_eq_getElem hi, Option.getD_some]
    exact h _ (List.getElem_mem hi)
  · rw [List.getD, List.getElem?_eq_none (by omega)]
    exact ok0
theorem InvP.set {ps : List Pg} (h : InvP ps) {i : Nat} {p : Pg} (hp : OkP p) : InvP (ps.set i p) := fun q hq => by
  rcases List.mem_or_eq_of_mem_set hq with h1 | rfl
  · exact h q h1
  · exact hp
theorem InvP.rep (n : Nat) : InvP (List.replicate n pg0) := fun p hp => by rw [List.eq_of_mem_replicate hp]; exact ok0

/-! Bits. -/
theorem pop_le (g : Nat) : pop g ≤ 32 := by
  have := List.length_filter_le (fun i => g.testBit i) (List.range 32)
  simpa [pop] using this
theorem tb_high {g c i : Nat} (h : g < 2 ^ c) (hi : c ≤ i) : g.testBit i = false := Nat.testBit_lt_two_pow (Nat.lt_of_lt_of_le h (Nat.pow_le_pow_right (by decide) hi))
theorem pop_zero : pop 0 = 0 := by simp [pop]
theorem eq_zero_tb {g : Nat} (h : ∀ i, g.testBit i = false) : g = 0 := Nat.eq_of_testBit_eq fun i => by simp [h i]
/-- One bit turned. -/
theorem pop_turn {g g' p : Nat} (hp : p < 32) (h0 : g.testBit p = false) (h1 : g'.testBit p = true) (hs : ∀ i, i ≠ p → g'.testBit i = g.testBit i) : pop g' = pop g + 1 := by
  have key : ∀ n, ((List.range n).filter (fun i => g'.testBit i)).length = ((List.range n).filter (fun i => g.testBit i)).length + (if p < n then 1 else 0) := by
    intro n
    induction n with
    | zero => simp
    | succ n ih =>
      rw [List.range_succ, List.filter_append, List.filter_append, List.length_append, List.length_append, ih]
      by_cases e : n = p
      · subst e
        simp [h0, h1]
      · rw [show (List.filter (fun i => g'.testBit i) [n]) = List.filter (fun i => g.testBit i) [n] by simp [List.filter_cons, hs n e]]
        by_cases h2 : p < n
        · rw [if_pos h2, if_pos (by omega)]; omega
        · rw [if_neg h2, if_neg (by omega)]; omega
  have := key 32
  rw [if_pos hp] at this
  exact this
theorem or_tb (g p i : Nat) : (g ||| 2 ^ p).testBit i = (g.testBit i || decide (p = i)) := by rw [Nat.testBit_or, Nat.testBit_two_pow]
theorem xor_tb (g p i : Nat) : (g ^^^ 2 ^ p).testBit i = (g.testBit i != decide (p = i)) := by
  rw [Nat.testBit_xor, Nat.testBit_two_pow]
theorem pop_or {g p : Nat} (hp : p < 32) (h0 : g.testBit p = false) : pop (g ||| 2 ^ p) = pop g + 1 :=
  pop_turn hp h0 (by rw [or_tb]; simp) (fun i hi => by rw [or_tb]; simp [Ne.symm hi])
theorem pop_xor {g p : Nat} (hp : p < 32) (h1 : g.testBit p = true) : pop g = pop (g ^^^ 2 ^ p) + 1 :=
  pop_turn hp (by rw [xor_tb]; simp [h1]) h1 (fun i hi => by rw [xor_tb]; simp [Ne.symm hi])
theorem pop_pos {g p : Nat} (hp : p < 32) (h1 : g.testBit p = true) : 0 < pop g := by rw [pop_xor hp h1]; omega
theorem pop_full {c g : Nat} (hc : c ≤ 32) (h : g < 2 ^ c) (ha : ∀ i, i < c → g.testBit i = true) : pop g = c := by
  have key : ∀ n, ((List.range n).filter (fun i => g.testBit i)).length = min n c := by
    intro n
    induction n with
    | zero => simp
    | succ n ih =>
      rw [List.range_succ, List.filter_append, List.length_append, ih]
      by_cases e : n < c
      · simp [ha n e]; omega
      · simp [tb_high h (show c ≤ n by omega)]; omega
  have := key 32
  unfold pop
  omega
theorem lt_pow_tb {c x : Nat} (h : ∀ i, c ≤ i → x.testBit i = false) : x < 2 ^ c := by
  rcases Nat.lt_or_ge x (2 ^ c) with h1 | h1
  · exact h1
  · obtain ⟨i, hi, ht⟩ := Nat.exists_ge_and_testBit_of_ge_two_pow h1
    rw [h i hi] at ht
    cases ht
/-- The least place that is free. -/
theorem fst0_spec {g : Nat} (h : g < 4294967295) : (g.testBit (fst0 g) = false ∧ fst0 g < 32) ∧ ∀ j, j < fst0 g → g.testBit j = true := by
  have hx : 4294967295 - g ≠ 0 := by omega
  have hc : ∀ j, j < 32 → (4294967295 - g).testBit j = !g.testBit j := fun j hj => by
    have := Nat.testBit_two_pow_sub_succ (x := g) (n := 32) (by omega) j
    rw [show (2 : Nat) ^ 32 - (g + 1) = 4294967295 - g by omega] at this
    rw [this]
    simp [hj]
  unfold fst0 Lib.ctz
  rw [if_neg hx]
  obtain ⟨m, hm, hl⟩ := Lib.ctzFrom_spec 32 (4294967295 - g) (by omega) (by omega)
  obtain ⟨k, hk⟩ : ∃ k, Lib.ctzFrom 32 (4294967295 - g) = k := ⟨_, rfl⟩
  rw [hk] at hm hl ⊢
  have t : ∀ j, (4294967295 - g).testBit j = (decide (k ≤ j) && (2 * m + 1).testBit (j - k)) := fun j => by
    rw [hm, Nat.mul_comm, Nat.testBit_mul_two_pow]
  refine ⟨⟨?_, hl⟩, fun j hj => ?_⟩
  · have h1 := t k
    rw [hc k hl] at h1
    simp [Nat.testBit_zero] at h1
    exact h1
  · have h1 := t j
    rw [hc j (by omega)] at h1
    rw [show decide (k ≤ j) = false by simp; omega] at h1
    simpa using h1
theorem roomB_lt {k : Nat} {p : Pg} (h : OkP p) (hr : roomB k p = true) : p.1 = k ∧ p.2 ≠ 0 ∧ p.2 < 4294967295 ∧ fst0 p.2 < chN k ∧ p.2.testBit (fst0 p.2) = false := by
  simp only [roomB, hasP, Bool.and_eq_true, Bool.not_eq_true', decide_eq_false_iff_not, decide_eq_true_eq] at hr
  obtain ⟨⟨h1, h2⟩, h3⟩ := hr
  have hc := chN_pos h.1
  have hne : p.2 ≠ 4294967295 := fun e => by
    have h5 : chN p.1 = 32 := by
      have h6 := h.2.1
      rw [e] at h6
      rcases Nat.lt_or_ge (chN p.1) 32 with h7 | h7
      · have : 2 ^ chN p.1 ≤ 2 ^ 31 := Nat.pow_le_pow_right (by decide) (by omega)
        omega
      · omega
    refine h3 ?_
    rw [h5, e]
    decide +kernel
  have hlt : p.2 < 4294967295 := by have := h.u32; omega
  obtain ⟨⟨a1, a2⟩, a3⟩ := fst0_spec hlt
  refine ⟨h2, h1, hlt, ?_, a1⟩
  rw [← h2]
  rcases Nat.lt_or_ge (fst0 p.2) (chN p.1) with h4 | h4
  · exact h4
  · exact absurd (pop_full hc.2 h.2.1 (fun i hi => a3 i (by omega))) h3
theorem fst0_zero : fst0 0 = 0 := by decide +kernel
end Go.Proofs.YtgipkdkfecegkaaDoor
