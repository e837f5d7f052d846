/- Rings as data: which may be; the latest segment, the open one, the oldest, the next. -/
import Derived.Test.YtkmbbfdjdmkjpaaSmall
namespace Go.Proofs.Ytkmbbfdjdmkjpaa
open Go.RowKit
set_option linter.unusedVariables false
set_option linter.unusedSimpArgs false

abbrev stG (xs : List Seg) (i : Nat) : Int := (xs.getD i seg0).1
abbrev genG (xs : List Seg) (i : Nat) : Int := (xs.getD i seg0).2.1
abbrev usedG (xs : List Seg) (i : Nat) : Int := (xs.getD i seg0).2.2
/-- Of two that are not free the generations differ, and none is above the open one's. -/
def Apart (xs : List Seg) : Prop := ∀ i, i < xs.length → ∀ j, j < xs.length → i ≠ j → (xs.getD i seg0).1 ≠ 0 → (xs.getD j seg0).1 ≠ 0 →
  (xs.getD i seg0).2.1 ≠ (xs.getD j seg0).2.1 ∧ ((xs.getD i seg0).1 = 1 → (xs.getD j seg0).2.1 < (xs.getD i seg0).2.1)
def OkR (sec : Int) (xs : List Seg) : Prop := SizedR xs.length sec ∧ (∀ s ∈ xs, MayG s sec) ∧ Apart xs
noncomputable instance (sec : Int) (xs : List Seg) : Decidable (OkR sec xs) := Classical.propDecidable _

def latTo (xs : List Seg) : Nat → Int
  | 0 => -1
  | j + 1 => if stG xs j ≠ 0 ∧ (latTo xs j < 0 ∨ genG xs (latTo xs j).toNat < genG xs j) then j else latTo xs j
def opnTo (xs : List Seg) : Nat → Int
  | 0 => -1
  | j + 1 => if 0 ≤ opnTo xs j then opnTo xs j else if stG xs j = 1 then j else -1
def oldTo (xs : List Seg) : Nat → Int
  | 0 => -1
  | j + 1 => if stG xs j = 2 ∧ (oldTo xs j < 0 ∨ genG xs j < genG xs (oldTo xs j).toNat) then j else oldTo xs j
/-- The first free one among a + 1, .., a + k, round and round. -/
def nxtTo (xs : List Seg) (a : Int) : Nat → Int
  | 0 => -1
  | k + 1 => if 0 ≤ nxtTo xs a k then nxtTo xs a k else if stG xs ((a + 1 + k).toNat % xs.length) = 0 then (((a + 1 + k).toNat % xs.length : Nat) : Int) else -1
def latR (xs : List Seg) : Int := latTo xs xs.length
def opnR (xs : List Seg) : Int := opnTo xs xs.length
def oldR (xs : List Seg) : Int := oldTo xs xs.length
def nxtR (xs : List Seg) : Int := nxtTo xs (latR xs) xs.length

theorem lat_spec (xs : List Seg) : ∀ j, (latTo xs j = -1 ∧ ∀ i, i < j → stG xs i = 0) ∨ ∃ i, i < j ∧ latTo xs j = (i : Nat) ∧ stG xs i ≠ 0 ∧ ∀ k, k < j → stG xs k ≠ 0 → genG xs k ≤ genG xs i
  | 0 => .inl ⟨rfl, fun i h => absurd h (by omega)⟩
  | j + 1 => by
    have ih := lat_spec xs j
    unfold latTo
    split
    case isTrue h =>
      obtain ⟨h1, h2⟩ := h
      refine .inr ⟨j, by omega, rfl, h1, fun k hk hs => ?_⟩
      rcases Nat.lt_or_ge k j with hlt | hge
      · rcases ih with ⟨e, hz⟩ | ⟨i, hi, e, hs', hm⟩
        · exact absurd (hz k hlt) hs
        · rw [e] at h2
          have := hm k hlt hs
          simp only [Int.toNat_natCast] at h2
          rcases h2 with h2 | h2 <;> omega
      · obtain rfl : k = j := by omega
        exact Int.le_refl _
    case isFalse h =>
      rcases ih with ⟨e, hz⟩ | ⟨i, hi, e, hs', hm⟩
      · refine .inl ⟨e, fun i hi => ?_⟩
        rcases Nat.lt_or_ge i j with hlt | hge
        · exact hz i hlt
        · obtain rfl : i = j := by omega
          rw [e] at h
          by_cases h0 : stG xs i = 0
          · exact h0
          · exact absurd ⟨h0, .inl (by omega)⟩ h
      · refine .inr ⟨i, by omega, e, hs', fun k hk hs => ?_⟩
        rcases Nat.lt_or_ge k j with hlt | hge
        · exact hm k hlt hs
        · obtain rfl : k = j := by omega
          rw [e] at h
          simp only [Int.toNat_natCast, not_and, not_or] at h
          have := (h hs).2
          omega
theorem opn_spec (xs : List Seg) : ∀ j, (opnTo xs j = -1 ∧ ∀ i, i < j → stG xs i ≠ 1) ∨ ∃ i, i < j ∧ opnTo xs j = (i : Nat) ∧ stG xs i = 1
  | 0 => .inl ⟨rfl, fun i h => absurd h (by omega)⟩
  | j + 1 => by
    have ih := opn_spec xs j
    unfold opnTo
    rcases ih with ⟨e, hz⟩ | ⟨i, hi, e, hs⟩
    · rw [e, if_neg (by omega)]
      by_cases h1 : stG xs j = 1
      · rw [if_pos h1]
        exact .inr ⟨j, by omega, rfl, h1⟩
      · rw [if_neg h1]
        refine .inl ⟨rfl, fun i hi => ?_⟩
        rcases Nat.lt_or_ge i j with hlt | hge
        · exact hz i hlt
        · obtain rfl : i = j := by omega
          exact h1
    · rw [e, if_pos (by omega)]
      exact .inr ⟨i, by omega, rfl, hs⟩
theorem old_spec (xs : List Seg) : ∀ j, (oldTo xs j = -1 ∧ ∀ i, i < j → stG xs i ≠ 2) ∨ ∃ i, i < j ∧ oldTo xs j = (i : Nat) ∧ stG xs i = 2 ∧ ∀ k, k < j → stG xs k = 2 → genG xs i ≤ genG xs k
  | 0 => .inl ⟨rfl, fun i h => absurd h (by omega)⟩
  | j + 1 => by
    have ih := old_spec xs j
    unfold oldTo
    split
    case isTrue h =>
      obtain ⟨h1, h2⟩ := h
      refine .inr ⟨j, by omega, rfl, h1, fun k hk hs => ?_⟩
      rcases Nat.lt_or_ge k j with hlt | hge
      · rcases ih with ⟨e, hz⟩ | ⟨i, hi, e, hs', hm⟩
        · exact absurd hs (hz k hlt)
        · rw [e] at h2
          have := hm k hlt hs
          simp only [Int.toNat_natCast] at h2
          rcases h2 with h2 | h2 <;> omega
      · obtain rfl : k = j := by omega
        exact Int.le_refl _
    case isFalse h =>
      rcases ih with ⟨e, hz⟩ | ⟨i, hi, e, hs', hm⟩
      · refine .inl ⟨e, fun i hi => ?_⟩
        rcases Nat.lt_or_ge i j with hlt | hge
        · exact hz i hlt
        · obtain rfl : i = j := by omega
          rw [e] at h
          exact fun h0 => h ⟨h0, .inl (by omega)⟩
      · refine .inr ⟨i, by omega, e, hs', fun k hk hs => ?_⟩
        rcases Nat.lt_or_ge k j with hlt | hge
        · exact hm k hlt hs
        · obtain rfl : k = j := by omega
          rw [e] at h
          simp only [Int.toNat_natCast, not_and, not_or] at h
          have := (h hs).2
          omega
theorem nxt_spec (xs : List Seg) (a : Int) : ∀ k, (nxtTo xs a k = -1 ∧ ∀ i, i < k → stG xs ((a + 1 + i).toNat % xs.length) ≠ 0) ∨
    ∃ i, i < k ∧ nxtTo xs a k = (((a + 1 + (i : Nat)).toNat % xs.length : Nat) : Int) ∧ stG xs ((a + 1 + i).toNat % xs.length) = 0 ∧ ∀ q, q < i → stG xs ((a + 1 + (q : Nat)).toNat % xs.length) ≠ 0
  | 0 => .inl ⟨rfl, fun i h => absurd h (by omega)⟩
  | k + 1 => by
    have ih := nxt_spec xs a k
    unfold nxtTo
    rcases ih with ⟨e, hz⟩ | ⟨i, hi, e, hs, hq⟩
    · rw [e, if_neg (by omega)]
      by_cases h1 : stG xs ((a + 1 + (k : Nat)).toNat % xs.length) = 0
      · rw [if_pos h1]
        exact .inr ⟨k, by omega, rfl, h1, hz⟩
      · rw [if_neg h1]
        refine .inl ⟨rfl, fun i hi => ?_⟩
        rcases Nat.lt_or_ge i k with hlt | hge
        · exact hz i hlt
        · obtain rfl : i = k := by omega
          exact h1
    · rw [e, if_pos (by omega)]
      exact .inr ⟨i, by omega, rfl, hs, hq⟩
theorem nxt_stay (xs : List Seg) (a : Int) {k : Nat} (h : 0 ≤ nxtTo xs a k) : ∀ d, nxtTo xs a (k + d) = nxtTo xs a k
  | 0 => rfl
  | d + 1 => by
    have ih := nxt_stay xs a h d
    show nxtTo xs a ((k + d) + 1) = _
    conv => lhs; unfold nxtTo
    rw [ih, if_pos h]
theorem opn_stay (xs : List Seg) {k : Nat} (h : 0 ≤ opnTo xs k) : ∀ d, opnTo xs (k + d) = opnTo xs k
  | 0 => rfl
  | d + 1 => by
    have ih := opn_stay xs h d
    show opnTo xs ((k + d) + 1) = _
    conv => lhs; unfold opnTo
    rw [ih, if_pos h]
theorem may_at {sec : Int} {xs : List Seg} (h : ∀ s ∈ xs, MayG s sec) {i : Nat} (hi : i < xs.length) : MayG (xs.getD i seg0) sec := h _ (by simp [List.getD, hi])
theorem may_live {s : Seg} {sec : Int} (h : MayG s sec) (h0 : s.1 ≠ 0) : (s.1 = 1 ∨ s.1 = 2) ∧ 0 < s.2.1 ∧ 1 ≤ s.2.2 ∧ s.2.2 ≤ sec := by
  unfold MayG at h
  rwa [if_neg h0] at h
/-- Of a ring that may be the open one is the latest. -/
theorem opn_lat {sec : Int} {xs : List Seg} (h : OkR sec xs) {i : Nat} (hi : i < xs.length) (h1 : stG xs i = 1) : latR xs = i := by
  rcases lat_spec xs xs.length with ⟨e, hz⟩ | ⟨m, hm, e, hs, hmax⟩
  · have := hz i hi
    omega
  · unfold latR
    rw [e]
    by_cases hne : i = m
    · rw [hne]
    · have h2 := (h.2.2 i hi m hm hne (by rw [show (xs.getD i seg0).1 = 1 from h1]; decide) hs).2 h1
      have h3 := hmax i hi (by omega)
      simp only [genG] at h3
      omega
theorem opn_or {sec : Int} {xs : List Seg} (h : OkR sec xs) : (opnR xs = -1 ∧ (∀ i, i < xs.length → stG xs i ≠ 1)) ∨ ∃ i, i < xs.length ∧ opnR xs = (i : Nat) ∧ latR xs = (i : Nat) ∧ stG xs i = 1 := by
  rcases opn_spec xs xs.length with h1 | ⟨i, hi, e, hs⟩
  · exact .inl h1
  · exact .inr ⟨i, hi, e, opn_lat h hi hs, hs⟩
theorem lat_or (xs : List Seg) : (latR xs = -1 ∧ ∀ i, i < xs.length → stG xs i = 0) ∨ ∃ i, i < xs.length ∧ latR xs = (i : Nat) ∧ stG xs i ≠ 0 ∧ ∀ k, k < xs.length → stG xs k ≠ 0 → genG xs k ≤ genG xs i := lat_spec xs xs.length
theorem old_or (xs : List Seg) : (oldR xs = -1 ∧ ∀ i, i < xs.length → stG xs i ≠ 2) ∨ ∃ i, i < xs.length ∧ oldR xs = (i : Nat) ∧ stG xs i = 2 ∧ ∀ k, k < xs.length → stG xs k = 2 → genG xs i ≤ genG xs k := old_spec xs xs.length
theorem nxt_or (xs : List Seg) : (nxtR xs = -1 ∧ ∀ i, i < xs.length → stG xs ((latR xs + 1 + i).toNat % xs.length) ≠ 0) ∨
    ∃ i, i < xs.length ∧ nxtR xs = (((latR xs + 1 + (i : Nat)).toNat % xs.length : Nat) : Int) ∧ stG xs ((latR xs + 1 + i).toNat % xs.length) = 0 ∧ ∀ q, q < i → stG xs ((latR xs + 1 + (q : Nat)).toNat % xs.length) ≠ 0 := nxt_spec xs _ xs.length

/-- The latest one's generation; 0, if all are free. -/
def topG (xs : List Seg) : Int := if latR xs < 0 then 0 else genG xs (latR xs).toNat
/-- The least that is not below: how many of the open one's sectors are left. -/
def leftR (sec : Int) (xs : List Seg) : Int := if 0 ≤ opnR xs then sec - usedG xs (opnR xs).toNat else 0
def freesTo (xs : List Seg) : Nat → Nat
  | 0 => 0
  | j + 1 => freesTo xs j + (if stG xs j = 0 then 1 else 0)
def freesR (xs : List Seg) : Nat := freesTo xs xs.length
theorem frees_live (xs : List Seg) : ∀ j, freesTo xs j + (liveTo xs j).length = j
  | 0 => rfl
  | j + 1 => by
    have ih := frees_live xs j
    unfold freesTo liveTo
    by_cases h : stG xs j = 0
    · rw [if_pos h, if_pos h]; simp; omega
    · rw [if_neg h, if_neg h]; simp; omega
/-- What Open, Use, Seal, Free answer: the error, the ring's segments behind. -/
noncomputable def openE (sec : Int) (xs : List Seg) (g : Int) : Int := if ¬ OkR sec xs then 180 else if 0 ≤ opnR xs then 181 else if g ≤ topG xs then 2 else if nxtR xs < 0 then 6 else 0
noncomputable def useE (sec : Int) (xs : List Seg) (n : Int) : Int := if ¬ OkR sec xs then 180 else if opnR xs < 0 then 181 else if n < 0 then 2 else if leftR sec xs < n then 6 else 0
noncomputable def sealE (sec : Int) (xs : List Seg) : Int := if ¬ OkR sec xs then 180 else if opnR xs < 0 then 181 else 0
noncomputable def freeE (sec : Int) (xs : List Seg) (i : Int) : Int := if ¬ OkR sec xs then 180 else if i < 0 ∨ (xs.length : Int) ≤ i then 2 else if stG xs i.toNat ≠ 2 then 181 else 0
def openX (xs : List Seg) (g : Int) : List Seg := xs.set (nxtR xs).toNat (1, g, 1)
def useX (xs : List Seg) (n : Int) : List Seg := xs.set (opnR xs).toNat (stG xs (opnR xs).toNat, genG xs (opnR xs).toNat, usedG xs (opnR xs).toNat + n)
def sealX (xs : List Seg) : List Seg := xs.set (opnR xs).toNat (2, genG xs (opnR xs).toNat, usedG xs (opnR xs).toNat)
def freeX (xs : List Seg) (i : Int) : List Seg := xs.set i.toNat seg0

end Go.Proofs.Ytkmbbfdjdmkjpaa
