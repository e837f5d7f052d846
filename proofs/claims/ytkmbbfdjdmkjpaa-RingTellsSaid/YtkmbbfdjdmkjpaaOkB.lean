/- Rings: which may be, as a test; what becomes of them may be. -/
import Derived.Test.YtkmbbfdjdmkjpaaUseR
namespace Go.Proofs.Ytkmbbfdjdmkjpaa
open Go.RowKit
set_option linter.unusedVariables false
set_option linter.unusedSimpArgs false

def okB (sec : Int) (xs : List Seg) : Bool :=
  decide (SizedR xs.length sec) && xs.all (fun s => decide (MayG s sec)) && (List.range xs.length).all fun i => (List.range xs.length).all fun j =>
    i == j || (xs.getD i seg0).1 == 0 || (xs.getD j seg0).1 == 0 || ((xs.getD i seg0).2.1 != (xs.getD j seg0).2.1 && ((xs.getD i seg0).1 != 1 || decide ((xs.getD j seg0).2.1 < (xs.getD i seg0).2.1)))
theorem okB_ok {sec : Int} {xs : List Seg} (h : okB sec xs = true) : OkR sec xs := by
  unfold okB at h
  simp only [Bool.and_eq_true, List.all_eq_true, decide_eq_true_eq] at h
  obtain ⟨⟨h1, h2⟩, h3⟩ := h
  refine ⟨h1, h2, fun i hi j hj hne hi0 hj0 => ?_⟩
  have := h3 i (List.mem_range.2 hi) j (List.mem_range.2 hj)
  simp only [Bool.or_eq_true, Bool.and_eq_true, beq_iff_eq, bne_iff_ne, decide_eq_true_eq] at this
  rcases this with ((h | h) | h) | ⟨h, k⟩
  · exact absurd h hne
  · exact absurd h hi0
  · exact absurd h hj0
  · exact ⟨h, fun ho => by rcases k with k | k; exact absurd ho k; exact k⟩

theorem getD_set (xs : List Seg) (i j : Nat) (s : Seg) (hi : i < xs.length) : (xs.set i s).getD j seg0 = if i = j then s else xs.getD j seg0 := by
  by_cases h : i = j
  · subst h
    simp [List.getD, hi]
  · simp [List.getD, List.getElem?_set, h]
theorem ok_set {sec : Int} {xs : List Seg} (h : OkR sec xs) {i : Nat} (hi : i < xs.length) {s : Seg} (hm : MayG s sec)
    (ha : s.1 ≠ 0 → ∀ j, j < xs.length → j ≠ i → stG xs j ≠ 0 → genG xs j ≠ s.2.1 ∧ (s.1 = 1 → genG xs j < s.2.1) ∧ (stG xs j = 1 → s.2.1 < genG xs j)) : OkR sec (xs.set i s) := by
  refine ⟨by rw [List.length_set]; exact h.1, ?_, ?_⟩
  · intro x hx
    rcases List.mem_or_eq_of_mem_set hx with h1 | rfl
    · exact h.2.1 x h1
    · exact hm
  · intro a hla b hlb hne ha0 hb0
    rw [List.length_set] at hla hlb
    rw [getD_set xs i a s hi] at ha0 ⊢
    rw [getD_set xs i b s hi] at hb0 ⊢
    by_cases h1 : i = a
    · rw [if_pos h1] at ha0 ⊢
      have h2 : ¬ i = b := fun h => hne (by omega)
      rw [if_neg h2] at hb0 ⊢
      obtain ⟨k1, k2, k3⟩ := ha ha0 b hlb (fun h => h2 h.symm) hb0
      exact ⟨fun e => k1 e.symm, k2⟩
    · rw [if_neg h1] at ha0 ⊢
      by_cases h2 : i = b
      · rw [if_pos h2] at hb0 ⊢
        obtain ⟨k1, k2, k3⟩ := ha hb0 a hla (fun h => h1 h.symm) ha0
        exact ⟨k1, k3⟩
      · rw [if_neg h2] at hb0 ⊢
        exact h.2.2 a hla b hlb hne ha0 hb0
theorem ok_new {n : Nat} {sec : Int} (h : SizedR n sec) : OkR sec (List.replicate n seg0) := by
  refine ⟨by rw [List.length_replicate]; exact h, fun s hs => ?_, fun i hi j hj _ h0 => ?_⟩
  · rw [List.eq_of_mem_replicate hs]
    exact ⟨rfl, rfl⟩
  · exfalso
    refine h0 ?_
    simp [List.getD, List.getElem?_replicate]
    split <;> rfl
theorem top_nonneg {sec : Int} {xs : List Seg} (h : OkR sec xs) : 0 ≤ topG xs := by
  unfold topG
  rcases lat_or xs with ⟨e, _⟩ | ⟨i, hi, e, hs, _⟩
  · rw [if_pos (by omega)]; omega
  · rw [if_neg (by omega), e, Int.toNat_natCast]
    have := (may_live (may_at h.2.1 hi) hs).2.1
    simp only [genG]
    omega
theorem top_max {xs : List Seg} {j : Nat} (hj : j < xs.length) (hs : stG xs j ≠ 0) : genG xs j ≤ topG xs := by
  unfold topG
  rcases lat_or xs with ⟨e, hz⟩ | ⟨i, hi, e, _, hm⟩
  · exact absurd (hz j hj) hs
  · rw [if_neg (by omega), e, Int.toNat_natCast]
    exact hm j hj hs
theorem open_zero {sec : Int} {xs : List Seg} {g : Int} (h : openE sec xs g = 0) : OkR sec xs ∧ ¬ 0 ≤ opnR xs ∧ topG xs < g ∧ ∃ i : Nat, i < xs.length ∧ nxtR xs = i ∧ stG xs i = 0 := by
  unfold openE at h
  by_cases hk : OkR sec xs
  · rw [if_neg (fun k => k hk)] at h
    by_cases h1 : 0 ≤ opnR xs
    · rw [if_pos h1] at h; omega
    · rw [if_neg h1] at h
      by_cases h2 : g ≤ topG xs
      · rw [if_pos h2] at h; omega
      · rw [if_neg h2] at h
        by_cases h3 : nxtR xs < 0
        · rw [if_pos h3] at h; omega
        · refine ⟨hk, h1, by omega, ?_⟩
          rcases nxt_or xs with ⟨e, _⟩ | ⟨k, hk', e, hs, _⟩
          · omega
          · exact ⟨_, Nat.mod_lt _ (by omega), e, hs⟩
  · rw [if_pos hk] at h; omega
theorem no_open {sec : Int} {xs : List Seg} (h : OkR sec xs) (h1 : ¬ 0 ≤ opnR xs) {j : Nat} (hj : j < xs.length) : stG xs j ≠ 1 := by
  rcases opn_or h with ⟨_, hz⟩ | ⟨i, _, e, _⟩
  · exact hz j hj
  · omega
theorem ok_open {sec : Int} {xs : List Seg} {g : Int} (h : openE sec xs g = 0) : OkR sec (openX xs g) := by
  obtain ⟨hk, h1, h2, i, hi, e, hs⟩ := open_zero h
  unfold openX
  rw [e, Int.toNat_natCast]
  have h0 := top_nonneg hk
  have hsz := hk.1
  unfold SizedR at hsz
  refine ok_set hk hi ?_ ?_
  · unfold MayG
    rw [if_neg (show ¬ (1 : Int) = 0 by decide)]
    exact ⟨.inl rfl, by show (0 : Int) < g; omega, show (1 : Int) ≤ 1 by decide, by show (1 : Int) ≤ sec; omega⟩
  · intro _ j hj hne hj0
    have := top_max hj hj0
    refine ⟨by show genG xs j ≠ g; omega, fun _ => by show genG xs j < g; omega, fun ho => absurd ho (no_open hk h1 hj)⟩
theorem ok_use {sec : Int} {xs : List Seg} {n : Int} (h : useE sec xs n = 0) : OkR sec (useX xs n) := by
  have hs : sealE sec xs = 0 := by
    by_cases h1 : sealE sec xs = 0
    · exact h1
    · rw [use_seal h1] at h; exact absurd h h1
  obtain ⟨hk, h1⟩ := seal_yes hs
  obtain ⟨i, hi, e, hst⟩ := opn_nat hk h1
  have hn0 : ¬ n < 0 := fun k => by rw [use_arg hs k] at h; omega
  have hle : ¬ leftR sec xs < n := fun k => by rw [use_full hs hn0 k] at h; omega
  have hl : leftR sec xs = sec - usedG xs i := by unfold leftR; rw [e, if_pos (by omega), Int.toNat_natCast]
  have hm := may_live (may_at hk.2.1 hi) (by rw [show (xs.getD i seg0).1 = 1 from hst]; decide)
  unfold useX
  rw [e, Int.toNat_natCast]
  refine ok_set hk hi ?_ ?_
  · unfold MayG
    rw [if_neg (by show ¬ stG xs i = 0; rw [hst]; decide)]
    refine ⟨.inl hst, hm.2.1, ?_, ?_⟩
    · show (1 : Int) ≤ usedG xs i + n
      simp only [usedG]
      omega
    · show usedG xs i + n ≤ sec
      omega
  · intro _ j hj hne hj0
    have h2 := hk.2.2 i hi j hj (fun h => hne h.symm) (by rw [show (xs.getD i seg0).1 = 1 from hst]; decide) hj0
    have h3 := h2.2 hst
    refine ⟨by show genG xs j ≠ genG xs i; simp only [genG]; omega, fun _ => h3, fun ho => ?_⟩
    have h4 := (hk.2.2 j hj i hi hne hj0 (by rw [show (xs.getD i seg0).1 = 1 from hst]; decide)).2 ho
    exact h4
theorem ok_seal {sec : Int} {xs : List Seg} (h : sealE sec xs = 0) : OkR sec (sealX xs) := by
  obtain ⟨hk, h1⟩ := seal_yes h
  obtain ⟨i, hi, e, hst⟩ := opn_nat hk h1
  have hm := may_live (may_at hk.2.1 hi) (by rw [show (xs.getD i seg0).1 = 1 from hst]; decide)
  unfold sealX
  rw [e, Int.toNat_natCast]
  refine ok_set hk hi ?_ ?_
  · unfold MayG
    rw [if_neg (show ¬ (2 : Int) = 0 by decide)]
    exact ⟨.inr rfl, hm.2.1, hm.2.2⟩
  · intro _ j hj hne hj0
    have h2 := hk.2.2 i hi j hj (fun h => hne h.symm) (by rw [show (xs.getD i seg0).1 = 1 from hst]; decide) hj0
    have h3 := h2.2 hst
    refine ⟨by show genG xs j ≠ genG xs i; simp only [genG]; omega, fun ho => absurd ho (show ¬ (2 : Int) = 1 by decide), fun ho => ?_⟩
    exact (hk.2.2 j hj i hi hne hj0 (by rw [show (xs.getD i seg0).1 = 1 from hst]; decide)).2 ho
theorem free_zero {sec : Int} {xs : List Seg} {v : Int} (h : freeE sec xs v = 0) : OkR sec xs ∧ ∃ i : Nat, i < xs.length ∧ v = i ∧ stG xs i = 2 := by
  unfold freeE at h
  by_cases hk : OkR sec xs
  · rw [if_neg (fun k => k hk)] at h
    by_cases h1 : v < 0 ∨ (xs.length : Int) ≤ v
    · rw [if_pos h1] at h; omega
    · rw [if_neg h1] at h
      by_cases h2 : stG xs v.toNat = 2
      · exact ⟨hk, v.toNat, by omega, by omega, h2⟩
      · rw [if_pos h2] at h; omega
  · rw [if_pos hk] at h; omega
theorem ok_free {sec : Int} {xs : List Seg} {v : Int} (h : freeE sec xs v = 0) : OkR sec (freeX xs v) := by
  obtain ⟨hk, i, hi, rfl, _⟩ := free_zero h
  unfold freeX
  rw [Int.toNat_natCast]
  exact ok_set hk hi ⟨rfl, rfl⟩ (fun h => absurd rfl h)

end Go.Proofs.Ytkmbbfdjdmkjpaa
