/- The document's Order as data: each live segment is put ahead of the first that has no less a generation; it is what the program's Order tells. -/
import Derived.Test.YtkmbbfdjdmkjpaaOrderR
namespace Go.Proofs.Ytkmbbfdjdmkjpaa
open Go.RowKit
set_option linter.unusedVariables false
set_option linter.unusedSimpArgs false

/-- How many of L stand ahead of generation g. -/
def atN : List Num → Int → Nat
  | [], _ => 0
  | y :: L, g => if y.2.2.1 < g then atN L g + 1 else 0
theorem atN_le : ∀ (L : List Num) (g : Int), atN L g ≤ L.length
  | [], _ => Nat.le_refl _
  | y :: L, g => by
    unfold atN
    split
    · have := atN_le L g; simp; omega
    · exact Nat.zero_le _
theorem atN_lt : ∀ (L : List Num) (g : Int) (k : Nat), k < atN L g → (L.getD k num0).2.2.1 < g
  | [], _, k, h => by simp [atN] at h
  | y :: L, g, k, h => by
    unfold atN at h
    by_cases hy : y.2.2.1 < g
    · rw [if_pos hy] at h
      cases k with
      | zero => simpa using hy
      | succ k => simpa using atN_lt L g k (by omega)
    · rw [if_neg hy] at h; omega
theorem atN_stop : ∀ (L : List Num) (g : Int), atN L g < L.length → ¬ (L.getD (atN L g) num0).2.2.1 < g
  | [], _, h => by simp [atN] at h
  | y :: L, g, h => by
    unfold atN at h ⊢
    by_cases hy : y.2.2.1 < g
    · rw [if_pos hy] at h ⊢
      simpa using atN_stop L g (by simpa using h)
    · rw [if_neg hy]
      simpa using hy
def insN (L : List Num) (x : Num) : List Num := L.take (atN L x.2.2.1) ++ x :: L.drop (atN L x.2.2.1)
def ordN (xs : List Seg) : Nat → List Num
  | 0 => []
  | j + 1 => if stG xs j = 0 then ordN xs j else insN (ordN xs j) (j, xs.getD j seg0)
theorem ins_perm (L : List Num) (x : Num) : (insN L x).Perm (L ++ [x]) := by
  unfold insN
  refine (List.perm_middle).trans ?_
  rw [List.take_append_drop]
  exact (List.perm_append_singleton x L).symm
theorem ord_perm (xs : List Seg) : ∀ j, (ordN xs j).Perm (liveTo xs j)
  | 0 => List.Perm.refl _
  | j + 1 => by
    unfold ordN liveTo
    by_cases h : stG xs j = 0
    · rw [if_pos h, if_pos h, List.append_nil]; exact ord_perm xs j
    · rw [if_neg h, if_neg h]; exact (ins_perm _ _).trans ((ord_perm xs j).append_right _)
def leN (a b : Num) : Prop := a.2.2.1 ≤ b.2.2.1
theorem ins_pair : ∀ (L : List Num) (x : Num), L.Pairwise leN → (insN L x).Pairwise leN
  | [], x, _ => by simp [insN, atN]
  | y :: L, x, h => by
    have h2 := List.pairwise_cons.1 h
    unfold insN atN
    by_cases hy : y.2.2.1 < x.2.2.1
    · rw [if_pos hy, List.take_succ_cons, List.drop_succ_cons, List.cons_append]
      have ih := ins_pair L x h2.2
      refine List.pairwise_cons.2 ⟨fun z hz => ?_, ih⟩
      have hz2 := (ins_perm L x).mem_iff.1 (show z ∈ insN L x from hz)
      rcases List.mem_append.1 hz2 with h3 | h3
      · exact h2.1 z h3
      · rw [List.mem_singleton.1 h3]; exact Int.le_of_lt hy
    · rw [if_neg hy, List.take_zero, List.drop_zero, List.nil_append]
      refine List.pairwise_cons.2 ⟨fun z hz => ?_, h⟩
      rcases List.mem_cons.1 hz with rfl | h3
      · unfold leN; omega
      · have := h2.1 z h3
        unfold leN at this ⊢
        omega
theorem ord_pair (xs : List Seg) : ∀ j, (ordN xs j).Pairwise leN
  | 0 => List.Pairwise.nil
  | j + 1 => by
    unfold ordN
    split
    · exact ord_pair xs j
    · exact ins_pair _ _ (ord_pair xs j)
theorem live_mem (xs : List Seg) : ∀ j x, x ∈ liveTo xs j → ∃ i : Nat, i < j ∧ stG xs i ≠ 0 ∧ x = (i, xs.getD i seg0)
  | 0, x, h => by simp [liveTo] at h
  | j + 1, x, h => by
    unfold liveTo at h
    rcases List.mem_append.1 h with h1 | h1
    · obtain ⟨i, hi, hs, e⟩ := live_mem xs j x h1
      exact ⟨i, by omega, hs, e⟩
    · by_cases h0 : stG xs j = 0
      · rw [if_pos h0] at h1; cases h1
      · rw [if_neg h0] at h1
        exact ⟨j, by omega, h0, List.mem_singleton.1 h1⟩
/-- What the program's Order tells is what the document's is. -/
theorem ord_same {sec : Int} {xs : List Seg} {L : List Num} (h : OrdT sec xs L) (hk : OkR sec xs) : L = ordN xs xs.length := by
  have hp := h.2.1 hk
  refine List.Perm.eq_of_pairwise (le := leN) ?_ ?_ (ord_pair xs xs.length) (hp.trans (ord_perm xs xs.length).symm)
  · intro a b ha hb hab hba
    obtain ⟨i, hi, hs, rfl⟩ := live_mem xs _ a (hp.mem_iff.1 ha)
    obtain ⟨j, hj, hs', rfl⟩ := live_mem xs _ b ((ord_perm xs xs.length).mem_iff.1 hb)
    by_cases e : i = j
    · rw [e]
    · have h1 := (hk.2.2 i hi j hj e hs hs').1
      unfold leN at hab hba
      exact absurd (Int.le_antisymm hab hba) h1
  · rw [List.pairwise_iff_getElem]
    intro i j hi hj hij
    have h1 := h.1 i j hij hj
    simpa [leN, List.getD, hi, hj] using h1
theorem ord_len (xs : List Seg) (j : Nat) : (ordN xs j).length ≤ j := by rw [(ord_perm xs j).length_eq]; exact liveTo_length xs j
end Go.Proofs.Ytkmbbfdjdmkjpaa
