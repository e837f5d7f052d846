/- LruTurns, the pure side: one list of all numbers. -/
import Derived.Test.YthegbimolbhikaaLrC
namespace Go.Proofs.Ythegbimolbhikaa
set_option linter.unusedVariables false
set_option linter.unusedSimpArgs false
theorem pig {l : List Nat} {n k : Nat} (hnd : l.Nodup) (hlt : ∀ a ∈ l, a < n) (hl : l.length = n) (hk : k < n) : k ∈ l := by
  by_cases h : k ∈ l
  · exact h
  · have := nodup_len (n := n) (List.nodup_cons.2 ⟨h, hnd⟩) (fun a ha => by
      rcases List.mem_cons.1 ha with rfl | ha
      · exact hk
      · exact hlt a ha)
    simp at this
    omega
theorem wh_one (l : List Nat) (k : Nat) : whX [l] k = if k ∈ l then 1 else 0 := by
  unfold whX
  by_cases h : k ∈ l
  · rw [if_pos (by simpa using h), if_pos h]
  · rw [if_neg (by simpa using h), if_neg h]
    rfl
theorem push_one {l : List Nat} {n i : Nat} (hi : i < n) (hno : i ∉ l) : pushE n [l] 0 (i : Int) = 0 ∧ pushX n [l] 0 (i : Int) = [i :: l] := by
  have h1 : pushE n [l] 0 (i : Int) = 0 := by
    unfold pushE
    rw [if_neg (by unfold hasL hasN; simp; omega), Int.toNat_natCast, wh_one, if_neg hno, if_neg (by simp)]
  refine ⟨h1, ?_⟩
  unfold pushX
  rw [if_pos h1, Int.toNat_natCast]
  unfold outX putX
  simp [filter_none hno]
theorem touch_one {l : List Nat} {n k : Nat} (hk : k < n) (hm : k ∈ l) (hnd : l.Nodup) : outE n [l] (k : Int) = 0 ∧ ∃ l', touchX n [l] (k : Int) = [k :: l'] ∧ (k :: l').length = l.length := by
  have h1 : outE n [l] (k : Int) = 0 := by
    unfold outE
    rw [if_neg (by unfold hasN; simp; omega), Int.toNat_natCast, wh_one, if_pos hm, if_neg (by simp)]
  obtain ⟨a, b, rfl⟩ := List.append_of_mem hm
  refine ⟨h1, a ++ b, ?_, by simp; omega⟩
  unfold touchX
  rw [if_pos h1, Int.toNat_natCast, wh_one, if_pos hm]
  unfold outX putX
  simp only [List.map_cons, List.map_nil, filter_mid hnd]
  rfl
theorem new_one (k : Nat) (l : List Nat) : newV [k :: l] 0 = (k : Int) ∧ someE [k :: l] 0 = 0 := by
  have h : someE [k :: l] 0 = 0 := by
    unfold someE
    rw [if_neg (by unfold hasL; simp), if_neg (by simp)]
  refine ⟨?_, h⟩
  unfold newV
  rw [if_pos h]
  rfl
theorem of_one (l : List Nat) : ofX [l] 0 = l := by
  unfold ofX
  rw [if_pos (by unfold hasL; simp)]
  rfl
/-- Which numbers were met. -/
def MetB (n : Nat) (s : List Nat) : List Bool := (List.range n).map fun k => s.contains k
theorem met_len (n : Nat) (s : List Nat) : (MetB n s).length = n := by simp [MetB]
theorem met_nil (n : Nat) : MetB n [] = List.replicate n false := by
  apply List.ext_getElem
  · simp [MetB]
  · intro i h1 h2; simp [MetB]
theorem met_get {n k : Nat} (s : List Nat) (hk : k < n) : (MetB n s).getD k false = s.contains k := by
  simp [MetB, List.getD, List.getElem?_map, List.getElem?_range hk]
theorem met_set {n k : Nat} (s : List Nat) (hk : k < n) : (MetB n s).set k true = MetB n (s ++ [k]) := by
  apply List.ext_getElem
  · simp [MetB]
  · intro i h1 h2
    rw [List.getElem_set]
    by_cases e : k = i
    · subst e; simp [MetB]
    · have e' : ¬ i = k := fun h => e h.symm
      simp [MetB, e, e']
end Go.Proofs.Ythegbimolbhikaa
