/- The order in which hashes are added is no matter, nor how often. -/
import Derived.Test.YteblfcbfgkbanaaPlay4
namespace Go.Proofs.Yteblfcbfgkbanaa
open Go.RowKit
set_option linter.unusedVariables false

theorem adds_bits (xs hs : List Int) (h1 : 1 ≤ xs.length) (i : Nat) (hi : i < 8 * xs.length) :
    (bitsOf (adds xs hs)).getD i false = ((bitsOf xs).getD i false || hs.any fun h => (nums4 h xs).any fun p => decide (p.toNat = i)) := by
  induction hs generalizing xs with
  | nil => simp [adds]
  | cons a r ih =>
    have hl : (addF xs a).length = xs.length := addF_length _ _
    have := ih (addF xs a) (by omega) (by omega)
    show (bitsOf (adds (addF xs a) r)).getD i false = _
    rw [this, addF_bits _ _ h1, markAll_get _ _ _ (by rw [bitsOf_length]; exact hi), List.any_cons, Bool.or_assoc]
    have e : ∀ h, nums4 h (addF xs a) = nums4 h xs := fun h => nums4_addF xs a h
    simp only [e]
    rfl
theorem any_same (p : Int → Bool) (hs gs : List Int) (h : ∀ x, x ∈ hs ↔ x ∈ gs) : hs.any p = gs.any p := by
  rw [Bool.eq_iff_iff, List.any_eq_true, List.any_eq_true]
  exact ⟨fun ⟨x, hx, hp⟩ => ⟨x, (h x).1 hx, hp⟩, fun ⟨x, hx, hp⟩ => ⟨x, (h x).2 hx, hp⟩⟩
theorem addF_ok {xs : List Int} (hb : Bytes xs) (h1 : 1 ≤ xs.length) (h : Int) : Bytes (addF xs h) := setBits_bytes hb _ (nums4_mem h xs h1)
theorem adds_ok {xs : List Int} (hb : Bytes xs) (h1 : 1 ≤ xs.length) (hs : List Int) : Bytes (adds xs hs) := by
  induction hs generalizing xs with
  | nil => exact hb
  | cons a r ih => exact ih (addF_ok hb h1 a) (by rw [addF_length]; exact h1)
theorem adds_same {xs : List Int} (hb : Bytes xs) (h1 : 1 ≤ xs.length) (hs gs : List Int) (h : ∀ x, x ∈ hs ↔ x ∈ gs) : adds xs hs = adds xs gs := by
  refine bytes_ext (adds_ok hb h1 _) (adds_ok hb h1 _) (by rw [adds_length, adds_length]) fun i hi => ?_
  rw [adds_length] at hi
  rw [adds_bits _ _ h1 _ hi, adds_bits _ _ h1 _ hi, any_same _ hs gs h]

/-- The hashes in turned order, each twice. -/
def turned (ys : List Int) (r n k : Nat) : List Int := (List.range k).flatMap fun j => [ys.getD ((j + r) % n) 0, ys.getD ((j + r) % n) 0]
theorem turned_succ (ys : List Int) (r n k : Nat) : turned ys r n (k + 1) = turned ys r n k ++ [ys.getD ((k + r) % n) 0] ++ [ys.getD ((k + r) % n) 0] := by
  simp [turned, List.range_succ]
theorem turned_mem (ys : List Int) (r n : Nat) (hl : ys.length = n) (hr : r < n) (x : Int) : x ∈ ys ↔ x ∈ turned ys r n n := by
  unfold turned
  constructor
  · intro hx
    obtain ⟨j, hj, rfl⟩ := List.getElem_of_mem hx
    refine List.mem_flatMap.2 ⟨(j + (n - r)) % n, List.mem_range.2 (Nat.mod_lt _ (by omega)), ?_⟩
    have e : ((j + (n - r)) % n + r) % n = j := by
      rw [Nat.mod_add_mod, show j + (n - r) + r = j + n by omega, Nat.add_mod_right, Nat.mod_eq_of_lt (by omega)]
    rw [e]
    simp [List.getD, List.getElem?_eq_getElem hj]
  · intro hx
    obtain ⟨j, hj, hm⟩ := List.mem_flatMap.1 hx
    have hlt : (j + r) % n < ys.length := by rw [hl]; exact Nat.mod_lt _ (by omega)
    have e : ys.getD ((j + r) % n) 0 = ys[(j + r) % n] := by simp [List.getD, List.getElem?_eq_getElem hlt]
    rw [e] at hm
    simp at hm
    rw [hm]
    exact List.getElem_mem hlt
theorem zeros_bytes (s : Nat) : Bytes (List.replicate s 0) := by
  intro j
  by_cases hj : j < s <;> simp [List.getD, hj]

end Go.Proofs.Yteblfcbfgkbanaa
