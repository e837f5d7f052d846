/- What Split makes, in plain lists: a chain of stamped sectors, and its bytes are what they mean; octet.Equal. -/
import Derived.Test.YtikeiloeeklkeaaJoin
import Derived.Test.YtikeiloeeklkeaaSplit
import Derived.Test.YtikeiloeeklkeaaEq
namespace Go.Proofs.Ytikeiloeeklkeaa
open Go.RowKit
set_option linter.unusedVariables false

theorem oequal_yes (A A' : Option Addr) (n c c' : Nat) (xs : List Int) (S S' : Nat → Prop) (w : World) (hx : RowI .u8 w S A n xs) (hx' : RowI .u8 w S' A' n xs) (hS : ∀ b, S b → b < w.heap.size) (hS' : ∀ b, S' b → b < w.heap.size) (hb : Bytes xs) :
    Calls Try.prog 22 #[.slice A n c, .slice A' n c'] w fun e w' => e = .returned (.bool true) ∧ w = w' := by
  have HX := Lib.hid hx
  have HX' := Lib.hid hx'
  have HB := Lib.hid hb
  clear hx hx' hb
  go_enter Try.func22, Try.ntmps22
  go_wp2_with fail
  refine (equal_yes A A' n c c' xs S S' w HX.out HX'.out hS hS' HB.out).mono ?_
  rintro e w' ⟨rfl, rfl⟩
  go_wp2_with fail
  go_ret
  exact ⟨rfl, rfl⟩

theorem part_bytes {xs : List Int} (h : Bytes xs) (k : Nat) : Bytes (partOf xs k) := bytes_part h (48 * k) 48
theorem part_full (xs : List Int) (k : Nat) (h : k + 1 < cntOf xs.length) : (partOf xs k).length = 48 := by
  unfold cntOf at h
  simp [partOf]
  omega

/-- What a sector of Split says. -/
theorem split_said {gen pos : Int} {xs : List Int} (hg : 1 ≤ gen) (hg2 : gen ≤ 18446744073709551615) (hp : 0 ≤ pos) (k : Nat) (hk : k < cntOf xs.length) (hpk : pos + k ≤ 4294967295) :
    genOf ((splitL gen pos xs).getD k []) = gen ∧ posOf ((splitL gen pos xs).getD k []) = pos + k ∧ fillOf ((splitL gen pos xs).getD k []) = (partOf xs k).length ∧ meantOf ((splitL gen pos xs).getD k []) = partOf xs k ∧ stamped ((splitL gen pos xs).getD k []) = true := by
  rw [split_get gen pos xs k hk]
  obtain ⟨h1, h2, h3, h4⟩ := pack_said gen (pos + k) (partOf xs k) (by omega) hg2 (by omega) hpk (part_le xs k)
  exact ⟨h1, h2, h3, h4, pack_stamped gen (pos + k) (partOf xs k) hg hg2 (by omega) hpk (part_le xs k)⟩

theorem split_bytes {gen pos : Int} {xs : List Int} (hb : Bytes xs) (i : Nat) : Bytes ((splitL gen pos xs).getD i []) := by
  by_cases h : i < cntOf xs.length
  · rw [split_get gen pos xs i h]
    exact pack_bytes _ _ _ (part_bytes hb i)
  · have : (splitL gen pos xs).getD i [] = [] := by simp [List.getD, List.getElem?_eq_none (show (splitL gen pos xs).length ≤ i by rw [split_length]; omega)]
    rw [this]
    intro j
    simp

theorem split_chain {gen pos : Int} {xs : List Int} (hg : 1 ≤ gen) (hg2 : gen ≤ 18446744073709551615) (hp : 0 ≤ pos) (h : pos + cntOf xs.length ≤ 4294967296) : Chain (splitL gen pos xs) := by
  intro i hi
  rw [split_length] at hi
  have h1 := split_said (xs := xs) hg hg2 hp i hi (by omega)
  refine ⟨h1.2.2.2.2, fun h0 => ?_⟩
  obtain ⟨j, rfl⟩ : ∃ j, i = j + 1 := ⟨i - 1, by omega⟩
  have h2 := split_said (xs := xs) hg hg2 hp j (by omega) (by omega)
  have hf := part_full xs j hi
  simp only [linkB, folB, decide_eq_true_eq, Nat.add_sub_cancel]
  rw [h1.1, h1.2.1, h2.1, h2.2.1, h2.2.2.1, hf]
  omega

theorem split_meants {gen pos : Int} {xs : List Int} (hg : 1 ≤ gen) (hg2 : gen ≤ 18446744073709551615) (hp : 0 ≤ pos) (h : pos + cntOf xs.length ≤ 4294967296) : meants (splitL gen pos xs) = xs := by
  have key : ∀ k, k ≤ cntOf xs.length → meants ((splitL gen pos xs).take k) = xs.take (48 * k) := by
    intro k
    induction k with
    | zero => intro _; simp [meants]
    | succ k ih =>
      intro hk
      have h1 := split_said (xs := xs) hg hg2 hp k (by omega) (by omega)
      rw [meants_snoc _ k (by rw [split_length]; omega), ih (by omega), h1.2.2.2.1]
      unfold partOf
      rw [show 48 * (k + 1) = 48 * k + 48 by omega, List.take_add]
  have := key (cntOf xs.length) (Nat.le_refl _)
  rw [List.take_of_length_le (by rw [split_length]; exact Nat.le_refl _), List.take_of_length_le (by unfold cntOf; omega)] at this
  exact this

end Go.Proofs.Ytikeiloeeklkeaa
