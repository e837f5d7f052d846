/- Numbers and their texts, as lists of bytes: what a text of digits says, and which digits a number has. Nothing of the program is spoken of here. -/
import Derived.Test.YtighdflbmpkehaaMem
namespace Go.Proofs.Ytighdflbmpkehaa
open Go.RowKit

/-- A digit. -/
def Dig (x : Int) : Prop := 48 ≤ x ∧ x ≤ 57

/-- What digits say behind what was said so far. -/
def valF : Nat → List Int → Nat
  | n, [] => n
  | n, x :: r => valF (10 * n + (x - 48).toNat) r

/-- The same, with what is no digit, and what is past 64 bits, refused. -/
def numF : Nat → List Int → Option Nat
  | n, [] => some n
  | n, x :: r => if x < 48 ∨ 57 < x then none else if 18446744073709551615 < 10 * n + (x - 48).toNat then none else numF (10 * n + (x - 48).toNat) r

/-- The number that a text says. -/
def numT (xs : List Int) : Option Nat := if xs.length < 1 ∨ 20 < xs.length then none else numF 0 xs

theorem valF_ge : ∀ (xs : List Int) (n : Nat), n ≤ valF n xs
  | [], n => Nat.le_refl n
  | x :: r, n => Nat.le_trans (by omega) (valF_ge r (10 * n + (x - 48).toNat))
theorem valF_mono : ∀ (xs : List Int) (n m : Nat), n ≤ m → valF n xs ≤ valF m xs
  | [], _, _, h => h
  | x :: r, n, m, h => valF_mono r _ _ (by omega)
theorem valF_snoc : ∀ (xs : List Int) (n : Nat) (x : Int), valF n (xs ++ [x]) = 10 * valF n xs + (x - 48).toNat
  | [], _, _ => rfl
  | y :: r, n, x => valF_snoc r _ x
theorem valF_lt : ∀ (xs : List Int) (n : Nat), (∀ x ∈ xs, Dig x) → valF n xs < (n + 1) * 10 ^ xs.length
  | [], n, _ => by simp [valF]
  | x :: r, n, h => by
    have hx := h x (by simp)
    have h1 := valF_lt r (10 * n + (x - 48).toNat) (fun y hy => h y (by simp [hy]))
    have h2 : 10 * n + (x - 48).toNat + 1 ≤ (n + 1) * 10 := by unfold Dig at hx; omega
    refine Nat.lt_of_lt_of_le h1 (Nat.le_trans (Nat.mul_le_mul_right _ h2) ?_)
    rw [List.length_cons, Nat.pow_succ, Nat.mul_assoc, Nat.mul_comm 10 (10 ^ r.length)]
    exact Nat.le_refl _
theorem numF_some : ∀ (xs : List Int) (n : Nat), (∀ x ∈ xs, Dig x) → valF n xs ≤ 18446744073709551615 → numF n xs = some (valF n xs)
  | [], _, _, _ => rfl
  | x :: r, n, h, hv => by
    have hx := h x (by simp)
    have hge := valF_ge r (10 * n + (x - 48).toNat)
    have hv' : valF (10 * n + (x - 48).toNat) r ≤ 18446744073709551615 := hv
    rw [numF, if_neg (by unfold Dig at hx; omega), if_neg (by omega)]
    exact numF_some r _ (fun y hy => h y (by simp [hy])) hv'
theorem numF_big : ∀ (xs : List Int) (n : Nat), 18446744073709551615 < valF n xs → n ≤ 18446744073709551615 → numF n xs = none
  | [], n, h, h2 => by simp [valF] at h; omega
  | x :: r, n, h, h2 => by
    rw [numF]
    split
    · rfl
    · split
      · rfl
      · exact numF_big r _ h (by omega)
theorem numF_bad : ∀ (xs : List Int) (n : Nat), ¬ (∀ x ∈ xs, Dig x) → numF n xs = none
  | [], _, h => absurd (by simp) h
  | x :: r, n, h => by
    rw [numF]
    split
    · rfl
    · rename_i hx
      split
      · rfl
      · refine numF_bad r _ fun hr => h fun y hy => ?_
        rcases List.mem_cons.1 hy with rfl | hy
        · unfold Dig; omega
        · exact hr y hy
theorem numF_le : ∀ (xs : List Int) (n m : Nat), n ≤ 18446744073709551615 → numF n xs = some m → m ≤ 18446744073709551615
  | [], n, m, h, e => by simp [numF] at e; omega
  | x :: r, n, m, h, e => by
    rw [numF] at e
    split at e
    · cases e
    · split at e
      · cases e
      · exact numF_le r _ m (by omega) e
theorem numT_le {xs : List Int} {m : Nat} (h : numT xs = some m) : m ≤ 18446744073709551615 := by
  unfold numT at h
  split at h
  · cases h
  · exact numF_le xs 0 m (by omega) h

/-- A number's digits. -/
def txt (n : Nat) : List Int := if n < 10 then [48 + (n : Int)] else txt (n / 10) ++ [48 + ((n % 10 : Nat) : Int)]
termination_by n
decreasing_by omega

theorem txt_small {n : Nat} (h : n < 10) : txt n = [48 + (n : Int)] := by rw [txt, if_pos h]
theorem txt_big {n : Nat} (h : ¬ n < 10) : txt n = txt (n / 10) ++ [48 + ((n % 10 : Nat) : Int)] := by rw [txt, if_neg h]
theorem txt_dig (n : Nat) : ∀ x ∈ txt n, Dig x := by
  induction n using Nat.strongRecOn with
  | ind n ih =>
    intro x hx
    by_cases h : n < 10
    · rw [txt_small h] at hx
      simp at hx
      subst hx
      unfold Dig
      omega
    · rw [txt_big h] at hx
      rcases List.mem_append.1 hx with hx | hx
      · exact ih (n / 10) (by omega) x hx
      · simp at hx
        subst hx
        unfold Dig
        omega
theorem txt_val (n : Nat) : valF 0 (txt n) = n := by
  induction n using Nat.strongRecOn with
  | ind n ih =>
    by_cases h : n < 10
    · rw [txt_small h]
      simp [valF]
      omega
    · rw [txt_big h, valF_snoc, ih (n / 10) (by omega)]
      omega
theorem txt_pos (n : Nat) : 1 ≤ (txt n).length := by
  by_cases h : n < 10
  · rw [txt_small h]; simp
  · rw [txt_big h]; simp
theorem txt_len : ∀ (k n : Nat), 1 ≤ k → n < 10 ^ k → (txt n).length ≤ k
  | 0, _, h, _ => by omega
  | k + 1, n, _, h => by
    by_cases h10 : n < 10
    · rw [txt_small h10]; simp
    · rw [txt_big h10, List.length_append, List.length_singleton]
      have hk : 1 ≤ k := by
        rcases Nat.eq_zero_or_pos k with rfl | hk
        · simp at h; omega
        · exact hk
      have := txt_len k (n / 10) hk (by rw [Nat.pow_succ] at h; omega)
      omega
theorem txt_20 {n : Nat} (h : n ≤ 18446744073709551615) : (txt n).length ≤ 20 := txt_len 20 n (by omega) (by omega)
/-- No nought ahead. -/
theorem txt_head (n : Nat) : 10 ≤ n → (txt n).getD 0 0 ≠ 48 := by
  induction n using Nat.strongRecOn with
  | ind n ih =>
    intro h
    rw [txt_big (by omega)]
    have hp := txt_pos (n / 10)
    have e : (txt (n / 10) ++ [48 + ((n % 10 : Nat) : Int)]).getD 0 0 = (txt (n / 10)).getD 0 0 := by
      simp [List.getD, List.getElem?_append, show 0 < (txt (n / 10)).length by omega]
    rw [e]
    by_cases h2 : 10 ≤ n / 10
    · exact ih (n / 10) (by omega) h2
    · rw [txt_small (by omega)]
      simp
      omega
theorem txt_num {n : Nat} (h : n ≤ 18446744073709551615) : numT (txt n) = some n := by
  have h1 := txt_pos n
  have h2 := txt_20 h
  unfold numT
  rw [if_neg (by omega), numF_some _ _ (txt_dig n) (by rw [txt_val]; exact h), txt_val]
theorem txt_bytes (n : Nat) : Bytes (txt n) := by
  intro j
  by_cases hj : j < (txt n).length
  · have h := txt_dig n _ (List.getElem_mem hj)
    have e : (txt n).getD j 0 = (txt n)[j] := by simp [List.getD, hj]
    rw [e]
    unfold Dig at h
    omega
  · simp [List.getD, List.getElem?_eq_none (show (txt n).length ≤ j by omega)]

theorem valF_nought (k : Nat) (xs : List Int) : valF 0 (List.replicate k 48 ++ xs) = valF 0 xs := by
  induction k with
  | zero => simp
  | succ k ih => rw [List.replicate_succ, List.cons_append]; exact ih

/-- The digits of 2^64 - 1. -/
def mostL : List Int := [49, 56, 52, 52, 54, 55, 52, 52, 48, 55, 51, 55, 48, 57, 53, 53, 49, 54, 49, 53]

theorem most_val : valF 0 mostL = 18446744073709551615 := by decide

/-- Of two rows of as many digits the one that is less, digit by digit, says less. -/
def lessL : List Int → List Int → Bool
  | _, [] => false
  | [], _ :: _ => true
  | a :: x, b :: y => decide (a < b) || (a == b && lessL x y)
theorem less_val : ∀ (xs ys : List Int) (n : Nat), xs.length = ys.length → (∀ x ∈ xs, Dig x) → (∀ x ∈ ys, Dig x) → (lessL xs ys = true ↔ valF n xs < valF n ys)
  | [], [], n, _, _, _ => by simp [lessL]
  | [], _ :: _, _, h, _, _ => by simp at h
  | _ :: _, [], _, h, _, _ => by simp at h
  | a :: x, b :: y, n, h, hx, hy => by
    have hl : x.length = y.length := by simpa using h
    have ha := hx a (by simp)
    have hb := hy b (by simp)
    have hx' : ∀ z ∈ x, Dig z := fun z hz => hx z (by simp [hz])
    have hy' : ∀ z ∈ y, Dig z := fun z hz => hy z (by simp [hz])
    unfold Dig at ha hb
    have e1 : valF n (a :: x) = valF (10 * n + (a - 48).toNat) x := rfl
    have e2 : valF n (b :: y) = valF (10 * n + (b - 48).toNat) y := rfl
    rw [e1, e2]
    rcases Int.lt_trichotomy a b with hlt | rfl | hgt
    · have h1 := valF_lt x (10 * n + (a - 48).toNat) hx'
      have h2 : (10 * n + (a - 48).toNat + 1) * 10 ^ x.length ≤ (10 * n + (b - 48).toNat) * 10 ^ y.length := by
        rw [hl]; exact Nat.mul_le_mul_right _ (by omega)
      have h3 := valF_base y (10 * n + (b - 48).toNat)
      constructor
      · intro _; omega
      · intro _; simp [lessL, hlt]
    · have ih := less_val x y (10 * n + (a - 48).toNat) hl hx' hy'
      rw [← ih]
      simp [lessL]
    · have h1 := valF_lt y (10 * n + (b - 48).toNat) hy'
      have h2 : (10 * n + (b - 48).toNat + 1) * 10 ^ y.length ≤ (10 * n + (a - 48).toNat) * 10 ^ x.length := by
        rw [hl]; exact Nat.mul_le_mul_right _ (by omega)
      have h3 := valF_base x (10 * n + (a - 48).toNat)
      have e : lessL (a :: x) (b :: y) = false := by
        have h4 : ¬ a < b := by omega
        have h5 : (a == b) = false := by simp; omega
        simp [lessL, h4, h5]
      rw [e]
      constructor
      · intro h; cases h
      · intro _; omega
where
  valF_base : ∀ (xs : List Int) (n : Nat), n * 10 ^ xs.length ≤ valF n xs
  | [], n => by simp [valF]
  | x :: r, n => by
    have h := valF_base r (10 * n + (x - 48).toNat)
    refine Nat.le_trans ?_ h
    rw [List.length_cons, Nat.pow_succ]
    have : n * (10 ^ r.length * 10) = (10 * n) * 10 ^ r.length := by rw [Nat.mul_comm (10 ^ r.length) 10, ← Nat.mul_assoc, Nat.mul_comm n 10]
    rw [this]
    exact Nat.mul_le_mul_right _ (by omega)
end Go.Proofs.Ytighdflbmpkehaa
