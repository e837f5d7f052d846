/- Bytes of one length that are unlike at one place alone have unlike hashes: the plain mathematics. -/
import Derived.Test.YtcmafkejniajeaaHash
namespace Go.Proofs.Ytcmafkejniajeaa
open Go.RowKit

/-- The factor has an inverse. -/
theorem back (z : Int) (hz : 0 ≤ z ∧ z < 18446744073709551616) : (z * 1099511628211 % 18446744073709551616) * 14886173955864302971 % 18446744073709551616 = z := by
  rw [Int.mul_emod, Int.emod_emod, ← Int.mul_emod, Int.mul_assoc, Int.mul_emod, show ((1099511628211 : Int) * 14886173955864302971) % 18446744073709551616 = 1 from by decide, Int.mul_one, Int.emod_emod]
  exact Int.emod_eq_of_lt hz.1 hz.2

theorem mul_apart (x y : Int) (hx : 0 ≤ x ∧ x < 18446744073709551616) (hy : 0 ≤ y ∧ y < 18446744073709551616)
    (h : x * 1099511628211 % 18446744073709551616 = y * 1099511628211 % 18446744073709551616) : x = y := by
  have hx' := back x hx
  have hy' := back y hy
  rw [← hx', ← hy', h]

theorem xor_range (a b : Nat) (ha : a < 18446744073709551616) (hb : b < 18446744073709551616) : a ^^^ b < 18446744073709551616 :=
  Nat.xor_lt_two_pow (n := 64) ha hb

theorem step_nat (a c : Nat) (ha : a < 18446744073709551616) (hc : c ≤ 255) : fnvStep a c = ((a ^^^ c : Nat) : Int) * 1099511628211 % 18446744073709551616 := by
  unfold fnvStep
  rw [IntKind.wrap_u64, u64_xor_nat a c ha (by omega)]

theorem nat_range (a : Nat) (ha : a < 18446744073709551616) : 0 ≤ (a : Int) ∧ (a : Int) < 18446744073709551616 := by omega

theorem step_apart (h h' c c' : Int) (hh : 0 ≤ h ∧ h < 18446744073709551616) (hh' : 0 ≤ h' ∧ h' < 18446744073709551616) (hc : 0 ≤ c ∧ c ≤ 255) (hc' : 0 ≤ c' ∧ c' ≤ 255)
    (e : fnvStep h c = fnvStep h' c') : (h = h' → c = c') ∧ (c = c' → h = h') := by
  obtain ⟨a, rfl⟩ := Int.eq_ofNat_of_zero_le hh.1
  obtain ⟨a', rfl⟩ := Int.eq_ofNat_of_zero_le hh'.1
  obtain ⟨d, rfl⟩ := Int.eq_ofNat_of_zero_le hc.1
  obtain ⟨d', rfl⟩ := Int.eq_ofNat_of_zero_le hc'.1
  rw [step_nat a d (by omega) (by omega), step_nat a' d' (by omega) (by omega)] at e
  have b1 := xor_range a d (by omega) (by omega)
  have b2 := xor_range a' d' (by omega) (by omega)
  have e2 := mul_apart _ _ (nat_range _ b1) (nat_range _ b2) e
  clear e
  have e3 : a ^^^ d = a' ^^^ d' := by omega
  refine ⟨fun e0 => ?_, fun e0 => ?_⟩
  · have e1 : a = a' := by omega
    subst e1
    have := congrArg (a ^^^ ·) e3
    simp only [← Nat.xor_assoc, Nat.xor_self, Nat.zero_xor] at this
    omega
  · have e1 : d = d' := by omega
    subst e1
    have := congrArg (· ^^^ d) e3
    simp only [Nat.xor_assoc, Nat.xor_self, Nat.xor_zero] at this
    omega

theorem step_bounds (h c : Int) : 0 ≤ fnvStep h c ∧ fnvStep h c < 18446744073709551616 := by
  unfold fnvStep; rw [IntKind.wrap_u64]; omega

theorem tail_apart : ∀ (l : List Int) (h h' : Int), (0 ≤ h ∧ h < 18446744073709551616) → (0 ≤ h' ∧ h' < 18446744073709551616) → (∀ c ∈ l, 0 ≤ c ∧ c ≤ 255) → fnv h l = fnv h' l → h = h'
  | [], _, _, _, _, _, e => e
  | c :: l, h, h', b, b', hc, e => by
    have := tail_apart l (fnvStep h c) (fnvStep h' c) (step_bounds _ _) (step_bounds _ _) (fun x hx => hc x (List.mem_cons_of_mem _ hx)) e
    exact (step_apart h h' c c b b' (hc c (List.mem_cons_self ..)) (hc c (List.mem_cons_self ..)) this).2 rfl

theorem bytes_mem {xs : List Int} (h : Bytes xs) : ∀ c ∈ xs, 0 ≤ c ∧ c ≤ 255 := by
  intro c hc
  obtain ⟨j, hj, rfl⟩ := List.getElem_of_mem hc
  have := h j
  simpa [List.getD, List.getElem?_eq_getElem hj] using this

theorem set_apart (xs : List Int) (j : Nat) (y : Int) (hb : Bytes xs) (hj : j < xs.length) (hy : 0 ≤ y ∧ y ≤ 255) (hne : xs.getD j 0 ≠ y) : fnv start xs ≠ fnv start (xs.set j y) := by
  intro e
  have hx : xs = xs.take j ++ xs.getD j 0 :: xs.drop (j + 1) := by
    conv => lhs; rw [← List.take_append_drop j xs, List.drop_eq_getElem_cons hj]
    simp [List.getD, List.getElem?_eq_getElem hj]
  have hs : xs.set j y = xs.take j ++ y :: xs.drop (j + 1) := by
    rw [List.set_eq_take_append_cons_drop, if_pos hj]
  rw [hs] at e
  rw [show fnv start xs = fnv start (xs.take j ++ xs.getD j 0 :: xs.drop (j + 1)) from congrArg (fnv start) hx] at e
  rw [fnv_append, fnv_append] at e
  have hd : ∀ c ∈ xs.drop (j + 1), 0 ≤ c ∧ c ≤ 255 := fun c hc => bytes_mem hb c (List.mem_of_mem_drop hc)
  have h1 := tail_apart _ (fnvStep (fnv start (xs.take j)) (xs.getD j 0)) (fnvStep (fnv start (xs.take j)) y) (step_bounds _ _) (step_bounds _ _) hd e
  have b := fnv_bounds start (xs.take j) (by unfold start; omega)
  exact hne ((step_apart _ _ _ _ b b (hb j) hy h1).1 rfl)

/-- A byte turned by another than nought is another byte. -/
theorem turned (x t : Int) (hx : 0 ≤ x ∧ x ≤ 255) (ht : 0 ≤ t ∧ t ≤ 255) (h0 : t ≠ 0) : 0 ≤ bits .xor .u8 x t ∧ bits .xor .u8 x t ≤ 255 ∧ x ≠ bits .xor .u8 x t := by
  obtain ⟨a, rfl⟩ := Int.eq_ofNat_of_zero_le hx.1
  obtain ⟨b, rfl⟩ := Int.eq_ofNat_of_zero_le ht.1
  rw [u8_xor_nat a b (by omega) (by omega)]
  have hr : a ^^^ b < 256 := Nat.xor_lt_two_pow (n := 8) (by omega) (by omega)
  refine ⟨by omega, by omega, fun e => ?_⟩
  have e1 : a = a ^^^ b := by omega
  have := congrArg (a ^^^ ·) e1
  simp only [← Nat.xor_assoc, Nat.xor_self, Nat.zero_xor] at this
  omega

end Go.Proofs.Ytcmafkejniajeaa
