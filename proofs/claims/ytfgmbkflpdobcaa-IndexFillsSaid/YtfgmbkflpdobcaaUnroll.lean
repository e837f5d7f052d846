/- A loop of a known number of rounds, walked round by round: no relation, no measure, the frame as it stands. Nothing of the program is spoken of here. -/
import Derived.ControlIn
namespace Go.Proofs.Ytfgmbkflpdobcaa
set_option linter.unusedVariables false
open Classical in
theorem least_of {p : Nat → Prop} (h : ∃ j, p j) : ∃ j, p j ∧ ∀ i, i < j → ¬ p i := by
  obtain ⟨j, hj⟩ := h
  induction j using Nat.strongRecOn with
  | _ j ih =>
    by_cases hx : ∃ i, i < j ∧ p i
    · obtain ⟨i, hi, hpi⟩ := hx
      exact ih i hi hpi
    · exact ⟨j, hj, fun i hi hpi => hx ⟨i, hi, hpi⟩⟩
open Classical in
noncomputable def leastN (p : Nat → Prop) : Nat := if h : ∃ j, p j then (least_of h).choose else 0
theorem leastN_spec {p : Nat → Prop} {j : Nat} (h : p j) : p (leastN p) ∧ leastN p ≤ j := by
  have hx : ∃ j, p j := ⟨j, h⟩
  unfold leastN
  rw [dif_pos hx]
  refine ⟨(least_of hx).choose_spec.1, ?_⟩
  rcases Nat.lt_or_ge j (least_of hx).choose with h1 | h1
  · exact absurd h ((least_of hx).choose_spec.2 j h1)
  · exact h1
section
variable {F : Fence} {n : Nat} {P : Program} {Q : Exit → Act → World → Prop}
/-- At most k more rounds are gone through to their ends. -/
def Rounds (F : Fence) (n : Nat) (P : Program) (c : Code) (Q : Exit → Act → World → Prop) : Nat → Act → World → Prop
  | 0 => fun a w => c.wpIn F n P (Exit.then (fun _ _ => False) Q) a w
  | k + 1 => fun a w => c.wpIn F n P (Exit.then (Rounds F n P c Q k) Q) a w
theorem wpIn_rounds {c : Code} {a : Act} {w : World} (k : Nat) (h : Rounds F n P c Q k a w) : (Code.loop c).wpIn F n P Q a w := by
  refine wpIn_loop (fun a w => ∃ j, Rounds F n P c Q j a w) (fun a w => leastN (fun j => Rounds F n P c Q j a w)) ⟨k, h⟩ ?_
  rintro a w ⟨j, hj⟩
  have hm := (leastN_spec (p := fun j => Rounds F n P c Q j a w) hj).1
  obtain ⟨m, hmm⟩ : ∃ m, leastN (fun j => Rounds F n P c Q j a w) = m := ⟨_, rfl⟩
  rw [hmm] at hm ⊢
  cases m with
  | zero => exact wpIn_mono hm (fun e a' w' q => by cases e <;> first | exact q | exact q.elim)
  | succ i =>
    refine wpIn_mono hm (fun e a' w' q => ?_)
    cases e with
    | normal => exact ⟨⟨i, q⟩, Nat.lt_succ_of_le (leastN_spec (p := fun j => Rounds F n P c Q j a' w') q).2⟩
    | exit id => exact q
    | goto l => exact q
    | ret => exact q
    | panic ch => exact q
    | outgrown => exact q
end
end Go.Proofs.Ytfgmbkflpdobcaa
