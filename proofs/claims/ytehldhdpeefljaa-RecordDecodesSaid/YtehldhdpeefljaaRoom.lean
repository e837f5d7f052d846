/- A row of the call's own that has a 7 behind it. -/
import Derived.Test.YtehldhdpeefljaaWalk
import Derived.Test.YtehldhdpeefljaaOctet
namespace Go.Proofs.Ytehldhdpeefljaa
open Go.RowKit
set_option linter.unusedVariables false

/-- A row of the call's own that has a 7 behind it. -/
def Room (w : World) (base g n cap : Nat) (xs : List Int) : Prop := w.ownsRow base 5 1 (.slice (some ⟨g, 0, none⟩) (n + 1) cap) (n + 1) ((xs ++ [7]).map (Value.int .u8)) ∧ xs.length = n
section
variable {w w' : World} {base g n cap : Nat} {xs : List Int}
theorem Room.below (h : Room w base g n cap xs) (hb : Below w.heap.size w w') : Room w' base g n cap xs := ⟨own_below h.1 hb, h.2⟩
theorem Room.lt (h : Room w base g n cap xs) : base ≤ g ∧ g < w.heap.size := h.1.lt g (by simp [Value.ownBlock])
theorem Room.cell (h : Room w base g n cap xs) (j : Nat) (hj : j < n) : w.cell? ⟨g, j, none⟩ = some (.int .u8 (xs.getD j 0)) := by
  rw [h.1.cellAt j (by omega)]
  have hl := h.2
  rw [List.map_append, List.getElem?_append_left (by simp; omega)]
  simp [List.getD, List.getElem?_eq_getElem (show j < xs.length by omega)]
theorem Room.last (h : Room w base g n cap xs) : w.cell? ⟨g, n, none⟩ = some (.int .u8 7) := by
  rw [h.1.cellAt n (by omega)]
  have hl := h.2
  subst hl
  simp
theorem Room.frozen (h : Room w base g n cap xs) (j : Nat) : w.frozen? ⟨g, j, none⟩ = false := h.1.frozenAt j
theorem Room.cap_le (h : Room w base g n cap xs) : n + 1 ≤ cap := by
  rcases h.1.2 with ⟨h0, _⟩ | ⟨g', cap', cur, h0, _, _, hnc, _⟩
  · cases h0
  · injection h0 with _ _ h0
    omega
theorem Room.row (h : Room w base g n cap xs) {S : Nat → Prop} (hS : S g) : RowI .u8 w S (some ⟨g, 0, none⟩) n xs :=
  ⟨h.2, fun _ => ⟨g, 0, rfl, hS, fun j hj => by rw [Nat.zero_add]; exact h.cell j hj⟩⟩
theorem Room.base_le {base' : Nat} (h : Room w base g n cap xs) (hb : base' ≤ base) : Room w base' g n cap xs := ⟨own_base h.1 hb, h.2⟩
end

theorem room_of {w : World} {base n : Nat} {v : Value} {xs : List Int} (h : w.ownsRow base 5 1 v (n + 1) ((xs ++ [7]).map (Value.int .u8))) (hl : xs.length = n) : ∃ g cap, v = .slice (some ⟨g, 0, none⟩) (n + 1) cap ∧ Room w base g n cap xs := by
  obtain ⟨g, cap, rfl, _⟩ := h.form (by omega)
  exact ⟨g, cap, rfl, h, hl⟩

end Go.Proofs.Ytehldhdpeefljaa
