/- What an argument that is a slice of sectors gives. -/
import Derived.Test.YtikeiloeeklkeaaArgsArr
import Derived.Test.YtikeiloeeklkeaaBks
namespace Go.Proofs.Ytikeiloeeklkeaa
open Go.RowKit
set_option linter.unusedVariables false

theorem blocks_of {w : World} {a : Option Addr} {len cap : Nat} {zss : List (List Int)} (h : IsBlocks w a len cap zss) :
    RowK w (· < w.heap.size) a len (zss.take len) ∧ Secs (zss.take len) ∧ (∀ i, Bytes ((zss.take len).getD i [])) ∧ len ≤ cap ∧ (a = none → cap = 0) := by
  rcases h with ⟨rfl, rfl, rfl, rfl⟩ | ⟨x, rfl, hl, hm, hz, hc⟩
  · exact ⟨RowK.nil _ _ _, fun xs hx => by simp at hx, fun i => by simp [Bytes], Nat.le_refl _, fun _ => rfl⟩
  · have hget : ∀ i, i < len → (zss.take len).getD i [] = zss.getD i [] := fun i hi => by simp [List.getD, List.getElem?_take, hi]
    refine ⟨⟨by simp; omega, fun hn => ?_⟩, fun xs hx => ?_, fun i => ?_, hl, fun h => by cases h⟩
    · obtain ⟨b, off, spot⟩ := x
      have h0 := (hc 0 (by omega)).2.2 0 (by omega)
      have hspot : spot = none := by simpa [Addr.add] using World.cell?_spot h0
      subst hspot
      have hb : b < w.heap.size := by
        have h0' : w.cell? ⟨b, off, none⟩ = some (.int .u8 ((zss.getD 0 []).getD 0 0)) := by simpa [Addr.add] using h0
        exact block_lt_of_cell h0'
      refine ⟨b, off, rfl, hb, fun i hi j v hv => ?_⟩
      rw [hget i hi] at hv
      obtain ⟨hj, rfl⟩ := map_get hv
      have h1 := hc i (by omega)
      have h2 := h1.2.2 j (by rw [h1.1] at hj; exact hj)
      rw [add_plain] at h2
      rw [Nat.add_assoc]
      exact h2
    · obtain ⟨i, hi, rfl⟩ := List.getElem_of_mem hx
      have hi' : i < len := by simp at hi; omega
      have := (hc i (by omega)).1
      rw [← hget i hi'] at this
      simpa [List.getD, List.getElem?_eq_getElem hi] using this
    · by_cases hi : i < len
      · rw [hget i hi]
        exact (hc i (by omega)).2.1
      · have : (zss.take len).getD i [] = [] := by simp [List.getD, List.getElem?_take, hi]
        rw [this]
        intro j
        simp

end Go.Proofs.Ytikeiloeeklkeaa
