/- Lists of numbers that come in. Nothing of the program is spoken of here. -/
import Derived.Test.YtighdflbmpkehaaMem
namespace Go.Proofs.Ytighdflbmpkehaa
open Go.RowKit
set_option linter.unusedVariables false

def Nums64 (xs : List Int) : Prop := ∀ j, 0 ≤ xs.getD j 0 ∧ xs.getD j 0 ≤ 18446744073709551615
theorem Nums64.take {xs : List Int} (h : Nums64 xs) (n : Nat) : Nums64 (xs.take n) := by
  intro j
  by_cases hj : j < n
  · have := h j
    simpa [List.getD, List.getElem?_take, hj] using this
  · simp [List.getD, List.getElem?_take, hj]
theorem nums64_of {zs : List Int} (h : ∀ n ∈ zs, (Lit.int .u64 n).wf = true) : Nums64 zs := by
  intro j
  by_cases hj : j < zs.length
  · have hm : zs.getD j 0 ∈ zs := by simp [List.getD, List.getElem?_eq_getElem hj]
    have := h _ hm
    simpa [Lit.wf, IntKind.min, IntKind.max, IntKind.signed, IntKind.bits] using this
  · simp [List.getD, List.getElem?_eq_none (Nat.le_of_not_lt hj)]

/-- What an argument that is a slice of numbers of 64 bits gives. -/
theorem row64_of {w : World} {a : Option Addr} {len cap : Nat} {zs : List Int}
    (h : (a = none ∧ len = 0 ∧ cap = 0 ∧ zs = []) ∨
      ∃ x : Addr, a = some x ∧ len ≤ cap ∧ cap ≤ maxLen ∧ zs.length = cap ∧ (∀ i, i < zs.length → w.cell? (x.add i) = some (.int .u64 (zs.getD i 0))) ∧ ∀ n ∈ zs, (Lit.int .u64 n).wf = true) :
    RowI .u64 w (· < w.heap.size) a len (zs.take len) ∧ Nums64 (zs.take len) ∧ len ≤ cap ∧ len ≤ 9223372036854775807 ∧ (a = none → cap = 0) := by
  refine ⟨(row_of h (Nat.le_refl _)).toG, ?_, ?_, ?_, ?_⟩
  · rcases h with ⟨_, _, _, rfl⟩ | ⟨_, _, _, _, _, _, hw⟩
    · intro j; simp [List.getD]
    · exact (nums64_of hw).take _
  · rcases h with ⟨_, rfl, rfl, _⟩ | ⟨_, _, hl, _⟩
    · omega
    · exact hl
  · rcases h with ⟨_, rfl, _, _⟩ | ⟨_, _, hl, hm, _⟩
    · omega
    · unfold maxLen at hm; omega
  · rcases h with ⟨_, _, rfl, _⟩ | ⟨_, rfl, _⟩
    · exact fun _ => rfl
    · intro h; cases h

/-- What an argument that is a slice of bytes gives. -/
theorem row8_of {w : World} {a : Option Addr} {len cap : Nat} {zs : List Int}
    (h : (a = none ∧ len = 0 ∧ cap = 0 ∧ zs = []) ∨
      ∃ x : Addr, a = some x ∧ len ≤ cap ∧ cap ≤ maxLen ∧ zs.length = cap ∧ (∀ i, i < zs.length → w.cell? (x.add i) = some (.int .u8 (zs.getD i 0))) ∧ ∀ n ∈ zs, (Lit.int .u8 n).wf = true) :
    RowI .u8 w (· < w.heap.size) a len (zs.take len) ∧ Bytes (zs.take len) ∧ len ≤ cap ∧ len ≤ 9223372036854775807 ∧ (a = none → cap = 0) := by
  refine ⟨(row_of h (Nat.le_refl _)).toG, ?_, ?_, ?_, ?_⟩
  · rcases h with ⟨_, _, _, rfl⟩ | ⟨_, _, _, _, _, _, hw⟩
    · intro j; simp [List.getD]
    · exact (bytes_of hw).take _
  · rcases h with ⟨_, rfl, rfl, _⟩ | ⟨_, _, hl, _⟩
    · omega
    · exact hl
  · rcases h with ⟨_, rfl, _, _⟩ | ⟨_, _, hl, hm, _⟩
    · omega
    · unfold maxLen at hm; omega
  · rcases h with ⟨_, _, rfl, _⟩ | ⟨_, rfl, _⟩
    · exact fun _ => rfl
    · intro h; cases h

end Go.Proofs.Ytighdflbmpkehaa
