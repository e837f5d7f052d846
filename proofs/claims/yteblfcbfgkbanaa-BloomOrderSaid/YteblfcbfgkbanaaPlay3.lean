/- Bytes that come in, and what Of tells of those that are no filter's. -/
import Derived.Test.YteblfcbfgkbanaaPlay
namespace Go.Proofs.Yteblfcbfgkbanaa
open Go.RowKit
set_option linter.unusedVariables false

/-- What an argument that is a slice of bytes gives. -/
theorem row8_of {w : World} {a : Option Addr} {len cap : Nat} {zs : List Int}
    (h : (a = none ∧ len = 0 ∧ cap = 0 ∧ zs = []) ∨
      ∃ x : Addr, a = some x ∧ len ≤ cap ∧ cap ≤ maxLen ∧ zs.length = cap ∧ (∀ i, i < zs.length → w.cell? (x.add i) = some (.int .u8 (zs.getD i 0))) ∧ ∀ n ∈ zs, (Lit.int .u8 n).wf = true) :
    RowI .u8 w (· < w.heap.size) a len (zs.take len) ∧ Bytes (zs.take len) ∧ len ≤ cap ∧ len ≤ 9223372036854775807 ∧ (a = none → cap = 0) := by
  refine ⟨(row_of h (Nat.le_refl _)).toG, ?_, ?_, ?_, ?_⟩
  · rcases h with ⟨_, _, _, rfl⟩ | ⟨_, _, _, _, _, _, hw⟩
    · intro j; simp [List.getD]
    · exact (bytes_of hw).take _
  · rcases h with ⟨_, rfl, rfl, _⟩ | ⟨_, _, hl, _⟩
    · omega
    · exact hl
  · rcases h with ⟨_, rfl, _, _⟩ | ⟨_, _, hl, hm, _⟩
    · omega
    · unfold maxLen at hm; omega
  · rcases h with ⟨_, _, rfl, _⟩ | ⟨_, rfl, _⟩
    · exact fun _ => rfl
    · intro h; cases h

theorem of_wrong (A : Option Addr) (n c : Nat) (xs : List Int) (S : Nat → Prop) (w : World) (hx : RowI .u8 w S A n xs) (hS : ∀ b, S b → b < w.heap.size) (hn : 4 ≤ n) (hn2 : n ≤ 140737488351232) (hby : Bytes xs)
    (hbad : ¬ (8 ≤ numOf (xs.take 4) ∧ numOf (xs.take 4) ≤ 65536 ∧ numOf (xs.take 4) % 8 = 0) ∨ (n : Int) ≠ 4 + numOf (xs.take 4) / 8) :
    Calls Try.prog 22 #[.slice A n c] w fun e w' => e = .returned (.tuple #[.pointer none, .int .i64 140]) ∧ Below w.heap.size w w' := by
  by_cases hr : 8 ≤ numOf (xs.take 4) ∧ numOf (xs.take 4) ≤ 65536 ∧ numOf (xs.take 4) % 8 = 0
  · obtain ⟨k, hk⟩ : ∃ k : Nat, numOf (xs.take 4) = 8 * (k : Int) := ⟨(numOf (xs.take 4) / 8).toNat, by omega⟩
    refine of_unlike A n c k xs S w hx hS hn hn2 hby hk (by omega) (by omega) ?_
    rcases hbad with h | h
    · exact absurd hr h
    · omega
  · exact of_bad A n c xs S w hx hS hn hn2 hby (by omega)

end Go.Proofs.Yteblfcbfgkbanaa
