/- A pending write is built, and laid as a list of one. -/
import Derived.Test.YtkmbbfdjdmkjpaaDisk
import Derived.Great.FillDense
namespace Go.Proofs.Ytkmbbfdjdmkjpaa
open Go.RowKit
set_option linter.unusedVariables false
set_option linter.unusedSimpArgs false

theorem fill_one (pl : Nat → Option (Nat × Nat)) (i off n : Nat) (hp : pl i = some (off, n)) (v : Value) (hv : v.cells.size = n) (cells : Array Value) (hfit : off + n ≤ cells.size) (rest : List (Nat × Value)) :
    ∃ r, Instr.fill pl cells ((i, v) :: rest) = Instr.fill pl r rest ∧ r.size = cells.size ∧ ∀ k, r[k]? = if off ≤ k ∧ k < off + n then v.cells[k - off]? else cells[k]? := by
  have g := Great.foldl_set off v.cells.toList 0 cells
  refine ⟨(v.cells.toList.zipIdx 0).foldl (fun cs (x : Value × Nat) => cs.setIfInBounds (off + x.2) x.1) cells, ?_, g.1, fun k => ?_⟩
  · conv => lhs; unfold Instr.fill
    simp only [hp, hv]
    have hno : (decide (n ≠ n) || decide (off + n > cells.size)) = false := by simp; omega
    simp only [ne_eq, not_true_eq_false, decide_false, Bool.false_or, decide_eq_true_eq]
    rw [if_neg (by omega)]
    congr 1
    rw [← Array.foldl_toList, Array.toList_zipIdx]
  · rw [g.2 k]
    simp only [Nat.add_zero, Array.length_toList, hv]
    by_cases h : off ≤ k ∧ k < off + n
    · rw [if_pos ⟨h.1, h.2, by omega⟩, if_pos h]
      simp
    · rw [if_neg (by omega), if_neg h]
theorem fill_two (x : Value) (hx : x.cells = #[x]) (n : Nat) (z : Value) (zs : Array Value) (hz : zs.size = n) (cs : List Value) (hl : cs.length = n) :
    Instr.fill ((#[(0, 1), (1, n)] : Array (Nat × Nat))[·]?) (#[z] ++ zs) [(0, x), (1, .agg cs.toArray)] = some (x :: cs).toArray := by
  obtain ⟨r, h1, h2, h3⟩ := fill_one ((#[(0, 1), (1, n)] : Array (Nat × Nat))[·]?) 0 0 1 rfl x (by rw [hx]; rfl) (#[z] ++ zs) (by simp) [(1, .agg cs.toArray)]
  obtain ⟨q, k1, k2, k3⟩ := fill_one ((#[(0, 1), (1, n)] : Array (Nat × Nat))[·]?) 1 1 n rfl (.agg cs.toArray) (by simp [Value.cells, hl]) r (by rw [h2]; simp; omega) []
  rw [h1, k1]
  conv => lhs; unfold Instr.fill
  congr 1
  apply Array.ext_getElem?
  intro k
  rw [k3 k, h3 k]
  rw [show (Value.agg cs.toArray).cells = cs.toArray from rfl, hx]
  simp only [List.getElem?_toArray]
  rcases Nat.eq_zero_or_pos k with rfl | hk
  · simp
  · obtain ⟨j, rfl⟩ : ∃ j, k = j + 1 := ⟨k - 1, by omega⟩
    rw [if_neg (show ¬ (0 ≤ j + 1 ∧ j + 1 < 0 + 1) by omega), List.getElem?_cons_succ]
    by_cases hj : j < n
    · rw [if_pos (by omega)]
      simp
    · rw [if_neg (by omega), Array.getElem?_eq_none (by simp; omega), List.getElem?_eq_none (by omega)]
theorem built_at : Try.prog.built 115 = fun parts => Instr.fill ((#[(0, 1), (1, 64)] : Array (Nat × Nat))[·]?) (#[.int .i64 0] ++ cells8 (noughts 64)) parts := by kernel_rfl
theorem built_write (p : Nat × List Int) (hl : p.2.length = 64) : Try.prog.built 115 [(0, .int .i64 p.1), (1, .agg (p.2.map (Value.int .u8)).toArray)] = some (wcells p).toArray := by
  rw [built_at]
  exact fill_two (.int .i64 p.1) rfl 64 (.int .i64 0) (cells8 (noughts 64)) (by simp [cells8_size, noughts_length]) (p.2.map (Value.int .u8)) (by simp [hl])
theorem info_write : (Try.prog.info? 115).map (fun i => (i.zero, i.size, i.bytes)) = some (some (.agg (#[.int .i64 0] ++ cells8 (noughts 64))), 65, 72) := by kernel_rfl

/-- What '[]write{x}' lays. -/
theorem fill_lit (cs : List Value) (hl : cs.length = 65) (z : Array Value) (hz : z.size = 65) :
    Instr.fill (fun i => some (i * 65, 65)) ((Array.range (1 * 65)).map (z[· % z.size]!)) [(0, .agg cs.toArray)] = some cs.toArray := by
  obtain ⟨r, h1, h2, h3⟩ := fill_one (fun i => some (i * 65, 65)) 0 0 65 rfl (.agg cs.toArray) (by simp [Value.cells, hl]) ((Array.range (1 * 65)).map (z[· % z.size]!)) (by simp) []
  rw [h1]
  conv => lhs; unfold Instr.fill
  congr 1
  apply Array.ext_getElem?
  intro k
  rw [h3 k]
  by_cases hk : k < 65
  · rw [if_pos (by omega)]; simp [Value.cells]
  · rw [if_neg (by omega), Array.getElem?_eq_none (by simp; omega), Array.getElem?_eq_none (by simp; omega)]

end Go.Proofs.Ytkmbbfdjdmkjpaa

