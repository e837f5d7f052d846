/- A slice of ops that comes in. -/
import Derived.Test.YtfgmbkflpdobcaaArgsOp
import Derived.Test.YtfgmbkflpdobcaaS8Segs
import Derived.Test.YtfgmbkflpdobcaaArgs
namespace Go.Proofs.Ytfgmbkflpdobcaa
open Go.RowKit Go.ChangeShapes Go.WideShapes Go.Deep Go.Joins
set_option linter.unusedVariables false
set_option linter.unusedSimpArgs false
abbrev OpE := Int × Nat × Int × Int × Int
abbrev op0 : OpE := (0, 0, 0, 0, 0)
abbrev opC (o : OpE) : List Value := [.int .i64 o.1, .int .u32 (o.2.1 : Nat), .int .i64 o.2.2.1, .int .u64 o.2.2.2.1, .int .i64 o.2.2.2.2]
abbrev RowO := RowQ opC 5 op0
structure IsOps (w : World) (A : Option Addr) (n c : Nat) (z : List OpE) : Prop where
  row : RowO w (· < w.heap.size) A n z
  nc : n ≤ c
  n63 : n ≤ 9223372036854775807
  nA : A = none → c = 0
  fin : ∀ i, i < n → (z.getD i op0).2.1 < 4294967296
section
variable {H : Type} {enc : TypeId × Value → H} {w : World} {held : Bool}
theorem open_op_row {fuel : Nat} {l : List Value} {y : DataW H × List MemPlace} (hl5 : l.length = 5) (h : DataW.trod enc Try.prog w 0 (fun _ => true) held fuel 38 l = some y) :
    ∃ s : OpE, s.2.1 < 4294967296 ∧ l = opC s := by
  obtain ⟨K, f, s, g, c, rfl, hi⟩ := open_op_cells hl5 h
  exact ⟨(K, f, s, g, c), hi.f1, rfl⟩
theorem open_ops {t : TypeId} {fuel : Nat} {cs : List Value} {x : DataW H × List MemPlace} (ht : Try.prog.underlying t = some (.slice 38))
    (h : DataW.trod enc Try.prog w 0 (fun _ => true) held fuel t cs = some x) :
    ∃ a len cap zs, cs = [.slice a len cap] ∧ RowO w (· < w.heap.size) a len zs ∧ len ≤ cap ∧ len ≤ 9223372036854775807 ∧ (a = none → cap = 0) ∧ ∀ i, i < len → (zs.getD i op0).2.1 < 4294967296 := by
  have hc5 : Try.prog.cellsOf 38 = 5 := by kernel_rfl
  rcases open_slice ht h with ⟨rfl, _⟩ | ⟨a, len, cap, m, n, D, Pl, rfl, hb, hl, hm, hmm, rfl, hi⟩
  · exact ⟨none, 0, 0, [], rfl, RowQ.nil _ _ _ _ _ _, Nat.le_refl _, by omega, fun _ => rfl, fun i hi => absurd hi (by omega)⟩
  · simp only [if_true] at hmm
    subst hmm
    have key : ∀ i, i < m → ∃ z : OpE, z.2.1 < 4294967296 ∧ ∀ j, j < 5 → w.cell? (a.add (i * 5 + j)) = (opC z)[j]? := by
      intro i him
      obtain ⟨cs', hc, ht'⟩ := hi i him
      rw [hc5] at hc
      obtain ⟨_, hcl, hat⟩ := World.cells?_some hc
      obtain ⟨z, hzp, rfl⟩ := open_op_row hcl ht'
      refine ⟨z, hzp, fun j hj => ?_⟩
      have h1 := hat j hj
      rw [Go.Deep.add_add] at h1
      exact h1
    have : ∀ k, k ≤ m → ∃ zs : List OpE, zs.length = k ∧ ∀ i, i < k → (zs.getD i op0).2.1 < 4294967296 ∧ ∀ j, j < 5 → w.cell? (a.add (i * 5 + j)) = (opC (zs.getD i op0))[j]? := by
      intro k
      induction k with
      | zero => intro _; exact ⟨[], rfl, fun i hi => by omega⟩
      | succ k ih =>
        intro hk
        obtain ⟨zs, hzl, hz⟩ := ih (by omega)
        obtain ⟨z, h1, h2⟩ := key k (by omega)
        refine ⟨zs ++ [z], by simp [hzl], fun i hi => ?_⟩
        by_cases e : i < k
        · have e2 : (zs ++ [z]).getD i op0 = zs.getD i op0 := by simp [List.getD, List.getElem?_append_left (show i < zs.length by omega)]
          rw [e2]
          exact hz i e
        · obtain rfl : i = k := by omega
          have e2 : (zs ++ [z]).getD i op0 = z := by simp [List.getD, List.getElem?_append_right (show zs.length ≤ i by omega), hzl]
          rw [e2]
          exact ⟨h1, h2⟩
    obtain ⟨zs, hzl, hz⟩ := this m (Nat.le_refl _)
    have hget : ∀ i, i < len → (zs.take len).getD i op0 = zs.getD i op0 := fun i hi => by simp [List.getD, List.getElem?_take, hi]
    refine ⟨some a, len, m, zs.take len, rfl, ⟨by simp; omega, fun hn => ?_⟩, hl, by have := hm; unfold maxLen at this; omega, (by intro h; cases h), fun i hi => by rw [hget i hi]; exact (hz i (by omega)).1⟩
    obtain ⟨b, off, spot⟩ := a
    have h0 := (hz 0 (by omega)).2 0 (by omega)
    have h0' : w.cell? ⟨b, off, spot⟩ = some (.int .i64 (zs.getD 0 op0).1) := by simpa [Addr.add] using h0
    have hspot : spot = none := World.cell?_spot h0'
    subst hspot
    refine ⟨b, off, rfl, block_lt_of_cell h0', fun i hi j v hv => ?_⟩
    rw [hget i hi] at hv
    have hj : j < 5 := by have := (List.getElem?_eq_some_iff.1 hv).1; simpa using this
    have h2 := (hz i (by omega)).2 j hj
    rw [add_plain] at h2
    rw [Nat.add_assoc, h2, hv]

end
end Go.Proofs.Ytfgmbkflpdobcaa
