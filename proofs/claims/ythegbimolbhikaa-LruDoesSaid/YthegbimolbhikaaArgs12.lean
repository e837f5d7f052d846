/- Calls that come in, one or a slice of them: three numbers each. -/
import Derived.Test.YthegbimolbhikaaMem
import Derived.Deep.MidRow
import Derived.Test.YthegbimolbhikaaS8Segs
import Derived.Test.YthegbimolbhikaaArgs
import Derived.Deep.Slices
import Derived.Deep.Grids
import Derived.Deep.Fields
import Derived.ChangeSame
import Derived.Lib.SmallJoins
import Derived.SizedLaws
import Derived.ChangeArms
namespace Go.Proofs.Ythegbimolbhikaa
open Go.RowKit Go.ChangeShapes Go.WideShapes Go.Deep Go.Joins
set_option linter.unusedVariables false
set_option linter.unusedSimpArgs false
abbrev OpE := Int × Int × Int
abbrev op0 : OpE := (0, 0, 0)
abbrev opC (o : OpE) : List Value := [.int .i64 o.1, .int .i64 o.2.1, .int .i64 o.2.2]
abbrev RowO := RowQ opC 3 op0
def OpIn (o : OpE) : Prop := (-9223372036854775808 ≤ o.1 ∧ o.1 ≤ 9223372036854775807) ∧ (-9223372036854775808 ≤ o.2.1 ∧ o.2.1 ≤ 9223372036854775807) ∧ -9223372036854775808 ≤ o.2.2 ∧ o.2.2 ≤ 9223372036854775807
structure IsOps (w : World) (A : Option Addr) (n c : Nat) (z : List OpE) : Prop where
  row : RowO w (· < w.heap.size) A n z
  nc : n ≤ c
  n63 : n ≤ 9223372036854775807
  nA : A = none → c = 0
  fin : ∀ i, i < n → OpIn (z.getD i op0)
section
variable {H : Type} {enc : TypeId × Value → H} {w : World} {held : Bool}
set_option maxRecDepth 100000 in
theorem open_op_row {fuel : Nat} {l : List Value} {y : DataW H × List MemPlace} (hl3 : l.length = 3) (h : DataW.trod enc Try.prog w 0 (fun _ => true) held fuel 35 l = some y) :
    ∃ s : OpE, OpIn s ∧ l = opC s := by
  match l, hl3 with
  | [v0, v1, v2], _ =>
    obtain ⟨ys, fu, _, hdd, _, hyl, hg⟩ := DataW.trod_struct Try.underlying35 h
    have hy3 : ys.length = 3 := hyl
    have o3 : Try.prog.cellsOf 3 = 1 := by kernel_rfl
    have g0 := hg 0 _ rfl
    have g1 := hg 1 _ rfl
    have g2 := hg 2 _ rfl
    simp only [List.getElem_toArray, List.getElem_cons_zero, List.getElem_cons_succ, o3, List.drop_zero, List.drop_succ_cons, List.take_succ_cons, List.take_zero] at g0 g1 g2
    rw [List.getElem?_eq_getElem (by omega)] at g0 g1 g2
    obtain ⟨K0, e0, _, w0⟩ := DataW.trod_int Try.underlying3 g0
    obtain ⟨K1, e1, _, w1⟩ := DataW.trod_int Try.underlying3 g1
    obtain ⟨K2, e2, _, w2⟩ := DataW.trod_int Try.underlying3 g2
    injection e0 with e0 _
    injection e1 with e1 _
    injection e2 with e2 _
    subst e0 e1 e2
    have i0 : -9223372036854775808 ≤ K0 ∧ K0 ≤ 9223372036854775807 := by simpa [Lit.wf, IntKind.min, IntKind.max, IntKind.signed, IntKind.bits] using w0
    have i1 : -9223372036854775808 ≤ K1 ∧ K1 ≤ 9223372036854775807 := by simpa [Lit.wf, IntKind.min, IntKind.max, IntKind.signed, IntKind.bits] using w1
    have i2 : -9223372036854775808 ≤ K2 ∧ K2 ≤ 9223372036854775807 := by simpa [Lit.wf, IntKind.min, IntKind.max, IntKind.signed, IntKind.bits] using w2
    exact ⟨(K0, K1, K2), ⟨i0, i1, i2⟩, rfl⟩
theorem open_op12 {r : Reach} {b0 : Nat} {v : Value} {d : DataW H} {p : List MemPlace} (hv : Value.okWide Try.prog w r b0 35 v) (h : DataW.Trod enc Try.prog w 0 (fun _ => true) held 35 v d p) :
    ∃ (K L N : Int), v = .agg #[.int .i64 K, .int .i64 L, .int .i64 N] ∧ OpIn (K, L, N) := by
  obtain ⟨cs, rfl, hsz⟩ := okWide_struct Try.underlying35 hv
  obtain ⟨fuel, hf⟩ := h
  have hc5 : Try.prog.cellsOf 35 = 3 := by kernel_rfl
  obtain ⟨l⟩ := cs
  have hl5 : l.length = 3 := by simpa using hsz.trans hc5
  obtain ⟨⟨K, L, N⟩, hi, e⟩ := open_op_row hl5 (by simpa [Value.cells] using hf)
  subst e
  exact ⟨K, L, N, rfl, hi⟩
theorem open_ops {t : TypeId} {fuel : Nat} {cs : List Value} {x : DataW H × List MemPlace} (ht : Try.prog.underlying t = some (.slice 35))
    (h : DataW.trod enc Try.prog w 0 (fun _ => true) held fuel t cs = some x) :
    ∃ a len cap zs, cs = [.slice a len cap] ∧ RowO w (· < w.heap.size) a len zs ∧ len ≤ cap ∧ len ≤ 9223372036854775807 ∧ (a = none → cap = 0) ∧ ∀ i, i < len → OpIn (zs.getD i op0) := by
  have hc5 : Try.prog.cellsOf 35 = 3 := by kernel_rfl
  rcases open_slice ht h with ⟨rfl, _⟩ | ⟨a, len, cap, m, n, D, Pl, rfl, hb, hl, hm, hmm, rfl, hi⟩
  · exact ⟨none, 0, 0, [], rfl, RowQ.nil _ _ _ _ _ _, Nat.le_refl _, by omega, fun _ => rfl, fun i hi => absurd hi (by omega)⟩
  · simp only [if_true] at hmm
    subst hmm
    have key : ∀ i, i < m → ∃ z : OpE, OpIn z ∧ ∀ j, j < 3 → w.cell? (a.add (i * 3 + j)) = (opC z)[j]? := by
      intro i him
      obtain ⟨cs', hc, ht'⟩ := hi i him
      rw [hc5] at hc
      obtain ⟨_, hcl, hat⟩ := World.cells?_some hc
      obtain ⟨z, hzp, rfl⟩ := open_op_row hcl ht'
      refine ⟨z, hzp, fun j hj => ?_⟩
      have h1 := hat j hj
      rw [Go.Deep.add_add] at h1
      exact h1
    have : ∀ k, k ≤ m → ∃ zs : List OpE, zs.length = k ∧ ∀ i, i < k → OpIn (zs.getD i op0) ∧ ∀ j, j < 3 → w.cell? (a.add (i * 3 + j)) = (opC (zs.getD i op0))[j]? := by
      intro k
      induction k with
      | zero => intro _; exact ⟨[], rfl, fun i hi => by omega⟩
      | succ k ih =>
        intro hk
        obtain ⟨zs, hzl, hz⟩ := ih (by omega)
        obtain ⟨z, h1, h2⟩ := key k (by omega)
        refine ⟨zs ++ [z], by simp [hzl], fun i hi => ?_⟩
        by_cases e : i < k
        · have e2 : (zs ++ [z]).getD i op0 = zs.getD i op0 := by simp [List.getD, List.getElem?_append_left (show i < zs.length by omega)]
          rw [e2]
          exact hz i e
        · obtain rfl : i = k := by omega
          have e2 : (zs ++ [z]).getD i op0 = z := by simp [List.getD, List.getElem?_append_right (show zs.length ≤ i by omega), hzl]
          rw [e2]
          exact ⟨h1, h2⟩
    obtain ⟨zs, hzl, hz⟩ := this m (Nat.le_refl _)
    have hget : ∀ i, i < len → (zs.take len).getD i op0 = zs.getD i op0 := fun i hi => by simp [List.getD, List.getElem?_take, hi]
    refine ⟨some a, len, m, zs.take len, rfl, ⟨by simp; omega, fun hn => ?_⟩, hl, by have := hm; unfold maxLen at this; omega, (by intro h; cases h), fun i hi => by rw [hget i hi]; exact (hz i (by omega)).1⟩
    obtain ⟨b, off, spot⟩ := a
    have h0 := (hz 0 (by omega)).2 0 (by omega)
    have h0' : w.cell? ⟨b, off, spot⟩ = some (.int .i64 (zs.getD 0 op0).1) := by simpa [Addr.add] using h0
    have hspot : spot = none := World.cell?_spot h0'
    subst hspot
    refine ⟨b, off, rfl, block_lt_of_cell h0', fun i hi j v hv => ?_⟩
    rw [hget i hi] at hv
    have hj : j < 3 := by have := (List.getElem?_eq_some_iff.1 hv).1; simpa using this
    have h2 := (hz i (by omega)).2 j hj
    rw [add_plain] at h2
    rw [Nat.add_assoc, h2, hv]
end
end Go.Proofs.Ythegbimolbhikaa
