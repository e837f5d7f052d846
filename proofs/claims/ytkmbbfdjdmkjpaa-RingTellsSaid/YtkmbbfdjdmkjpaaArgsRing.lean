/- A ring that comes in by value: its number of sectors, and its segments in memory. -/
import Derived.Test.YtkmbbfdjdmkjpaaArgs
import Derived.Test.YtkmbbfdjdmkjpaaSegs
import Derived.Test.YtkmbbfdjdmkjpaaSegMem
import Derived.Deep.Slices
import Derived.Deep.Fields
import Derived.ChangeSame
import Derived.Lib.SmallJoins
namespace Go.Proofs.Ytkmbbfdjdmkjpaa
open Go.RowKit Go.ChangeShapes Go.WideShapes Go.Deep Go.Joins
set_option linter.unusedVariables false

/-- A ring that came in. -/
structure IsRing (w : World) (s : Int) (A : Option Addr) (n c : Nat) (z : List Seg) : Prop where
  row : RowZ w (· < w.heap.size) A n z
  nc : n ≤ c
  n63 : n ≤ 9223372036854775807
  nA : A = none → c = 0
  pos : ∀ i, i < n → 0 ≤ (z.getD i seg0).2.1

section
variable {H : Type} {enc : TypeId × Value → H} {w : World} {held : Bool}

set_option maxRecDepth 100000 in
theorem trod_seg {fuel : Nat} {l : List Value} {y : DataW H × List MemPlace} (hl3 : l.length = 3) (h : DataW.trod enc Try.prog w 0 (fun _ => true) held fuel 78 l = some y) :
    ∃ s : Seg, l = segC s ∧ 0 ≤ s.2.1 := by
  obtain ⟨ys, fu, _, _, _, hyl, hg⟩ := DataW.trod_struct Try.underlying78 h
  have hone : ∀ t, t = 3 ∨ t = 22 → Try.prog.cellsOf t = 1 := by
    rintro t (rfl | rfl) <;> kernel_rfl
  have hy3 : ys.length = 3 := hyl
  match l, hl3 with
  | [v0, v1, v2], _ =>
    have g0 : DataW.trod enc Try.prog w 0 (fun _ => true) held fu 3 (([v0, v1, v2].drop 0).take (Try.prog.cellsOf 3)) = ys[0]? := hg 0 _ rfl
    have g1 : DataW.trod enc Try.prog w 0 (fun _ => true) held fu 22 (([v0, v1, v2].drop 1).take (Try.prog.cellsOf 22)) = ys[1]? := hg 1 _ rfl
    have g2 : DataW.trod enc Try.prog w 0 (fun _ => true) held fu 3 (([v0, v1, v2].drop 2).take (Try.prog.cellsOf 3)) = ys[2]? := hg 2 _ rfl
    simp only [hone _ (.inl rfl), hone _ (.inr rfl), List.drop_zero, List.drop_succ_cons, List.take_succ_cons, List.take_zero] at g0 g1 g2
    rw [List.getElem?_eq_getElem (by omega)] at g0 g1 g2
    obtain ⟨a, ea, _, wa⟩ := DataW.trod_int Try.underlying3 g0
    obtain ⟨b, eb, _, wb⟩ := DataW.trod_int Try.underlying22 g1
    obtain ⟨c, ec, _, wc⟩ := DataW.trod_int Try.underlying3 g2
    injection ea with ea _
    injection eb with eb _
    injection ec with ec _
    subst ea eb ec
    have jb : 0 ≤ b ∧ b ≤ 18446744073709551615 := by simpa [Lit.wf, IntKind.min, IntKind.max, IntKind.signed, IntKind.bits] using wb
    exact ⟨(a, b, c), rfl, jb.1⟩

theorem open_segs {t : TypeId} {fuel : Nat} {cs : List Value} {x : DataW H × List MemPlace} (ht : Try.prog.underlying t = some (.slice 78))
    (h : DataW.trod enc Try.prog w 0 (fun _ => true) held fuel t cs = some x) :
    ∃ a len cap zs, cs = [.slice a len cap] ∧ RowZ w (· < w.heap.size) a len zs ∧ len ≤ cap ∧ len ≤ 9223372036854775807 ∧ (a = none → cap = 0) ∧ ∀ i, i < len → 0 ≤ (zs.getD i seg0).2.1 := by
  have hc3 : Try.prog.cellsOf 78 = 3 := by kernel_rfl
  rcases open_slice ht h with ⟨rfl, _⟩ | ⟨a, len, cap, m, n, D, Pl, rfl, hb, hl, hm, hmm, rfl, hi⟩
  · exact ⟨none, 0, 0, [], rfl, RowQ.nil _ _ _ _ _ _, Nat.le_refl _, by omega, fun _ => rfl, fun i hi => absurd hi (by omega)⟩
  · simp only [if_true] at hmm
    subst hmm
    have key : ∀ i, i < m → ∃ z : Seg, 0 ≤ z.2.1 ∧ ∀ j, j < 3 → w.cell? (a.add (i * 3 + j)) = (segC z)[j]? := by
      intro i him
      obtain ⟨cs', hc, ht'⟩ := hi i him
      rw [hc3] at hc
      obtain ⟨_, hcl, hat⟩ := World.cells?_some hc
      obtain ⟨z, rfl, hzp⟩ := trod_seg hcl ht'
      refine ⟨z, hzp, fun j hj => ?_⟩
      have h1 := hat j hj
      rw [Go.Deep.add_add] at h1
      exact h1
    have : ∀ k, k ≤ m → ∃ zs : List Seg, zs.length = k ∧ ∀ i, i < k → 0 ≤ (zs.getD i seg0).2.1 ∧ ∀ j, j < 3 → w.cell? (a.add (i * 3 + j)) = (segC (zs.getD i seg0))[j]? := by
      intro k
      induction k with
      | zero => intro _; exact ⟨[], rfl, fun i hi => by omega⟩
      | succ k ih =>
        intro hk
        obtain ⟨zs, hzl, hz⟩ := ih (by omega)
        obtain ⟨z, h1, h2⟩ := key k (by omega)
        refine ⟨zs ++ [z], by simp [hzl], fun i hi => ?_⟩
        by_cases e : i < k
        · have e2 : (zs ++ [z]).getD i seg0 = zs.getD i seg0 := by simp [List.getD, List.getElem?_append_left (show i < zs.length by omega)]
          rw [e2]
          exact hz i e
        · obtain rfl : i = k := by omega
          have e2 : (zs ++ [z]).getD i seg0 = z := by simp [List.getD, List.getElem?_append_right (show zs.length ≤ i by omega), hzl]
          rw [e2]
          exact ⟨h1, h2⟩
    obtain ⟨zs, hzl, hz⟩ := this m (Nat.le_refl _)
    have hget : ∀ i, i < len → (zs.take len).getD i seg0 = zs.getD i seg0 := fun i hi => by simp [List.getD, List.getElem?_take, hi]
    refine ⟨some a, len, m, zs.take len, rfl, ⟨by simp; omega, fun hn => ?_⟩, hl, by have := hm; unfold maxLen at this; omega, (by intro h; cases h), fun i hi => by rw [hget i hi]; exact (hz i (by omega)).1⟩
    obtain ⟨b, off, spot⟩ := a
    have h0 := (hz 0 (by omega)).2 0 (by omega)
    have h0' : w.cell? ⟨b, off, spot⟩ = some (.int .i64 (zs.getD 0 seg0).1) := by simpa [Addr.add] using h0
    have hspot : spot = none := World.cell?_spot h0'
    subst hspot
    refine ⟨b, off, rfl, block_lt_of_cell h0', fun i hi j v hv => ?_⟩
    rw [hget i hi] at hv
    have hj : j < 3 := by have := (List.getElem?_eq_some_iff.1 hv).1; simpa using this
    have h2 := (hz i (by omega)).2 j hj
    rw [add_plain] at h2
    rw [Nat.add_assoc, h2, hv]

set_option maxRecDepth 100000 in
theorem open_ring {r : Reach} {b0 : Nat} {v : Value} {d : DataW H} {p : List MemPlace} (hv : Value.okWide Try.prog w r b0 66 v) (h : DataW.Trod enc Try.prog w 0 (fun _ => true) held 66 v d p) :
    ∃ (s : Int) (A : Option Addr) (n c : Nat) (z : List Seg), v = .agg #[.int .i64 s, .slice A n c] ∧ IsRing w s A n c z := by
  obtain ⟨cs, rfl, hsz⟩ := okWide_struct Try.underlying66 hv
  obtain ⟨fuel, hf⟩ := h
  obtain ⟨ys, fu, _, _, _, hyl, hg⟩ := DataW.trod_struct Try.underlying66 hf
  have hc2 : Try.prog.cellsOf 66 = 2 := by kernel_rfl
  have hone : ∀ t, t = 3 ∨ t = 64 → Try.prog.cellsOf t = 1 := by
    rintro t (rfl | rfl) <;> kernel_rfl
  obtain ⟨l⟩ := cs
  have hl2 : l.length = 2 := by simpa using hsz.trans hc2
  have hy2 : ys.length = 2 := hyl
  match l, hl2 with
  | [v0, v1], _ =>
    have g0 := hg 0 _ rfl
    have g1 := hg 1 _ rfl
    simp only [Value.cells, hone _ (.inl rfl), hone _ (.inr rfl), List.drop_zero, List.drop_succ_cons, List.take_succ_cons, List.take_zero] at g0 g1
    rw [List.getElem?_eq_getElem (by omega)] at g0 g1
    obtain ⟨k, ek, _, wk⟩ := DataW.trod_int Try.underlying3 g0
    obtain ⟨A, n, c, z, ez, hz, nc, n63, nA, hpz⟩ := open_segs Try.underlying64 g1
    injection ek with ek _
    injection ez with ez _
    subst ek ez
    exact ⟨k, A, n, c, z, rfl, hz, nc, n63, nA, hpz⟩
end

end Go.Proofs.Ytkmbbfdjdmkjpaa
