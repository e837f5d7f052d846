/- A cut that comes in by value: two numbers, and a list of bools in memory. -/
import Derived.Test.YtkmbbfdjdmkjpaaDk3
import Derived.Deep.Slices
import Derived.Deep.Grids
import Derived.Deep.Fields
import Derived.ChangeSame
import Derived.Lib.SmallJoins
import Derived.SizedLaws
namespace Go.Proofs.Ytkmbbfdjdmkjpaa
open Go.RowKit Go.ChangeShapes Go.WideShapes Go.Deep Go.Joins
set_option linter.unusedVariables false
set_option linter.unusedSimpArgs false

/-- A cut that came in. -/
structure IsCut (w : World) (k f : Int) (A : Option Addr) (n c : Nat) (xs : List Bool) : Prop where
  k0 : -9223372036854775808 ≤ k
  k1 : k ≤ 9223372036854775807
  f0 : -9223372036854775808 ≤ f
  f1 : f ≤ 9223372036854775807
  keep : RowB w (· < w.heap.size) A n xs
  nc : n ≤ c
  nA : A = none → c = 0

section
variable {H : Type} {enc : TypeId × Value → H} {w : World} {held : Bool}

theorem open_rowB {fuel : Nat} {v : Value} {y : DataW H × List MemPlace} (h : DataW.trod enc Try.prog w 0 (fun _ => true) held fuel 57 [v] = some y) :
    ∃ (a : Option Addr) (len cap : Nat) (zs : List Bool), v = .slice a len cap ∧ RowB w (· < w.heap.size) a len zs ∧ len ≤ cap ∧ (a = none → cap = 0) ∧ (cap = 0 ∨ ∃ el sp : List (DataW H), y.1 = .slice el sp ∧ el.length + sp.length = cap) := by
  rcases open_bools Try.underlying57 Try.underlying4 (by kernel_rfl) h with ⟨hcs, _⟩ | ⟨x, l, c, B, hcs, _, hl, hm, hy, hcell⟩
  · simp at hcs
    subst hcs
    exact ⟨none, 0, 0, [], rfl, RowG.nil _ _ _ _ _, Nat.le_refl _, fun _ => rfl, .inl rfl⟩
  · simp at hcs
    subst hcs
    have hrow : RowB w (· < w.heap.size) (some x) l ((List.range l).map B) := by
      refine ⟨by simp, fun hn => ?_⟩
      obtain ⟨b, off, spot⟩ := x
      have h0 := hcell 0 (by omega)
      have hspot : spot = none := by simpa [Addr.add] using World.cell?_spot h0
      subst hspot
      refine ⟨b, off, rfl, ?_, fun j hj => ?_⟩
      · have h0' : w.cell? ⟨b, off, none⟩ = some (.bool (B 0)) := by simpa [Addr.add] using h0
        rcases Nat.lt_or_ge b w.heap.size with hlt | hge
        · exact hlt
        · simp [World.cell?, Array.getElem?_eq_none hge] at h0'
      · have := hcell j (by omega)
        have e : (Addr.add ⟨b, off, none⟩ j) = ⟨b, off + j, none⟩ := by
          unfold Addr.add
          by_cases hj0 : j = 0 <;> simp [hj0]
        rw [e] at this
        rw [this]
        simp [List.getD, hj]
    refine ⟨some x, l, c, (List.range l).map B, rfl, hrow, hl, fun e => (by cases e), .inr ⟨_, _, (by rw [hy]; rfl), (by simp; omega)⟩⟩

/-- How much a list in a struct of three fields may hold. -/
theorem sized_third {P : Program} {ts : List TypeId} {ds : List (DataW H)} (h : (DataW.weightsEach P ts ds).all (· ≤ reachBytes) = true) {j : Nat} {t t0 t1 t2 e : TypeId} {fs : Array Field} {d0 d1 : DataW H} {el sp : List (DataW H)} (ht : ts[j]? = some t) (hd : ds[j]? = some (.agg [d0, d1, .slice el sp]))
    (hu : P.underlying t = some (.struct fs)) (hf : fs.toList.map (·.type) = [t0, t1, t2]) (hu2 : P.underlying t2 = some (.slice e)) : (el.length + sp.length) * P.bytesOf e ≤ reachBytes := by
  have hm : (el.length + sp.length) * P.bytesOf e ∈ DataW.weightsEach P [t0, t1, t2] [d0, d1, .slice el sp] := DataW.weights_mem_each (j := 2) rfl rfl _ (by simp [DataW.weights, hu2])
  have := List.all_eq_true.1 h _ (DataW.weights_mem_each ht hd _ (by simp only [DataW.weights, hu, hf]; exact hm))
  simpa using this

theorem list3 {α : Type} : ∀ {l : List α} (h : l.length = 3), l = [l[0], l[1], l[2]]
  | [_, _, _], _ => rfl

set_option maxRecDepth 100000 in
theorem open_cut {r : Reach} {b0 : Nat} {v : Value} {d : DataW H} {p : List MemPlace} (hv : Value.okWide Try.prog w r b0 59 v) (h : DataW.Trod enc Try.prog w 0 (fun _ => true) held 59 v d p) :
    ∃ (k f : Int) (A : Option Addr) (n c : Nat) (xs : List Bool), v = .agg #[.int .i64 k, .int .i64 f, .slice A n c] ∧ IsCut w k f A n c xs ∧ (c = 0 ∨ ∃ (d0 d1 : DataW H) (el sp : List (DataW H)), d = .agg [d0, d1, .slice el sp] ∧ el.length + sp.length = c) := by
  obtain ⟨cs, rfl, hsz⟩ := okWide_struct Try.underlying59 hv
  obtain ⟨fuel, hf⟩ := h
  obtain ⟨ys, fu, _, hdd, _, hyl, hg⟩ := DataW.trod_struct Try.underlying59 hf
  have hc3 : Try.prog.cellsOf 59 = 3 := by kernel_rfl
  have hone : ∀ t, t = 3 ∨ t = 57 → Try.prog.cellsOf t = 1 := by
    rintro t (rfl | rfl) <;> kernel_rfl
  obtain ⟨l⟩ := cs
  have hl3 : l.length = 3 := by simpa using hsz.trans hc3
  have hy3 : ys.length = 3 := hyl
  match l, hl3 with
  | [v0, v1, v2], _ =>
    have g0 := hg 0 _ rfl
    have g1 := hg 1 _ rfl
    have g2 := hg 2 _ rfl
    simp only [Value.cells, hone _ (.inl rfl), hone _ (.inr rfl), List.drop_zero, List.drop_succ_cons, List.take_succ_cons, List.take_zero] at g0 g1 g2
    rw [List.getElem?_eq_getElem (by omega)] at g0 g1 g2
    obtain ⟨k, ek, _, wk⟩ := DataW.trod_int Try.underlying3 g0
    obtain ⟨f, ef, _, wf⟩ := DataW.trod_int Try.underlying3 g1
    obtain ⟨A, n, c, z, rfl, hz, nc, nA, hsp⟩ := open_rowB g2
    injection ek with ek _
    injection ef with ef _
    subst ek ef
    have ik : -9223372036854775808 ≤ k ∧ k ≤ 9223372036854775807 := by simpa [Lit.wf, IntKind.min, IntKind.max, IntKind.signed, IntKind.bits] using wk
    have jf : -9223372036854775808 ≤ f ∧ f ≤ 9223372036854775807 := by simpa [Lit.wf, IntKind.min, IntKind.max, IntKind.signed, IntKind.bits] using wf
    refine ⟨k, f, A, n, c, z, rfl, ⟨ik.1, ik.2, jf.1, jf.2, hz, nc, nA⟩, ?_⟩
    rcases hsp with h0 | ⟨el, sp, he, hl⟩
    · exact .inl h0
    · refine .inr ⟨ys[0].1, ys[1].1, el, sp, ?_, hl⟩
      have hd1 : d = .agg (ys.map (·.1)) := (Prod.mk.injEq _ _ _ _ ▸ hdd).1
      rw [hd1, ← he]
      have hyy : ys = [ys[0], ys[1], ys[2]] := list3 hy3
      conv => (lhs; rw [hyy])
      rfl
end

end Go.Proofs.Ytkmbbfdjdmkjpaa
