/- An op that comes in by value: five numbers. -/
import Derived.Test.YtfgmbkflpdobcaaIx
import Derived.Deep.Slices
import Derived.Deep.Grids
import Derived.Deep.Fields
import Derived.ChangeSame
import Derived.Lib.SmallJoins
import Derived.SizedLaws
namespace Go.Proofs.Ytfgmbkflpdobcaa
open Go.RowKit Go.ChangeShapes Go.WideShapes Go.Deep Go.Joins
set_option linter.unusedVariables false
set_option linter.unusedSimpArgs false

/-- An op that came in. -/
structure InOp (K : Int) (f : Nat) (s g c : Int) : Prop where
  K0 : -9223372036854775808 ≤ K
  K1 : K ≤ 9223372036854775807
  f1 : f < 4294967296
  s0 : -9223372036854775808 ≤ s
  s1 : s ≤ 9223372036854775807
  g0 : 0 ≤ g
  g1 : g < 18446744073709551616
  c0 : -9223372036854775808 ≤ c
  c1 : c ≤ 9223372036854775807
section
variable {H : Type} {enc : TypeId × Value → H} {w : World} {held : Bool}
set_option maxRecDepth 100000 in
theorem open_op_cells {fuel : Nat} {l : List Value} (hl5 : l.length = 5) {y : DataW H × List MemPlace} (h : DataW.trod enc Try.prog w 0 (fun _ => true) held fuel 38 l = some y) :
    ∃ (K : Int) (f : Nat) (s g c : Int), l = [.int .i64 K, .int .u32 f, .int .i64 s, .int .u64 g, .int .i64 c] ∧ InOp K f s g c := by
  have hu : Try.prog.underlying 38 = some _ := Try.underlying38
  match l, hl5 with
  | [v0, v1, v2, v3, v4], _ =>
    obtain ⟨ys, fu, _, hdd, _, hyl, hg⟩ := DataW.trod_struct Try.underlying38 h
    have hy3 : ys.length = 3 := hyl
    have o3 : Try.prog.cellsOf 3 = 1 := by kernel_rfl
    have o33 : Try.prog.cellsOf 33 = 1 := by kernel_rfl
    have o34 : Try.prog.cellsOf 34 = 1 := by kernel_rfl
    have o36 : Try.prog.cellsOf 36 = 3 := by kernel_rfl
    have g0 := hg 0 _ rfl
    have g1 := hg 1 _ rfl
    have g2 := hg 2 _ rfl
    simp only [List.getElem_toArray, List.getElem_cons_zero, List.getElem_cons_succ, o3, o33, o36, List.drop_zero, List.drop_succ_cons, List.take_succ_cons, List.take_zero] at g0 g1 g2
    rw [List.getElem?_eq_getElem (by omega)] at g0 g1 g2
    obtain ⟨ys', fu', _, hdd', _, hyl', hg'⟩ := DataW.trod_struct Try.underlying36 g2
    have hy3' : ys'.length = 3 := hyl'
    have g3 := hg' 0 _ rfl
    have g4 := hg' 1 _ rfl
    have g5 := hg' 2 _ rfl
    simp only [List.getElem_toArray, List.getElem_cons_zero, List.getElem_cons_succ, o3, o34, List.drop_zero, List.drop_succ_cons, List.take_succ_cons, List.take_zero] at g3 g4 g5
    rw [List.getElem?_eq_getElem (by omega)] at g3 g4 g5
    obtain ⟨K, eK, _, wK⟩ := DataW.trod_int Try.underlying3 g0
    obtain ⟨f, ef, _, wf⟩ := DataW.trod_int Try.underlying33 g1
    obtain ⟨s, es, _, ws⟩ := DataW.trod_int Try.underlying3 g3
    obtain ⟨g, eg, _, wg⟩ := DataW.trod_int Try.underlying34 g4
    obtain ⟨c, ec, _, wc⟩ := DataW.trod_int Try.underlying3 g5
    injection eK with eK _
    injection ef with ef _
    injection es with es _
    injection eg with eg _
    injection ec with ec _
    subst eK ef es eg ec
    have iK : -9223372036854775808 ≤ K ∧ K ≤ 9223372036854775807 := by simpa [Lit.wf, IntKind.min, IntKind.max, IntKind.signed, IntKind.bits] using wK
    have jf : 0 ≤ f ∧ f ≤ 4294967295 := by simpa [Lit.wf, IntKind.min, IntKind.max, IntKind.signed, IntKind.bits] using wf
    have is : -9223372036854775808 ≤ s ∧ s ≤ 9223372036854775807 := by simpa [Lit.wf, IntKind.min, IntKind.max, IntKind.signed, IntKind.bits] using ws
    have ig : 0 ≤ g ∧ g ≤ 18446744073709551615 := by simpa [Lit.wf, IntKind.min, IntKind.max, IntKind.signed, IntKind.bits] using wg
    have ic : -9223372036854775808 ≤ c ∧ c ≤ 9223372036854775807 := by simpa [Lit.wf, IntKind.min, IntKind.max, IntKind.signed, IntKind.bits] using wc
    obtain ⟨f', rfl⟩ : ∃ f' : Nat, f = f' := ⟨f.toNat, by omega⟩
    exact ⟨K, f', s, g, c, rfl, ⟨iK.1, iK.2, by omega, is.1, is.2, ig.1, by omega, ic.1, ic.2⟩⟩
theorem open_op {r : Reach} {b0 : Nat} {v : Value} {d : DataW H} {p : List MemPlace} (hv : Value.okWide Try.prog w r b0 38 v) (h : DataW.Trod enc Try.prog w 0 (fun _ => true) held 38 v d p) :
    ∃ (K : Int) (f : Nat) (s g c : Int), v = .agg #[.int .i64 K, .int .u32 f, .int .i64 s, .int .u64 g, .int .i64 c] ∧ InOp K f s g c := by
  obtain ⟨cs, rfl, hsz⟩ := okWide_struct Try.underlying38 hv
  obtain ⟨fuel, hf⟩ := h
  have hc5 : Try.prog.cellsOf 38 = 5 := by kernel_rfl
  obtain ⟨l⟩ := cs
  have hl5 : l.length = 5 := by simpa using hsz.trans hc5
  obtain ⟨K, f, s, g, c, e, hi⟩ := open_op_cells hl5 (by simpa [Value.cells] using hf)
  subst e
  exact ⟨K, f, s, g, c, rfl, hi⟩
end
end Go.Proofs.Ytfgmbkflpdobcaa
