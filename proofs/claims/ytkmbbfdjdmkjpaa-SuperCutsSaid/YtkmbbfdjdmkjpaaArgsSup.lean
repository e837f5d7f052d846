/- What is known of a disk, coming in by value. -/
import Derived.Test.YtkmbbfdjdmkjpaaSupL
import Derived.Deep.Slices
import Derived.Deep.Fields
import Derived.ChangeSame
import Derived.Lib.SmallJoins
namespace Go.Proofs.Ytkmbbfdjdmkjpaa
open Go.RowKit Go.ChangeShapes Go.WideShapes Go.Deep Go.Joins
set_option linter.unusedVariables false

section
variable {H : Type} {enc : TypeId × Value → H} {w : World} {held : Bool}

set_option maxRecDepth 100000 in
theorem trod_sup {fuel : Nat} {l : List Value} {y : DataW H × List MemPlace} (hl6 : l.length = 6) (h : DataW.trod enc Try.prog w 0 (fun _ => true) held fuel 24 l = some y) :
    ∃ a b g r v f : Int, l = [.int .i64 a, .int .i64 b, .int .u64 g, .int .u64 r, .int .u64 v, .int .u64 f] ∧ InS a b g r v f := by
  obtain ⟨ys, fu, _, _, _, hyl, hg⟩ := DataW.trod_struct Try.underlying24 h
  have hone : ∀ t, t = 3 ∨ t = 22 → Try.prog.cellsOf t = 1 := by
    rintro t (rfl | rfl) <;> kernel_rfl
  have hy6 : ys.length = 6 := hyl
  match l, hl6 with
  | [v0, v1, v2, v3, v4, v5], _ =>
    have g0 : DataW.trod enc Try.prog w 0 (fun _ => true) held fu 3 (([v0, v1, v2, v3, v4, v5].drop 0).take (Try.prog.cellsOf 3)) = ys[0]? := hg 0 _ rfl
    have g1 : DataW.trod enc Try.prog w 0 (fun _ => true) held fu 3 (([v0, v1, v2, v3, v4, v5].drop 1).take (Try.prog.cellsOf 3)) = ys[1]? := hg 1 _ rfl
    have g2 : DataW.trod enc Try.prog w 0 (fun _ => true) held fu 22 (([v0, v1, v2, v3, v4, v5].drop 2).take (Try.prog.cellsOf 22)) = ys[2]? := hg 2 _ rfl
    have g3 : DataW.trod enc Try.prog w 0 (fun _ => true) held fu 22 (([v0, v1, v2, v3, v4, v5].drop 3).take (Try.prog.cellsOf 22)) = ys[3]? := hg 3 _ rfl
    have g4 : DataW.trod enc Try.prog w 0 (fun _ => true) held fu 22 (([v0, v1, v2, v3, v4, v5].drop 4).take (Try.prog.cellsOf 22)) = ys[4]? := hg 4 _ rfl
    have g5 : DataW.trod enc Try.prog w 0 (fun _ => true) held fu 22 (([v0, v1, v2, v3, v4, v5].drop 5).take (Try.prog.cellsOf 22)) = ys[5]? := hg 5 _ rfl
    simp only [hone _ (.inl rfl), hone _ (.inr rfl), List.drop_zero, List.drop_succ_cons, List.take_succ_cons, List.take_zero] at g0 g1 g2 g3 g4 g5
    rw [List.getElem?_eq_getElem (by omega)] at g0 g1 g2 g3 g4 g5
    obtain ⟨a, ea, _, wa⟩ := DataW.trod_int Try.underlying3 g0
    obtain ⟨b, eb, _, wb⟩ := DataW.trod_int Try.underlying3 g1
    obtain ⟨g, eg, _, wg⟩ := DataW.trod_int Try.underlying22 g2
    obtain ⟨r, er, _, wr⟩ := DataW.trod_int Try.underlying22 g3
    obtain ⟨v, ev, _, wv⟩ := DataW.trod_int Try.underlying22 g4
    obtain ⟨f, ef, _, wf⟩ := DataW.trod_int Try.underlying22 g5
    injection ea with ea _
    injection eb with eb _
    injection eg with eg _
    injection er with er _
    injection ev with ev _
    injection ef with ef _
    subst ea eb eg er ev ef
    have ia : -9223372036854775808 ≤ a ∧ a ≤ 9223372036854775807 := by simpa [Lit.wf, IntKind.min, IntKind.max, IntKind.signed, IntKind.bits] using wa
    have ib : -9223372036854775808 ≤ b ∧ b ≤ 9223372036854775807 := by simpa [Lit.wf, IntKind.min, IntKind.max, IntKind.signed, IntKind.bits] using wb
    have ig : 0 ≤ g ∧ g ≤ 18446744073709551615 := by simpa [Lit.wf, IntKind.min, IntKind.max, IntKind.signed, IntKind.bits] using wg
    have ir : 0 ≤ r ∧ r ≤ 18446744073709551615 := by simpa [Lit.wf, IntKind.min, IntKind.max, IntKind.signed, IntKind.bits] using wr
    have iv : 0 ≤ v ∧ v ≤ 18446744073709551615 := by simpa [Lit.wf, IntKind.min, IntKind.max, IntKind.signed, IntKind.bits] using wv
    have if_ : 0 ≤ f ∧ f ≤ 18446744073709551615 := by simpa [Lit.wf, IntKind.min, IntKind.max, IntKind.signed, IntKind.bits] using wf
    exact ⟨a, b, g, r, v, f, rfl, by unfold InS; omega⟩

set_option maxRecDepth 100000 in
theorem open_sup {r : Reach} {b0 : Nat} {v : Value} {d : DataW H} {p : List MemPlace} (hv : Value.okWide Try.prog w r b0 24 v) (h : DataW.Trod enc Try.prog w 0 (fun _ => true) held 24 v d p) :
    ∃ a b g r v' f : Int, v = .agg (supC a b g r v' f) ∧ InS a b g r v' f := by
  obtain ⟨cs, rfl, hsz⟩ := okWide_struct Try.underlying24 hv
  obtain ⟨fuel, hf⟩ := h
  have hc6 : Try.prog.cellsOf 24 = 6 := by kernel_rfl
  obtain ⟨l⟩ := cs
  have hl6 : l.length = 6 := by simpa using hsz.trans hc6
  simp only [Value.cells] at hf
  obtain ⟨a, b, g, r, v', f, rfl, hin⟩ := trod_sup hl6 hf
  exact ⟨a, b, g, r, v', f, rfl, hin⟩
end

end Go.Proofs.Ytkmbbfdjdmkjpaa
