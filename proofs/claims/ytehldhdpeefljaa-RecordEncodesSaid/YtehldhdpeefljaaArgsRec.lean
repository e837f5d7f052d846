/- A record that comes in by value: its numbers, and its lists in memory. -/
import Derived.Test.YtehldhdpeefljaaArgs
import Derived.Test.YtehldhdpeefljaaEncode
import Derived.Deep.Slices
import Derived.Deep.Fields
import Derived.ChangeSame
import Derived.Lib.SmallJoins
namespace Go.Proofs.Ytehldhdpeefljaa
open Go.RowKit Go.ChangeShapes Go.WideShapes Go.Deep Go.Joins
set_option linter.unusedVariables false

/-- A record that came in. -/
structure IsRec (w : World) (k f x s : Int) (A : Option Addr) (n c : Nat) (B : Option Addr) (m d : Nat) (z y : List Int) : Prop where
  rng : Rng f x s
  k0 : -9223372036854775808 ≤ k
  k1 : k ≤ 9223372036854775807
  key : RowI .u8 w (· < w.heap.size) A n z
  value : RowI .u8 w (· < w.heap.size) B m y
  bkey : Bytes z
  bvalue : Bytes y
  nc : n ≤ c
  md : m ≤ d
  n63 : n ≤ 9223372036854775807
  m63 : m ≤ 9223372036854775807
  nA : A = none → c = 0
  nB : B = none → d = 0

section
variable {H : Type} {enc : TypeId × Value → H} {w : World} {held : Bool}

theorem open_row8 {fuel : Nat} {v : Value} {y : DataW H × List MemPlace} (h : DataW.trod enc Try.prog w 0 (fun _ => true) held fuel 24 [v] = some y) :
    ∃ (a : Option Addr) (len cap : Nat) (zs : List Int), v = .slice a len cap ∧ RowI .u8 w (· < w.heap.size) a len zs ∧ Bytes zs ∧ len ≤ cap ∧ len ≤ 9223372036854775807 ∧ (a = none → cap = 0) := by
  rcases open_ints Try.underlying24 Try.underlying5 (by kernel_rfl) h with ⟨hcs, _⟩ | ⟨x, l, c, zs, hcs, _, hl, hm, hz, hx, hcell, hwz⟩
  · simp at hcs
    subst hcs
    exact ⟨none, 0, 0, [], rfl, RowG.nil _ _ _ _ _, fun j => by simp, Nat.le_refl _, by omega, fun _ => rfl⟩
  · simp at hcs
    subst hcs
    have hz' : zs.length = c := by simpa using hz
    have h8 := row8_of (w := w) (a := some x) (len := l) (cap := c) (zs := zs) (.inr ⟨x, rfl, hl, hm, hz', hcell, hwz⟩)
    exact ⟨some x, l, c, zs.take l, rfl, h8.1, h8.2.1, h8.2.2.1, h8.2.2.2.1, h8.2.2.2.2⟩

theorem open_rec {r : Reach} {b0 : Nat} {v : Value} {d : DataW H} {p : List MemPlace} (hv : Value.okWide Try.prog w r b0 26 v) (h : DataW.Trod enc Try.prog w 0 (fun _ => true) held 26 v d p) :
    ∃ (k f x s : Int) (A : Option Addr) (n c : Nat) (B : Option Addr) (m d : Nat) (z y : List Int), v = .agg #[.int .i64 k, .int .u32 f, .int .u32 x, .int .u64 s, .slice A n c, .slice B m d] ∧ IsRec w k f x s A n c B m d z y := by
  obtain ⟨cs, rfl, hsz⟩ := okWide_struct Try.underlying26 hv
  obtain ⟨fuel, hf⟩ := h
  obtain ⟨ys, fu, _, _, _, hyl, hg⟩ := DataW.trod_struct Try.underlying26 hf
  have hc6 : Try.prog.cellsOf 26 = 6 := by kernel_rfl
  have hone : ∀ t, t = 3 ∨ t = 22 ∨ t = 23 ∨ t = 24 → Try.prog.cellsOf t = 1 := by
    rintro t (rfl | rfl | rfl | rfl) <;> kernel_rfl
  obtain ⟨l⟩ := cs
  have hl6 : l.length = 6 := by simpa using hsz.trans hc6
  have hy6 : ys.length = 6 := hyl
  match l, hl6 with
  | [v0, v1, v2, v3, v4, v5], _ =>
    have g0 := hg 0 _ rfl
    have g1 := hg 1 _ rfl
    have g2 := hg 2 _ rfl
    have g3 := hg 3 _ rfl
    have g4 := hg 4 _ rfl
    have g5 := hg 5 _ rfl
    simp only [Value.cells, hone _ (.inl rfl), hone _ (.inr (.inl rfl)), hone _ (.inr (.inr (.inl rfl))), hone _ (.inr (.inr (.inr rfl))), List.drop_zero, List.drop_succ_cons, List.take_succ_cons, List.take_zero] at g0 g1 g2 g3 g4 g5
    rw [List.getElem?_eq_getElem (by omega)] at g0 g1 g2 g3 g4 g5
    obtain ⟨k, ek, _, wk⟩ := DataW.trod_int Try.underlying3 g0
    obtain ⟨f, ef, _, wf⟩ := DataW.trod_int Try.underlying22 g1
    obtain ⟨x, ex, _, wx⟩ := DataW.trod_int Try.underlying22 g2
    obtain ⟨s, es, _, ws⟩ := DataW.trod_int Try.underlying23 g3
    obtain ⟨A, n, c, z, rfl, hz, bz, nc, n63, nA⟩ := open_row8 g4
    obtain ⟨B, m, d', y, rfl, hy, by_, md, m63, nB⟩ := open_row8 g5
    injection ek with ek _
    injection ef with ef _
    injection ex with ex _
    injection es with es _
    subst ek ef ex es
    have ik : -9223372036854775808 ≤ k ∧ k ≤ 9223372036854775807 := by simpa [Lit.wf, IntKind.min, IntKind.max, IntKind.signed, IntKind.bits] using wk
    have jf : 0 ≤ f ∧ f ≤ 4294967295 := by simpa [Lit.wf, IntKind.min, IntKind.max, IntKind.signed, IntKind.bits] using wf
    have jx : 0 ≤ x ∧ x ≤ 4294967295 := by simpa [Lit.wf, IntKind.min, IntKind.max, IntKind.signed, IntKind.bits] using wx
    have js : 0 ≤ s ∧ s ≤ 18446744073709551615 := by simpa [Lit.wf, IntKind.min, IntKind.max, IntKind.signed, IntKind.bits] using ws
    exact ⟨k, f, x, s, A, n, c, B, m, d', z, y, rfl, ⟨⟨jf.1, jf.2, jx.1, jx.2, js.1, js.2⟩, ik.1, ik.2, hz, hy, bz, by_, nc, md, n63, m63, nA, nB⟩⟩
end

end Go.Proofs.Ytehldhdpeefljaa
