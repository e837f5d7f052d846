/- Arguments that are arrays of 64 bytes by value, or slices of them. -/
import Derived.Test.YtjkepjpefjlpjaaBlk
import Derived.Deep.Slices
import Derived.ChangeSame
namespace Go.Proofs.Ytjkepjpefjlpjaa
open Go.RowKit Go.ChangeShapes Go.WideShapes Go.Deep
set_option linter.unusedVariables false

section
variable {H : Type} {enc : TypeId × Value → H} {P : Program} {w : World} {base : Nat} {spare : Nat → Bool} {held : Bool}

/-- Cells that read as bytes, one by one. -/
theorem cells_ints {cs : List Value} {n : Nat} (hl : cs.length = n) (h : ∀ i, i < n → ∃ x : Int, cs[i]? = some (.int .u8 x) ∧ (Lit.int .u8 x).wf = true) :
    ∃ xs : List Int, cs = xs.map (Value.int .u8) ∧ xs.length = n ∧ Bytes xs := by
  subst hl
  induction cs with
  | nil => exact ⟨[], rfl, rfl, fun j => by simp⟩
  | cons c cs ih =>
    obtain ⟨x, hx, hw⟩ := h 0 (by simp)
    simp at hx
    obtain ⟨xs, e, hl, hb⟩ := ih (fun i hi => by simpa using h (i + 1) (by simpa using hi))
    have hw' : 0 ≤ x ∧ x ≤ 255 := by simpa [Lit.wf, IntKind.min, IntKind.max, IntKind.signed, IntKind.bits] using hw
    refine ⟨x :: xs, by rw [hx, e]; rfl, by simp [hl], fun j => ?_⟩
    cases j with
    | zero => simpa using hw'
    | succ j => simpa using hb j

theorem trod_arr8 {t e : TypeId} {n fuel : Nat} {cs : List Value} {x : DataW H × List MemPlace} (ht : P.underlying t = some (.array n e)) (he : P.underlying e = some (.int .u8)) (hc : P.cellsOf e = 1) (hct : P.cellsOf t = n)
    (h : DataW.trod enc P w base spare held fuel t cs = some x) : ∃ xs : List Int, cs = xs.map (Value.int .u8) ∧ xs.length = n ∧ Bytes xs := by
  obtain ⟨ys, m, _, _, hl, hyl, hi⟩ := DataW.trod_array ht h
  rw [hct] at hl
  refine cells_ints hl fun i hin => ?_
  have h1 := hi i hin
  rw [hc, Nat.mul_one] at h1
  have hd : (cs.drop i).take 1 = [cs[i]'(by omega)] := by rw [List.drop_eq_getElem_cons (by omega)]; rfl
  rw [hd, List.getElem?_eq_getElem (by omega)] at h1
  obtain ⟨z, hz, _, hw⟩ := DataW.trod_int he h1
  injection hz with hz _
  exact ⟨z, by rw [List.getElem?_eq_getElem (by omega), hz], hw⟩

theorem open_arr8 {r : Reach} {b0 : Nat} {t e : TypeId} {n : Nat} {v : Value} {d : DataW H} {p : List MemPlace} (ht : P.underlying t = some (.array n e)) (he : P.underlying e = some (.int .u8)) (hc : P.cellsOf e = 1) (hct : P.cellsOf t = n)
    (hv : Value.okWide P w r b0 t v) (h : DataW.Trod enc P w base spare held t v d p) : ∃ xs : List Int, v = .agg (cells8 xs) ∧ (xs.length = n ∧ Bytes xs) := by
  simp only [Value.okWide, ht] at hv
  obtain ⟨cs, rfl, hs, _⟩ := hv
  obtain ⟨fuel, hf⟩ := h
  obtain ⟨xs, e, hl, hb⟩ := trod_arr8 ht he hc hct hf
  refine ⟨xs, ?_, hl, hb⟩
  simp only [Value.cells] at e
  rw [← Array.toArray_toList (xs := cs), e]
  rfl

/-- A slice of sectors that came in. -/
def IsBlocks (w : World) (a : Option Addr) (len cap : Nat) (zss : List (List Int)) : Prop :=
  (a = none ∧ len = 0 ∧ cap = 0 ∧ zss = []) ∨
  ∃ x : Addr, a = some x ∧ len ≤ cap ∧ cap ≤ maxLen ∧ zss.length = cap ∧ ∀ i, i < cap → (zss.getD i []).length = 64 ∧ Bytes (zss.getD i []) ∧ ∀ j, j < 64 → w.cell? (x.add (i * 64 + j)) = some (.int .u8 ((zss.getD i []).getD j 0))

theorem open_blocks {t e u : TypeId} {fuel : Nat} {cs : List Value} {x : DataW H × List MemPlace} (ht : P.underlying t = some (.slice e)) (he : P.underlying e = some (.array 64 u)) (hu : P.underlying u = some (.int .u8)) (hcu : P.cellsOf u = 1) (hce : P.cellsOf e = 64)
    (h : DataW.trod enc P w base (fun _ => true) held fuel t cs = some x) :
    ∃ a len cap zss, cs = [.slice a len cap] ∧ IsBlocks w a len cap zss ∧ (cap = 0 ∨ ∃ el sp : List (DataW H), x.1 = .slice el sp ∧ el.length + sp.length = cap) := by
  rcases open_slice ht h with ⟨rfl, _⟩ | ⟨a, len, cap, m, n, D, Pl, rfl, hb, hl, hm, hmm, rfl, hi⟩
  · exact ⟨none, 0, 0, [], rfl, .inl ⟨rfl, rfl, rfl, rfl⟩, .inl rfl⟩
  · simp only [if_true] at hmm
    subst hmm
    have key : ∀ i, i < m → ∃ zs : List Int, zs.length = 64 ∧ Bytes zs ∧ ∀ j, j < 64 → w.cell? (a.add (i * 64 + j)) = some (.int .u8 (zs.getD j 0)) := by
      intro i him
      obtain ⟨cs', hc, ht'⟩ := hi i him
      rw [hce] at hc
      obtain ⟨_, hcl, hat⟩ := World.cells?_some hc
      obtain ⟨zs, e, hzl, hzb⟩ := trod_arr8 he hu hcu hce ht'
      refine ⟨zs, hzl, hzb, fun j hj => ?_⟩
      have h1 := hat j hj
      rw [Go.Deep.add_add] at h1
      rw [h1, e]
      simp [List.getD, List.getElem?_eq_getElem (show j < zs.length by omega)]
    have : ∃ zss : List (List Int), zss.length = m ∧ ∀ i, i < m → (zss.getD i []).length = 64 ∧ Bytes (zss.getD i []) ∧ ∀ j, j < 64 → w.cell? (a.add (i * 64 + j)) = some (.int .u8 ((zss.getD i []).getD j 0)) := by
      clear hi hl hm h
      have : ∀ k, k ≤ m → ∃ zss : List (List Int), zss.length = k ∧ ∀ i, i < k → (zss.getD i []).length = 64 ∧ Bytes (zss.getD i []) ∧ ∀ j, j < 64 → w.cell? (a.add (i * 64 + j)) = some (.int .u8 ((zss.getD i []).getD j 0)) := by
        intro k
        induction k with
        | zero => intro _; exact ⟨[], rfl, fun i hi => by omega⟩
        | succ k ih =>
          intro hk
          obtain ⟨zss, hzl, hz⟩ := ih (by omega)
          obtain ⟨zs, h1, h2, h3⟩ := key k (by omega)
          refine ⟨zss ++ [zs], by simp [hzl], fun i hi => ?_⟩
          by_cases e : i < k
          · have e2 : (zss ++ [zs]).getD i [] = zss.getD i [] := by simp [List.getD, List.getElem?_append_left (show i < zss.length by omega)]
            rw [e2]
            exact hz i e
          · obtain rfl : i = k := by omega
            have e2 : (zss ++ [zs]).getD i [] = zs := by simp [List.getD, List.getElem?_append_right (show zss.length ≤ i by omega), hzl]
            rw [e2]
            exact ⟨h1, h2, h3⟩
      exact this m (Nat.le_refl _)
    obtain ⟨zss, hzl, hz⟩ := this
    exact ⟨some a, len, m, zss, rfl, .inr ⟨a, rfl, hl, hm, hzl, hz⟩, .inr ⟨_, _, rfl, by simp; omega⟩⟩
end

end Go.Proofs.Ytjkepjpefjlpjaa
