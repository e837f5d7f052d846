/- Rings as data: a segment is three numbers, its number a fourth; slices of whatever rows of cells; the segments that are not free, in order. -/
import Derived.Test.YthegbimolbhikaaAppend
import Derived.Test.YthegbimolbhikaaWalk
import Derived.Deep.MidRow
namespace Go.Proofs.Ythegbimolbhikaa
set_option maxRecDepth 100000
open Go.RowKit
set_option linter.unusedVariables false

abbrev Seg := Int × Int × Int
abbrev Num := Nat × Seg
abbrev seg0 : Seg := (0, 0, 0)
abbrev num0 : Num := (0, seg0)
abbrev segC (s : Seg) : List Value := [.int .i64 s.1, .int .u64 s.2.1, .int .i64 s.2.2]
abbrev numC (x : Num) : List Value := [.int .i64 x.1, .int .i64 x.2.1, .int .u64 x.2.2.1, .int .i64 x.2.2.2]
theorem one_seg (s : Seg) : (segC s).toArray.all (·.oneCell') = true := by simp [segC, Value.oneCell']
theorem one_num (x : Num) : (numC x).toArray.all (·.oneCell') = true := by simp [numC, Value.oneCell']
theorem ones_seg (s : Seg) : ∀ v ∈ segC s, v.oneCell' = true := by
  intro v hv
  simp [segC] at hv
  rcases hv with rfl | rfl | rfl <;> rfl
theorem ones_num (x : Num) : ∀ v ∈ numC x, v.oneCell' = true := by
  intro v hv
  simp [numC] at hv
  rcases hv with rfl | rfl | rfl | rfl <;> rfl

/-- A slice of rows of k cells that reads as a list; its block is in S. -/
def RowQ {α : Type} (enc : α → List Value) (k : Nat) (d : α) (w : World) (S : Nat → Prop) (A : Option Addr) (n : Nat) (xs : List α) : Prop :=
  xs.length = n ∧ (0 < n → ∃ b off, A = some ⟨b, off, none⟩ ∧ S b ∧ ∀ i, i < n → w.rangeAt b (off + i * k) (enc (xs.getD i d)))
abbrev RowZ := RowQ segC 3 seg0
abbrev RowN := RowQ numC 4 num0
section
variable {α : Type} {enc : α → List Value} {k : Nat} {d : α} {w w' : World} {S T : Nat → Prop} {A : Option Addr} {n : Nat} {xs : List α}
theorem RowQ.keep (h : RowQ enc k d w S A n xs) (hk : ∀ p : Addr, S p.block → w'.cell? p = w.cell? p) : RowQ enc k d w' S A n xs :=
  ⟨h.1, fun hn => by
    obtain ⟨b, off, e, hb, hc⟩ := h.2 hn
    exact ⟨b, off, e, hb, fun i hi j v hv => by rw [hk _ hb]; exact hc i hi j v hv⟩⟩
theorem RowQ.more (h : RowQ enc k d w S A n xs) (hs : ∀ b, S b → T b) : RowQ enc k d w T A n xs :=
  ⟨h.1, fun hn => by
    obtain ⟨b, off, e, hb, hc⟩ := h.2 hn
    exact ⟨b, off, e, hs b hb, hc⟩⟩
theorem RowQ.below {B : Nat} (h : RowQ enc k d w S A n xs) (hb : Below B w w') (hs : ∀ b, S b → b < B) : RowQ enc k d w' S A n xs := h.keep fun _ hp => hb.cell (hs _ hp)
theorem RowQ.kept (h : RowQ enc k d w S A n xs) (hb : Kept T w w') (hs : ∀ b, S b → T b) : RowQ enc k d w' S A n xs := h.keep fun _ hp => hb.cell (hs _ hp)
theorem RowQ.nil (enc : α → List Value) (k : Nat) (d : α) (w : World) (S : Nat → Prop) (A : Option Addr) : RowQ enc k d w S A 0 [] := ⟨rfl, fun h => absurd h (by omega)⟩
end

/-- The first j segments that are not free, each with its number. -/
def liveTo (xs : List Seg) : Nat → List Num
  | 0 => []
  | j + 1 => liveTo xs j ++ (if (xs.getD j seg0).1 = 0 then [] else [(j, xs.getD j seg0)])
def live (xs : List Seg) : List Num := liveTo xs xs.length
theorem liveTo_length (xs : List Seg) : ∀ j, (liveTo xs j).length ≤ j
  | 0 => Nat.le_refl _
  | j + 1 => by
    have := liveTo_length xs j
    unfold liveTo
    split <;> simp <;> omega
theorem mem_liveTo (xs : List Seg) (x : Num) : ∀ j, x ∈ liveTo xs j ↔ x.1 < j ∧ x.2 = xs.getD x.1 seg0 ∧ x.2.1 ≠ 0
  | 0 => by simp [liveTo]
  | j + 1 => by
    unfold liveTo
    rw [List.mem_append, mem_liveTo xs x j]
    obtain ⟨i, s⟩ := x
    by_cases h : (xs.getD j seg0).1 = 0
    · rw [if_pos h]
      constructor
      · rintro (⟨h1, h2, h3⟩ | h1)
        · exact ⟨by simp only [] at *; omega, h2, h3⟩
        · cases h1
      · rintro ⟨h1, h2, h3⟩
        refine .inl ⟨?_, h2, h3⟩
        simp only [] at *
        rcases Nat.lt_or_ge i j with hlt | hge
        · exact hlt
        · obtain rfl : i = j := by omega
          rw [h2] at h3
          exact absurd h h3
    · rw [if_neg h]
      simp only [List.mem_singleton, Prod.mk.injEq]
      constructor
      · rintro (⟨h1, h2, h3⟩ | ⟨rfl, rfl⟩)
        · exact ⟨by omega, h2, h3⟩
        · exact ⟨by omega, rfl, h⟩
      · rintro ⟨h1, h2, h3⟩
        rcases Nat.lt_or_ge i j with hlt | hge
        · exact .inl ⟨hlt, h2, h3⟩
        · obtain rfl : i = j := by omega
          exact .inr ⟨rfl, h2⟩
theorem mem_live {xs : List Seg} {x : Num} : x ∈ live xs ↔ x.1 < xs.length ∧ x.2 = xs.getD x.1 seg0 ∧ x.2.1 ≠ 0 := mem_liveTo xs x _

section
variable {P : Program} {w : World} {ops : Array Oper} {rest : List Oper} {o : Oper} {a : Act} {Q : Exit → Act → World → Prop}
theorem wpList_alloc_row (ty : TypeId) (ho : o.op = .alloc ty) (hgd : o.guard = none) (zs : Array Value) (hz : ∀ w, (zeroValue ty).run P w = .ok (.agg zs) w)
    (h : wpList P ops Q rest (a.put o.dst (.pointer (some ⟨w.heap.size, 0, none⟩))) (w.alloc (.cells zs ty))) : wpList P ops Q (o :: rest) a w := by
  refine wpList_plain hgd fun K hK => ?_
  unfold Oper.wp execOp
  simp only [ho, Instr.alloc, Sem.run_bind, hz, Result.andThen_ok]
  exact hK _ _ h
theorem wpList_store_fresh (x y : Operand) (ty : TypeId) (ho : o.op = .store ty x y) (hgd : o.guard = none) (w0 : World) (zs cs : Array Value)
    (hx : a.eval x = .pointer (some ⟨w0.heap.size, 0, none⟩)) (hy : a.eval y = .agg cs) (t : TypeId) (hw : w = w0.alloc (.cells zs t)) (hi : (P.info? ty).map (·.size) = some cs.size) (hl : zs.size = cs.size) (hone : cs.all (·.oneCell') = true)
    (h : wpList P ops Q rest (a.put o.dst undef) (w0.alloc (.cells cs t))) : wpList P ops Q (o :: rest) a w := by
  subst hw
  refine wpList_store_row hgd ty x y ho w0.heap.size cs hx hy t zs (heap_alloc_last w0 _) hi hl hone ?_
  rw [World.setRow_alloc_new]
  exact h
/-- A struct is loaded out of the midst of a block. -/
theorem wpList_load_part (x : Operand) (ty : TypeId) (ho : o.op = .load ty x) (hgd : Region.wanted o (yielded ops a.tmps) = true) (b off : Nat) (hx : a.eval x = .pointer (some ⟨b, off, none⟩))
    (cs : List Value) (d : TypeDesc) (hu : P.underlying ty = some d) (hd : d.isRow = true) (hi : (P.info? ty).map (·.size) = some cs.length) (hc : w.rangeAt b off cs)
    (h : wpList P ops Q rest (a.put o.dst (.agg cs.toArray)) w) : wpList P ops Q (o :: rest) a w := by
  refine wpList_step fun K hK => ?_
  rw [if_pos hgd]
  exact wp_load_mid ty x ho b off hx cs d hc hu hd hi (hK _ _ h)
end

end Go.Proofs.Ythegbimolbhikaa
