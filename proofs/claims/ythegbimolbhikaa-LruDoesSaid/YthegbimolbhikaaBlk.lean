/- Arrays of bytes that go by value: made, loaded, stored, compared, as laws of the walk. The cells are whatever list; nothing is unrolled. -/
import Derived.Test.YthegbimolbhikaaWalk
import Derived.Deep.MidRow
import Derived.Deep.WholeRow
import Derived.Laws.StructEq
namespace Go.Proofs.Ythegbimolbhikaa
open Go.RowKit
set_option linter.unusedVariables false

/-- An array's cells. -/
def cells8 (xs : List Int) : Array Value := (xs.map (Value.int .u8)).toArray
theorem cells8_size (xs : List Int) : (cells8 xs).size = xs.length := by simp [cells8]
theorem cells8_list (xs : List Int) : (cells8 xs).toList = xs.map (Value.int .u8) := by simp [cells8]
theorem cells8_get (xs : List Int) (i : Nat) (h : i < xs.length) : (cells8 xs)[i]? = some (.int .u8 (xs.getD i 0)) := by
  simp [cells8, List.getD, List.getElem?_eq_getElem h]
theorem cells8_one (xs : List Int) : (cells8 xs).all (·.oneCell') = true := by
  refine Array.all_eq_true_iff_forall_mem.2 fun v hv => ?_
  simp only [cells8, List.mem_toArray, List.mem_map] at hv
  obtain ⟨x, _, rfl⟩ := hv
  rfl

/-- 64 noughts. -/
def noughts (n : Nat) : List Int := List.replicate n 0
theorem noughts_length (n : Nat) : (noughts n).length = n := by simp [noughts]
theorem noughts_get (n i : Nat) : (noughts n).getD i 0 = 0 := by
  unfold noughts
  by_cases h : i < n <;> simp [List.getD, h]
theorem noughts_bytes (n : Nat) : Bytes (noughts n) := fun j => by rw [noughts_get]; omega

section
variable {w : World} {ops : Array Oper} {rest : List Oper} {o : Oper} {a : Act} {Q : Exit → Act → World → Prop}

end

/-- Three cells of a block are laid; what lies elsewhere is as it was. -/
theorem cell_far3 (w : World) (g : Nat) (u0 u1 u2 : Value) {p : Addr} (h : p.block ≠ g) : (((w.setCell ⟨g, 0, none⟩ u0).setCell ⟨g, 1, none⟩ u1).setCell ⟨g, 2, none⟩ u2).cell? p = w.cell? p := by
  rw [World.cell?_setCell_other _ _ _ _ (by rintro rfl; exact h rfl), World.cell?_setCell_other _ _ _ _ (by rintro rfl; exact h rfl), World.cell?_setCell_other _ _ _ _ (by rintro rfl; exact h rfl)]
theorem Blk.set3 {w : World} {g : Nat} {t : TypeId} {a0 a1 a2 : Value} (h : Blk w g t #[a0, a1, a2]) (u0 u1 u2 : Value) : Blk (((w.setCell ⟨g, 0, none⟩ u0).setCell ⟨g, 1, none⟩ u1).setCell ⟨g, 2, none⟩ u2) g t #[u0, u1, u2] := ((h.set_ 0 u0).set_ 1 u1).set_ 2 u2
theorem Kept.set3 {S : Nat → Prop} {a w : World} (h : Kept S a w) {g : Nat} (hg : ¬ S g) (u0 u1 u2 : Value) : Kept S a (((w.setCell ⟨g, 0, none⟩ u0).setCell ⟨g, 1, none⟩ u1).setCell ⟨g, 2, none⟩ u2) := ((h.setCell hg u0).setCell hg u1).setCell hg u2
theorem below_set3 {B : Nat} {a w : World} (h : Below B a w) {g : Nat} (hg : B ≤ g) (u0 u1 u2 : Value) : Below B a (((w.setCell ⟨g, 0, none⟩ u0).setCell ⟨g, 1, none⟩ u1).setCell ⟨g, 2, none⟩ u2) := ((h.setCell hg u0).setCell hg u1).setCell hg u2

/-! '==' of arrays of bytes. -/

theorem all_range_ints : ∀ (xs ys : List Int), xs.length = ys.length → ((List.range xs.length).all fun i => xs.getD i 0 == ys.getD i 0) = (xs == ys)
  | [], [], _ => rfl
  | x :: xs, y :: ys, h => by
    have ih := all_range_ints xs ys (by simpa using h)
    rw [List.length_cons, List.range_succ_eq_map, List.all_cons, List.all_map]
    simp only [List.getD_cons_zero, Function.comp_def, List.getD_cons_succ, ih]
    simp [List.cons_beq_cons]
  | [], _ :: _, h => by simp at h
  | _ :: _, [], h => by simp at h

theorem run_equalIn_ints {P : Program} (w : World) (d : Nat) (t e : TypeId) (n : Nat) (ht : P.underlying t = some (.array n e)) (he : P.underlying e = some (.int .u8)) (hsz : ∀ w, (sizeOf e).run P w = .ok 1 w)
    (xs ys : List Int) (hx : xs.length = n) (hy : ys.length = n) :
    (Op.equalIn (d + 2) t (.agg (cells8 xs)) (.agg (cells8 ys))).run P w = .ok (xs == ys) w := by
  rw [← all_range_ints xs ys (hx.trans hy.symm), hx, List.range_eq_range', Op.equalIn]
  simp only [Sem.run_bind, run_underlying ht, Result.andThen_ok, hsz, Std.Legacy.Range.forIn_eq_forIn_range', Std.Legacy.Range.size, Nat.sub_zero, Nat.add_sub_cancel, Nat.div_one]
  have hl : ∀ i ∈ List.range' 0 n 1, i < n := fun i hi => by simpa using (List.mem_range'_1.1 hi).2
  generalize List.range' 0 n 1 = l at hl ⊢
  induction l with
  | nil => simp
  | cons i l ih =>
    have hi : i < n := hl i (by simp)
    have px : (part e (cells8 xs) (i * 1)).run P w = .ok (.int .u8 (xs.getD i 0)) w := by
      simp [part, isAgg, run_underlying he, cells8_get xs i (by omega)]
    have py : (part e (cells8 ys) (i * 1)).run P w = .ok (.int .u8 (ys.getD i 0)) w := by
      simp [part, isAgg, run_underlying he, cells8_get ys i (by omega)]
    have pe := run_equalIn_int (P := P) w d e .u8 .u8 (xs.getD i 0) (ys.getD i 0) he
    simp only [List.forIn_cons, Sem.run_bind, px, py, pe, Result.andThen_ok, List.all_cons]
    cases hb : (xs.getD i 0 == ys.getD i 0)
    · simp
    · simp only [Bool.not_true, Bool.false_eq_true, if_false, Sem.run_pure, Result.andThen_ok, Bool.true_and]
      exact ih fun j hj => hl j (by simp [hj])

section
variable {w : World} {ops : Array Oper} {rest : List Oper} {o : Oper} {a : Act} {Q : Exit → Act → World → Prop}

end

end Go.Proofs.Ythegbimolbhikaa
