/- What IndexComes asks, as lists. -/
import Derived.Test.YtfgmbkflpdobcaaWakes10
import Derived.Test.YtfgmbkflpdobcaaDrop
namespace Go.Proofs.Ytfgmbkflpdobcaa
open Go.RowKit
set_option linter.unusedVariables false
set_option linter.unusedSimpArgs false
def fE (f i : Nat) : Nat := (f + i % 3) % 4294967296
def eE (f k i : Nat) : Ent := ((fE f i : Nat), ((i : Int), ((k : Int) + 1), (i : Int)))
def lE (f k m : Nat) : List Ent := (List.range m).map (eE f k)
theorem lE_len (f k m : Nat) : (lE f k m).length = m := by simp [lE]
theorem lE_succ (f k m : Nat) : lE f k (m + 1) = lE f k m ++ [eE f k m] := by simp [lE, List.range_succ]
theorem lE_not (f k m i : Nat) (h : m ≤ i) : eE f k i ∉ lE f k m := by
  intro hm
  obtain ⟨j, hj, e⟩ := List.mem_map.1 hm
  have h1 := List.mem_range.1 hj
  have h2 : (j : Int) = (i : Int) := congrArg (fun e : Ent => e.2.1) e
  omega
theorem comes_add {n f k i : Nat} (h : i < n) : addE n (lE f k i) (((fE f i : Nat) : Int), ((i : Int), ((k : Int) + 1), (i : Int))) = (lE f k (i + 1), 0) := by
  show addE n (lE f k i) (eE f k i) = _
  unfold addE
  rw [if_neg (lE_not f k i i (Nat.le_refl _)), if_neg (by rw [lE_len]; omega), lE_succ]
theorem comes_full {n f k : Nat} (g : Nat) : addE n (lE f k n) ((g : Int), (0, 0, -1)) = (lE f k n, 6) := by
  unfold addE
  rw [if_neg, if_pos (lE_len ..)]
  intro hm
  obtain ⟨j, hj, e⟩ := List.mem_map.1 hm
  have h2 : (j : Int) = -1 := congrArg (fun e : Ent => e.2.2.2) e
  omega
theorem comes_drop (f k n : Nat) : dropE (lE f k n) ((k : Int) + 1) = [] := by
  unfold dropE
  refine List.filter_eq_nil_iff.2 fun e he => ?_
  obtain ⟨j, hj, rfl⟩ := List.mem_map.1 he
  simp [eE]
theorem comes_rem (f k i : Nat) : remE (lE f k (i + 1)) (((fE f i : Nat) : Int), ((i : Int), ((k : Int) + 1), (i : Int))) = (lE f k i, 0) := by
  show remE (lE f k (i + 1)) (eE f k i) = _
  unfold remE
  rw [if_pos (by rw [lE_succ]; simp)]
  congr 1
  rw [lE_succ, List.filter_append, List.filter_cons_of_neg (by simp [eE]), List.filter_nil, List.append_nil]
  refine List.filter_eq_self.2 fun e he => ?_
  have : e ≠ eE f k i := fun h => lE_not f k i i (Nat.le_refl _) (h ▸ he)
  exact decide_eq_true this
theorem comes_no (f k i : Nat) : remE (lE f k i) (((fE f i : Nat) : Int), ((i : Int), ((k : Int) + 1), (i : Int))) = (lE f k i, 4) := by
  show remE (lE f k i) (eE f k i) = _
  unfold remE
  rw [if_neg (lE_not f k i i (Nat.le_refl _))]
theorem slots20 (a : Int) : ∃ n : Nat, wrap64 (1 + wrap64 ((IntKind.u64.wrap a).tmod 20)) = n ∧ 1 ≤ n ∧ n ≤ 20 := by
  have h0 : 0 ≤ IntKind.u64.wrap a := wrap_u64_nonneg a
  have h1 : (IntKind.u64.wrap a).tmod 20 = (IntKind.u64.wrap a) % 20 := Int.tmod_eq_emod_of_nonneg h0
  rw [h1]
  obtain ⟨r, hr⟩ : ∃ r, IntKind.u64.wrap a % 20 = r := ⟨_, rfl⟩
  have h2 : 0 ≤ r ∧ r < 20 := by omega
  rw [hr, IntWalk.wrap64_in r (by omega), IntWalk.wrap64_in (1 + r) (by omega)]
  exact ⟨(1 + r).toNat, by omega, by omega, by omega⟩
theorem add_ixU {w : World} {x slots : Nat} {es : List Ent} {u s g c : Int} (h : IxE w x slots es) (f : Nat) (hf : f < 4294967296) (hu : u = f) :
    Calls Try.prog 18 #[.pointer (some ⟨x, 0, none⟩), .int .u32 u, .agg #[.int .i64 s, .int .u64 g, .int .i64 c]] w fun e w' =>
      e = .returned (.int .i64 (addE slots es (f, (s, g, c))).2) ∧ IxE w' x slots (addE slots es (f, (s, g, c))).1 ∧ Kept (fun b => b < w.heap.size ∧ b ≠ x) w w' := by
  subst hu
  exact add_ix h f hf (s, g, c)
theorem remove_ixU {w : World} {x slots : Nat} {es : List Ent} {u s g c : Int} (h : IxE w x slots es) (f : Nat) (hu : u = f) :
    Calls Try.prog 20 #[.pointer (some ⟨x, 0, none⟩), .int .u32 u, .agg #[.int .i64 s, .int .u64 g, .int .i64 c]] w fun e w' =>
      e = .returned (.int .i64 (remE es (f, (s, g, c))).2) ∧ IxE w' x slots (remE es (f, (s, g, c))).1 ∧ Kept (fun b => b < w.heap.size ∧ b ≠ x) w w' := by
  subst hu
  exact remove_ix h f (s, g, c)
/-- The index is all that has changed of what lies below B. -/
theorem below_ix {w w1 w' : World} {x B : Nat} (hb : Below B w w1) (hx : B ≤ x) (hB : B ≤ w1.heap.size) (hk : Kept (fun b => b < w1.heap.size ∧ b ≠ x) w1 w') : Below B w w' :=
  hb.trans (hk.to_below (fun b h => ⟨by omega, by omega⟩))
end Go.Proofs.Ytfgmbkflpdobcaa
