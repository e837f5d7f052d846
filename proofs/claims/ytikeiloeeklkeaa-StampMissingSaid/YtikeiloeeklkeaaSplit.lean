/- Package stamp: Sectors and Split. -/
import Derived.Test.YtikeiloeeklkeaaBks
import Derived.Test.YtikeiloeeklkeaaStamp
import Derived.IntWalk
namespace Go.Proofs.Ytikeiloeeklkeaa
open Go.RowKit
set_option linter.unusedVariables false

/-- How many sectors n bytes fill. -/
def cntOf (n : Nat) : Nat := (n - 1) / 48 + 1
theorem cnt_bounds (n : Nat) (h : n ≤ 16384) : 1 ≤ cntOf n ∧ cntOf n ≤ 342 ∧ n ≤ 48 * cntOf n ∧ 48 * (cntOf n - 1) ≤ n := by unfold cntOf; omega

theorem sectors_any (n : Nat) (w : World) (hn : n ≤ 140737488351232) : Calls Try.prog 17 #[.int .i64 n] w fun e w' => e = .returned (.int .i64 (cntOf n)) ∧ w = w' := by
  by_cases h : n = 0
  · subst h
    go_enter Try.func17, Try.ntmps17
    go_wp2
    go_ret
    exact ⟨rfl, rfl⟩
  · have h0 : ¬ (n : Int) < 0 := by omega
    have h1 : ((n : Int) == 0) = false := by simp; omega
    have h2 : 1 ≤ (n : Int) := by omega
    have h3 : (n : Int) ≤ 140737488351232 := by omega
    go_enter Try.func17, Try.ntmps17
    go_wp2
    go_ret
    exact ⟨ret_int (by unfold cntOf; omega), rfl⟩

theorem sectors_neg (x : Int) (w : World) (hx : x < 0) : Calls Try.prog 17 #[.int .i64 x] w fun e w' => e = .returned (.int .i64 0) ∧ w = w' := by
  go_enter Try.func17, Try.ntmps17
  go_wp2
  go_ret
  exact ⟨rfl, rfl⟩

/-- The bytes' k-th part, and the sectors. -/
def partOf (xs : List Int) (k : Nat) : List Int := (xs.drop (48 * k)).take 48
def splitL (gen pos : Int) (xs : List Int) : List (List Int) := (List.range (cntOf xs.length)).map fun (k : Nat) => packL gen (pos + (k : Int)) (partOf xs k)
theorem part_le (xs : List Int) (k : Nat) : (partOf xs k).length ≤ 48 := by simp [partOf]; omega
theorem split_length (gen pos : Int) (xs : List Int) : (splitL gen pos xs).length = cntOf xs.length := by simp [splitL]
theorem split_get (gen pos : Int) (xs : List Int) (k : Nat) (h : k < cntOf xs.length) : (splitL gen pos xs).getD k [] = packL gen (pos + k) (partOf xs k) := by
  simp [splitL, List.getD, List.getElem?_range h]
theorem split_secs (gen pos : Int) (xs : List Int) : Secs (splitL gen pos xs) := by
  intro ys hy
  obtain ⟨k, _, rfl⟩ := List.mem_map.1 hy
  exact packL_length _ _ _ (part_le _ _)
theorem split_snoc (gen pos : Int) (xs : List Int) (k : Nat) (h : k < cntOf xs.length) : flat ((splitL gen pos xs).take (k + 1)) = flat ((splitL gen pos xs).take k) ++ packL gen (pos + k) (partOf xs k) := by
  have hl := split_length gen pos xs
  rw [List.take_succ_eq_append_getElem (by omega), flat_append, flat_one]
  congr 1
  have := split_get gen pos xs k h
  rw [← this]
  simp [List.getD, List.getElem?_eq_getElem (show k < (splitL gen pos xs).length by omega)]

/-- A cut out of a slice of bytes. -/
theorem cut_row {w : World} {S : Nat → Prop} {A : Option Addr} {n cap : Nat} {xs : List Int} (hx : RowI .u8 w S A n xs) (hnil : A = none → cap = 0) (hc : n ≤ cap) (l h : Nat) (h1 : l ≤ h) (h2 : h ≤ n) :
    ∃ A' c', (∀ W, (Instr.slice 24 (.slice A n cap) (some (.int .i64 l)) (some (.int .i64 h)) none).run Try.prog W = .ok (.slice A' (h - l) c') W) ∧ RowI .u8 w S A' (h - l) ((xs.drop l).take (h - l)) ∧ (A' = none → c' = 0) ∧ h - l ≤ c' := by
  have hu : Try.prog.underlying 24 = some (.slice (Try.prog.elem 24)) := by kernel_rfl
  have he : Try.prog.elem 24 = 5 := by kernel_rfl
  have hl := hx.1
  have run := fun W => run_slice_lh (P := Try.prog) W 24 A n cap hu .i64 .i64 l h (by omega) (by omega) (by omega)
  have hrun : ∀ W, (Instr.slice 24 (.slice A n cap) (some (.int .i64 l)) (some (.int .i64 h)) none).run Try.prog W = .ok (sliced A l h cap 1) W := fun W => by
    rw [run W, he, Try.sizeOf5]
    simp [Result.andThen]
  refine ⟨_, _, hrun, ⟨by simp; omega, fun hpos => ?_⟩, fun hA => ?_, by omega⟩
  · obtain ⟨b, off, rfl, hb, hcell⟩ := hx.2 (by omega)
    refine ⟨b, off + l, by rw [if_neg (by omega)]; simp [add_plain], hb, fun j hj => ?_⟩
    rw [Nat.add_assoc, hcell (l + j) (by omega)]
    simp [List.getD, List.getElem?_take, List.getElem?_drop, hj]
  · split at hA
    · have := hnil hA; omega
    · have := hnil (by simpa using hA); omega

/-- The same, as a cut of whatever is asked. -/
theorem cut_rowAt {w : World} {S : Nat → Prop} {A : Option Addr} {n cap : Nat} {xs : List Int} (hx : RowI .u8 w S A n xs) (hnil : A = none → cap = 0) (hc : n ≤ cap) (l h : Nat) (h1 : l ≤ h) (h2 : h ≤ n) (L H : Int) (hL : L = l) (hH : H = h) (m : Nat) (hm : m = h - l) :
    ∃ A' c', (∀ W, (Instr.slice 24 (.slice A n cap) (some (.int .i64 L)) (some (.int .i64 H)) none).run Try.prog W = .ok (.slice A' m c') W) ∧ RowI .u8 w S A' m ((xs.drop l).take m) ∧ (A' = none → c' = 0) ∧ m ≤ c' := by
  subst hL hH hm
  exact cut_row hx hnil hc l h h1 h2

end Go.Proofs.Ytikeiloeeklkeaa
