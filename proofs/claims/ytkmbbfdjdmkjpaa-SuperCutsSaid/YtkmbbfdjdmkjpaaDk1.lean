/- Package disk: power, reach, a countdown, Len, Ops. -/
import Derived.Test.YtkmbbfdjdmkjpaaDisk
namespace Go.Proofs.Ytkmbbfdjdmkjpaa
open Go.RowKit
set_option linter.unusedVariables false
set_option linter.unusedSimpArgs false

section
variable {w : World} {d H S n : Nat} {v : Value} {m : Nat} {held safe : List Int} {P : List Value} {armed fails : Int} {dead : Bool} {ops : Int}

theorem power_any (h : Dm w d H S n v m held safe P armed fails dead ops) :
    Calls Try.prog 82 #[.pointer (some ⟨d, 0, none⟩)] w fun e w' => e = .returned (.int .i64 (if dead then 7 else 0)) ∧ w = w' := by
  obtain ⟨c0, c1, c2, c3, c4, c5, c6⟩ := h.cell
  clear h
  cases dead
  all_goals
    go_enter Try.func82, Try.ntmps82
    go_wp2
    go_ret
    exact ⟨rfl, rfl⟩

theorem len_any (h : Dm w d H S n v m held safe P armed fails dead ops) :
    Calls Try.prog 80 #[.pointer (some ⟨d, 0, none⟩)] w fun e w' => e = .returned (.int .i64 n) ∧ w = w' := by
  obtain ⟨c0, c1, c2, c3, c4, c5, c6⟩ := h.cell
  clear h
  go_enter Try.func80, Try.ntmps80
  go_wp2
  go_ret
  exact ⟨rfl, rfl⟩

theorem ops_any (h : Dm w d H S n v m held safe P armed fails dead ops) :
    Calls Try.prog 22 #[.pointer (some ⟨d, 0, none⟩)] w fun e w' => e = .returned (.int .i64 ops) ∧ w = w' := by
  obtain ⟨c0, c1, c2, c3, c4, c5, c6⟩ := h.cell
  clear h
  go_enter Try.func22, Try.ntmps22
  go_wp2
  go_ret
  exact ⟨rfl, rfl⟩

/-- What is asked of a sector that there is. -/
theorem reach_ok (h : Dm w d H S n v m held safe P armed fails dead ops) (i : Nat) (hi : i < n) :
    Calls Try.prog 78 #[.pointer (some ⟨d, 0, none⟩), .int .i64 i] w fun e w' => e = .returned (.int .i64 (if dead then 7 else 0)) ∧ w = w' := by
  have HH := Lib.hid h
  obtain ⟨c0, c1, c2, c3, c4, c5, c6⟩ := h.cell
  clear h
  have h1 : decide ((i : Int) < 0) = false := by simp
  have h2 : decide ((n : Int) ≤ (i : Int)) = false := by simp; omega
  cases dead
  all_goals
    go_enter Try.func78, Try.ntmps78
    go_wp2_with (go_at_call 82; refine (power_any HH.out).mono ?_; rintro e w' ⟨rfl, rfl⟩; simp only [Bool.false_eq_true, if_false, if_true])
    go_ret
    exact ⟨rfl, rfl⟩

/-- A countdown: what it is one step on. -/
def struck (c : Int) : Int := if c < 0 then c else c - 1

theorem strikes_any (w : World) (g i : Nat) (c : Int) (h0 : -9223372036854775808 ≤ c) (h1 : c ≤ 9223372036854775807) (hc : w.cell? ⟨g, i, none⟩ = some (.int .i64 c)) (hf : w.frozen? ⟨g, i, none⟩ = false) :
    Calls Try.prog 110 #[.pointer (some ⟨g, i, none⟩)] w fun e w' => e = .returned (.bool (decide (c = 0))) ∧ (w' = if c < 0 then w else w.setCell ⟨g, i, none⟩ (.int .i64 (c - 1))) := by
  by_cases hneg : c < 0
  · go_enter Try.func110, Try.ntmps110
    go_wp2
    go_ret
    refine ⟨ret_bool (by simp; omega), rfl⟩
  · have e1 : IntKind.i64.wrap (c - 1) = c - 1 := IntWalk.i64_in _ ⟨by omega, by omega⟩
    have hcell2 : (w.setCell ⟨g, i, none⟩ (.int .i64 (c - 1))).cell? ⟨g, i, none⟩ = some (.int .i64 (c - 1)) := World.cell?_setCell_same _ _ _ hc
    go_enter Try.func110, Try.ntmps110
    go_wp2
    go_ret
    refine ⟨ret_bool (by simp; omega), rfl⟩

/-- The one that fails the disk, the one that takes its power. -/
theorem fails_any (h : Dm w d H S n v m held safe P armed fails dead ops) (h0 : -9223372036854775808 ≤ fails) (h1 : fails ≤ 9223372036854775807) :
    Calls Try.prog 110 #[.pointer (some ⟨d, 4, none⟩)] w fun e w' => e = .returned (.bool (decide (fails = 0))) ∧ Dm w' d H S n v m held safe P armed (struck fails) dead ops ∧ Kept (fun b => b ≠ d) w w' := by
  refine (strikes_any w d 4 fails h0 h1 h.cell.2.2.2.2.1 (h.frozen 4)).mono ?_
  rintro e w' ⟨rfl, rfl⟩
  unfold struck
  split
  · exact ⟨rfl, h, Kept.refl _ _⟩
  · exact ⟨rfl, h.fails_ _, (Kept.refl _ _).setCell (fun h => h rfl) _⟩
theorem armed_any (h : Dm w d H S n v m held safe P armed fails dead ops) (h0 : -9223372036854775808 ≤ armed) (h1 : armed ≤ 9223372036854775807) :
    Calls Try.prog 110 #[.pointer (some ⟨d, 3, none⟩)] w fun e w' => e = .returned (.bool (decide (armed = 0))) ∧ Dm w' d H S n v m held safe P (struck armed) fails dead ops ∧ Kept (fun b => b ≠ d) w w' := by
  refine (strikes_any w d 3 armed h0 h1 h.cell.2.2.2.1 (h.frozen 3)).mono ?_
  rintro e w' ⟨rfl, rfl⟩
  unfold struck
  split
  · exact ⟨rfl, h, Kept.refl _ _⟩
  · exact ⟨rfl, h.armed_ _, (Kept.refl _ _).setCell (fun h => h rfl) _⟩
end

end Go.Proofs.Ytkmbbfdjdmkjpaa
