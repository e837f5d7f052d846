/- Package super: sector, next, back, room, Get, Disk, Base, Encode, Decode. -/
import Derived.Test.YtkmbbfdjdmkjpaaRead
import Derived.Test.YtkmbbfdjdmkjpaaDk3
namespace Go.Proofs.Ytkmbbfdjdmkjpaa
open Go.RowKit
set_option linter.unusedVariables false
set_option linter.unusedSimpArgs false

theorem sector_any (a b g r v f t : Int) (w : World) (h0 : 0 ≤ t) (h1 : t ≤ 18446744073709551615) :
    Calls Try.prog 73 #[.agg (turC a b g r v f t)] w fun e w' => e = .returned (.int .i64 (t % 2)) ∧ Below w.heap.size w w' := by
  have e1 : IntKind.u64.wrap (t.tmod 2) = t % 2 := by rw [Int.tmod_eq_emod_of_nonneg h0, IntKind.wrap_u64]; omega
  have e2 : IntKind.i64.wrap (t % 2) = t % 2 := IntWalk.i64_in _ ⟨by omega, by omega⟩
  go_enter Try.func73, Try.ntmps73
  go_wp2
  go_ret
  refine ⟨ret_int ?_, (Below.refl _ _).alloc (Nat.le_refl _) _⟩
  first | rfl | (rw [e1, e2]) | (rw [e1]) | omega

/-- The next turn. -/
def nxt (t : Int) : Int := (t + 1) % 18446744073709551616
theorem nxt_in (t : Int) : 0 ≤ nxt t ∧ nxt t ≤ 18446744073709551615 := by unfold nxt; omega

theorem next_any (a b g r v f t : Int) (w : World) :
    Calls Try.prog 74 #[.agg (turC a b g r v f t)] w fun e w' => e = .returned (.agg (turC a b g r v f (nxt t))) ∧ Below w.heap.size w w' := by
  have e1 : IntKind.u64.wrap (t + 1) = nxt t := by rw [IntKind.wrap_u64]; rfl
  go_enter Try.func74, Try.ntmps74
  go_wp2_with (with_reducible refine halt_end ?_)
  exact Halt.ret (results_row1 (p := 2) rfl _ _ (w.heap.size + 1) 95 (turC a b g r v f (nxt t)) _ rfl (blk_new2 w _ _ _) Try.underlying95 rfl size_tur) rfl ⟨rfl, ((Below.refl _ _).alloc (Nat.le_refl _) _).alloc (by simp) _⟩

/-- Some number would go back. -/
def BackS (g r v f g' r' v' f' : Int) : Prop := g' < g ∨ r' < r ∨ v' < v ∨ f' < f
instance (g r v f g' r' v' f' : Int) : Decidable (BackS g r v f g' r' v' f') := by unfold BackS; infer_instance

theorem back_any (a b g r v f a' b' g' r' v' f' : Int) (w : World) :
    Calls Try.prog 76 #[.agg (supC a b g r v f), .agg (supC a' b' g' r' v' f')] w fun e w' => e = .returned (.bool (decide (BackS g r v f g' r' v' f'))) ∧ Below w.heap.size w w' := by
  by_cases h0 : g' < g
  case pos =>
    have hyes : decide (BackS g r v f g' r' v' f') = true := decide_eq_true (Or.inl h0)
    rw [hyes]
    have e0 : decide (g' < g) = true := decide_eq_true h0
    go_enter Try.func76, Try.ntmps76
    go_wp2
    go_ret
    exact ⟨rfl, ((Below.refl _ _).alloc (Nat.le_refl _) _).alloc (by simp) _⟩
  have e0 : decide (g' < g) = false := decide_eq_false h0
  by_cases h1 : r' < r
  case pos =>
    have hyes : decide (BackS g r v f g' r' v' f') = true := decide_eq_true (Or.inr (Or.inl h1))
    rw [hyes]
    have e1 : decide (r' < r) = true := decide_eq_true h1
    go_enter Try.func76, Try.ntmps76
    go_wp2
    go_ret
    exact ⟨rfl, ((Below.refl _ _).alloc (Nat.le_refl _) _).alloc (by simp) _⟩
  have e1 : decide (r' < r) = false := decide_eq_false h1
  by_cases h2 : v' < v
  case pos =>
    have hyes : decide (BackS g r v f g' r' v' f') = true := decide_eq_true (Or.inr (Or.inr (Or.inl h2)))
    rw [hyes]
    have e2 : decide (v' < v) = true := decide_eq_true h2
    go_enter Try.func76, Try.ntmps76
    go_wp2
    go_ret
    exact ⟨rfl, ((Below.refl _ _).alloc (Nat.le_refl _) _).alloc (by simp) _⟩
  have e2 : decide (v' < v) = false := decide_eq_false h2
  by_cases h3 : f' < f
  case pos =>
    have hyes : decide (BackS g r v f g' r' v' f') = true := decide_eq_true (Or.inr (Or.inr (Or.inr h3)))
    rw [hyes]
    have e3 : decide (f' < f) = true := decide_eq_true h3
    go_enter Try.func76, Try.ntmps76
    go_wp2
    go_ret
    exact ⟨rfl, ((Below.refl _ _).alloc (Nat.le_refl _) _).alloc (by simp) _⟩
  have e3 : decide (f' < f) = false := decide_eq_false h3
  have hno : decide (BackS g r v f g' r' v' f') = false := decide_eq_false (fun h => by rcases h with h | h | h | h; exact h0 h; exact h1 h; exact h2 h; exact h3 h)
  rw [hno]
  go_enter Try.func76, Try.ntmps76
  go_wp2
  go_ret
  exact ⟨rfl, ((Below.refl _ _).alloc (Nat.le_refl _) _).alloc (by simp) _⟩

theorem area_in {a b g r : Int} (h : MayS a b g r) : 96 ≤ a * b ∧ a * b ≤ 1024 := by
  obtain ⟨h1, h2, h3, h4, _⟩ := h
  have e1 : (4 : Int) * 24 ≤ a * b := Int.mul_le_mul h1 h3 (by omega) (by omega)
  have e2 : a * b ≤ 16 * 64 := Int.mul_le_mul h2 h4 (by omega) (by omega)
  omega

theorem room_any {w : World} {X : Nat → Prop} {d n : Nat} {k : Dk} (hd : DiskM w X d n k) (a b g r v f : Int) (h : MayS a b g r) :
    Calls Try.prog 71 #[.pointer (some ⟨d, 0, none⟩), .agg (supC a b g r v f)] w fun e w' => e = .returned (.bool (decide (2 + a * b ≤ (n : Int)))) ∧ Below w.heap.size w w' := by
  have har := area_in h
  have e1 : IntKind.i64.wrap (a * b) = a * b := IntWalk.i64_in _ ⟨by omega, by omega⟩
  have e2 : IntKind.i64.wrap (2 + a * b) = 2 + a * b := IntWalk.i64_in _ ⟨by omega, by omega⟩
  have HD := Lib.hid (hd.below (w' := w.alloc (.cells (supC a b g r v f) 24)) ((Below.refl _ _).alloc (Nat.le_refl _) _) (fun b _ h => h))
  clear hd h har
  go_enter Try.func71, Try.ntmps71
  go_wp2
  go_quiet ((go_at_call 80; exact quiet_draw ((len_k (HD.out.drewN _)).mono (fun e w' ⟨h1, h2⟩ => ⟨h1, 0, h2⟩))))
  go_wp2
  go_ret
  exact ⟨rfl, below_drewN ((Below.refl _ _).alloc (Nat.le_refl _) _) _⟩

end Go.Proofs.Ytkmbbfdjdmkjpaa
