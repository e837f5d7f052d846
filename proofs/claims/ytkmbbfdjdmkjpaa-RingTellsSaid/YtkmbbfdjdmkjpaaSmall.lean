/- Package ring: how many there may be; what a segment may be; segments compared. -/
import Derived.Test.YtkmbbfdjdmkjpaaSegs
import Derived.Lib.Hide
namespace Go.Proofs.Ytkmbbfdjdmkjpaa
open Go.RowKit
set_option linter.unusedVariables false
set_option linter.unusedSimpArgs false

theorem eql_seg (a b c a' b' c' : Int) (w : World) : (binOp .eql 78 (.agg #[.int .i64 a, .int .u64 b, .int .i64 c]) (.agg #[.int .i64 a', .int .u64 b', .int .i64 c'])).run Try.prog w = .ok (.bool (decide ((a, b, c) = (a', b', c')))) w := by
  by_cases h0 : a = a'
  case neg =>
    have e0 : (a == a') = false := by simpa using h0
    rw [show decide ((a, b, c) = (a', b', c')) = false from decide_eq_false (fun h => h0 (by simp only [Prod.mk.injEq] at h; first | exact h.1 | exact h.2.1 | exact h.2.2))]
    go_simp
  subst h0
  by_cases h1 : b = b'
  case neg =>
    have e1 : (b == b') = false := by simpa using h1
    rw [show decide ((a, b, c) = (a, b', c')) = false from decide_eq_false (fun h => h1 (by simp only [Prod.mk.injEq] at h; first | exact h.1 | exact h.2.1 | exact h.2.2))]
    go_simp
  subst h1
  by_cases h2 : c = c'
  case neg =>
    have e2 : (c == c') = false := by simpa using h2
    rw [show decide ((a, b, c) = (a, b, c')) = false from decide_eq_false (fun h => h2 (by simp only [Prod.mk.injEq] at h; first | exact h.1 | exact h.2.1 | exact h.2.2))]
    go_simp
  subst h2
  rw [show decide ((a, b, c) = (a, b, c)) = true from decide_eq_true rfl]
  go_simp
theorem neq_seg (a b c a' b' c' : Int) (w : World) : (binOp .neq 78 (.agg #[.int .i64 a, .int .u64 b, .int .i64 c]) (.agg #[.int .i64 a', .int .u64 b', .int .i64 c'])).run Try.prog w = .ok (.bool (!decide ((a, b, c) = (a', b', c')))) w := by
  by_cases h0 : a = a'
  case neg =>
    have e0 : (a == a') = false := by simpa using h0
    rw [show decide ((a, b, c) = (a', b', c')) = false from decide_eq_false (fun h => h0 (by simp only [Prod.mk.injEq] at h; first | exact h.1 | exact h.2.1 | exact h.2.2))]
    go_simp
  subst h0
  by_cases h1 : b = b'
  case neg =>
    have e1 : (b == b') = false := by simpa using h1
    rw [show decide ((a, b, c) = (a, b', c')) = false from decide_eq_false (fun h => h1 (by simp only [Prod.mk.injEq] at h; first | exact h.1 | exact h.2.1 | exact h.2.2))]
    go_simp
  subst h1
  by_cases h2 : c = c'
  case neg =>
    have e2 : (c == c') = false := by simpa using h2
    rw [show decide ((a, b, c) = (a, b, c')) = false from decide_eq_false (fun h => h2 (by simp only [Prod.mk.injEq] at h; first | exact h.1 | exact h.2.1 | exact h.2.2))]
    go_simp
  subst h2
  rw [show decide ((a, b, c) = (a, b, c)) = true from decide_eq_true rfl]
  go_simp

def SizedR (n sec : Int) : Prop := 4 ≤ n ∧ n ≤ 16 ∧ 24 ≤ sec ∧ sec ≤ 64
instance (n sec : Int) : Decidable (SizedR n sec) := by unfold SizedR; infer_instance
theorem sized_any (n sec : Int) (w : World) : Calls Try.prog 88 #[.int .i64 n, .int .i64 sec] w fun e w' => e = .returned (.bool (decide (SizedR n sec))) ∧ w' = w := by
  by_cases h0 : (4 : Int) ≤ n
  case neg =>
    have e : decide (SizedR n sec) = false := decide_eq_false (fun h => h0 h.1)
    have d0 : decide ((4 : Int) ≤ n) = false := decide_eq_false h0
    rw [e]
    go_enter Try.func88, Try.ntmps88
    go_wp2
    go_ret
    exact ⟨rfl, rfl⟩
  have d0 : decide ((4 : Int) ≤ n) = true := decide_eq_true h0
  by_cases h1 : n ≤ 16
  case neg =>
    have e : decide (SizedR n sec) = false := decide_eq_false (fun h => h1 h.2.1)
    have d1 : decide (n ≤ 16) = false := decide_eq_false h1
    rw [e]
    go_enter Try.func88, Try.ntmps88
    go_wp2
    go_ret
    exact ⟨rfl, rfl⟩
  have d1 : decide (n ≤ 16) = true := decide_eq_true h1
  by_cases h2 : (24 : Int) ≤ sec
  case neg =>
    have e : decide (SizedR n sec) = false := decide_eq_false (fun h => h2 h.2.2.1)
    have d2 : decide ((24 : Int) ≤ sec) = false := decide_eq_false h2
    rw [e]
    go_enter Try.func88, Try.ntmps88
    go_wp2
    go_ret
    exact ⟨rfl, rfl⟩
  have d2 : decide ((24 : Int) ≤ sec) = true := decide_eq_true h2
  have e : decide (SizedR n sec) = decide (sec ≤ 64) := by
    by_cases h3 : sec ≤ 64
    · rw [decide_eq_true h3]; exact decide_eq_true ⟨h0, h1, h2, h3⟩
    · rw [decide_eq_false h3]; exact decide_eq_false (fun h => h3 h.2.2.2)
  rw [e]
  go_enter Try.func88, Try.ntmps88
  go_wp2
  go_ret
  exact ⟨rfl, rfl⟩

/-- What a segment may be, whatever stands beside it. -/
def MayG (s : Seg) (sec : Int) : Prop := if s.1 = 0 then s.2.1 = 0 ∧ s.2.2 = 0 else (s.1 = 1 ∨ s.1 = 2) ∧ 0 < s.2.1 ∧ 1 ≤ s.2.2 ∧ s.2.2 ≤ sec
instance (s : Seg) (sec : Int) : Decidable (MayG s sec) := by unfold MayG; infer_instance
set_option maxHeartbeats 1000000 in
theorem segmay_any (s : Seg) (sec : Int) (w : World) : Calls Try.prog 89 #[.agg (segC s).toArray, .int .i64 sec] w fun e w' => e = .returned (.bool (decide (MayG s sec))) ∧ Below w.heap.size w w' := by
  obtain ⟨st, g, u⟩ := s
  have hb := (Below.refl w.heap.size w).alloc (Nat.le_refl _) (.cells (segC (st, g, u)).toArray 78)
  have HB := Lib.hid hb
  clear hb
  by_cases h0 : st = 0
  · subst h0
    have e : decide (MayG (0, g, u) sec) = decide (((0 : Int), g, u) = (0, 0, 0)) := by
      unfold MayG
      simp [Prod.mk.injEq]
    rw [e]
    have heq := eql_seg 0 g u 0 0 0
    generalize decide (((0 : Int), g, u) = (0, 0, 0)) = r at *
    go_enter Try.func89, Try.ntmps89
    go_wp2
    go_ret
    exact ⟨rfl, HB.out⟩
  have d0 : (st == 0) = false := by simpa using h0
  by_cases hs : st = 1 ∨ st = 2
  case neg =>
    have e : decide (MayG (st, g, u) sec) = false := decide_eq_false (fun h => by unfold MayG at h; rw [if_neg h0] at h; exact hs h.1)
    rw [e]
    have d1 : (st == 1) = false := by simp; exact fun h => hs (.inl h)
    have d2 : (st == 2) = false := by simp; exact fun h => hs (.inr h)
    go_enter Try.func89, Try.ntmps89
    go_wp2
    go_ret
    exact ⟨rfl, HB.out⟩
  have e0 : MayG (st, g, u) sec ↔ 0 < g ∧ 1 ≤ u ∧ u ≤ sec := by
    unfold MayG
    rw [if_neg h0]
    exact ⟨fun h => h.2, fun h => ⟨hs, h⟩⟩
  have E0 := Lib.hid e0
  clear e0
  have go1 : ∀ st : Int, st = 1 ∨ st = 2 → Calls Try.prog 89 #[.agg #[.int .i64 st, .int .u64 g, .int .i64 u], .int .i64 sec] w fun e w' => e = .returned (.bool (decide (0 < g) && decide (1 ≤ u) && decide (u ≤ sec))) ∧ Below w.heap.size w w' := by
    intro st hs
    have HB := Lib.hid ((Below.refl w.heap.size w).alloc (Nat.le_refl _) (.cells (segC (st, g, u)).toArray 78))
    cases d1 : decide (0 < g)
    · rcases hs with rfl | rfl
      · go_enter Try.func89, Try.ntmps89
        go_wp2
        go_ret
        exact ⟨rfl, HB.out⟩
      · go_enter Try.func89, Try.ntmps89
        go_wp2
        go_ret
        exact ⟨rfl, HB.out⟩
    · cases d2 : decide (1 ≤ u)
      · rcases hs with rfl | rfl
        · go_enter Try.func89, Try.ntmps89
          go_wp2
          go_ret
          exact ⟨rfl, HB.out⟩
        · go_enter Try.func89, Try.ntmps89
          go_wp2
          go_ret
          exact ⟨rfl, HB.out⟩
      · rcases hs with rfl | rfl
        · go_enter Try.func89, Try.ntmps89
          go_wp2
          go_ret
          exact ⟨rfl, HB.out⟩
        · go_enter Try.func89, Try.ntmps89
          go_wp2
          go_ret
          exact ⟨rfl, HB.out⟩
  have e : decide (MayG (st, g, u) sec) = (decide (0 < g) && decide (1 ≤ u) && decide (u ≤ sec)) := by
    rw [show decide (MayG (st, g, u) sec) = decide (0 < g ∧ 1 ≤ u ∧ u ≤ sec) from decide_eq_decide.2 E0.out]
    simp [Bool.decide_and, Bool.and_assoc]
  rw [e]
  exact go1 st hs

end Go.Proofs.Ytkmbbfdjdmkjpaa
