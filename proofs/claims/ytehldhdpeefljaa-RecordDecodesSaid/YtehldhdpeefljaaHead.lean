/- Package record: a head: headOf, may, size. -/
import Derived.Test.YtehldhdpeefljaaWalk
namespace Go.Proofs.Ytehldhdpeefljaa
open Go.RowKit
set_option linter.unusedVariables false

theorem size_head : (Try.prog.info? 51).map (·.size) = some 6 := by kernel_rfl
theorem size_rec : (Try.prog.info? 26).map (·.size) = some 6 := by kernel_rfl

abbrev headC (k f x s n m : Int) : Array Value := #[.int .i64 k, .int .u32 f, .int .u32 x, .int .u64 s, .int .i64 n, .int .i64 m]
abbrev recC (k f x s : Int) (A : Option Addr) (n c : Nat) (A' : Option Addr) (n' c' : Nat) : Array Value := #[.int .i64 k, .int .u32 f, .int .u32 x, .int .u64 s, .slice A n c, .slice A' n' c']

theorem one_head (k f x s n m : Int) : (headC k f x s n m).all (·.oneCell') = true := by simp [headC, Value.oneCell']
theorem one_rec (k f x s : Int) (A : Option Addr) (n c : Nat) (A' : Option Addr) (n' c' : Nat) : (recC k f x s A n c A' n' c').all (·.oneCell') = true := by simp [recC, Value.oneCell']

theorem headOf_any (k f x s : Int) (A A' : Option Addr) (n c n' c' : Nat) (w : World) :
    Calls Try.prog 29 #[.agg #[.int .i64 k, .int .u32 f, .int .u32 x, .int .u64 s, .slice A n c, .slice A' n' c']] w fun e w' =>
      e = .returned (.agg #[.int .i64 k, .int .u32 f, .int .u32 x, .int .u64 s, .int .i64 n, .int .i64 n']) ∧ Below w.heap.size w w' := by
  go_enter Try.func29, Try.ntmps29
  go_wp2_with (with_reducible refine halt_end ?_)
  have hg : Blk ((w.alloc (.cells (recC k f x s A n c A' n' c') 26)).alloc (.cells (headC k f x s n n') 51)) (w.heap.size + 1) 51 (headC k f x s n n') := by
    exact blk_new2 w _ _ _
  exact Halt.ret (results_row1 rfl _ _ (w.heap.size + 1) 51 (headC k f x s n n') _ rfl hg Try.underlying51 rfl size_head) rfl
    ⟨rfl, ((Below.refl _ _).alloc (Nat.le_refl _) _).alloc (by simp) _⟩

/-- A record of that head may be. -/
def May (k f x s : Int) (n m : Nat) : Prop := s ≠ 0 ∧ 1 ≤ n ∧ n ≤ 250 ∧ m ≤ 512 ∧ (k = 1 ∨ k = 2 ∧ f = 0 ∧ x = 0 ∧ m = 0)
instance (k f x s : Int) (n m : Nat) : Decidable (May k f x s n m) := by unfold May; infer_instance

theorem may_yes (k f x s : Int) (n m : Nat) (w : World) (h : May k f x s n m) :
    Calls Try.prog 30 #[.agg #[.int .i64 k, .int .u32 f, .int .u32 x, .int .u64 s, .int .i64 n, .int .i64 m]] w fun e w' => e = .returned (.bool true) ∧ Below w.heap.size w w' := by
  obtain ⟨h1, h2, h3, h4, h5⟩ := h
  have d1 : (s == 0) = false := by simpa using h1
  have d2 : decide ((n : Int) < 1) = false := by simp; omega
  have d3 : decide ((250 : Int) < n) = false := by simp; omega
  have d4 : decide ((512 : Int) < m) = false := by simp; omega
  rcases h5 with rfl | ⟨rfl, rfl, rfl, rfl⟩
  · go_enter Try.func30, Try.ntmps30
    go_wp2
    go_ret
    exact ⟨rfl, (Below.refl _ _).alloc (Nat.le_refl _) _⟩
  · go_enter Try.func30, Try.ntmps30
    go_wp2
    go_ret
    exact ⟨rfl, (Below.refl _ _).alloc (Nat.le_refl _) _⟩

theorem may_no (k f x s : Int) (n m : Nat) (w : World) (h : ¬ May k f x s n m) :
    Calls Try.prog 30 #[.agg #[.int .i64 k, .int .u32 f, .int .u32 x, .int .u64 s, .int .i64 n, .int .i64 m]] w fun e w' => e = .returned (.bool false) ∧ Below w.heap.size w w' := by
  unfold May at h
  by_cases h1 : s = 0
  · subst h1
    clear h
    go_enter Try.func30, Try.ntmps30
    go_wp2
    go_ret
    exact ⟨rfl, (Below.refl _ _).alloc (Nat.le_refl _) _⟩
  have d1 : (s == 0) = false := by simpa using h1
  by_cases h2 : 1 ≤ n
  case neg =>
    have d2 : decide ((n : Int) < 1) = true := by simp; omega
    clear h h2
    go_enter Try.func30, Try.ntmps30
    go_wp2
    go_ret
    exact ⟨rfl, (Below.refl _ _).alloc (Nat.le_refl _) _⟩
  have d2 : decide ((n : Int) < 1) = false := by simp; omega
  by_cases h3 : n ≤ 250
  case neg =>
    have d3 : decide ((250 : Int) < n) = true := by simp; omega
    clear h h3
    go_enter Try.func30, Try.ntmps30
    go_wp2
    go_ret
    exact ⟨rfl, (Below.refl _ _).alloc (Nat.le_refl _) _⟩
  have d3 : decide ((250 : Int) < n) = false := by simp; omega
  by_cases h4 : m ≤ 512
  case neg =>
    have d4 : decide ((512 : Int) < m) = true := by simp; omega
    clear h h4
    go_enter Try.func30, Try.ntmps30
    go_wp2
    go_ret
    exact ⟨rfl, (Below.refl _ _).alloc (Nat.le_refl _) _⟩
  have d4 : decide ((512 : Int) < m) = false := by simp; omega
  have h5 : k ≠ 1 := fun e => h ⟨h1, h2, h3, h4, .inl e⟩
  have d5 : (k == 1) = false := by simpa using h5
  by_cases h6 : k = 2
  case neg =>
    have d6 : (k == 2) = false := by simpa using h6
    clear h h6 h5 h1
    go_enter Try.func30, Try.ntmps30
    go_wp2
    go_ret
    exact ⟨rfl, (Below.refl _ _).alloc (Nat.le_refl _) _⟩
  subst h6
  clear d5 h5
  by_cases h7 : f = 0
  case neg =>
    have d7 : (f == 0) = false := by simpa using h7
    clear h h7 h1
    go_enter Try.func30, Try.ntmps30
    go_wp2
    go_ret
    exact ⟨rfl, (Below.refl _ _).alloc (Nat.le_refl _) _⟩
  subst h7
  by_cases h8 : x = 0
  case neg =>
    have d8 : (x == 0) = false := by simpa using h8
    clear h h8 h1
    go_enter Try.func30, Try.ntmps30
    go_wp2
    go_ret
    exact ⟨rfl, (Below.refl _ _).alloc (Nat.le_refl _) _⟩
  subst h8
  have h9 : m ≠ 0 := fun e => h ⟨h1, h2, h3, h4, .inr ⟨rfl, rfl, rfl, e⟩⟩
  have d9 : ((m : Int) == 0) = false := by simp; omega
  clear h h9 h1
  go_enter Try.func30, Try.ntmps30
  go_wp2
  go_ret
  exact ⟨rfl, (Below.refl _ _).alloc (Nat.le_refl _) _⟩

theorem size_any (k f x s : Int) (n m : Nat) (w : World) (hn : n ≤ 250) (hm : m ≤ 512) :
    Calls Try.prog 32 #[.agg #[.int .i64 k, .int .u32 f, .int .u32 x, .int .u64 s, .int .i64 n, .int .i64 m]] w fun e w' => e = .returned (.int .i64 ((21 + n + m : Nat) : Int)) ∧ Below w.heap.size w w' := by
  go_enter Try.func32, Try.ntmps32
  go_wp2
  go_ret
  exact ⟨ret_int (by omega), (Below.refl _ _).alloc (Nat.le_refl _) _⟩

end Go.Proofs.Ytehldhdpeefljaa
