/- The document's answers of layer 6: Right, Sectors. -/
import Derived.Test.YtehldhdpeefljaaHead
namespace Go.Proofs.Ytehldhdpeefljaa
open Go.RowKit
set_option linter.unusedVariables false

theorem rright_yes (k f x s : Int) (A A' : Option Addr) (n c n' c' : Nat) (w : World) (h : May k f x s n n') :
    Calls Try.prog 18 #[.agg #[.int .i64 k, .int .u32 f, .int .u32 x, .int .u64 s, .slice A n c, .slice A' n' c']] w fun e w' => e = .returned (.bool true) ∧ Below w.heap.size w w' := by
  obtain ⟨h1, h2, h3, h4, h5⟩ := h
  have d1 : (s == 0) = false := by simpa using h1
  have d2 : decide ((n : Int) < 1) = false := by simp; omega
  have d3 : decide ((250 : Int) < n) = false := by simp; omega
  have d4 : decide ((512 : Int) < n') = false := by simp; omega
  rcases h5 with rfl | ⟨rfl, rfl, rfl, rfl⟩
  · go_enter Try.func18, Try.ntmps18
    go_wp2
    go_ret
    exact ⟨rfl, (Below.refl _ _).alloc (Nat.le_refl _) _⟩
  · go_enter Try.func18, Try.ntmps18
    go_wp2
    go_ret
    exact ⟨rfl, (Below.refl _ _).alloc (Nat.le_refl _) _⟩

theorem rright_no (k f x s : Int) (A A' : Option Addr) (n c m c' : Nat) (w : World) (h : ¬ May k f x s n m) :
    Calls Try.prog 18 #[.agg #[.int .i64 k, .int .u32 f, .int .u32 x, .int .u64 s, .slice A n c, .slice A' m c']] w fun e w' => e = .returned (.bool false) ∧ Below w.heap.size w w' := by
  unfold May at h
  by_cases h1 : s = 0
  · subst h1
    clear h
    go_enter Try.func18, Try.ntmps18
    go_wp2
    go_ret
    exact ⟨rfl, (Below.refl _ _).alloc (Nat.le_refl _) _⟩
  have d1 : (s == 0) = false := by simpa using h1
  by_cases h2 : 1 ≤ n
  case neg =>
    have d2 : decide ((n : Int) < 1) = true := by simp; omega
    clear h h2
    go_enter Try.func18, Try.ntmps18
    go_wp2
    go_ret
    exact ⟨rfl, (Below.refl _ _).alloc (Nat.le_refl _) _⟩
  have d2 : decide ((n : Int) < 1) = false := by simp; omega
  by_cases h3 : n ≤ 250
  case neg =>
    have d3 : decide ((250 : Int) < n) = true := by simp; omega
    clear h h3
    go_enter Try.func18, Try.ntmps18
    go_wp2
    go_ret
    exact ⟨rfl, (Below.refl _ _).alloc (Nat.le_refl _) _⟩
  have d3 : decide ((250 : Int) < n) = false := by simp; omega
  by_cases h4 : m ≤ 512
  case neg =>
    have d4 : decide ((512 : Int) < m) = true := by simp; omega
    clear h h4
    go_enter Try.func18, Try.ntmps18
    go_wp2
    go_ret
    exact ⟨rfl, (Below.refl _ _).alloc (Nat.le_refl _) _⟩
  have d4 : decide ((512 : Int) < m) = false := by simp; omega
  have h5 : k ≠ 1 := fun e => h ⟨h1, h2, h3, h4, .inl e⟩
  have d5 : (k == 1) = false := by simpa using h5
  by_cases h6 : k = 2
  case neg =>
    have d6 : (k == 2) = false := by simpa using h6
    clear h h6 h5 h1
    go_enter Try.func18, Try.ntmps18
    go_wp2
    go_ret
    exact ⟨rfl, (Below.refl _ _).alloc (Nat.le_refl _) _⟩
  subst h6
  clear d5 h5
  by_cases h7 : f = 0
  case neg =>
    have d7 : (f == 0) = false := by simpa using h7
    clear h h7 h1
    go_enter Try.func18, Try.ntmps18
    go_wp2
    go_ret
    exact ⟨rfl, (Below.refl _ _).alloc (Nat.le_refl _) _⟩
  subst h7
  by_cases h8 : x = 0
  case neg =>
    have d8 : (x == 0) = false := by simpa using h8
    clear h h8 h1
    go_enter Try.func18, Try.ntmps18
    go_wp2
    go_ret
    exact ⟨rfl, (Below.refl _ _).alloc (Nat.le_refl _) _⟩
  subst h8
  have h9 : m ≠ 0 := fun e => h ⟨h1, h2, h3, h4, .inr ⟨rfl, rfl, rfl, e⟩⟩
  have d9 : ((m : Int) == 0) = false := by simp; omega
  clear h h9 h1
  go_enter Try.func18, Try.ntmps18
  go_wp2
  go_ret
  exact ⟨rfl, (Below.refl _ _).alloc (Nat.le_refl _) _⟩

theorem rsectors_any (n : Nat) (w : World) (hn : n ≤ 1000) : Calls Try.prog 21 #[.int .i64 n] w fun e w' => e = .returned (.int .i64 (((n + 47) / 48 : Nat) : Int)) ∧ w = w' := by
  go_enter Try.func21, Try.ntmps21
  go_wp2
  go_ret
  exact ⟨ret_int (by omega), rfl⟩

end Go.Proofs.Ytehldhdpeefljaa
