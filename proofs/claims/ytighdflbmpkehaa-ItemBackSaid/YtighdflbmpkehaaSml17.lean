/- What item.Expiry, Expired and Check, and the document's Expiry and Turn, answer of whatever arguments. -/
import Derived.Test.YtighdflbmpkehaaTxt17
namespace Go.Proofs.Ytighdflbmpkehaa
open Go.RowKit

def U32 (x : Int) : Prop := 0 ≤ x ∧ x ≤ 4294967295

/-- The expiry of a wish. -/
def expX (now wish : Int) : Int := if wish = 0 ∨ 2592000 < wish then wish else if 4294967295 < now + wish then 4294967295 else now + wish
/-- Whether it has come. -/
def expB (now x : Int) : Bool := decide (0 < x) && decide (x ≤ now)

theorem expiry_any (now wish : Int) (w : World) (hn : U32 now) (hw : U32 wish) :
    Calls Try.prog 11 #[.int .u32 now, .int .u32 wish] w fun e w' => e = .returned (.int .u32 (expX now wish)) ∧ w = w' := by
  obtain ⟨hn0, hn1⟩ := hn
  obtain ⟨hw0, hw1⟩ := hw
  have HE := Lib.hid (rfl : expX now wish = _)
  go_enter Try.func11, Try.ntmps11
  go_wp2
  all_goals (
    go_ret
    refine ⟨ret_int ?_, rfl⟩
    simp only [expX]
    repeat' split
    all_goals first | rfl | omega | (simp at *; omega))

theorem ref_expiry (now wish : Int) (w : World) (hn : U32 now) (hw : U32 wish) :
    Calls Try.prog 12 #[.int .u32 now, .int .u32 wish] w fun e w' => e = .returned (.int .u32 (expX now wish)) ∧ w = w' := by
  obtain ⟨hn0, hn1⟩ := hn
  obtain ⟨hw0, hw1⟩ := hw
  go_enter Try.func12, Try.ntmps12
  go_wp2
  all_goals (
    go_ret
    refine ⟨ret_int ?_, rfl⟩
    simp only [expX]
    repeat' split
    all_goals first | rfl | omega | (simp at *; omega))

theorem expired_any (now x : Int) (w : World) (hn : U32 now) (hx : U32 x) :
    Calls Try.prog 13 #[.int .u32 now, .int .u32 x] w fun e w' => e = .returned (.bool (expB now x)) ∧ w = w' := by
  obtain ⟨hn0, hn1⟩ := hn
  obtain ⟨hx0, hx1⟩ := hx
  go_enter Try.func13, Try.ntmps13
  go_wp2
  all_goals (
    go_ret
    refine ⟨ret_bool ?_, rfl⟩
    first | (simp [expB, *]; done) | (simp [expB, *]; intros; omega))

/-- Whether an item may have that key and that value, by their lengths. -/
def chkE (n m : Nat) : Int := if n < 1 ∨ 250 < n then 2 else if 512 < m then 3 else 0

theorem check_any (A A' : Option Addr) (n c m c' : Nat) (w : World) :
    Calls Try.prog 21 #[.slice A n c, .slice A' m c'] w fun e w' => e = .returned (.int .i64 (chkE n m)) ∧ w = w' := by
  go_enter Try.func21, Try.ntmps21
  go_wp2
  all_goals (
    go_ret
    refine ⟨ret_int ?_, rfl⟩
    simp only [chkE]
    repeat' split
    all_goals first | rfl | omega)

/-- A number, turned. -/
def turnN (n b : Nat) (down : Bool) : Nat := if down = true then n - b else (n + b) % 18446744073709551616

theorem ref_turn (n b : Nat) (down : Bool) (w : World) (hn : n ≤ 18446744073709551615) (hb : b ≤ 18446744073709551615) :
    Calls Try.prog 19 #[.int .u64 n, .int .u64 b, .bool down] w fun e w' => e = .returned (.int .u64 (turnN n b down)) ∧ w = w' := by
  cases down
  · by_cases h : n + b ≤ 18446744073709551615
    · go_enter Try.func19, Try.ntmps19
      go_wp2
      go_ret
      refine ⟨ret_int ?_, rfl⟩
      simp [turnN]
      try rw [IntKind.wrap_u64]
      omega
    · go_enter Try.func19, Try.ntmps19
      go_wp2
      go_ret
      refine ⟨ret_int ?_, rfl⟩
      simp [turnN]
      try rw [IntKind.wrap_u64]
      try omega
  · go_enter Try.func19, Try.ntmps19
    go_wp2
    all_goals (
      go_ret
      refine ⟨ret_int ?_, rfl⟩
      simp [turnN]
      try omega)
theorem turnN_le (n b : Nat) (down : Bool) (hn : n ≤ 18446744073709551615) : turnN n b down ≤ 18446744073709551615 := by
  unfold turnN
  split <;> omega
end Go.Proofs.Ytighdflbmpkehaa
