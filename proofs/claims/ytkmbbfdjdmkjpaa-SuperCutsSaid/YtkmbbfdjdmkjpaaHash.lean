/- What package hash and the document's answer for it compute over bytes: FNV-1a, as a fold over the list of bytes. -/
import Derived.Test.YtkmbbfdjdmkjpaaBase
namespace Go.Proofs.Ytkmbbfdjdmkjpaa
open Go.RowKit

def fnvStep (h c : Int) : Int := IntKind.u64.wrap (bits .xor .u64 h c * 1099511628211)
def fnv (h : Int) (l : List Int) : Int := l.foldl fnvStep h

theorem fnv_snoc (h : Int) (l : List Int) (c : Int) : fnv h (l ++ [c]) = fnvStep (fnv h l) c := by simp [fnv]
theorem fnv_append (h : Int) (a b : List Int) : fnv h (a ++ b) = fnv (fnv h a) b := by simp [fnv]
theorem fnv_step (h : Int) (xs : List Int) (k : Nat) (hk : k < xs.length) :
    fnv h (xs.take (k + 1)) = IntKind.u64.wrap (bits .xor .u64 (fnv h (xs.take k)) (xs[k]?.getD 0) * 1099511628211) := by
  rw [take_snoc xs k hk, fnv_snoc]; rfl

set_option maxHeartbeats 400000 in
theorem turn_bytes (h : Int) (A : Option Addr) (n cap : Nat) (xs : List Int) (B : Nat) (w : World) (hx : Row .u8 w B A n xs) (hb : Bytes xs) (hn : n ≤ 9223372036854775807) :
    Calls Try.prog 116 #[.int .u64 h, .slice A n cap] w fun e w' => e = .returned (.int .u64 (fnv h xs)) ∧ w = w' := by
  have hlen := hx.1
  go_enter Try.func116, Try.ntmps116
  go_wp2
  go_loop [0, 8] (fun v i => ∃ k : Nat, k ≤ n ∧ i = .int .i64 k ∧ v = .int .u64 (fnv h (xs.take k))) (fun _ i => n - (intOf i).toNat)
  case atStart => exact ⟨0, by omega, rfl, rfl⟩
  case round =>
    obtain ⟨k, hk, rfl, rfl⟩ := hrel
    by_cases hlt : k < n
    · obtain ⟨b, off, rfl, _, hc⟩ := hx.2 (by omega)
      have hcell := hc k hlt
      have hr : 0 ≤ xs[k]?.getD 0 ∧ xs[k]?.getD 0 ≤ 255 := by simpa [List.getD] using hb k
      have hs := Lib.hid (fnv_step h xs k (by omega))
      clear hc hb hx hlen
      go_wp2
      go_round
      case rel => exact ⟨k + 1, by omega, by go_num, by rw [hs.out]⟩
      case measure => simp [intOf]; omega
    · clear hx hb
      go_wp2
      go_ret
      exact ⟨ret_int (by rw [List.take_of_length_le (by omega)]), rfl⟩

set_option maxHeartbeats 400000 in
theorem ref_more (h : Int) (A : Option Addr) (n cap : Nat) (xs : List Int) (B : Nat) (w : World) (hx : Row .u8 w B A n xs) (hb : Bytes xs) (hn : n ≤ 9223372036854775807) :
    Calls Try.prog 103 #[.int .u64 h, .slice A n cap] w fun e w' => e = .returned (.int .u64 (fnv h xs)) ∧ w = w' := by
  have hlen := hx.1
  go_enter Try.func103, Try.ntmps103
  go_wp2
  go_loop [0, 5] (fun v i => ∃ k : Nat, k ≤ n ∧ i = .int .i64 k ∧ v = .int .u64 (fnv h (xs.take k))) (fun _ i => n - (intOf i).toNat)
  case atStart => exact ⟨0, by omega, rfl, rfl⟩
  case round =>
    obtain ⟨k, hk, rfl, rfl⟩ := hrel
    by_cases hlt : k < n
    · obtain ⟨b, off, rfl, _, hc⟩ := hx.2 (by omega)
      have hcell := hc k hlt
      have hr : 0 ≤ xs[k]?.getD 0 ∧ xs[k]?.getD 0 ≤ 255 := by simpa [List.getD] using hb k
      have hs := Lib.hid (fnv_step h xs k (by omega))
      clear hc hb hx hlen
      go_wp2
      go_round
      case rel => exact ⟨k + 1, by omega, by go_num, by rw [hs.out]⟩
      case measure => simp [intOf]; omega
    · clear hx hb
      go_wp2
      go_ret
      exact ⟨ret_int (by rw [List.take_of_length_le (by omega)]), rfl⟩

theorem fnv_nums (h : Int) (s : ByteArray) (k : Nat) (hk : k < s.size) :
    fnv h ((nums s).take (k + 1)) = IntKind.u64.wrap (bits .xor .u64 (fnv h ((nums s).take k)) (s[k].toNat : Int) * 1099511628211) := by
  rw [take_snoc _ k (by rw [nums_length]; exact hk), fnv_snoc, nums_get s k hk]; rfl


/-- The hash at first. -/
def start : Int := 14695981039346656037

theorem hash_any (A : Option Addr) (n cap : Nat) (xs : List Int) (B : Nat) (w : World) (hx : Row .u8 w B A n xs) (hb : Bytes xs) (hn : n ≤ 9223372036854775807) :
    Calls Try.prog 102 #[.slice A n cap] w fun e w' => e = .returned (.int .u64 (fnv start xs)) ∧ w = w' := by
  go_enter Try.func102, Try.ntmps102
  go_wp2_with (go_at_call 116; refine (turn_bytes _ A n cap xs B _ hx hb hn).mono ?_; rintro e w' ⟨rfl, rfl⟩)
  go_ret
  exact ⟨rfl, rfl⟩


theorem ref_hash (A : Option Addr) (n cap : Nat) (xs : List Int) (B : Nat) (w : World) (hx : Row .u8 w B A n xs) (hb : Bytes xs) (hn : n ≤ 9223372036854775807) :
    Calls Try.prog 68 #[.slice A n cap] w fun e w' => e = .returned (.int .u64 (fnv start xs)) ∧ w = w' := by
  go_enter Try.func68, Try.ntmps68
  go_wp2_with (go_at_call 103; refine (ref_more _ A n cap xs B _ hx hb hn).mono ?_; rintro e w' ⟨rfl, rfl⟩)
  go_ret
  exact ⟨rfl, rfl⟩

theorem fnv_bounds (h : Int) (l : List Int) (h0 : 0 ≤ h ∧ h < 18446744073709551616) : 0 ≤ fnv h l ∧ fnv h l < 18446744073709551616 := by
  induction l generalizing h with
  | nil => exact h0
  | cons c l ih =>
    show 0 ≤ fnv (fnvStep h c) l ∧ fnv (fnvStep h c) l < 18446744073709551616
    refine ih _ ?_
    unfold fnvStep
    rw [IntKind.wrap_u64]
    omega

end Go.Proofs.Ytkmbbfdjdmkjpaa
