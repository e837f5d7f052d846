/- Package octet: numbers and raw bytes out of a Reader. -/
import Derived.Test.YtkmbbfdjdmkjpaaReader
namespace Go.Proofs.Ytkmbbfdjdmkjpaa
open Go.RowKit
set_option linter.unusedVariables false

/-- The number that bytes say, the highest first. -/
def numOf (l : List Int) : Int := l.foldl (fun x b => x * 256 + b) 0
theorem numOf_snoc (l : List Int) (b : Int) : numOf (l ++ [b]) = numOf l * 256 + b := by simp [numOf]
theorem numOf_bounds (l : List Int) (h : Bytes l) : 0 ≤ numOf l ∧ numOf l < ((256 ^ l.length : Nat) : Int) := by
  have key : ∀ k, k ≤ l.length → 0 ≤ numOf (l.take k) ∧ numOf (l.take k) < ((256 ^ k : Nat) : Int) := by
    intro k
    induction k with
    | zero => intro _; simp [numOf]
    | succ k ih =>
      intro hk
      have ih := ih (by omega)
      rw [take_snoc l k (by omega), numOf_snoc, Nat.pow_succ, Int.natCast_mul]
      have hb := h k
      generalize (256 ^ k : Nat) = m at ih ⊢
      omega
  have := key l.length (Nat.le_refl _)
  rwa [List.take_length] at this
theorem numOf_take (l : List Int) (h : Bytes l) (k : Nat) (hk : k ≤ l.length) (hk7 : k ≤ 7) : 0 ≤ numOf (l.take k) ∧ numOf (l.take k) < 72057594037927936 := by
  have := numOf_bounds (l.take k) (h.take k)
  rw [List.length_take, Nat.min_eq_left hk] at this
  have h2 : (256 ^ k : Nat) ≤ 256 ^ 7 := Nat.pow_le_pow_right (by omega) hk7
  have h3 : (256 ^ 7 : Nat) = 72057594037927936 := by decide
  generalize (256 ^ k : Nat) = m at *
  omega
theorem or_low (x b : Int) (h0 : 0 ≤ x) (h1 : x < 72057594037927936) (b0 : 0 ≤ b) (b1 : b ≤ 255) : bits .or .u64 (x * 256) b = x * 256 + b := by
  rw [u64_or _ _ (by omega) (by omega) (by omega) (by omega)]
  have e : (x * 256).toNat = x.toNat * 2 ^ 8 := by omega
  rw [e, Nat.mul_comm, ← Nat.two_pow_add_eq_or_of_lt (by omega)]
  omega

set_option maxHeartbeats 400000 in
theorem number_ok (w : World) (r g : Nat) (xs : List Int) (pos n : Nat) (h : Rd w r g xs pos 0) (hn : n ≤ xs.length - pos) (h8 : n ≤ 8) (hb : Bytes xs) :
    Calls Try.prog 118 #[.pointer (some ⟨r, 0, none⟩), .int .i64 n] w fun e w' =>
      e = .returned (.int .u64 (numOf ((xs.drop pos).take n))) ∧ Rd w' r g xs (pos + n) 0 ∧ Kept (fun b => b < w.heap.size ∧ b ≠ r) w w' := by
  have H := Lib.hid h
  have hl : ((xs.drop pos).take n).length = n := by simp; omega
  have hbt : Bytes ((xs.drop pos).take n) := by
    have : Bytes (xs.drop pos) := fun j => by have := hb (pos + j); simpa [List.getD, List.getElem?_drop] using this
    exact this.take n
  clear h hb
  go_enter Try.func118, Try.ntmps118
  go_wp2_with (go_at_call 122; refine (take_ok _ r g xs pos n H.out hn).mono ?_; rintro e w1 ⟨A, c, rfl, hr, hrd, hk⟩; have HR := Lib.hid hr; have HD := Lib.hid hrd; have HK := Lib.hid hk; clear hr hrd hk)
  generalize hys : (xs.drop pos).take n = ys at *
  have HYS := Lib.hid hys
  clear hys
  have HBT := Lib.hid hbt
  have HL := Lib.hid hl
  clear hbt hl
  go_loop [5, 12] (fun x i => ∃ k : Nat, k ≤ n ∧ i = .int .i64 k ∧ x = .int .u64 (numOf (ys.take k))) (fun _ i => n - (intOf i).toNat)
  case atStart => exact ⟨0, by omega, rfl, rfl⟩
  case round =>
    obtain ⟨k, hk, rfl, rfl⟩ := hrel
    by_cases hlt : k < n
    · obtain ⟨_, off, rfl, rfl, hc⟩ := HR.out.2 (by omega)
      have hcell := hc k hlt
      have hr : 0 ≤ ys.getD k 0 ∧ ys.getD k 0 ≤ 255 := HBT.out k
      have hv := numOf_take ys HBT.out k (by have := HL.out; omega) (by omega)
      have hs : numOf (ys.take (k + 1)) = numOf (ys.take k) * 256 + ys.getD k 0 := by rw [take_snoc ys k (by have := HL.out; omega), numOf_snoc]
      have ho := or_low (numOf (ys.take k)) (ys.getD k 0) hv.1 hv.2 hr.1 hr.2
      generalize numOf (ys.take k) = x at *
      generalize ys.getD k 0 = y at *
      have HS := Lib.hid hs
      have HO := Lib.hid ho
      clear hs ho hc
      go_wp2
      go_round
      case rel =>
        exact ⟨k + 1, by omega, by go_num, by rw [HO.out, HS.out]⟩
      case measure => (simp [intOf] <;> omega)
    · obtain rfl : k = n := by omega
      have ht := Lib.hid (List.take_of_length_le (l := ys) (i := k) (by have := HL.out; omega))
      go_wp2
      go_ret
      exact ⟨ret_int (by rw [ht.out, HYS.out]), HD.out, HK.out⟩

theorem number_short (w : World) (r g : Nat) (xs : List Int) (pos n : Nat) (h : Rd w r g xs pos 0) (hn : xs.length - pos < n) :
    Calls Try.prog 118 #[.pointer (some ⟨r, 0, none⟩), .int .i64 n] w fun e w' =>
      e = .returned (.int .u64 0) ∧ Rd w' r g xs pos 9 ∧ Kept (fun b => b < w.heap.size ∧ b ≠ r) w w' := by
  have H := Lib.hid h
  clear h
  go_enter Try.func118, Try.ntmps118
  go_wp2_with (go_at_call 122; refine (take_short _ r g xs pos n H.out hn).mono ?_; rintro e w1 ⟨rfl, hrd, hk⟩; have HD := Lib.hid hrd; have HK := Lib.hid hk; clear hrd hk)
  go_rounds 1
  go_ret
  exact ⟨rfl, HD.out, HK.out⟩



end Go.Proofs.Ytkmbbfdjdmkjpaa
