/- What item.Turn and Join answer of whatever arguments. -/
import Derived.Test.YtighdflbmpkehaaRef17
import Derived.Lib.AppendZeros
namespace Go.Proofs.Ytighdflbmpkehaa
open Go.RowKit

/-- What Turn tells: nothing and ErrNumber, or the number's text and the number. -/
def TurnT (xs : List Int) (b : Nat) (down : Bool) (w : World) (e : Ending) (w' : World) : Prop :=
  match numT xs with
  | none => e = .returned (.tuple #[.slice none 0 0, .int .u64 0, .int .i64 270]) ∧ Below w.heap.size w w'
  | some n => ∃ g at_, e = .returned (.tuple #[.slice (some ⟨g, at_, none⟩) (txt (turnN n b down)).length (txt (turnN n b down)).length, .int .u64 (turnN n b down), .int .i64 0]) ∧
      w.heap.size ≤ g ∧ RowI .u8 w' (fun c => c = g ∧ c < w'.heap.size) (some ⟨g, at_, none⟩) (txt (turnN n b down)).length (txt (turnN n b down)) ∧ Below w.heap.size w w'

set_option maxHeartbeats 1000000 in
set_option maxRecDepth 1000000 in
theorem turn_any (A : Option Addr) (n c : Nat) (xs : List Int) (S : Nat → Prop) (b : Nat) (down : Bool) (w : World) (hx : RowI .u8 w S A n xs) (hS : ∀ b, S b → b < w.heap.size) (hb : Bytes xs) (hbn : b ≤ 18446744073709551615) :
    Calls Try.prog 18 #[.slice A n c, .int .u64 b, .bool down] w (TurnT xs b down w) := by
  rcases hN : numT xs with _ | m
  · have HV := Lib.hid (numV_none hN)
    go_enter Try.func18, Try.ntmps18
    go_wp2_with fail
    refine (number_any A n c xs S w hx hS hb).mono ?_
    rintro e w1 ⟨rfl, hb1⟩
    rw [HV.out.1, HV.out.2]
    go_wp2
    go_ret3
    show TurnT xs b down w _ w1
    rw [TurnT, hN]
    exact ⟨rfl, hb1⟩
  · have HV := Lib.hid (numV_some hN)
    have hm := numT_le hN
    have HL := Lib.hid (turnN_le m b down hm)
    have HT : ∀ w1, Below w.heap.size w w1 → ∀ e w2, TxtTold (turnN m b down) w1 e w2 → ∃ at_, e = .returned (.slice (some ⟨w1.heap.size, at_, none⟩) (txt (turnN m b down)).length (txt (turnN m b down)).length) ∧ TurnT xs b down w (.returned (.tuple #[.slice (some ⟨w1.heap.size, at_, none⟩) (txt (turnN m b down)).length (txt (turnN m b down)).length, .int .u64 (turnN m b down), .int .i64 0])) w2 := by
      rintro w1 hb1 e w2 ⟨at_, rfl, hr, hb2⟩
      refine ⟨at_, rfl, ?_⟩
      rw [TurnT, hN]
      exact ⟨w1.heap.size, at_, rfl, hb1.size, hr, hb1.trans (hb2.mono hb1.size)⟩
    have HTT := Lib.hid HT
    clear HT
    go_enter Try.func18, Try.ntmps18
    go_wp2_with fail
    refine (number_any A n c xs S w hx hS hb).mono ?_
    rintro e w1 ⟨rfl, hb1⟩
    rw [HV.out.1, HV.out.2]
    have HB1 := Lib.hid hb1
    clear hx hS hb hb1 hN
    cases down
    · have e1 : IntKind.u64.wrap ((m : Int) + b) = ((turnN m b false : Nat) : Int) := by
        rw [IntKind.wrap_u64]
        simp [turnN]
      go_wp2_with fail
      refine (text_any (turnN m b false) w1 HL.out).mono ?_
      intro e w2 ht
      obtain ⟨at_, rfl, hT⟩ := HTT.out w1 HB1.out e w2 ht
      have HR := Lib.hid hT
      clear ht hT
      go_wp2
      go_ret3
      exact HR.out
    · by_cases hmb : m ≤ b
      · have hmb' : (m : Int) ≤ b := by omega
        have e2 : ((turnN m b true : Nat) : Int) = 0 := by simp [turnN]; omega
        have ht := fun u => text_any (turnN m b true) u HL.out
        rw [e2] at ht
        rw [e2] at HTT
        have HT2 := Lib.hid ht
        clear ht e2 hmb
        go_wp2_with fail
        refine (HT2.out w1).mono ?_
        intro e w2 ht
        obtain ⟨at_, rfl, hT⟩ := HTT.out w1 HB1.out e w2 ht
        have HR := Lib.hid hT
        clear ht hT
        go_wp2
        go_ret3
        exact HR.out
      · have hmb' : (b : Int) < m := by omega
        have e2 : ((turnN m b true : Nat) : Int) = (m : Int) - b := by simp [turnN]; omega
        have ht := fun u => text_any (turnN m b true) u HL.out
        rw [e2] at ht
        rw [e2] at HTT
        have HT2 := Lib.hid ht
        clear ht e2 hmb
        go_wp2_with fail
        refine (HT2.out w1).mono ?_
        intro e w2 ht
        obtain ⟨at_, rfl, hT⟩ := HTT.out w1 HB1.out e w2 ht
        have HR := Lib.hid hT
        clear ht hT
        go_wp2
        go_ret3
        exact HR.out
end Go.Proofs.Ytighdflbmpkehaa
