/- bytes.Equal; a slice of bytes of the call's own. -/
import Derived.Test.YtehldhdpeefljaaMem
namespace Go.Proofs.Ytehldhdpeefljaa
open Go.RowKit
set_option linter.unusedVariables false

theorem nums_inj {s t : ByteArray} (h : nums s = nums t) : s = t := by
  have hl : s.size = t.size := by rw [← nums_length s, h, nums_length]
  apply ByteArray.ext
  apply Array.ext hl
  intro i h1 h2
  have g1 := nums_get s i h1
  have g2 := nums_get t i h2
  rw [h, g2] at g1
  have : t[i].toNat = s[i].toNat := by omega
  exact (UInt8.toNat_inj.1 this).symm

theorem equal_yes (A A' : Option Addr) (n c c' : Nat) (xs : List Int) (S S' : Nat → Prop) (w : World) (hx : RowI .u8 w S A n xs) (hx' : RowI .u8 w S' A' n xs) (hS : ∀ b, S b → b < w.heap.size) (hS' : ∀ b, S' b → b < w.heap.size) (hb : Bytes xs) :
    Calls Try.prog 20 #[.slice A n c, .slice A' n c'] w fun e w' => e = .returned (.bool true) ∧ w = w' := by
  obtain ⟨s, hs, hns⟩ := conv_string (P := Try.prog) w 24 9 5 Try.underlying24 Try.underlying5 Try.underlying9 c (hx.more (T := (· < w.heap.size)) hS).toRow hb
  obtain ⟨t, ht, hnt⟩ := conv_string (P := Try.prog) w 24 9 5 Try.underlying24 Try.underlying5 Try.underlying9 c' (hx'.more (T := (· < w.heap.size)) hS').toRow hb
  obtain rfl : s = t := nums_inj (hns.trans hnt.symm)
  clear hns hnt hx hx'
  go_enter Try.func20, Try.ntmps20
  go_wp2
  go_ret
  exact ⟨rfl, rfl⟩

/-- One more row of bytes of the call's own, as the calls below ask it. -/
theorem own_row {w : World} {base : Nat} {v : Value} {n : Nat} {xs : List Int} (h : w.ownsRow base 5 1 v n (xs.map (Value.int .u8))) :
    ∃ A cap, v = .slice A n cap ∧ n ≤ cap ∧ (A = none → cap = 0) ∧ RowI .u8 w (fun b => base ≤ b ∧ b < w.heap.size ∧ v.ownBlock = some b) A n xs := rowG_own 0 h

/-- A slice of bytes of the call's own comes back. -/
def OwnTold (ys : List Int) (w : World) (e : Ending) (w' : World) : Prop :=
  ∃ v, e = .returned v ∧ w'.ownsRow w.heap.size 5 1 v ys.length (ys.map (Value.int .u8)) ∧ Below w.heap.size w w'

end Go.Proofs.Ytehldhdpeefljaa
