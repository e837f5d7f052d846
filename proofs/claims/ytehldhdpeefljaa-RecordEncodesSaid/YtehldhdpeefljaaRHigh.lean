/- The document's answers of layer 6: high, num. -/
import Derived.Test.YtehldhdpeefljaaPut2
import Derived.Test.YtehldhdpeefljaaWalk
import Derived.OwnWalk
namespace Go.Proofs.Ytehldhdpeefljaa
open Go.RowKit
set_option linter.unusedVariables false

/-- A slice of bytes of the call's own comes back. -/
def OwnRow (ys : List Int) (w : World) (e : Ending) (w' : World) : Prop :=
  ∃ v, e = .returned v ∧ w'.ownsRow w.heap.size 5 1 v ys.length (ys.map (Value.int .u8)) ∧ Below w.heap.size w w'

theorem snoc_map (xs : List Int) (k : Nat) (h : k < xs.length) : (xs.take k).map (Value.int .u8) ++ [Value.int .u8 (xs.getD k 0)] = (xs.take (k + 1)).map (Value.int .u8) := by
  rw [take_snoc xs k h, List.map_append]; rfl
theorem be_getD (x : Int) (c j : Nat) (h : j < c) : (beBytes x c).getD j 0 = x / ((256 ^ (c - 1 - j) : Nat) : Int) % 256 := by
  unfold beBytes
  simp only [List.getD, List.getElem?_map, List.getElem?_range h, Option.map_some, Option.getD_some]
  rfl

set_option maxHeartbeats 1000000 in
theorem rhigh_any (x : Int) (c : Nat) (w : World) (x0 : 0 ≤ x) (x1 : x ≤ 18446744073709551615) (hc : c ≤ 8) :
    Calls Try.prog 33 #[.int .u64 x, .int .i64 c] w (OwnRow (beBytes x c) w) := by
  obtain ⟨i0, hi, hz0, hz1, hz2⟩ := info_parts info_u8
  go_enter Try.func33, Try.ntmps33
  go_wp2
  go_loopw [5, 6] (fun o i wr => ∃ (k : Nat) (p : Int), k ≤ c ∧ p = (c : Int) - 1 - k ∧ i = .int .i64 p ∧ wr.ownsRow w.heap.size 5 1 o k (((beBytes x c).take k).map (Value.int .u8)) ∧ Below w.heap.size w wr) (fun _ i _ => (intOf i + 1).toNat)
  case atStart => exact ⟨0, _, by omega, by simp, rfl, by simpa using World.ownsRow_nil w w.heap.size 5 1, Below.refl _ _⟩
  case round =>
    obtain ⟨k, p, hk, hp, rfl, hown, hbel⟩ := hrel
    by_cases hlt : k < c
    · obtain ⟨q, rfl⟩ : ∃ q : Nat, p = (q : Int) := ⟨p.toNat, by omega⟩
      have hq : q = c - 1 - k := by omega
      have hq8 : q < 8 := by omega
      have hsn := snoc_map (beBytes x c) k (by rw [beBytes_length]; omega)
      rw [be_getD x c k hlt, ← hq, show ((256 ^ q : Nat) : Int) = 2 ^ (8 * q) by rw [Int.natCast_pow, Int.pow_mul]; rfl] at hsn
      have HSN := Lib.hid hsn
      have HQ := Lib.hid hq
      have HP := Lib.hid hp
      have HO := Lib.hid (hown.alloc (.cells #[.int .u8 (x / 2 ^ (8 * q) % 256)] 5))
      have HB := Lib.hid (hbel.alloc hbel.size (.cells #[.int .u8 (x / 2 ^ (8 * q) % 256)] 5))
      have HS := Lib.hid hbel.size
      have HL := Lib.hid hown.lt
      clear hown hbel hsn hq hp
      go_wp2_with (at_builtin; refine wpList_append_rowG rfl (.tmp 13) (.tmp 19) 24 rfl w.heap.size 5 i0 (.int .u8 0) 1 Try.underlying24 hi hz0 hz1 hz2 rfl (fun _ => rfl) _ k _ rfl HO.out (· = wr.heap.size) (some ⟨wr.heap.size, 0, none⟩) 1 1 [x / 2 ^ (8 * q) % 256] rfl (row_new1 (Value.int .u8) 0 wr 5 _) (fun h => by cases h) (by unfold maxLen; omega) (by omega) (by simp; have := HS.out; omega) ?_; intro v' w' hown' hgrow' _; have HO' := Lib.hid hown'; have HB' := Lib.hid (HB.out.grown hgrow' HB.out.size (fun g hg => (HL.out g hg).1)); clear hown' hgrow')
      go_roundw
      case rel =>
        refine ⟨k + 1, (q : Int) - 1, by omega, by have := HP.out; omega, rfl, ?_, HB'.out⟩
        rw [← HSN.out]
        exact HO'.out
      case measure => (simp [intOf] <;> omega)
    · obtain rfl : k = c := by omega
      have hpn : p < 0 := by omega
      rw [List.take_of_length_le (by rw [beBytes_length]; omega)] at hown
      have HO := Lib.hid hown
      have HB := Lib.hid hbel
      clear hown hbel hp
      go_wp2
      go_ret
      refine ⟨_, rfl, ?_, HB.out⟩
      rw [beBytes_length]
      exact HO.out

end Go.Proofs.Ytehldhdpeefljaa
