/- The document's answers of layer 4: Bytes. -/
import Derived.Test.YteblfcbfgkbanaaRef3
import Derived.Test.YteblfcbfgkbanaaBloom2
namespace Go.Proofs.Yteblfcbfgkbanaa
open Go.RowKit
set_option linter.unusedVariables false

/-- The four bytes of a number below 2^24, as the document's answer lays them. -/
theorem head4 (m : Int) (h0 : 0 ≤ m) : beBytes m 4 = [m / 16777216 % 256, m / 65536 % 256, m / 256 % 256, m % 256] := by
  simp [beBytes, byteAt, List.range_succ]

theorem top_fin (b : Int) (hb : 0 ≤ b ∧ b ≤ 255) : IntKind.u8.wrap (top b 8) = b := by
  rw [top_eight b hb, IntKind.wrap_u8]; omega

set_option maxHeartbeats 2000000 in
theorem ref_bytes (A : Option Addr) (m c : Nat) (xs : List Int) (S : Nat → Prop) (w : World) (hl : RowB w S A m (bitsOf xs)) (hS : ∀ b, S b → b < w.heap.size) (hx : Bytes xs) (hn : xs.length ≤ 8192) (h1 : 1 ≤ xs.length) :
    Calls Try.prog 33 #[.slice A m c] w (OwnTold (fileOf xs) w) := by
  obtain ⟨i0, hi, hz0, hz1, hz2⟩ := info_parts info_u8
  have hm : m = 8 * xs.length := by rw [← bitsOf_length]; exact hl.1.symm
  subst hm
  have HL := Lib.hid hl
  have HX := Lib.hid hx
  have hhd : beBytes ((8 * xs.length : Nat) : Int) 4 = [8 * (xs.length : Int) / 16777216, 8 * (xs.length : Int) / 65536, 8 * (xs.length : Int) / 256 % 256, 8 * (xs.length : Int) % 256] := by
    rw [head4 _ (by omega), show (((8 * xs.length : Nat) : Int)) = 8 * (xs.length : Int) by omega, show 8 * (xs.length : Int) / 16777216 % 256 = 8 * (xs.length : Int) / 16777216 by omega, show 8 * (xs.length : Int) / 65536 % 256 = 8 * (xs.length : Int) / 65536 by omega]
  have hw : Below w.heap.size w (w.alloc (.cells ((beBytes ((8 * xs.length : Nat) : Int) 4).map (Value.int .u8)).toArray 5)) := (Below.refl _ _).alloc (Nat.le_refl _) _
  have hown0 := Arr.owns (mk := Value.int .u8) (base := w.heap.size) (Blk.new w 5 ((beBytes ((8 * xs.length : Nat) : Int) 4).map (Value.int .u8)).toArray) (Nat.le_refl _) (beBytes_length _ _) (rfl : 4 = 4) (by unfold maxLen; omega)
  have HW := Lib.hid hw
  have HO0 := Lib.hid hown0
  have HHD := Lib.hid hhd
  clear hl hx hw hown0 hhd
  go_enter Try.func33, Try.ntmps33
  go_wp2
  go_loopw [4, 5, 6, 7] (fun o i _ _ wr => ∃ k : Nat, k ≤ xs.length ∧ i = .int .i64 ((8 * k : Nat) : Int) ∧ wr.ownsRow w.heap.size 5 1 o (4 + k) ((beBytes ((8 * xs.length : Nat) : Int) 4 ++ xs.take k).map (Value.int .u8)) ∧ Below w.heap.size w wr) (fun _ i _ _ _ => 8 * xs.length - (intOf i).toNat)
  case atStart =>
    have e : (#[.int .u8 (8 * (xs.length : Int) / 16777216), .int .u8 (8 * (xs.length : Int) / 65536), .int .u8 (8 * (xs.length : Int) / 256 % 256), .int .u8 (8 * (xs.length : Int) % 256)] : Array Value) = ((beBytes ((8 * xs.length : Nat) : Int) 4).map (Value.int .u8)).toArray := by rw [HHD.out]; rfl
    refine ⟨0, by omega, rfl, ?_, ?_⟩
    · rw [e]
      simpa using HO0.out
    · rw [e]
      exact HW.out
  case round =>
    obtain ⟨k, hk, rfl, hown, hbel⟩ := hrel
    by_cases hlt : k < xs.length
    · have hby := HX.out k
      have hrow := HL.out.below hbel hS
      obtain ⟨b2, off, rfl, hb2, hc⟩ := hrow.2 (by omega)
      have hbits : ∀ j, j < 8 → wr.cell? ⟨b2, off + (8 * k + j), none⟩ = some (.bool (bitOf (xs.getD k 0) j)) := by
        intro j hj
        rw [hc (8 * k + j) (by omega), bitsOf_get _ _ (by omega), show (8 * k + j) / 8 = k by omega, show (8 * k + j) % 8 = j by omega]
      have htk := take_snoc xs k hlt
      generalize xs.getD k 0 = b at *
      have HBITS := Lib.hid hbits
      have HO := Lib.hid hown
      have HB := Lib.hid hbel
      have HTK := Lib.hid htk
      have HBY := Lib.hid hby
      have hts := Lib.hid (fun j (hj : j < 8) => top_succ b hby j hj)
      have htb := Lib.hid (fun j => top_bounds b hby j)
      clear hown hbel hc hbits hrow htk hby
      obtain ⟨wo, hwo⟩ : ∃ wo : World, wo = wr := ⟨_, rfl⟩
      have HWO := Lib.hid hwo
      clear hwo
      go_wp2
      go_loop [6, 7] (fun x i => ∃ j : Nat, j ≤ 8 ∧ i = .int .i64 j ∧ x = .int .i64 (top b j)) (fun _ i => 8 - (intOf i).toNat)
      case atStart => exact ⟨0, by omega, rfl, by rw [top_zero b HBY.out]⟩
      case round =>
        obtain ⟨j, hj, rfl, rfl⟩ := hrel
        by_cases hj8 : j < 8
        · have hcell := HBITS.out j hj8
          have hs := hts.out j hj8
          have hb := htb.out j
          generalize top b j = t at *
          generalize bitOf b j = bv at *
          have HS := Lib.hid hs
          clear hs
          cases bv with
          | true =>
            go_wp2
            go_round
            case rel => exact ⟨j + 1, by omega, by go_num, by rw [HS.out]; rfl⟩
            case measure => (simp [intOf] <;> omega)
          | false =>
            go_wp2
            go_round
            case rel => exact ⟨j + 1, by omega, by go_num, by rw [HS.out]; simp⟩
            case measure => (simp [intOf] <;> omega)
        · obtain rfl : j = 8 := by omega
          have h8 : top b 8 = b := top_eight b HBY.out
          have h9 : b % 256 = b := by have := HBY.out; omega
          rw [h8]
          clear h8
          go_wp2_with (at_builtin; refine wpList_append_rowG (mk := Value.int .u8) (d := 0) rfl (.tmp 41) (.tmp 44) 42 rfl w.heap.size 5 i0 (.int .u8 0) 1 Try.underlying42 hi hz0 hz1 hz2 rfl (fun _ => rfl) _ (4 + k) _ rfl (HO.out.alloc _) (· = wr.heap.size) _ 1 1 [b] rfl (row_new1 _ _ wr _ b) (fun h => by cases h) ?c2 ?c3 ?c4 ?_)
          case c2 => unfold maxLen; omega
          case c3 => omega
          case c4 => have := HB.out.size; first | omega | (simp; omega)
          intro v w2 hown hgrow hblk
          have hb2 := Lib.hid ((HB.out.alloc HB.out.size _).grown hgrow (by simp; have := HB.out.size; omega) (fun g hg => (HO.out.lt g hg).1))
          have hown2 : w2.ownsRow w.heap.size 5 1 v (4 + (k + 1)) ((beBytes ((8 * xs.length : Nat) : Int) 4 ++ xs.take (k + 1)).map (Value.int .u8)) := by
            rw [HTK.out]
            simpa [List.map_take, Nat.add_assoc] using hown
          have HO2 := Lib.hid hown2
          clear hown hown2 hgrow hblk
          go_wp2
          go_roundw
          case rel => exact ⟨k + 1, by omega, by go_num, HO2.out, hb2.out⟩
          case measure => (simp [intOf] <;> omega)
    · obtain rfl : k = xs.length := by omega
      have HO := Lib.hid hown
      have HB := Lib.hid hbel
      clear hown hbel
      go_wp2
      go_ret
      refine ⟨_, rfl, ?_, HB.out⟩
      have := HO.out
      rw [List.take_length] at this
      unfold fileOf
      rw [List.length_append, beBytes_length]
      exact this

end Go.Proofs.Yteblfcbfgkbanaa
