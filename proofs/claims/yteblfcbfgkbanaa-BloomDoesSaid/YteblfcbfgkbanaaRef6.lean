/- The document's answers of layer 4: Of, of bytes that are a filter's. -/
import Derived.Test.YteblfcbfgkbanaaRef5
namespace Go.Proofs.Yteblfcbfgkbanaa
open Go.RowKit
set_option linter.unusedVariables false

theorem shift_bit : ∀ y : Nat, y < 256 → ∀ q : Nat, q < 8 → ((y / 2 ^ q) &&& 1 == 1) = y.testBit q := by decide +kernel
theorem bit_shift (y : Int) (hy : 0 ≤ y ∧ y ≤ 255) (j : Nat) (hj : j < 8) : (bits .and .u8 (y / 2 ^ (7 - j)) 1 == 1) = bitOf y j := by
  obtain ⟨a, rfl⟩ := Int.eq_ofNat_of_zero_le hy.1
  have h := shift_bit a (by omega) (7 - j) (by omega)
  unfold bitOf
  rw [Int.toNat_natCast, ← h]
  have e : ((a : Int) / 2 ^ (7 - j)) = ((a / 2 ^ (7 - j) : Nat) : Int) := by simp
  have e2 := u8_and_nat (a / 2 ^ (7 - j)) 1 (Nat.lt_of_le_of_lt (Nat.div_le_self _ _) (by omega)) (by omega)
  rw [show ((1 : Nat) : Int) = 1 from rfl] at e2
  rw [e, e2]
  generalize a / 2 ^ (7 - j) &&& 1 = z
  rw [Bool.eq_iff_iff]; simp; omega

/-- What the document's Of tells of bytes that are a filter's. -/
def RefOfTold (xs : List Int) (w : World) (e : Ending) (w' : World) : Prop :=
  ∃ v, e = .returned (.tuple #[v, .int .i64 0]) ∧ w'.ownsRow w.heap.size 4 1 v (8 * (xs.length - 4)) ((bitsOf (xs.drop 4)).map Value.bool) ∧ Below w.heap.size w w'

theorem byteBits_take (y : Int) (j : Nat) (hj : j < 8) : (byteBits y).take (j + 1) = (byteBits y).take j ++ [bitOf y j] := by
  rw [List.take_succ_eq_append_getElem (by rw [byteBits_length]; exact hj)]
  simp [byteBits]

set_option maxHeartbeats 4000000 in
theorem ref_of_ok (A : Option Addr) (n c k : Nat) (xs : List Int) (S : Nat → Prop) (w : World) (hx : RowI .u8 w S A n xs) (hS : ∀ b, S b → b < w.heap.size) (hnc : n ≤ c) (hby : Bytes xs)
    (hk : numOf (xs.take 4) = 8 * (k : Int)) (k1 : 1 ≤ k) (k2 : k ≤ 8192) (hn : n = 4 + k) :
    Calls Try.prog 23 #[.slice A n c] w (RefOfTold xs w) := by
  obtain ⟨i0, hi, hz0, hz1, hz2⟩ := info_parts info_bool
  obtain ⟨b, off, rfl, hb, hc⟩ := hx.2 (by omega)
  have hl := hx.1
  have c0 := hc 0 (by omega)
  have c1 := hc 1 (by omega)
  have c2 := hc 2 (by omega)
  have c3 := hc 3 (by omega)
  have b0 := hby 0
  have b1 := hby 1
  have b2 := hby 2
  have b3 := hby 3
  have hnum := numOf4 xs (by omega)
  generalize xs.getD 0 0 = x0 at *
  generalize xs.getD 1 0 = x1 at *
  generalize xs.getD 2 0 = x2 at *
  generalize xs.getD 3 0 = x3 at *
  have hor := or4 x0 x1 x2 x3 b0 b1 b2 b3
  rw [← hnum] at hor
  generalize numOf (xs.take 4) = m at *
  have hm0 : 0 ≤ m := by omega
  have hm2 : m ≤ 65536 := by omega
  rw [Nat.add_zero] at c0
  have n0 : 0 < n := by omega
  have n1 : 1 < n := by omega
  have n2 : 2 < n := by omega
  have n3 : 3 < n := by omega
  have m1 : (1 : Int) < n := by omega
  have m2 : (2 : Int) < n := by omega
  have m3 : (3 : Int) < n := by omega
  have n4 : 4 ≤ n := by omega
  have m4 : (4 : Int) ≤ n := by omega
  have hc4 : ¬ c = 4 := by omega
  have hnlt : n ≤ 8196 := by omega
  have hne : ((n : Int) != 4 + m / 8) = false := by simp; omega
  have hd : decide (8 ≤ m ∧ m ≤ 65536 ∧ m % 8 = 0) = true := by simp; omega
  have hright := fun w => right_any m w
  simp only [hd] at hright
  have HR := Lib.hid hright
  have HC := Lib.hid (fun j (hj : j < k) => hc (4 + j) (by omega))
  have HN := Lib.hid hn
  have HL := Lib.hid hl
  have HB := Lib.hid (hS b hb)
  have HBY := Lib.hid hby
  have hlen : n - 4 = k := by omega
  have HLEN := Lib.hid hlen
  clear hright hd hc hx hby hnum hl hk hn hlen hb
  go_enter Try.func23, Try.ntmps23
  go_wp2
  go_quiet (fail)
  clear hor
  go_wp2_with (go_at_call 25; refine (HR.out _).mono ?_; rintro e w' ⟨rfl, rfl⟩)
  go_loopw [5, 7, 8, 48] (fun o _ _ i wr => ∃ q : Nat, q ≤ k ∧ i = .int .i64 q ∧ wr.ownsRow w.heap.size 4 1 o (8 * q) ((bitsOf ((xs.drop 4).take q)).map Value.bool) ∧ Below w.heap.size w wr) (fun _ _ _ i _ => k - (intOf i).toNat)
  case atStart =>
    refine ⟨0, by omega, rfl, ?_, below_drewN (Below.refl _ _) _⟩
    simpa [bitsOf] using World.ownsRow_nil _ _ _ _
  case round =>
    obtain ⟨q, hq, rfl, hown, hbel⟩ := hrel
    by_cases hlt : q < k
    · have hcell := HC.out q hlt
      rw [← hbel.cell (p := ⟨b, off + (4 + q), none⟩) HB.out] at hcell
      have hby := HBY.out (4 + q)
      have hdl : (xs.drop 4).length = k := by rw [List.length_drop, HL.out]; exact HLEN.out
      have hdg : (xs.drop 4).getD q 0 = xs.getD (4 + q) 0 := by simp [List.getD, List.getElem?_drop]
      have htk := bitsOf_take (xs.drop 4) q (by rw [hdl]; exact hlt)
      rw [hdg] at htk
      rw [show off + (4 + q) = off + 4 + q by omega] at hcell
      generalize xs.getD (4 + q) 0 = y at *
      have hqn : (q : Int) < ((n - 4 : Nat) : Int) := by have := HLEN.out; omega
      have HO := Lib.hid hown
      have HBL := Lib.hid hbel
      have HTK := Lib.hid htk
      clear hown hbel htk hdl hdg
      obtain ⟨wo, hwo⟩ : ∃ wo : World, wo = wr := ⟨_, rfl⟩
      have HWO := Lib.hid hwo
      clear hwo
      go_wp2
      go_loopw [5, 8] (fun o i wi => ∃ (j : Nat) (p : Int), j ≤ 8 ∧ p = 7 - (j : Int) ∧ i = .int .i64 p ∧ wi.ownsRow w.heap.size 4 1 o (8 * q + j) ((bitsOf ((xs.drop 4).take q) ++ (byteBits y).take j).map Value.bool) ∧ Below w.heap.size w wi) (fun _ i _ => (intOf i + 1).toNat)
      case atStart => exact ⟨0, 7, by omega, by omega, rfl, by simpa using HO.out, HBL.out⟩
      case round =>
        obtain ⟨j, p, hj, hp, rfl, hown, hbel⟩ := hrel
        by_cases hj8 : j < 8
        · obtain ⟨p', rfl⟩ : ∃ p' : Nat, p = (p' : Int) := ⟨p.toNat, by omega⟩
          have hp7 : p' = 7 - j := by omega
          have hsh := bit_shift y hby j hj8
          rw [← hp7] at hsh
          have htb := byteBits_take y j hj8
          have hp8 : (p' : Int) ≤ 7 := by omega
          generalize bitOf y j = bv at *
          have HO2 := Lib.hid hown
          have HBL2 := Lib.hid hbel
          have HTB := Lib.hid htb
          have HP := Lib.hid hp
          clear hown hbel htb hp hp7
          go_wp2_with (at_builtin; go_loud (refine wpList_append_rowG (mk := Value.bool) (d := false) rfl (.tmp 56) (.tmp 62) 29 rfl w.heap.size 4 i0 (.bool false) 1 Try.underlying29 hi hz0 hz1 hz2 rfl (fun _ => rfl) _ (8 * q + j) _ rfl (HO2.out.alloc _) (· = wr.heap.size) _ 1 1 [bv] rfl (row_new1 _ _ wr _ bv) (fun h => by cases h) ?c2 ?c3 ?c4 ?_))
          case c2 => unfold maxLen; omega
          case c3 => omega
          case c4 => have := HBL2.out.size; first | omega | (simp; omega)
          intro v w2 hown hgrow hblk
          have hb2 := Lib.hid ((HBL2.out.alloc HBL2.out.size _).grown hgrow (by simp; have := HBL2.out.size; omega) (fun g hg => (HO2.out.lt g hg).1))
          have hown2 : w2.ownsRow w.heap.size 4 1 v (8 * q + (j + 1)) ((bitsOf ((xs.drop 4).take q) ++ (byteBits y).take (j + 1)).map Value.bool) := by
            rw [HTB.out]
            simpa [List.map_take, Nat.add_assoc] using hown
          have HO3 := Lib.hid hown2
          clear hown hown2 hgrow hblk
          go_wp2
          go_roundw
          case rel => exact ⟨j + 1, (p' : Int) - 1, by omega, by have := HP.out; omega, rfl, HO3.out, hb2.out⟩
          case measure => (simp [intOf] <;> omega)
        · obtain rfl : j = 8 := by omega
          have hp8 : p < 0 := by omega
          have HO2 := Lib.hid hown
          have HBL2 := Lib.hid hbel
          clear hown hbel hp
          go_wp2
          go_roundw
          case rel =>
            refine ⟨q + 1, by omega, by go_num, ?_, HBL2.out⟩
            rw [HTK.out]
            have := HO2.out
            rw [List.take_of_length_le (l := byteBits y) (by rw [byteBits_length]; omega)] at this
            exact this
          case measure => (simp [intOf] <;> omega)
    · obtain rfl : q = k := by omega
      have HO := Lib.hid hown
      have HBL := Lib.hid hbel
      clear hown hbel
      have hqn : ¬ ((q : Int) < ((n - 4 : Nat) : Int)) := by have := HLEN.out; omega
      go_wp2
      go_ret2
      refine ⟨_, rfl, ?_, HBL.out⟩
      have := HO.out
      have hdl : (xs.drop 4).length = q := by rw [List.length_drop, HL.out]; exact HLEN.out
      rw [List.take_of_length_le (by omega)] at this
      rw [show xs.length - 4 = q by rw [HL.out]; exact HLEN.out]
      exact this

end Go.Proofs.Yteblfcbfgkbanaa
