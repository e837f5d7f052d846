/- The document's answers of layer 5 (icehouseref05): Block. -/
import Derived.Test.YtikeiloeeklkeaaStamp
import Derived.Test.YtikeiloeeklkeaaHigh
import Derived.Test.YtikeiloeeklkeaaBoth
namespace Go.Proofs.Ytikeiloeeklkeaa
open Go.RowKit
set_option linter.unusedVariables false

/-- Bytes laid into noughts, one by one. -/
def filled (ys : List Int) (k : Nat) : List Int := ys.take k ++ noughts (64 - k)
theorem filled_length (ys : List Int) (k : Nat) (h : k ≤ ys.length) (h64 : k ≤ 64) : (filled ys k).length = 64 := by simp [filled, noughts_length]; omega
theorem filled_set (ys : List Int) (k : Nat) (h : k < ys.length) (h64 : k < 64) : (filled ys k).set k (ys.getD k 0) = filled ys (k + 1) := by
  apply getD_ext
  · rw [List.length_set, filled_length _ _ (by omega) (by omega), filled_length _ _ (by omega) (by omega)]
  · intro j hj
    rw [List.length_set, filled_length _ _ (by omega) (by omega)] at hj
    have hn : ∀ n i, (noughts n).getD i 0 = 0 := noughts_get
    by_cases e : j = k
    · subst e
      have h1 : (filled ys j).length = 64 := filled_length _ _ (by omega) (by omega)
      simp only [List.getD, List.getElem?_set_self (show j < (filled ys j).length by omega), Option.getD_some]
      simp only [filled, List.getElem?_append, List.length_take]
      rw [if_pos (by omega), List.getElem?_take, if_pos (by omega)]
    · have h2 : ((filled ys k).set k (ys.getD k 0)).getD j 0 = (filled ys k).getD j 0 := by
        simp only [List.getD, List.getElem?_set_ne (fun h => e h.symm)]
      rw [h2]
      simp only [filled, List.getD, List.getElem?_append, List.length_take]
      by_cases h3 : j < k
      · rw [if_pos (by omega), if_pos (by omega), List.getElem?_take, List.getElem?_take, if_pos h3, if_pos (by omega)]
      · rw [if_neg (by omega), if_neg (by omega)]
        have a := hn (64 - k) (j - min k ys.length)
        have b := hn (64 - (k + 1)) (j - min (k + 1) ys.length)
        simp only [List.getD] at a b
        rw [a, b]

set_option maxHeartbeats 2000000 in
theorem block_any (gen pos : Int) (A : Option Addr) (n cap : Nat) (xs : List Int) (S : Nat → Prop) (w : World) (hx : RowI .u8 w S A n xs) (hS : ∀ b, S b → b < w.heap.size)
    (hg : 0 ≤ gen) (hg2 : gen ≤ 18446744073709551615) (hp : 0 ≤ pos) (hp2 : pos ≤ 4294967295) (hn : n ≤ 48) :
    Calls Try.prog 11 #[.int .u64 gen, .int .u32 pos, .slice A n cap] w fun e w' => e = .returned (.agg (cells8 (packL gen pos xs))) ∧ Below w.heap.size w w' := by
  have HX := Lib.hid hx
  have HL := Lib.hid hx.1
  clear hx
  go_enter Try.func11, Try.ntmps11
  go_wp2_with (refine wpList_alloc_blk rfl rfl ?_)
  generalize hw1 : w.alloc (.cells (cells8 (noughts 64)) 27) = w1
  have HB1 := Lib.hid (show Below w.heap.size w w1 by rw [← hw1]; exact (Below.refl _ _).alloc (Nat.le_refl _) _)
  have HR1 := Lib.hid (show ArrB w1 w.heap.size (noughts 64) by rw [← hw1]; exact Blk.new w _ _)
  clear hw1
  refine (high_any gen 8 w1 hg hg2 (by omega)).mono ?_
  rintro e w2 ⟨rfl, ha, hb⟩
  have HA2 := Lib.hid ha
  have HB2 := Lib.hid hb
  clear ha hb
  go_wp2_with fail
  refine (high_any pos 4 w2 hp (by omega) (by omega)).mono ?_
  rintro e w3 ⟨rfl, ha, hb⟩
  have HA3 := Lib.hid ha
  have HA23 := Lib.hid (HA2.out.below hb HA2.out.lt)
  have HB3 := Lib.hid (HB2.out.trans (hb.mono HB2.out.size))
  clear ha hb
  go_wp2_with fail
  refine (both_any _ _ 8 8 4 4 (beBytes gen 8) (beBytes pos 4) (fun b => b < w3.heap.size) w3 (HA23.out.rowN 0 (beBytes_length _ _) HA23.out.lt) (HA3.out.rowN 0 (beBytes_length _ _) HA3.out.lt) (fun b h => h) (by omega)).mono ?_
  rintro e w4 ⟨A4, c4, rfl, hn4, hc4, hr4, hb⟩
  rw [show (beBytes gen 8 ++ beBytes pos 4).length = 12 by simp [beBytes_length]] at *
  have HR4 := Lib.hid hr4
  have HB4 := Lib.hid (HB3.out.trans (hb.mono HB3.out.size))
  clear hn4 hc4 hr4 hb
  go_wp2_with fail
  refine (high_any n 2 w4 (by omega) (by omega) (by omega)).mono ?_
  rintro e w5 ⟨rfl, ha, hb⟩
  have HA5 := Lib.hid ha
  have HR45 := Lib.hid (HR4.out.below hb (fun b h => h.2))
  have HS5 := Lib.hid hb.size
  have HB5 := Lib.hid (HB4.out.trans (hb.mono HB4.out.size))
  clear ha hb
  go_wp2_with fail
  refine (both_any _ _ 12 c4 2 2 (beBytes gen 8 ++ beBytes pos 4) (beBytes n 2) (fun b => b < w5.heap.size) w5 (HR45.out.more (fun b h => Nat.lt_of_lt_of_le h.2 HS5.out)) (HA5.out.rowN 0 (beBytes_length _ _) HA5.out.lt) (fun b h => h) (by omega)).mono ?_
  rintro e w6 ⟨A6, c6, rfl, hn6, hc6, hr6, hb⟩
  rw [show (beBytes gen 8 ++ beBytes pos 4 ++ beBytes n 2).length = 14 by simp [beBytes_length]] at *
  have HR6 := Lib.hid hr6
  have HB6 := Lib.hid (HB5.out.trans (hb.mono HB5.out.size))
  clear hn6 hc6 hr6 hb
  go_wp2_with fail
  generalize hw7 : w6.alloc _ = w7
  have hb7 : Below w6.heap.size w6 w7 := by rw [← hw7]; exact (Below.refl _ _).alloc (Nat.le_refl _) _
  have HZ7 := Lib.hid (show ArrU w7 w6.heap.size (beBytes 0 2) by rw [← hw7]; exact Blk.new w6 5 #[.int .u8 0, .int .u8 0])
  have HR7 := Lib.hid (HR6.out.below hb7 (fun b h => h.2))
  have HS7 := Lib.hid hb7.size
  have HB7 := Lib.hid (HB6.out.trans (hb7.mono HB6.out.size))
  clear hw7 hb7
  refine (both_any _ _ 14 c6 2 2 (beBytes gen 8 ++ beBytes pos 4 ++ beBytes n 2) (beBytes 0 2) (fun b => b < w7.heap.size) w7 (HR7.out.more (fun b h => Nat.lt_of_lt_of_le h.2 HS7.out)) (HZ7.out.rowN 0 (beBytes_length _ _) HZ7.out.lt) (fun b h => h) (by omega)).mono ?_
  rintro e w8 ⟨A8, c8, rfl, hn8, hc8, hr8, hb⟩
  rw [show beBytes gen 8 ++ beBytes pos 4 ++ beBytes n 2 ++ beBytes 0 2 = headL gen pos xs.length by rw [headL, HL.out]] at *
  rw [headL_length] at *
  have HR8 := Lib.hid hr8
  have HS8 := Lib.hid hb.size
  have HB8 := Lib.hid (HB7.out.trans (hb.mono HB7.out.size))
  have HX8 := Lib.hid ((HX.out.below HB1.out hS).below HB8.out (fun b h => Nat.lt_of_lt_of_le (hS b h) HB1.out.size))
  clear hn8 hc8 hr8 hb
  go_wp2_with fail
  refine (both_any _ _ 16 c8 n cap (headL gen pos xs.length) xs (fun b => b < w8.heap.size) w8 (HR8.out.more (fun b h => h.2)) (HX8.out.more (fun b h => Nat.lt_of_lt_of_le (hS b h) (Nat.le_trans HB1.out.size HB8.out.size))) (fun b h => h) (by omega)).mono ?_
  rintro e w9 ⟨A9, c9, rfl, hn9, hc9, hr9, hb⟩
  have hlen : (headL gen pos xs.length ++ xs).length = 16 + n := by rw [List.length_append, headL_length, HL.out]
  rw [hlen] at hr9 hc9
  rw [hlen]
  generalize hys : headL gen pos xs.length ++ xs = ys at *
  have HYS := Lib.hid hys
  have HLEN := Lib.hid hlen
  have HR9 := Lib.hid hr9
  have HB9 := Lib.hid (HB8.out.trans (hb.mono HB8.out.size))
  obtain ⟨w10, hw10⟩ : ∃ w10, w10 = w9.alloc (.cells (cells8 (noughts 64)) 27) := ⟨_, rfl⟩
  have hb10 : Below w9.heap.size w9 w10 := by rw [hw10]; exact (Below.refl _ _).alloc (Nat.le_refl _) _
  have HW10 := Lib.hid hw10
  have HA10 := Lib.hid (show ArrB w10 w9.heap.size (noughts 64) by rw [hw10]; exact Blk.new w9 _ _)
  have HB10 := Lib.hid (HB9.out.trans (hb10.mono HB9.out.size))
  have HR10 := Lib.hid (HR9.out.below hb10 (fun b h => h.2))
  have HS9 := Lib.hid HB9.out.size
  have HS10 := Lib.hid hb10.size
  clear hn9 hc9 hr9 hb hw10 hb10 hys hlen
  go_wp2_with (refine wpList_alloc_blk rfl rfl ?_; rw [← HW10.out])
  go_loopw [9] (fun i wr => ∃ k : Nat, k ≤ 16 + n ∧ i = .int .i64 k ∧ ArrB wr w9.heap.size (filled ys k) ∧ Kept (fun b => b < w10.heap.size ∧ b ≠ w9.heap.size) w10 wr) (fun i _ => 16 + n - (intOf i).toNat)
  case atStart => exact ⟨0, by omega, rfl, by simpa [filled] using HA10.out, Kept.refl _ _⟩
  case round =>
    obtain ⟨k, hk, rfl, harr, hkept⟩ := hrel
    by_cases hlt : k < 16 + n
    · obtain ⟨b, off, rfl, hb, hc⟩ := (HR10.out.kept hkept (fun b h => ⟨Nat.lt_of_lt_of_le h.2 HS10.out, by have := h.2; omega⟩)).2 (by omega)
      have hcell := hc k hlt
      have hl := filled_length ys k (by have := HLEN.out; omega) (by omega)
      have hold := harr.cell (i := k) (by omega) 0
      have hfr := harr.frozen k
      have hset := harr.set k (ys.getD k 0)
      rw [filled_set ys k (by have := HLEN.out; omega) (by omega)] at hset
      generalize ys.getD k 0 = v at *
      generalize (filled ys k).getD k 0 = v0 at *
      have HSET := Lib.hid hset
      have HK := Lib.hid hkept
      clear hc harr hkept hset hl
      go_wp2
      go_roundw
      case rel => exact ⟨k + 1, by omega, by go_num, HSET.out, HK.out.setCell (fun h => h.2 rfl) _⟩
      case measure => (simp [intOf] <;> omega)
    · obtain rfl : k = 16 + n := by omega
      have hfin : filled ys (16 + n) = packL gen pos xs := by
        unfold filled packL
        rw [List.take_of_length_le (by have := HLEN.out; omega), HYS.out.symm, HL.out, show 64 - (16 + n) = 48 - n by omega]
      rw [hfin] at harr
      have HA := Lib.hid harr
      have HK := Lib.hid hkept
      have HPL := Lib.hid (packL_length gen pos xs (by have := HL.out; omega))
      have HRR := Lib.hid ((HR1.out.below HB10.out HR1.out.lt).kept hkept ⟨by have := HR1.out.lt; have := HB10.out.size; omega, by have := HR1.out.lt; have := HS9.out; omega⟩)
      clear harr hkept hfin
      go_wp2_with (first
        | (with_reducible refine halt_end ?_)
        | (refine wpList_load_blk (.tmp 8) rfl rfl w9.heap.size 0 rfl (packL gen pos xs) HPL.out HA.out.range ?_)
        | (refine wpList_store_blk (.tmp 6) (.tmp 40) rfl rfl w.heap.size (packL gen pos xs) rfl rfl 27 (noughts 64) HRR.out (noughts_length 64) HPL.out ?_))
      refine Halt.ret (results_blk1 rfl _ _ w.heap.size 27 (packL gen pos xs) rfl (HRR.out.setRow (packL gen pos xs)) HPL.out) rfl ⟨rfl, below_setRow ((HB1.out.trans (HB10.out.mono HB1.out.size)).trans (HK.out.to_below fun b hb => ⟨?_, ?_⟩)) (Nat.le_refl _) _⟩
      · have := HB1.out.size; have := HB10.out.size; omega
      · have := HB1.out.size; have := HS9.out; omega

end Go.Proofs.Ytikeiloeeklkeaa
