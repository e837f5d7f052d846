/- Package stamp: Pack. -/
import Derived.Test.YtikeiloeeklkeaaBlk
import Derived.Test.YtikeiloeeklkeaaPut2
namespace Go.Proofs.Ytikeiloeeklkeaa
open Go.RowKit
set_option linter.unusedVariables false

/-- A stamped sector. -/
def headL (gen pos n : Int) : List Int := beBytes gen 8 ++ beBytes pos 4 ++ beBytes n 2 ++ beBytes 0 2
def packL (gen pos : Int) (pay : List Int) : List Int := headL gen pos pay.length ++ pay ++ noughts (48 - pay.length)
theorem headL_length (gen pos n : Int) : (headL gen pos n).length = 16 := by simp [headL, beBytes_length]
theorem packL_length (gen pos : Int) (pay : List Int) (h : pay.length ≤ 48) : (packL gen pos pay).length = 64 := by simp [packL, headL_length, noughts_length]; omega

theorem pack_zero (pos : Int) (A : Option Addr) (n cap : Nat) (w : World) :
    Calls Try.prog 10 #[.int .u64 0, .int .u32 pos, .slice A n cap] w fun e w' => e = .returned (.tuple #[.agg (cells8 (noughts 64)), .int .i64 2]) ∧ Below w.heap.size w w' := by
  go_enter Try.func10, Try.ntmps10
  go_wp2_with (first | (with_reducible refine halt_end ?_) | (refine wpList_alloc_blk rfl rfl ?_) | (refine wpList_build_blk rfl rfl ?_) | (refine wpList_store_new _ _ rfl rfl w (noughts 64) rfl rfl (noughts 64) rfl (noughts_length 64) (noughts_length 64) ?_))
  exact Halt.ret (results_blk2 rfl _ _ w.heap.size 27 (noughts 64) rfl (Blk.new w _ _) (noughts_length 64)) rfl ⟨rfl, (Below.refl _ _).alloc (Nat.le_refl _) _⟩

theorem pack_long (gen pos : Int) (A : Option Addr) (n cap : Nat) (w : World) (hg : 1 ≤ gen) (hn : 48 < n) (hn2 : n ≤ 9223372036854775807) :
    Calls Try.prog 10 #[.int .u64 gen, .int .u32 pos, .slice A n cap] w fun e w' => e = .returned (.tuple #[.agg (cells8 (noughts 64)), .int .i64 3]) ∧ Below w.heap.size w w' := by
  have h0 : (gen == 0) = false := by simp; omega
  have h1 : decide ((48 : Int) < (n : Int)) = true := by simp; omega
  go_enter Try.func10, Try.ntmps10
  go_wp2_with (first | (with_reducible refine halt_end ?_) | (refine wpList_alloc_blk rfl rfl ?_) | (refine wpList_build_blk rfl rfl ?_) | (refine wpList_store_new _ _ rfl rfl w (noughts 64) rfl rfl (noughts 64) rfl (noughts_length 64) (noughts_length 64) ?_))
  exact Halt.ret (results_blk2 rfl _ _ w.heap.size 27 (noughts 64) rfl (Blk.new w _ _) (noughts_length 64)) rfl ⟨rfl, (Below.refl _ _).alloc (Nat.le_refl _) _⟩

/-- Two rows laid into noughts. -/
theorem splice_at {α : Type} (H zs cs : List α) (k : Nat) (z : α) (h : zs = H ++ List.replicate k z) (hk : cs.length ≤ k) : splice zs H.length cs = H ++ cs ++ List.replicate (k - cs.length) z := by
  subst h
  unfold splice
  rw [List.take_left, List.drop_append, List.drop_eq_nil_of_le (by omega), List.nil_append, List.drop_replicate, show k - (H.length + cs.length - H.length) = k - cs.length by omega, List.append_assoc]

set_option maxHeartbeats 1000000 in
theorem pack_ok (gen pos : Int) (A : Option Addr) (n cap : Nat) (xs : List Int) (S : Nat → Prop) (w : World) (hx : RowI .u8 w S A n xs) (hS : ∀ b, S b → b < w.heap.size)
    (hg : 1 ≤ gen) (hg2 : gen ≤ 18446744073709551615) (hp : 0 ≤ pos) (hp2 : pos ≤ 4294967295) (hn : n ≤ 48) :
    Calls Try.prog 10 #[.int .u64 gen, .int .u32 pos, .slice A n cap] w fun e w' => e = .returned (.tuple #[.agg (cells8 (packL gen pos xs)), .int .i64 0]) ∧ Below w.heap.size w w' := by
  have h0 : (gen == 0) = false := by simp; omega
  have h1 : decide ((48 : Int) < (n : Int)) = false := by simp; omega
  have HX := Lib.hid hx
  have HL := Lib.hid hx.1
  clear hx
  go_enter Try.func10, Try.ntmps10
  go_wp2_with (first | (with_reducible refine halt_end ?_) | (refine wpList_alloc_blk rfl rfl ?_))
  generalize hw1 : w.alloc (.cells (cells8 (noughts 64)) 27) = w1
  have HB1 := Lib.hid (show Below w.heap.size w w1 by rw [← hw1]; exact (Below.refl _ _).alloc (Nat.le_refl _) _)
  have HR1 := Lib.hid (show ArrB w1 w.heap.size (noughts 64) by rw [← hw1]; exact Blk.new w _ _)
  clear hw1
  refine (put64_any none 0 0 [] (fun _ => False) gen _ (RowG.nil _ _ _ _ _) (fun _ h => h.elim) (by omega) (by omega) hg2).mono ?_
  rintro e w2 ⟨rfl, ha, hb⟩
  have HA2 := Lib.hid ha
  have HB2 := Lib.hid hb
  clear ha hb
  go_wp2_with fail
  refine (put32_any (some ⟨w1.heap.size, 0, none⟩) 8 8 ([] ++ beBytes gen 8) (· = w1.heap.size) pos _ (HA2.out.rowN 0 (by simp [beBytes_length]) rfl) (fun b h => by subst h; exact HA2.out.lt) (by omega) hp hp2).mono ?_
  rintro e w3 ⟨rfl, ha, hb⟩
  have HA3 := Lib.hid ha
  have HB3 := Lib.hid (HB2.out.trans (hb.mono HB2.out.size))
  clear ha hb HA2 HB2
  go_wp2_with fail
  refine (put16_any (some ⟨w2.heap.size, 0, none⟩) 12 12 ([] ++ beBytes gen 8 ++ beBytes pos 4) (· = w2.heap.size) n _ (HA3.out.rowN 0 (by simp [beBytes_length]) rfl) (fun b h => by subst h; exact HA3.out.lt) (by omega) (by omega) (by omega)).mono ?_
  rintro e w4 ⟨rfl, ha, hb⟩
  have HA4 := Lib.hid ha
  have HB4 := Lib.hid (HB3.out.trans (hb.mono HB3.out.size))
  clear ha hb HA3 HB3
  go_wp2_with fail
  refine (put16_any (some ⟨w3.heap.size, 0, none⟩) 14 14 ([] ++ beBytes gen 8 ++ beBytes pos 4 ++ beBytes n 2) (· = w3.heap.size) 0 _ (HA4.out.rowN 0 (by simp [beBytes_length]) rfl) (fun b h => by subst h; exact HA4.out.lt) (by omega) (by omega) (by omega)).mono ?_
  rintro e w5 ⟨rfl, ha, hb⟩
  have HA5 := Lib.hid (show ArrU w5 w4.heap.size (headL gen pos xs.length) by rw [show (xs.length : Int) = n by rw [HL.out]]; simpa [headL] using ha)
  have HB5 := Lib.hid (HB4.out.trans (hb.mono HB4.out.size))
  clear ha hb HA4 HB4
  generalize hh : headL gen pos xs.length = hd at *
  have HH := Lib.hid hh
  have hl16 : hd.length = 16 := by rw [← hh]; exact headL_length _ _ _
  obtain ⟨w6, hw6⟩ : ∃ w6, w6 = w5.alloc (.cells (cells8 (noughts 64)) 27) := ⟨_, rfl⟩
  have HB6 := Lib.hid (show Below w1.heap.size w1 w6 by rw [hw6]; exact HB5.out.alloc HB5.out.size _)
  have HG6 := Lib.hid (show w6.heap[w5.heap.size]? = some (.cells ((noughts 64).map (Value.int .u8)).toArray 27 (0, 0)) by rw [hw6]; exact Blk.new w5 _ _)
  have HA6 := Lib.hid (show ArrU w6 w4.heap.size hd by rw [hw6]; exact Blk.alloc HA5.out _)
  have HW6 := Lib.hid hw6
  have HBG := Lib.hid HB5.out.size
  have HR6 := Lib.hid (show ArrB w6 w.heap.size (noughts 64) from HR1.out.below HB6.out HR1.out.lt)
  have HX6 := Lib.hid ((HX.out.below HB1.out hS).below HB6.out (fun b h => Nat.lt_of_lt_of_le (hS b h) HB1.out.size))
  have c1 := Lib.hid (show (hd.map (Value.int .u8)).length = Nat.min 16 64 by simp [hl16])
  have c2 := Lib.hid (row_src (HA6.out.rowN 0 hl16 (S := fun _ => True) trivial) (by omega))
  have c3 := Lib.hid (show 0 + (hd.map (Value.int .u8)).length ≤ ((noughts 64).map (Value.int .u8)).length by simp [hl16, noughts_length])
  have d1 := Lib.hid (show splice ((noughts 64).map (Value.int .u8)) 0 (hd.map (Value.int .u8)) = (hd ++ noughts 48).map (Value.int .u8) by
    rw [splice_head _ _ 48 (Value.int .u8 0) (by simp [noughts, hl16])]
    simp [noughts])
  have c4 := Lib.hid (show (xs.map (Value.int .u8)).length = Nat.min n 48 by rw [List.length_map, HL.out]; exact (Nat.min_eq_left hn).symm)
  have c6 := Lib.hid (show 16 + (xs.map (Value.int .u8)).length ≤ ((hd ++ noughts 48).map (Value.int .u8)).length by simp [hl16, noughts_length]; have := HL.out; omega)
  have d2 := Lib.hid (show splice ((hd ++ noughts 48).map (Value.int .u8)) 16 (xs.map (Value.int .u8)) = (hd ++ xs ++ noughts (48 - xs.length)).map (Value.int .u8) by
    have := splice_at (hd.map (Value.int .u8)) ((hd ++ noughts 48).map (Value.int .u8)) (xs.map (Value.int .u8)) 48 (.int .u8 0) (by simp [noughts]) (by simp; have := HL.out; omega)
    rw [List.length_map, hl16] at this
    rw [this]
    simp [noughts])
  have HPL := Lib.hid (packL_length gen pos xs (by have := HL.out; omega))
  clear hh hw6 hl16 HA5
  go_wp2_with (first | (refine wpList_alloc_blk rfl rfl ?_; rw [← HW6.out]) | (refine wpList_copy_splice rfl (.tmp 31) (.tmp 32) 24 24 rfl 5 Try.underlying24 size_u8 _ _ _ _ _ _ rfl rfl w5.heap.size 0 ((noughts 64).map (Value.int .u8)) 27 HG6.out (hd.map (Value.int .u8)) c1.out (fun _ => ⟨rfl, c2.out⟩) c3.out (one_u8 hd) w1.heap.size w1 HB6.out HBG.out ?_; intro w7 hg7 hb7; rw [d1.out] at hg7; have HG7 := Lib.hid hg7; have HB7 := Lib.hid hb7; have HX7 := Lib.hid ((HX.out.below HB1.out hS).below HB7.out (fun b h => Nat.lt_of_lt_of_le (hS b h) HB1.out.size)); clear hg7 hb7) | (refine wpList_copy_splice rfl (.tmp 36) (.tmp 37) 24 24 rfl 5 Try.underlying24 size_u8 _ _ _ _ _ _ rfl rfl w5.heap.size 16 ((hd ++ noughts 48).map (Value.int .u8)) 27 HG7.out (xs.map (Value.int .u8)) c4.out (fun h => ⟨rfl, row_src HX7.out (by simpa [HL.out] using h)⟩) c6.out (one_u8 xs) w1.heap.size w1 HB7.out HBG.out ?_; intro w8 hg8 hb8; rw [d2.out] at hg8; have HA8 := Lib.hid (show ArrB w8 w5.heap.size (packL gen pos xs) by rw [packL, HH.out]; exact hg8); have HB8 := Lib.hid hb8; clear hg8 hb8) |
    (refine wpList_load_blk (.tmp 9) rfl rfl w5.heap.size 0 rfl (packL gen pos xs) HPL.out HA8.out.range ?_) |
    (refine wpList_store_blk (.tmp 6) (.tmp 39) rfl rfl w.heap.size (packL gen pos xs) rfl rfl 27 (noughts 64) (HR1.out.below HB8.out HR1.out.lt) (noughts_length 64) HPL.out ?_) |
    (with_reducible refine halt_end ?_))
  exact Halt.ret (results_blk2 rfl _ _ w.heap.size 27 (packL gen pos xs) rfl ((HR1.out.below HB8.out HR1.out.lt).setRow (packL gen pos xs)) HPL.out) rfl
    ⟨rfl, below_setRow (HB1.out.trans (HB8.out.mono HB1.out.size)) (Nat.le_refl _) _⟩

end Go.Proofs.Ytikeiloeeklkeaa
-- x
