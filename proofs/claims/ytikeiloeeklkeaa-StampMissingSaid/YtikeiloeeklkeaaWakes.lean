/- The layer does something (icehouselaw05.wakes). -/
import Derived.Test.YtikeiloeeklkeaaStamp
namespace Go.Proofs.Ytikeiloeeklkeaa
open Go.RowKit
set_option linter.unusedVariables false

set_option maxHeartbeats 1000000 in
theorem wakes_any (w : World) : Calls Try.prog 9 #[] w fun e w' => e = .returned (.bool true) ∧ Below w.heap.size w w' := by
  obtain ⟨e1, e2, e3, e4⟩ := pack_said 1 2 [3] (by omega) (by omega) (by omega) (by omega) (by simp)
  have hst := pack_stamped 1 2 [3] (by omega) (by omega) (by omega) (by omega) (by simp)
  have hl := packL_length 1 2 [3] (by simp)
  have hb := pack_bytes 1 2 [3] (by intro j; match j with | 0 => simp | (n + 1) => simp)
  generalize hxs : packL 1 2 [3] = xs at *
  have HXS := Lib.hid hxs
  have E1 := Lib.hid e1
  have E2 := Lib.hid e2
  have E3 := Lib.hid e3
  have E4 := Lib.hid e4
  have HST := Lib.hid hst
  have HL := Lib.hid hl
  have HB := Lib.hid hb
  clear hxs e1 e2 e3 e4 hst hl hb
  go_enter Try.func9, Try.ntmps9
  go_wp2_with fail
  generalize hw1 : w.alloc _ = w1
  have HB1 := Lib.hid (show Below w.heap.size w w1 by rw [← hw1]; exact (Below.refl _ _).alloc (Nat.le_refl _) _)
  have HA1 := Lib.hid (show ArrU w1 w.heap.size [3] by rw [← hw1]; exact Blk.new w 5 #[.int .u8 3])
  clear hw1
  refine (pack_ok 1 2 (some ⟨w.heap.size, 0, none⟩) 1 1 [3] (· = w.heap.size) w1 (HA1.out.rowN 0 rfl rfl) (fun b h => by rw [h]; exact HA1.out.lt) (by omega) (by omega) (by omega) (by omega) (by omega)).mono ?_
  rintro e w2 ⟨rfl, hb⟩
  rw [HXS.out]
  have HB2 := Lib.hid hb
  clear hb
  obtain ⟨w3, hw3⟩ : ∃ w3, w3 = w2.alloc (.cells (cells8 xs) 27) := ⟨_, rfl⟩
  have HX3 := Lib.hid (show ArrB w3 w2.heap.size xs by rw [hw3]; exact Blk.new w2 _ _)
  have HB3 := Lib.hid (show Below w2.heap.size w2 w3 by rw [hw3]; exact (Below.refl _ _).alloc (Nat.le_refl _) _)
  have HW3 := Lib.hid hw3
  clear hw3
  go_wp2_with (first
    | (refine wpList_alloc_blk rfl rfl ?_)
    | (refine wpList_store_new _ _ rfl rfl w2 xs rfl rfl (noughts 64) rfl (noughts_length 64) HL.out ?_; rw [← HW3.out])
    | (refine wpList_load_blk (.tmp 1) rfl rfl w2.heap.size 0 rfl xs HL.out HX3.out.range ?_))
  refine (read_ok xs w3 HL.out HB.out HST.out).mono ?_
  rintro e w4 ⟨A, c, rfl, hrow, hb, hnil⟩
  clear hnil
  rw [E1.out, E2.out, E3.out]
  rw [E4.out] at *
  have HR4 := Lib.hid hrow
  have HB4 := Lib.hid hb
  obtain ⟨b, off, rfl, hb4, hc⟩ := hrow.2 (by simp)
  have hcell := hc 0 (by simp)
  simp only [Nat.add_zero] at hcell
  have hcell2 : (w4.alloc (.cells #[.int .u64 1, .int .u32 2, .int .i64 1] 34)).cell? ⟨b, off, none⟩ = some (.int .u8 3) := by
    rw [World.cell?_alloc_lt _ _ _ hb4.2]; exact hcell
  clear hc hrow hb hcell
  go_wp2_with fail
  go_ret
  have s1 := HB1.out.size
  have s2 := HB2.out.size
  have s3 := HB3.out.size
  have s4 := HB4.out.size
  exact ⟨rfl, (((HB1.out.trans (HB2.out.mono (by omega))).trans (HB3.out.mono (by omega))).trans (HB4.out.mono (by omega))).alloc (by omega) _⟩

end Go.Proofs.Ytikeiloeeklkeaa
