/- The layer does something (icehouselaw06.wakes). -/
import Derived.Test.YtehldhdpeefljaaRecL
import Derived.Test.YtehldhdpeefljaaSame
import Derived.Lib.SlBytesConst
namespace Go.Proofs.Ytehldhdpeefljaa
open Go.RowKit
set_option linter.unusedVariables false

/-- A row of bytes that carries a mark reads as a list. -/
theorem row_marked (w : World) (xs : List Int) (m : Nat × Nat) (n : Nat) (hn : xs.length = n) {S : Nat → Prop} (hs : S w.heap.size) : RowI .u8 (w.alloc (.cells (xs.map (Value.int .u8)).toArray 5 m)) S (some ⟨w.heap.size, 0, none⟩) n xs := by
  subst hn
  refine ⟨rfl, fun _ => ⟨w.heap.size, 0, rfl, hs, fun j hj => ?_⟩⟩
  rw [World.cell?_alloc_mark]
  simp [List.getD, List.getElem?_eq_getElem hj]


theorem not_may0 (k f x s : Int) (m : Nat) : ¬ May k f x s 0 m := fun h => by have := h.2.1; omega

set_option maxHeartbeats 2000000 in
theorem wakes_any (w : World) : Calls Try.prog 10 #[] w fun e w' => e = .returned (.bool true) ∧ Below w.heap.size w w' := by
  have hmay : May 1 0 0 1 [97].length [120, 121].length := by decide
  have hrng : Rng 0 0 1 := ⟨by omega, by omega, by omega, by omega, by omega, by omega⟩
  have hr := rec_may (xs := [97]) (ys := [120, 121]) [] hmay hrng
  have hLl : (recB 1 0 0 1 [97] [120, 121]).length = 24 := recB_length _ _ _ _ _ _
  have hLb : Bytes (recB 1 0 0 1 [97] [120, 121]) := recB_bytes (by omega) (by intro j; match j with | 0 => simp | (j + 1) => simp) (by intro j; match j with | 0 => simp | 1 => simp | (j + 2) => simp)
  rw [List.append_nil] at hr
  obtain ⟨hmb, e1, e2, e3, e4, e5, e6, e7, e8⟩ := hr
  have hneed : needOf (recB 1 0 0 1 [97] [120, 121]) = 24 := by unfold needOf; rw [e5, e6]; rfl
  have HMAY := Lib.hid hmay
  have HRNG := Lib.hid hrng
  have HENC := Lib.hid (fun (W : World) (g : Nat) (h1 : RowI .u8 W (fun b => b < W.heap.size) (some ⟨g, 0, none⟩) 1 [97]) (h2 : RowI .u8 W (fun b => b < W.heap.size) (some ⟨g + 1, 0, none⟩) 2 [120, 121]) =>
    encode_yes 1 0 0 1 (some ⟨g, 0, none⟩) (some ⟨g + 1, 0, none⟩) 1 1 2 2 [97] [120, 121] (fun b => b < W.heap.size) W hmay hrng h1 h2 (fun b h => h) (fun h => by cases h) (fun h => by cases h))
  generalize hL : recB 1 0 0 1 [97] [120, 121] = L at *
  have HL := Lib.hid hL
  have HMB := Lib.hid hmb
  have HLL := Lib.hid hLl
  have HLB := Lib.hid hLb
  have E1 := Lib.hid e1
  have E2 := Lib.hid e2
  have E3 := Lib.hid e3
  have E4 := Lib.hid e4
  have E5 := Lib.hid (show klenOf L = 1 from e5)
  have E6 := Lib.hid (show vlenOf L = 2 from e6)
  have E7 := Lib.hid e7
  have E8 := Lib.hid e8
  have HND := Lib.hid hneed
  clear hmay hrng hL hmb hLl hLb e1 e2 e3 e4 e5 e6 e7 e8 hneed
  have hc1 := Go.Lib.run_convert_bytes_const (P := Try.prog) w 24 5 #[.int .u8 97] 1 1 Try.underlying24 Try.underlying5
  have hc2 := Go.Lib.run_convert_bytes_const (P := Try.prog) (w.alloc (.cells #[.int .u8 97] 5 (1, 2))) 24 5 #[.int .u8 120, .int .u8 121] 2 2 Try.underlying24 Try.underlying5
  simp only [World.size_alloc, List.size_toArray, List.length_cons, List.length_nil, Nat.zero_add, Nat.reduceAdd] at hc1 hc2
  go_enter Try.func10, Try.ntmps10
  go_wp2_with fail
  clear hc1 hc2
  generalize hw1 : ((w.alloc _).alloc _).alloc _ = w1
  have HB1 := Lib.hid (show Below w.heap.size w w1 by rw [← hw1]; exact (((Below.refl _ _).alloc (Nat.le_refl _) _).alloc (by simp) _).alloc (by simp; omega) _)
  have HS1 := Lib.hid (show w1.heap.size = w.heap.size + 3 by rw [← hw1]; simp)
  have HA1 := Lib.hid (show RowI .u8 w1 (fun b => b < w1.heap.size) (some ⟨w.heap.size, 0, none⟩) 1 [97] by
    have h := row_marked w [97] (1, 2) 1 rfl (S := fun b => b = w.heap.size) rfl
    rw [← hw1]
    refine ((h.keep (fun p hp => World.cell?_alloc_lt _ _ p ?_)).keep (fun p hp => World.cell?_alloc_lt _ _ p ?_)).more (fun b h => ?_) <;> simp <;> omega)
  have HV1 := Lib.hid (show RowI .u8 w1 (fun b => b < w1.heap.size) (some ⟨w.heap.size + 1, 0, none⟩) 2 [120, 121] by
    have h := row_marked (w.alloc (.cells #[.int .u8 97] 5 (1, 2))) [120, 121] (2, 3) 2 rfl (S := fun b => b = w.heap.size + 1) (by simp)
    rw [show (w.alloc (.cells #[.int .u8 97] 5 (1, 2))).heap.size = w.heap.size + 1 by simp] at h
    rw [← hw1]
    refine (h.keep (fun p hp => World.cell?_alloc_lt _ _ p ?_)).more (fun b h => ?_) <;> simp <;> omega)
  have HR1 := Lib.hid (show Blk w1 (w.heap.size + 1 + 1) 26 (recC 1 0 0 1 (some ⟨w.heap.size, 0, none⟩) 1 1 (some ⟨w.heap.size + 1, 0, none⟩) 2 2) by rw [← hw1]; exact blk_new3 w _ _ _ _)
  clear hw1
  refine (HENC.out w1 w.heap.size HA1.out HV1.out).mono ?_
  rintro e w2 ⟨v, rfl, hown, hb⟩
  rw [HLL.out] at hown
  obtain ⟨A2, c2, rfl, hcc, hnn, hrow⟩ := rowG_own 0 hown
  have HROW := Lib.hid hrow
  have HCC := Lib.hid hcc
  have HA2 := Lib.hid ((HA1.out.below hb (fun b h => h)).more (T := fun b => b < w2.heap.size) (fun b h => Nat.lt_of_lt_of_le h hb.size))
  have HV2 := Lib.hid ((HV1.out.below hb (fun b h => h)).more (T := fun b => b < w2.heap.size) (fun b h => Nat.lt_of_lt_of_le h hb.size))
  have HR2 := Lib.hid (HR1.out.below hb HR1.out.lt)
  have HB2 := Lib.hid (HB1.out.trans (hb.mono HB1.out.size))
  clear hown hcc hnn hrow hb
  go_wp2_with fail
  refine (dec_ok A2 24 c2 L _ w2 HROW.out (fun b h => h.2.1) HLB.out (by omega) HCC.out HMB.out (by rw [HND.out]; omega)).mono ?_
  rintro e w3 ⟨b1, b2, rfl, hb1, hb2, hne, ha1, ha2, hb⟩
  rw [E1.out, E2.out, E3.out, E4.out, E5.out, E6.out, HND.out]
  rw [E7.out] at ha1
  rw [E8.out] at ha2
  have HK3 := Lib.hid ha1
  have HW3 := Lib.hid ha2
  have HA3 := Lib.hid ((HA2.out.below hb (fun b h => h)).more (T := fun b => b < w3.heap.size) (fun b h => Nat.lt_of_lt_of_le h hb.size))
  have HV3 := Lib.hid ((HV2.out.below hb (fun b h => h)).more (T := fun b => b < w3.heap.size) (fun b h => Nat.lt_of_lt_of_le h hb.size))
  have HR3 := Lib.hid (HR2.out.below hb HR2.out.lt)
  have HB3 := Lib.hid (HB2.out.trans (hb.mono HB2.out.size))
  clear hb1 hb2 hne ha1 ha2 hb
  obtain ⟨w4, hw4⟩ : ∃ w4, w4 = w3.alloc (.cells (recC 1 0 0 1 (some ⟨b1, 0, none⟩) 1 1 (some ⟨b2, 0, none⟩) 2 2) 26) := ⟨_, rfl⟩
  have HK4 := Lib.hid (show ArrU w4 b1 [97] by rw [hw4]; exact Blk.alloc HK3.out _)
  have HW4 := Lib.hid (show ArrU w4 b2 [120, 121] by rw [hw4]; exact Blk.alloc HW3.out _)
  have HA4 := Lib.hid (show RowI .u8 w4 (fun b => b < w4.heap.size) (some ⟨w.heap.size, 0, none⟩) 1 [97] by rw [hw4]; exact (HA3.out.keep (fun p hp => World.cell?_alloc_lt _ _ p hp)).more (fun b h => by simp; omega))
  have HV4 := Lib.hid (show RowI .u8 w4 (fun b => b < w4.heap.size) (some ⟨w.heap.size + 1, 0, none⟩) 2 [120, 121] by rw [hw4]; exact (HV3.out.keep (fun p hp => World.cell?_alloc_lt _ _ p hp)).more (fun b h => by simp; omega))
  have HR4 := Lib.hid (show Blk w4 (w.heap.size + 1 + 1) 26 (recC 1 0 0 1 (some ⟨w.heap.size, 0, none⟩) 1 1 (some ⟨w.heap.size + 1, 0, none⟩) 2 2) by rw [hw4]; exact HR3.out.alloc _)
  have HQ4 := Lib.hid (show Blk w4 w3.heap.size 26 (recC 1 0 0 1 (some ⟨b1, 0, none⟩) 1 1 (some ⟨b2, 0, none⟩) 2 2) by rw [hw4]; exact Blk.new w3 _ _)
  have HB4 := Lib.hid (show Below w.heap.size w w4 by rw [hw4]; exact HB3.out.alloc HB3.out.size _)
  obtain ⟨t, ht, hnt⟩ := conv_string (P := Try.prog) w4 24 9 5 Try.underlying24 Try.underlying5 Try.underlying9 2 (HW4.out.rowN 0 (n := 2) rfl (S := fun b => b < w4.heap.size) HW4.out.lt).toRow (by intro j; match j with | 0 => simp | 1 => simp | (j + 2) => simp)
  obtain rfl : t = ⟨#[120, 121]⟩ := nums_inj (hnt.trans rfl)
  have HWW := Lib.hid hw4
  clear hw4 hnt
  rw [HWW.out] at ht
  go_wp2_with (first
    | (refine wpList_load_rowB (.tmp 1) 26 rfl rfl (w.heap.size + 1 + 1) rfl 26 [.int .i64 1, .int .u32 0, .int .u32 0, .int .u64 1, .slice (some ⟨w.heap.size, 0, none⟩) 1 1, .slice (some ⟨w.heap.size + 1, 0, none⟩) 2 2] _ Try.underlying26 rfl size_rec (by have h := HR4.out; rw [HWW.out] at h; exact h) ?_)
    | fail)
  clear ht
  rw [← HWW.out]
  refine (same_any 1 0 0 1 1 0 0 1 (some ⟨w.heap.size, 0, none⟩) (some ⟨w.heap.size + 1, 0, none⟩) (some ⟨b1, 0, none⟩) (some ⟨b2, 0, none⟩) 1 1 2 2 1 1 2 2 [97] [97] [120, 121] [120, 121] (fun b => b < w4.heap.size) w4 HA4.out (HK4.out.rowN 0 rfl HK4.out.lt) HV4.out (HW4.out.rowN 0 rfl HW4.out.lt) (fun b h => h)
    (by intro j; match j with | 0 => simp | (j + 1) => simp) (by intro j; match j with | 0 => simp | (j + 1) => simp) (by intro j; match j with | 0 => simp | 1 => simp | (j + 2) => simp) (by intro j; match j with | 0 => simp | 1 => simp | (j + 2) => simp)).mono ?_
  rintro e w5 ⟨rfl, hb⟩
  rw [recSame_self]
  have HB5 := Lib.hid (HB4.out.trans (hb.mono HB4.out.size))
  clear hb
  go_wp2_with fail
  refine (check_no 0 0 0 0 none none 0 0 0 0 w5 (not_may0 _ _ _ _ _)).mono ?_
  rintro e w6 ⟨rfl, hb⟩
  have HB6 := Lib.hid (HB5.out.trans (hb.mono HB5.out.size))
  clear hb
  go_wp2_with fail
  go_ret
  exact ⟨rfl, HB6.out⟩

end Go.Proofs.Ytehldhdpeefljaa
