/- Package super: Open, on a disk that does whatever it is asked. -/
import Derived.Test.YtkmbbfdjdmkjpaaCount
import Derived.Test.YtkmbbfdjdmkjpaaSetAll
namespace Go.Proofs.Ytkmbbfdjdmkjpaa
open Go.RowKit
set_option linter.unusedVariables false
set_option linter.unusedSimpArgs false

def rdN (k : Dk) : Nat → Dk
  | 0 => k
  | j + 1 => (rdN k j).rd
theorem rdN_good {k : Dk} (h : Good k) : ∀ j, Good (rdN k j) ∧ (rdN k j).held = k.held ∧ (rdN k j).safe = k.safe ∧ (rdN k j).pend = k.pend
  | 0 => ⟨h, rfl, rfl, rfl⟩
  | j + 1 => by
    obtain ⟨h1, h2, h3, h4⟩ := rdN_good h j
    have e := h1.rd
    refine ⟨h1.read, ?_, ?_, ?_⟩
    · show (rdN k j).rd.held = _
      rw [e]; exact h2
    · show (rdN k j).rd.safe = _
      rw [e]; exact h3
    · show (rdN k j).rd.pend = _
      rw [e]; exact h4
/-- What was found after j reads. -/
def found2 (xs ys : List Int) (j : Nat) : List Int := (if 0 < j then xs else noughts 64) ++ (if 1 < j then ys else noughts 64)
theorem found2_len {xs ys : List Int} (hx : xs.length = 64) (hy : ys.length = 64) (j : Nat) : (found2 xs ys j).length = 128 := by
  unfold found2
  rw [List.length_append]
  split <;> split <;> simp [hx, hy, noughts_length]
theorem found2_set0 (xs ys : List Int) : ((cells8 (found2 xs ys 0)).toList.take 0 ++ xs.map (Value.int .u8) ++ (cells8 (found2 xs ys 0)).toList.drop (0 + 64)).toArray = cells8 (found2 xs ys 1) := by
  have e : (List.map (Value.int IntKind.u8) (noughts 64 ++ noughts 64)).drop 64 = List.map (Value.int IntKind.u8) (noughts 64) := by
    rw [List.map_append, List.drop_left' (by simp [noughts_length])]
  simp [cells8, found2]
  simpa using e
theorem found2_set1 {xs : List Int} (ys : List Int) (hx : xs.length = 64) : ((cells8 (found2 xs ys 1)).toList.take 64 ++ (ys.map (Value.int .u8) ++ (cells8 (found2 xs ys 1)).toList.drop 128)).toArray = cells8 (found2 xs ys 2) := by
  have e1 : (List.map (Value.int IntKind.u8) (xs ++ noughts 64)).take 64 = List.map (Value.int IntKind.u8) xs := by
    rw [List.map_append, List.take_left' (by simp [hx])]
  have e2 : (List.map (Value.int IntKind.u8) (xs ++ noughts 64)).drop 128 = [] := List.drop_eq_nil_of_le (by simp [hx, noughts_length])
  have e3 : found2 xs ys 1 = xs ++ noughts 64 := by simp [found2]
  have e4 : found2 xs ys 2 = xs ++ ys := by simp [found2]
  rw [e3, e4]
  simp only [cells8, List.toList_toArray]
  rw [e1, e2, List.map_append]
  simp
theorem blk_part {w : World} {g : Nat} {t : TypeId} {zs : List Int} (h : Blk w g t (cells8 zs)) (off : Nat) (ys : List Int) (hy : ∀ j, j < ys.length → zs[off + j]? = ys[j]?) : w.rangeAt g off (ys.map (Value.int .u8)) := by
  intro j u hu
  rw [h.cell]
  rw [List.getElem?_map] at hu
  have hj : j < ys.length := by
    rcases Nat.lt_or_ge j ys.length with h | h
    · exact h
    · rw [List.getElem?_eq_none h] at hu; cases hu
  simp only [cells8, List.getElem?_toArray, List.getElem?_map, hy j hj]
  exact hu
theorem zero_two (w : World) : (zeroValue 117).run Try.prog w = .ok (.agg (cells8 (noughts 128))) w := (Try.zeroValue117 w).trans rfl
theorem size_two : (Try.prog.info? 117).map (·.size) = some 128 := by kernel_rfl

set_option maxHeartbeats 2000000 in
set_option maxRecDepth 100000 in
theorem open_good {w : World} {X : Nat → Prop} {d n : Nat} {k : Dk} (hd : DiskM w X d n k) (hX : ∀ c, X c → c < w.heap.size) (hg : Good k) (hn : 2 ≤ n) (xs ys : List Int) (hxs : k.held.getD 0 [] = xs) (hys : k.held.getD 1 [] = ys) (a b g r v f t : Int) (hm : MayS a b g r) (hr : 2 + a * b ≤ (n : Int))
    (hc : ∀ u, Calls Try.prog 81 #[.agg (cells8 xs), .agg (cells8 ys)] u fun e w' => e = .returned (.tuple #[.agg (turC a b g r v f t), .int .i64 0]) ∧ Below u.heap.size u w') :
    Calls Try.prog 27 #[.pointer (some ⟨d, 0, none⟩)] w fun e w' => ∃ p, e = .returned (.tuple #[.pointer (some ⟨p, 0, none⟩), .int .i64 0]) ∧ StoreM w' X p d n a b g r v f t k.rd.rd ∧ Kept X w w' := by
  have hlx : xs.length = 64 := by
    rw [← hxs]
    have hl := hd.ok.heldLen
    have h0 : 0 < k.held.length := by omega
    rw [List.getD_eq_getElem?_getD, List.getElem?_eq_getElem h0, Option.getD_some]
    exact hd.ok.heldSecs _ (List.getElem_mem h0)
  have hly : ys.length = 64 := by
    rw [← hys]
    have hl := hd.ok.heldLen
    have h0 : 1 < k.held.length := by omega
    rw [List.getD_eq_getElem?_getD, List.getElem?_eq_getElem h0, Option.getD_some]
    exact hd.ok.heldSecs _ (List.getElem_mem h0)
  have HD := Lib.hid hd
  have HX := Lib.hid hX
  have HG := Lib.hid hg
  have HXS := Lib.hid hxs
  have HYS := Lib.hid hys
  have HLX := Lib.hid hlx
  have HLY := Lib.hid hly
  have HM := Lib.hid hm
  have HRM := Lib.hid (show decide (2 + a * b ≤ (n : Int)) = true from decide_eq_true hr)
  have HC := Lib.hid hc
  have hmin : min (2 : Int) (n : Int) = 2 := by omega
  clear hd hX hg hxs hys hlx hly hm hr hc
  have HD1 := Lib.hid (show DiskM (w.alloc (.cells (cells8 (noughts 128)) 117)) (fun c => X c ∨ c = w.heap.size) d n k from HD.out.below ((Below.refl w.heap.size w).alloc (Nat.le_refl _) _) (fun c hc h => by rcases h with h | h; exact h; omega))
  go_enter Try.func27, Try.ntmps27
  go_wp2_with (refine wpList_alloc_row 117 rfl rfl (cells8 (noughts 128)) zero_two ?_)
  refine (len_k HD1.out).mono ?_
  rintro e w2 ⟨rfl, rfl⟩
  go_wp2_with fail
  go_loopw [15] (fun i wr => ∃ j : Nat, j ≤ 2 ∧ i = .int .i64 j ∧ DiskM wr (fun c => X c ∨ c = w.heap.size) d n (rdN k j) ∧ Blk wr w.heap.size 117 (cells8 (found2 xs ys j)) ∧ Kept X w wr) (fun i _ => 2 - (intOf i).toNat)
  case atStart => exact ⟨0, Nat.zero_le _, rfl, HD1.out, Blk.new w _ _, (Kept.refl X w).alloc (fun c h => HX.out c h) _⟩
  case round =>
    obtain ⟨j, hj, rfl, hdj, hfj, hkj⟩ := hrel
    have HDJ := Lib.hid hdj
    have HFJ := Lib.hid hfj
    have HKJ := Lib.hid hkj
    have HXJ := Lib.hid (show ∀ c, (X c ∨ c = w.heap.size) → c < wr.heap.size from fun c h => by
      rcases h with h | h
      · exact Nat.lt_of_lt_of_le (HX.out c h) hkj.size
      · rw [h]; exact hfj.lt)
    clear hdj hfj hkj
    obtain rfl | rfl | rfl : j = 0 ∨ j = 1 ∨ j = 2 := by omega
    · have HZS := HXS
      have HLZ := HLX
      have e0 : (rdN k 0).rdv 0 = xs := by
        rw [(rdN_good HG.out 0).1.rdv, (rdN_good HG.out 0).2.1]
        exact HZS.out
      have hre : (rdN k 0).rde = 0 := (rdN_good HG.out 0).1.rde
      have E0 := Lib.hid e0
      have HRE := Lib.hid hre
      clear e0 hre
      go_wp2_with fail
      refine (read_k HDJ.out (fun c h => HXJ.out c h) 0 (by omega)).mono ?_
      rintro e w3 ⟨rfl, hd3, hk3⟩
      rw [E0.out, HRE.out]
      have HD3 := Lib.hid (show DiskM (w3.alloc (.cells (cells8 xs) 26)) (fun c => X c ∨ c = w.heap.size) d n (rdN k (0 + 1)) from hd3.below ((Below.refl w3.heap.size w3).alloc (Nat.le_refl _) _) (fun c _ h => h))
      have HF3 := Lib.hid (show Blk (w3.alloc (.cells (cells8 xs) 26)) w.heap.size 117 (cells8 (found2 xs ys 0)) from (HFJ.out.kept hk3 (.inr rfl)).alloc _)
      have HV3 := Lib.hid (show ArrB (w3.alloc (.cells (cells8 xs) 26)) w3.heap.size xs from Blk.new w3 _ _)
      have HK3 := Lib.hid (show Kept X w (w3.alloc (.cells (cells8 xs) 26)) from (HKJ.out.trans hk3 (fun c h => .inl h)).alloc (fun c h => Nat.lt_of_lt_of_le (HX.out c h) (HKJ.out.trans hk3 (fun c h => .inl h)).size) _)
      have HZ3 := Lib.hid (show w.heap.size < w3.heap.size from (HFJ.out.kept hk3 (.inr rfl)).lt)
      clear hd3 hk3
      go_wp2_with (first
        | (refine wpList_alloc_blk rfl rfl ?_)
        | (refine wpList_store_new (.tmp 6) (.tmp 22) rfl rfl w3 xs rfl rfl (noughts 64) rfl (noughts_length 64) HLZ.out ?_)
        | (refine wpList_load_blk (.tmp 6) rfl rfl w3.heap.size 0 rfl xs HLZ.out HV3.out.range ?_)
        | (refine wpList_store_part (.tmp 29) (.tmp 28) 26 rfl rfl Try.sizeOf26 w.heap.size 0 (xs.map (Value.int .u8)) rfl rfl 117 (cells8 (found2 xs ys 0)).toList HF3.out (by rw [List.length_map]; exact HLZ.out) (ones8 xs) (by have := found2_len HLX.out HLY.out 0; simp [cells8, this]) ?_))
      go_roundw
      case rel =>
        refine ⟨1, by omega, rfl, HD3.out.kept (Z := fun b => b ≠ w.heap.size) ((Kept.refl _ _).setRow (fun h => h rfl) _) (fun b _ hx hb => hx (.inr hb)) (fun b _ h => h), ?_, HK3.out.trans ((Kept.refl X _).setRow (fun h => Nat.lt_irrefl _ (HX.out _ h)) _) (fun c h => h)⟩
        rw [← found2_set0 xs ys]
        exact setRow_heap _ _ _ _ _ _ HF3.out
      case measure => simp [intOf]
    · have HZS := HYS
      have HLZ := HLY
      have e0 : (rdN k 1).rdv 1 = ys := by
        rw [(rdN_good HG.out 1).1.rdv, (rdN_good HG.out 1).2.1]
        exact HZS.out
      have hre : (rdN k 1).rde = 0 := (rdN_good HG.out 1).1.rde
      have E0 := Lib.hid e0
      have HRE := Lib.hid hre
      clear e0 hre
      go_wp2_with fail
      refine (read_k HDJ.out (fun c h => HXJ.out c h) 1 (by omega)).mono ?_
      rintro e w3 ⟨rfl, hd3, hk3⟩
      rw [E0.out, HRE.out]
      have HD3 := Lib.hid (show DiskM (w3.alloc (.cells (cells8 ys) 26)) (fun c => X c ∨ c = w.heap.size) d n (rdN k (1 + 1)) from hd3.below ((Below.refl w3.heap.size w3).alloc (Nat.le_refl _) _) (fun c _ h => h))
      have HF3 := Lib.hid (show Blk (w3.alloc (.cells (cells8 ys) 26)) w.heap.size 117 (cells8 (found2 xs ys 1)) from (HFJ.out.kept hk3 (.inr rfl)).alloc _)
      have HV3 := Lib.hid (show ArrB (w3.alloc (.cells (cells8 ys) 26)) w3.heap.size ys from Blk.new w3 _ _)
      have HK3 := Lib.hid (show Kept X w (w3.alloc (.cells (cells8 ys) 26)) from (HKJ.out.trans hk3 (fun c h => .inl h)).alloc (fun c h => Nat.lt_of_lt_of_le (HX.out c h) (HKJ.out.trans hk3 (fun c h => .inl h)).size) _)
      have HZ3 := Lib.hid (show w.heap.size < w3.heap.size from (HFJ.out.kept hk3 (.inr rfl)).lt)
      clear hd3 hk3
      go_wp2_with (first
        | (refine wpList_alloc_blk rfl rfl ?_)
        | (refine wpList_store_new (.tmp 6) (.tmp 22) rfl rfl w3 ys rfl rfl (noughts 64) rfl (noughts_length 64) HLZ.out ?_)
        | (refine wpList_load_blk (.tmp 6) rfl rfl w3.heap.size 0 rfl ys HLZ.out HV3.out.range ?_)
        | (refine wpList_store_part (.tmp 29) (.tmp 28) 26 rfl rfl Try.sizeOf26 w.heap.size 64 (ys.map (Value.int .u8)) rfl rfl 117 (cells8 (found2 xs ys 1)).toList HF3.out (by rw [List.length_map]; exact HLZ.out) (ones8 ys) (by have := found2_len HLX.out HLY.out 1; simp [cells8, this]) ?_))
      go_roundw
      case rel =>
        refine ⟨2, by omega, rfl, HD3.out.kept (Z := fun b => b ≠ w.heap.size) ((Kept.refl _ _).setRow (fun h => h rfl) _) (fun b _ hx hb => hx (.inr hb)) (fun b _ h => h), ?_, HK3.out.trans ((Kept.refl X _).setRow (fun h => Nat.lt_irrefl _ (HX.out _ h)) _) (fun c h => h)⟩
        rw [← found2_set1 ys HLX.out]
        exact setRow_heap _ _ _ _ _ _ HF3.out
      case measure => simp [intOf]
    · have hrx : wr.rangeAt w.heap.size 0 (xs.map (Value.int .u8)) := blk_part HFJ.out 0 xs (fun j hj => by
        show ((xs ++ ys : List Int))[0 + j]? = _
        rw [Nat.zero_add, List.getElem?_append_left hj])
      have hry : wr.rangeAt w.heap.size 64 (ys.map (Value.int .u8)) := blk_part HFJ.out 64 ys (fun j hj => by
        show ((xs ++ ys : List Int))[64 + j]? = _
        rw [List.getElem?_append_right (by rw [HLX.out]; omega), HLX.out, Nat.add_sub_cancel_left])
      have HRX := Lib.hid hrx
      have HRY := Lib.hid hry
      clear hrx hry
      go_wp2_with (first
        | (refine wpList_load_blk (.tmp 32) rfl rfl w.heap.size 0 rfl xs HLX.out HRX.out ?_)
        | (refine wpList_load_blk (.tmp 34) rfl rfl w.heap.size 64 rfl ys HLY.out HRY.out ?_))
      refine (HC.out _).mono ?_
      rintro e w4 ⟨rfl, hb⟩
      have HD5 := Lib.hid (show DiskM (w4.alloc (.cells (turC a b g r v f t) 95)) X d n k.rd.rd from HDJ.out.below (hb.alloc hb.size _) (fun c _ h => .inl h))
      have HK5 := Lib.hid (show Kept X w (w4.alloc (.cells (turC a b g r v f t) 95)) from HKJ.out.below (hb.alloc hb.size _) (fun c h => HXJ.out c (.inl h)))
      have HT5 := Lib.hid (Blk.new w4 95 (turC a b g r v f t))
      clear hb
      obtain ⟨c0, c1, c2, c3, c4, c5, c6⟩ : _ ∧ _ ∧ _ ∧ _ ∧ _ ∧ _ ∧ _ := ⟨HT5.out.cell 0, HT5.out.cell 1, HT5.out.cell 2, HT5.out.cell 3, HT5.out.cell 4, HT5.out.cell 5, HT5.out.cell 6⟩
      simp only [List.getElem?_toArray, List.getElem?_cons_zero, List.getElem?_cons_succ] at c0 c1 c2 c3 c4 c5 c6
      go_wp2_with fail
      refine (room_any HD5.out a b g r v f HM.out).mono ?_
      rintro e w6 ⟨rfl, hb⟩
      rw [HRM.out]
      have HT6 := Lib.hid (HT5.out.below hb HT5.out.lt)
      have HD6 := Lib.hid (HD5.out.below (Y := X) hb (fun c _ h => h))
      have HK6 := Lib.hid (HK5.out.below hb (fun c h => Nat.lt_of_lt_of_le (HX.out c h) HK5.out.size))
      clear hb c0 c1 c2 c3 c4 c5 c6
      obtain ⟨c0, c1, c2, c3, c4, c5, c6⟩ : _ ∧ _ ∧ _ ∧ _ ∧ _ ∧ _ ∧ _ := ⟨HT6.out.cell 0, HT6.out.cell 1, HT6.out.cell 2, HT6.out.cell 3, HT6.out.cell 4, HT6.out.cell 5, HT6.out.cell 6⟩
      simp only [List.getElem?_toArray, List.getElem?_cons_zero, List.getElem?_cons_succ] at c0 c1 c2 c3 c4 c5 c6
      go_wp2_with fail
      go_ret2
      refine ⟨w6.heap.size, rfl, ⟨Blk.new w6 _ _, HD6.out.below ((Below.refl _ _).alloc (Nat.le_refl _) _) (fun c hc h => ?_), ?_⟩, HK6.out.alloc (fun c h => Nat.lt_of_lt_of_le (HX.out c h) HK6.out.size) _⟩
      · rcases h with h | h
        · exact h
        · exact absurd h (by omega)
      · intro h
        have := HX.out _ h
        have := HK6.out.size
        omega
end Go.Proofs.Ytkmbbfdjdmkjpaa
