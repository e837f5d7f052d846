/- IndexComes. MADE by mkcomes.py. -/
import Derived.Test.YtfgmbkflpdobcaaComesP
namespace Go.Proofs.Ytfgmbkflpdobcaa
open Go.RowKit
attribute [local go_sem] Oper.semAt_some
set_option linter.unusedVariables false
set_option linter.unusedSimpArgs false
theorem fing_val {f i : Nat} (hf : f < 4294967296) (hi : i < 100) : IntKind.u32.wrap ((f : Int) + IntKind.u32.wrap ((i : Int) % 3)) = ((fE f i : Nat) : Int) := by
  rw [IntKind.wrap_u32, IntKind.wrap_u32]
  unfold fE
  omega
theorem fE_lt (f i : Nat) : fE f i < 4294967296 := by unfold fE; omega
set_option maxRecDepth 100000 in
set_option maxHeartbeats 8000000 in
theorem comes_law (a0 a1 : Int) (f : Nat) (hf : f < 4294967296) (w : World) :
    Calls Try.prog 7 #[.int .i64 a0, .int .i64 a1, .int .u32 f] w fun e w' => e = .returned (.bool true) ∧ Below w.heap.size w w' := by
  obtain ⟨n, hn, hn1, hn2⟩ := slots20 a0
  go_enter Try.func7, Try.ntmps7
  go_wp2_with fail
  refine (wakes10 _).mono ?_
  rintro e w1 ⟨rfl, hb1⟩
  have HB1 := Lib.hid hb1
  clear hb1
  go_wp2_with fail
  rw [hn]
  refine (new_ok n hn1 (by omega) _).mono ?_
  rintro e w2 ⟨x, rfl, hix, hb2, hx⟩
  have HX2 := Lib.hid hix
  have hxw : w.heap.size ≤ x := Nat.le_trans HB1.out.size hx
  have HB2 := Lib.hid (HB1.out.trans (hb2.mono HB1.out.size))
  clear hb2 hix hx
  go_wp2_with fail
  case inl =>
    go_loopw [30] (fun i wr => i = .int .i64 0 ∧ wr = w2) (fun i _ => 0)
    case atStart => exact ⟨rfl, rfl⟩
    case round =>
      obtain ⟨rfl, rfl⟩ := hrel
      have HXE := Lib.hid HX2.out
      have HBE := Lib.hid HB2.out
      go_wp2_with fail
      (refine (len_e HXE.out).mono ?_)
      rintro e w7 ⟨rfl, rfl⟩
      go_wp2_with fail
      refine (left_e HXE.out).mono ?_
      rintro e w8 ⟨rfl, hk8⟩
      have HX8 := Lib.hid (HXE.out.kept hk8 trivial)
      have HB8 := Lib.hid (HBE.out.trans (hk8.to_below (B := w.heap.size) (fun _ _ => trivial)))
      clear hk8
      rw [show (n - ([] : List Ent).length : Nat) = n from rfl]
      go_wp2_with fail
      refine (find_ix HX8.out f).mono ?_
      rintro e w9 ⟨⟨v, rfl, hv⟩, hb9⟩
      obtain ⟨A, cap, rfl⟩ := ownsRow_slice hv
      have HB9 := Lib.hid (HB8.out.trans (hb9.mono HB8.out.size))
      clear hv hb9
      rw [show (findE [] f).length = 0 from rfl]
      go_wp2
      go_ret
      exact ⟨rfl, HB9.out⟩
  case inr =>
    obtain ⟨R, hR⟩ : ∃ R : Nat, a1 % 60 = R := ⟨(a1 % 60).toNat, by omega⟩
    have hR2 : R < 60 := by omega
    rw [hR]
    go_loopw [30] (fun i wr => ∃ k : Nat, i = .int .i64 k ∧ k ≤ R ∧ IxE wr x n [] ∧ Below w.heap.size w wr) (fun i _ => R - (intOf i).toNat)
    case atStart => exact ⟨0, rfl, Nat.zero_le _, HX2.out, HB2.out⟩
    case round =>
      obtain ⟨k, rfl, hk, hX, hB⟩ := hrel
      have HX := Lib.hid hX
      have HB := Lib.hid hB
      clear hX hB
      by_cases hkR : k < R
      · obtain ⟨wo, hwo⟩ : ∃ wo : World, wo = wr := ⟨_, rfl⟩
        rw [← hwo] at HX HB
        have HWO := Lib.hid hwo
        clear hwo
        go_wp2_with fail
        go_loopw [34] (fun i wr => ∃ j : Nat, i = .int .i64 j ∧ j ≤ n ∧ IxE wr x n (lE f k j) ∧ Below w.heap.size w wr) (fun i _ => n - (intOf i).toNat)
        case atStart => exact ⟨0, rfl, Nat.zero_le _, by rw [← HWO.out]; exact HX.out, by rw [← HWO.out]; exact HB.out⟩
        case round =>
          obtain ⟨j, rfl, hj, hX1, hB1⟩ := hrel
          have HX1 := Lib.hid hX1
          have HBB1 := Lib.hid hB1
          clear hX1 hB1
          by_cases hjn : j < n
          · go_wp2_with fail
            refine (add_ixU HX1.out (fE f j) (fE_lt f j) (by unfold fE; omega)).mono ?_
            rintro e w3 ⟨he, hx3, hk3⟩
            rw [comes_add hjn] at he hx3
            obtain rfl := he
            have HX3 := Lib.hid hx3
            have HB3 := Lib.hid (below_ix HBB1.out hxw HBB1.out.size hk3)
            clear hx3 hk3
            go_wp2_with fail
            go_roundw
            case rel => exact ⟨j + 1, by simp, by omega, HX3.out, HB3.out⟩
            case measure => show n - (Int.toNat ((j : Int) + 1)) < n - (Int.toNat (j : Int)); omega
          · obtain rfl : j = n := by omega
            go_wp2_with fail
            refine (left_e HX1.out).mono ?_
            rintro e w3 ⟨rfl, hk3⟩
            rw [lE_len, Nat.sub_self]
            have HX3 := Lib.hid (HX1.out.kept hk3 trivial)
            have HB3 := Lib.hid (HBB1.out.trans (hk3.to_below (B := w.heap.size) (fun _ _ => trivial)))
            clear hk3
            go_wp2_with fail
            refine (add_ixU HX3.out f hf rfl).mono ?_
            rintro e w4 ⟨he, hx4, hk4⟩
            rw [comes_full] at he hx4
            obtain rfl := he
            have HX4 := Lib.hid hx4
            have HB4 := Lib.hid (below_ix HB3.out hxw HB3.out.size hk4)
            have hxl4 := hx4.lt
            clear hx4 hk4
            obtain ⟨t, ht⟩ : ∃ t, (((k : Int) % 2) == 0) = t := ⟨_, rfl⟩
            cases t
            · go_wp2_with fail
              go_loopw [11] (fun i wr => ((i = .int .i64 (-1) ∧ IxE wr x j []) ∨ (∃ m : Nat, i = .int .i64 m ∧ m < j ∧ IxE wr x j (lE f k (m + 1)))) ∧ Below w.heap.size w wr) (fun i _ => (intOf i + 1).toNat)
              case atStart =>
                refine ⟨.inr ⟨j - 1, by congr 1; omega, by omega, ?_⟩, HB4.out⟩
                rw [Nat.sub_add_cancel hn1]
                exact HX4.out
              case round =>
                obtain ⟨(⟨rfl, hX5⟩ | ⟨m, rfl, hm, hX5⟩), hB5⟩ := hrel
                · have HX5 := Lib.hid hX5
                  have HB5 := Lib.hid hB5
                  clear hX5 hB5
                  go_wp2_with fail
                  go_roundw
                  case rel => exact ⟨k + 1, by simp, by omega, HX5.out, HB5.out⟩
                  case measure => show R - (Int.toNat ((k : Int) + 1)) < R - (Int.toNat (k : Int)); omega
                · have hxl5 := hX5.lt
                  have HX5 := Lib.hid (hX5.below ((Below.refl wr.heap.size wr).alloc (Nat.le_refl _) (.cells #[.int .i64 m, .int .u64 ((k : Int) + 1), .int .i64 m] 36)) hxl5)
                  have HB5 := Lib.hid (hB5.alloc hB5.size (.cells #[.int .i64 m, .int .u64 ((k : Int) + 1), .int .i64 m] 36))
                  have HK5 := Lib.hid (Blk.new wr 36 #[.int .i64 m, .int .u64 ((k : Int) + 1), .int .i64 m])
                  have hs5 : (wr.alloc (.cells #[.int .i64 m, .int .u64 ((k : Int) + 1), .int .i64 m] 36)).heap.size = wr.heap.size + 1 := by simp
                  have c0 := HK5.out.cell 0
                  have c1 := HK5.out.cell 1
                  have c2 := HK5.out.cell 2
                  clear hX5 hB5
                  go_wp2_with fail
                  refine (remove_ixU HX5.out (fE f m) (by unfold fE; omega)).mono ?_
                  rintro e w6 ⟨he, hx6, hk6⟩
                  rw [comes_rem] at he hx6
                  obtain rfl := he
                  have hk := HK5.out.kept hk6 ⟨by omega, by omega⟩
                  have d0 := hk.cell 0
                  have d1 := hk.cell 1
                  have d2 := hk.cell 2
                  have HX6 := Lib.hid hx6
                  have HB6 := Lib.hid (below_ix HB5.out hxw HB5.out.size hk6)
                  clear hk hx6 hk6 c0 c1 c2
                  go_wp2_with fail
                  refine (remove_ixU HX6.out (fE f m) (by unfold fE; omega)).mono ?_
                  rintro e w7 ⟨he, hx7, hk7⟩
                  rw [comes_no] at he hx7
                  obtain rfl := he
                  have HX7 := Lib.hid hx7
                  have HB7 := Lib.hid (below_ix HB6.out hxw HB6.out.size hk7)
                  clear hx7 hk7 d0 d1 d2
                  go_wp2_with fail
                  go_roundw
                  case rel =>
                    refine ⟨?_, HB7.out⟩
                    cases m with
                    | zero => exact .inl ⟨rfl, HX7.out⟩
                    | succ m => exact .inr ⟨m, by congr 1; omega, by omega, HX7.out⟩
                  case measure => show Int.toNat ((m : Int) - 1 + 1) < Int.toNat ((m : Int) + 1); omega
            · go_wp2_with fail
              refine (drop_ix HX4.out ((k : Int) + 1)).mono ?_
              rintro e w5 ⟨rfl, hx5, hk5⟩
              rw [comes_drop] at hx5 ⊢
              rw [lE_len, show (j - ([] : List Ent).length : Nat) = j from rfl]
              have HX5 := Lib.hid hx5
              have HB5 := Lib.hid (below_ix HB4.out hxw HB4.out.size hk5)
              clear hx5 hk5
              go_wp2_with fail
              go_roundw
              case rel => exact ⟨k + 1, by simp, by omega, HX5.out, HB5.out⟩
              case measure => show R - (Int.toNat ((k : Int) + 1)) < R - (Int.toNat (k : Int)); omega
      · obtain rfl : k = R := by omega
        have HXE := Lib.hid HX.out
        have HBE := Lib.hid HB.out
        go_wp2_with fail
        (refine (len_e HXE.out).mono ?_)
        rintro e w7 ⟨rfl, rfl⟩
        go_wp2_with fail
        refine (left_e HXE.out).mono ?_
        rintro e w8 ⟨rfl, hk8⟩
        have HX8 := Lib.hid (HXE.out.kept hk8 trivial)
        have HB8 := Lib.hid (HBE.out.trans (hk8.to_below (B := w.heap.size) (fun _ _ => trivial)))
        clear hk8
        rw [show (n - ([] : List Ent).length : Nat) = n from rfl]
        go_wp2_with fail
        refine (find_ix HX8.out f).mono ?_
        rintro e w9 ⟨⟨v, rfl, hv⟩, hb9⟩
        obtain ⟨A, cap, rfl⟩ := ownsRow_slice hv
        have HB9 := Lib.hid (HB8.out.trans (hb9.mono HB8.out.size))
        clear hv hb9
        rw [show (findE [] f).length = 0 from rfl]
        go_wp2
        go_ret
        exact ⟨rfl, HB9.out⟩
end Go.Proofs.Ytfgmbkflpdobcaa
