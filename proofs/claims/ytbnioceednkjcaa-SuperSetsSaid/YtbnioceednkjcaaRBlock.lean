/- The document's answers of layer 7: Block. -/
import Derived.Test.YtbnioceednkjcaaBlock
import Derived.Test.YtbnioceednkjcaaHigh
import Derived.Test.YtbnioceednkjcaaBothOwn
import Derived.Test.YtbnioceednkjcaaBks
namespace Go.Proofs.Ytbnioceednkjcaa
open Go.RowKit
set_option linter.unusedVariables false
set_option linter.unusedSimpArgs false

/-- One more of a list is laid over noughts. -/
theorem take_set (sl : List Int) (k : Nat) (hk : k < sl.length) (m : Nat) (hm : 0 < m) : (sl.take k ++ noughts m).set k (sl.getD k 0) = sl.take (k + 1) ++ noughts (m - 1) := by
  obtain ⟨q, rfl⟩ : ∃ q, m = q + 1 := ⟨m - 1, by omega⟩
  have hl : (sl.take k).length = k := by simp; omega
  rw [take_snoc sl k hk, List.set_append_right _ _ (by omega), hl]
  simp [noughts, List.replicate_succ]
/-- A slice's length. -/
def lenOf : Value → Nat
  | .slice _ n _ => n
  | _ => 0
theorem own_lenOf {w : World} {base n size : Nat} {e : TypeId} {v : Value} {xs : List Value} (h : w.ownsRow base e size v n xs) : lenOf v = n := by
  rcases h.2 with ⟨rfl, rfl⟩ | ⟨g, cap, cur, rfl, _⟩ <;> rfl

set_option maxHeartbeats 2000000 in
set_option maxRecDepth 100000 in
theorem rblock_any (a b g r v f t : Int) (w : World) (h : MayS a b g r) (hin : InS a b g r v f) (ht : 0 ≤ t ∧ t ≤ 18446744073709551615) :
    Calls Try.prog 17 #[.agg (supC a b g r v f), .int .u64 t] w fun e w' => e = .returned (.agg (cells8 (supL a b g r v f t))) ∧ Below w.heap.size w w' := by
  have hwa : IntKind.u64.wrap a = a := by rw [IntKind.wrap_u64]; have := h.1; have := h.2.1; omega
  have hwb : IntKind.u64.wrap b = b := by rw [IntKind.wrap_u64]; have := h.2.2.1; have := h.2.2.2.1; omega
  have HMAY := Lib.hid h
  have HIN := Lib.hid hin
  have HTT := Lib.hid ht
  clear h hin ht
  go_enter Try.func17, Try.ntmps17
  go_upto_region 1 with (refine wpList_alloc_blk rfl rfl ?_)
  have HT2 := Lib.hid (show Blk ((w.alloc (.cells (supC a b g r v f) 24)).alloc (.cells (cells8 (noughts 64)) 26)) w.heap.size 24 (supC a b g r v f) from (Blk.new w _ _).alloc _)
  have HR2 := Lib.hid (show ArrB ((w.alloc (.cells (supC a b g r v f) 24)).alloc (.cells (cells8 (noughts 64)) 26)) (w.heap.size + 1) (noughts 64) from blk_new2 w _ _ _)
  have HB2 := Lib.hid (show Below w.heap.size w ((w.alloc (.cells (supC a b g r v f) 24)).alloc (.cells (cells8 (noughts 64)) 26)) from ((Below.refl _ _).alloc (Nat.le_refl _) _).alloc (by simp) _)
  generalize hw2 : ((w.alloc (.cells (supC a b g r v f) 24)).alloc (.cells (cells8 (noughts 64)) 26)) = w3 at *
  clear hw2
  have HZ3 := Lib.hid (show w.heap.size + 1 < w3.heap.size from HR2.out.lt)
  have hc1 := Go.Lib.run_convert_bytes_const (P := Try.prog) w3 91 5 #[.int .u8 105, .int .u8 99, .int .u8 101, .int .u8 104, .int .u8 111, .int .u8 117, .int .u8 115, .int .u8 101] 8 8 Try.underlying91 Try.underlying5
  simp only [List.size_toArray, List.length_cons, List.length_nil, Nat.zero_add, Nat.reduceAdd] at hc1
  go_wp2_with fail
  clear hc1
  have HI5 := Lib.hid (show RowI .u8 (w3.alloc (.cells #[.int .u8 105, .int .u8 99, .int .u8 101, .int .u8 104, .int .u8 111, .int .u8 117, .int .u8 115, .int .u8 101] 5 (8, 9))) (· = w3.heap.size) (some ⟨w3.heap.size, 0, none⟩) 8 iceL from row_marked w3 iceL (8, 9) 8 rfl rfl)
  have HB5 := Lib.hid (show Below w3.heap.size w3 (w3.alloc (.cells #[.int .u8 105, .int .u8 99, .int .u8 101, .int .u8 104, .int .u8 111, .int .u8 117, .int .u8 115, .int .u8 101] 5 (8, 9))) from (Below.refl _ _).alloc (Nat.le_refl _) _)
  have HZ5 := Lib.hid (show w3.heap.size < (w3.alloc (.cells #[.int .u8 105, .int .u8 99, .int .u8 101, .int .u8 104, .int .u8 111, .int .u8 117, .int .u8 115, .int .u8 101] 5 (8, 9))).heap.size by simp)
  generalize hw5 : w3.alloc (.cells #[.int .u8 105, .int .u8 99, .int .u8 101, .int .u8 104, .int .u8 111, .int .u8 117, .int .u8 115, .int .u8 101] 5 (8, 9)) = u0 at *
  clear hw5
  have HROW0 := Lib.hid (HI5.out.more (T := fun c => c < u0.heap.size) (fun c h => by rw [h]; exact HZ5.out))
  have HBB0 := HB5
  refine (high_any t 8 _ HTT.out.1 HTT.out.2 (by omega)).mono ?_
  rintro e x0 ⟨rfl, ha, hb⟩
  have hrow := (HROW0.out.below hb (fun c h => h)).more (T := fun c => c < x0.heap.size) (fun c h => Nat.lt_of_lt_of_le h hb.size)
  have hhi := ha.rowN 0 (n := 8) (beBytes_length _ _) (S := fun c => c < x0.heap.size) ha.lt
  have HBX0 := Lib.hid (HBB0.out.trans (hb.mono HBB0.out.size))
  clear ha hb
  have HROWX0 := Lib.hid hrow
  have HHI0 := Lib.hid hhi
  clear hrow hhi
  go_wp2_with fail
  refine (both_any (some ⟨w3.heap.size, 0, none⟩) (some ⟨u0.heap.size, 0, none⟩) 8 8 8 8 (iceL) (beBytes t 8) (fun c => c < x0.heap.size) _ HROWX0.out HHI0.out (fun c h => h) (by omega)).mono ?_
  rintro e u1 ⟨A0, k0, rfl, hnil, hle, hrow, hb⟩
  have hlen : (iceL ++ beBytes t 8).length = 16 := by simp [iceL, beBytes_length]
  rw [hlen] at hrow hle ⊢
  have HROW1 := Lib.hid (hrow.more (T := fun c => c < u1.heap.size) (fun c h => h.2))
  have HBB1 := Lib.hid (HBX0.out.trans (hb.mono HBX0.out.size))
  have HLO1 := Lib.hid hrow
  have HLE1 := Lib.hid hle
  have HNIL1 := Lib.hid hnil
  clear hrow hb hlen hle hnil
  have hc : u1.cell? ⟨w.heap.size, 0, none⟩ = some (.int .i64 a) := (HT2.out.below HBB1.out HT2.out.lt).cell 0
  go_wp2_with fail
  clear hc
  refine (high_any a 2 _ (by have := HMAY.out.1; omega) (by have := HMAY.out.2.1; omega) (by omega)).mono ?_
  rintro e x1 ⟨rfl, ha, hb⟩
  have hrow := (HROW1.out.below hb (fun c h => h)).more (T := fun c => c < x1.heap.size) (fun c h => Nat.lt_of_lt_of_le h hb.size)
  have hhi := ha.rowN 0 (n := 2) (beBytes_length _ _) (S := fun c => c < x1.heap.size) ha.lt
  have HBX1 := Lib.hid (HBB1.out.trans (hb.mono HBB1.out.size))
  clear ha hb
  have HROWX1 := Lib.hid hrow
  have HHI1 := Lib.hid hhi
  clear hrow hhi
  go_wp2_with fail
  refine (both_any A0 (some ⟨u1.heap.size, 0, none⟩) 16 k0 2 2 (iceL ++ beBytes t 8) (beBytes a 2) (fun c => c < x1.heap.size) _ HROWX1.out HHI1.out (fun c h => h) (by omega)).mono ?_
  rintro e u2 ⟨A1, k1, rfl, hnil, hle, hrow, hb⟩
  have hlen : (iceL ++ beBytes t 8 ++ beBytes a 2).length = 18 := by simp [iceL, beBytes_length]
  rw [hlen] at hrow hle ⊢
  have HROW2 := Lib.hid (hrow.more (T := fun c => c < u2.heap.size) (fun c h => h.2))
  have HBB2 := Lib.hid (HBX1.out.trans (hb.mono HBX1.out.size))
  have HLO2 := Lib.hid hrow
  have HLE2 := Lib.hid hle
  have HNIL2 := Lib.hid hnil
  clear hrow hb hlen hle hnil
  have hc : u2.cell? ⟨w.heap.size, 1, none⟩ = some (.int .i64 b) := (HT2.out.below HBB2.out HT2.out.lt).cell 1
  go_wp2_with fail
  clear hc
  refine (high_any b 2 _ (by have := HMAY.out.2.2.1; omega) (by have := HMAY.out.2.2.2.1; omega) (by omega)).mono ?_
  rintro e x2 ⟨rfl, ha, hb⟩
  have hrow := (HROW2.out.below hb (fun c h => h)).more (T := fun c => c < x2.heap.size) (fun c h => Nat.lt_of_lt_of_le h hb.size)
  have hhi := ha.rowN 0 (n := 2) (beBytes_length _ _) (S := fun c => c < x2.heap.size) ha.lt
  have HBX2 := Lib.hid (HBB2.out.trans (hb.mono HBB2.out.size))
  clear ha hb
  have HROWX2 := Lib.hid hrow
  have HHI2 := Lib.hid hhi
  clear hrow hhi
  go_wp2_with fail
  refine (both_any A1 (some ⟨u2.heap.size, 0, none⟩) 18 k1 2 2 (iceL ++ beBytes t 8 ++ beBytes a 2) (beBytes b 2) (fun c => c < x2.heap.size) _ HROWX2.out HHI2.out (fun c h => h) (by omega)).mono ?_
  rintro e u3 ⟨A2, k2, rfl, hnil, hle, hrow, hb⟩
  have hlen : (iceL ++ beBytes t 8 ++ beBytes a 2 ++ beBytes b 2).length = 20 := by simp [iceL, beBytes_length]
  rw [hlen] at hrow hle ⊢
  have HROW3 := Lib.hid (hrow.more (T := fun c => c < u3.heap.size) (fun c h => h.2))
  have HBB3 := Lib.hid (HBX2.out.trans (hb.mono HBX2.out.size))
  have HLO3 := Lib.hid hrow
  have HLE3 := Lib.hid hle
  have HNIL3 := Lib.hid hnil
  clear hrow hb hlen hle hnil
  have hc : u3.cell? ⟨w.heap.size, 2, none⟩ = some (.int .u64 g) := (HT2.out.below HBB3.out HT2.out.lt).cell 2
  go_wp2_with fail
  clear hc
  refine (high_any g 8 _ HIN.out.2.2.2.2.1 HIN.out.2.2.2.2.2.1 (by omega)).mono ?_
  rintro e x3 ⟨rfl, ha, hb⟩
  have hrow := (HROW3.out.below hb (fun c h => h)).more (T := fun c => c < x3.heap.size) (fun c h => Nat.lt_of_lt_of_le h hb.size)
  have hhi := ha.rowN 0 (n := 8) (beBytes_length _ _) (S := fun c => c < x3.heap.size) ha.lt
  have HBX3 := Lib.hid (HBB3.out.trans (hb.mono HBB3.out.size))
  clear ha hb
  have HROWX3 := Lib.hid hrow
  have HHI3 := Lib.hid hhi
  clear hrow hhi
  go_wp2_with fail
  refine (both_any A2 (some ⟨u3.heap.size, 0, none⟩) 20 k2 8 8 (iceL ++ beBytes t 8 ++ beBytes a 2 ++ beBytes b 2) (beBytes g 8) (fun c => c < x3.heap.size) _ HROWX3.out HHI3.out (fun c h => h) (by omega)).mono ?_
  rintro e u4 ⟨A3, k3, rfl, hnil, hle, hrow, hb⟩
  have hlen : (iceL ++ beBytes t 8 ++ beBytes a 2 ++ beBytes b 2 ++ beBytes g 8).length = 28 := by simp [iceL, beBytes_length]
  rw [hlen] at hrow hle ⊢
  have HROW4 := Lib.hid (hrow.more (T := fun c => c < u4.heap.size) (fun c h => h.2))
  have HBB4 := Lib.hid (HBX3.out.trans (hb.mono HBX3.out.size))
  have HLO4 := Lib.hid hrow
  have HLE4 := Lib.hid hle
  have HNIL4 := Lib.hid hnil
  clear hrow hb hlen hle hnil
  have hc : u4.cell? ⟨w.heap.size, 3, none⟩ = some (.int .u64 r) := (HT2.out.below HBB4.out HT2.out.lt).cell 3
  go_wp2_with fail
  clear hc
  refine (high_any r 8 _ HIN.out.2.2.2.2.2.2.1 HIN.out.2.2.2.2.2.2.2.1 (by omega)).mono ?_
  rintro e x4 ⟨rfl, ha, hb⟩
  have hrow := (HROW4.out.below hb (fun c h => h)).more (T := fun c => c < x4.heap.size) (fun c h => Nat.lt_of_lt_of_le h hb.size)
  have hhi := ha.rowN 0 (n := 8) (beBytes_length _ _) (S := fun c => c < x4.heap.size) ha.lt
  have HBX4 := Lib.hid (HBB4.out.trans (hb.mono HBB4.out.size))
  clear ha hb
  have HROWX4 := Lib.hid hrow
  have HHI4 := Lib.hid hhi
  clear hrow hhi
  go_wp2_with fail
  refine (both_any A3 (some ⟨u4.heap.size, 0, none⟩) 28 k3 8 8 (iceL ++ beBytes t 8 ++ beBytes a 2 ++ beBytes b 2 ++ beBytes g 8) (beBytes r 8) (fun c => c < x4.heap.size) _ HROWX4.out HHI4.out (fun c h => h) (by omega)).mono ?_
  rintro e u5 ⟨A4, k4, rfl, hnil, hle, hrow, hb⟩
  have hlen : (iceL ++ beBytes t 8 ++ beBytes a 2 ++ beBytes b 2 ++ beBytes g 8 ++ beBytes r 8).length = 36 := by simp [iceL, beBytes_length]
  rw [hlen] at hrow hle ⊢
  have HROW5 := Lib.hid (hrow.more (T := fun c => c < u5.heap.size) (fun c h => h.2))
  have HBB5 := Lib.hid (HBX4.out.trans (hb.mono HBX4.out.size))
  have HLO5 := Lib.hid hrow
  have HLE5 := Lib.hid hle
  have HNIL5 := Lib.hid hnil
  clear hrow hb hlen hle hnil
  have hc : u5.cell? ⟨w.heap.size, 4, none⟩ = some (.int .u64 v) := (HT2.out.below HBB5.out HT2.out.lt).cell 4
  go_wp2_with fail
  clear hc
  refine (high_any v 8 _ HIN.out.2.2.2.2.2.2.2.2.1 HIN.out.2.2.2.2.2.2.2.2.2.1 (by omega)).mono ?_
  rintro e x5 ⟨rfl, ha, hb⟩
  have hrow := (HROW5.out.below hb (fun c h => h)).more (T := fun c => c < x5.heap.size) (fun c h => Nat.lt_of_lt_of_le h hb.size)
  have hhi := ha.rowN 0 (n := 8) (beBytes_length _ _) (S := fun c => c < x5.heap.size) ha.lt
  have HBX5 := Lib.hid (HBB5.out.trans (hb.mono HBB5.out.size))
  clear ha hb
  have HROWX5 := Lib.hid hrow
  have HHI5 := Lib.hid hhi
  clear hrow hhi
  go_wp2_with fail
  refine (both_any A4 (some ⟨u5.heap.size, 0, none⟩) 36 k4 8 8 (iceL ++ beBytes t 8 ++ beBytes a 2 ++ beBytes b 2 ++ beBytes g 8 ++ beBytes r 8) (beBytes v 8) (fun c => c < x5.heap.size) _ HROWX5.out HHI5.out (fun c h => h) (by omega)).mono ?_
  rintro e u6 ⟨A5, k5, rfl, hnil, hle, hrow, hb⟩
  have hlen : (iceL ++ beBytes t 8 ++ beBytes a 2 ++ beBytes b 2 ++ beBytes g 8 ++ beBytes r 8 ++ beBytes v 8).length = 44 := by simp [iceL, beBytes_length]
  rw [hlen] at hrow hle ⊢
  have HROW6 := Lib.hid (hrow.more (T := fun c => c < u6.heap.size) (fun c h => h.2))
  have HBB6 := Lib.hid (HBX5.out.trans (hb.mono HBX5.out.size))
  have HLO6 := Lib.hid hrow
  have HLE6 := Lib.hid hle
  have HNIL6 := Lib.hid hnil
  clear hrow hb hlen hle hnil
  have hc : u6.cell? ⟨w.heap.size, 5, none⟩ = some (.int .u64 f) := (HT2.out.below HBB6.out HT2.out.lt).cell 5
  go_wp2_with fail
  clear hc
  refine (high_any f 8 _ HIN.out.2.2.2.2.2.2.2.2.2.2.1 HIN.out.2.2.2.2.2.2.2.2.2.2.2 (by omega)).mono ?_
  rintro e x6 ⟨rfl, ha, hb⟩
  have hrow := (HROW6.out.below hb (fun c h => h)).more (T := fun c => c < x6.heap.size) (fun c h => Nat.lt_of_lt_of_le h hb.size)
  have hhi := ha.rowN 0 (n := 8) (beBytes_length _ _) (S := fun c => c < x6.heap.size) ha.lt
  have HBX6 := Lib.hid (HBB6.out.trans (hb.mono HBB6.out.size))
  clear ha hb
  have HROWX6 := Lib.hid hrow
  have HHI6 := Lib.hid hhi
  clear hrow hhi
  go_wp2_with fail
  refine (both_own A5 (some ⟨u6.heap.size, 0, none⟩) 44 k5 8 8 (iceL ++ beBytes t 8 ++ beBytes a 2 ++ beBytes b 2 ++ beBytes g 8 ++ beBytes r 8 ++ beBytes v 8) (beBytes f 8) (fun c => c < x6.heap.size) _ HROWX6.out HHI6.out (fun c h => h) (by omega)).mono ?_
  rintro e u7 ⟨o7, rfl, hown, hb⟩
  have hbd : iceL ++ beBytes t 8 ++ beBytes a 2 ++ beBytes b 2 ++ beBytes g 8 ++ beBytes r 8 ++ beBytes v 8 ++ beBytes f 8 = bodyL a b g r v f t := rfl
  rw [hbd] at hown
  have hbl := bodyL_length a b g r v f t
  rw [hbl] at hown
  have hfe : fullL a b g r v f t = bodyL a b g r v f t ++ noughts 4 := rfl
  have hse : supL a b g r v f t = fullL a b g r v f t ++ beBytes (fnv start (fullL a b g r v f t)) 8 := rfl
  have hfb := fullL_bytes a b g r v f t
  have hfl := fullL_length a b g r v f t
  have hsl := supL_length a b g r v f t
  have HBB7 := Lib.hid (HBX6.out.trans (hb.mono HBX6.out.size))
  have HZX := Lib.hid (show w3.heap.size ≤ x6.heap.size from HBX6.out.size)
  have HBX7 := Lib.hid hb
  generalize hsupl : supL a b g r v f t = sl at *
  generalize bodyL a b g r v f t = bd at *
  generalize hfull : fullL a b g r v f t = fl at *
  have hh0 := (hash_in fl).1
  have hh1 := (hash_in fl).2
  have HSUP := Lib.hid hsupl
  have HFE := Lib.hid hfe
  have HSE := Lib.hid hse
  have HFB := Lib.hid hfb
  have HFL := Lib.hid hfl
  have HSL := Lib.hid hsl
  have HBL := Lib.hid hbl
  have HO7 := Lib.hid hown
  clear hown hb hbd hfe hse hfb hfl hsl hbl hfull hsupl
  obtain ⟨i9, hi9, hz0, hz1, hz2⟩ := info_parts info_u8
  go_wp2_with fail
  go_loopw [5] (fun o wr => ∃ j : Nat, j ≤ 4 ∧ wr.ownsRow x6.heap.size 5 1 o (52 + j) ((bd ++ noughts j).map (Value.int .u8)) ∧ Below x6.heap.size x6 wr) (fun o _ => 56 - lenOf o)
  case atStart => exact ⟨0, by omega, by simpa [noughts] using HO7.out, HBX7.out⟩
  case round =>
    obtain ⟨j, hj, hown, hbel⟩ := hrel
    have HL := Lib.hid hown.lt
    have HS := Lib.hid hbel.size
    obtain ⟨A7, c7, rfl, hcc, hnn, hrow⟩ := rowG_own 0 hown
    by_cases hlt : j < 4
    · have h1 : decide (((52 + j : Nat) : Int) < 56) = true := by simp; omega
      have HO := Lib.hid (hown.alloc (.cells #[.int .u8 0] 5))
      have HB := Lib.hid (hbel.alloc hbel.size (.cells #[.int .u8 0] 5))
      have HSN := Lib.hid (show (bd ++ noughts j).map (Value.int .u8) ++ [0].map (Value.int .u8) = (bd ++ noughts (j + 1)).map (Value.int .u8) by simp [noughts, List.replicate_succ'])
      clear hown hbel hrow hcc hnn
      go_wp2_with (at_builtin; refine wpList_append_rowG rfl (.tmp 48) (.tmp 49) 91 rfl x6.heap.size 5 i9 (.int .u8 0) 1 Try.underlying91 hi9 hz0 hz1 hz2 rfl (fun _ => rfl) _ (52 + j) _ rfl HO.out (· = wr.heap.size) (some ⟨wr.heap.size, 0, none⟩) 1 1 [0] rfl (row_new1 (Value.int .u8) 0 wr 5 0) (fun h => by cases h) (by unfold maxLen; omega) (by omega) (by simp; have := HS.out; omega) ?_; intro v' w' hown' hgrow' _; rw [HSN.out] at hown'; have HO' := Lib.hid hown'; have HB' := Lib.hid (HB.out.grown hgrow' HB.out.size (fun g hg => (HL.out g hg).1)); clear hown' hgrow')
      go_roundw
      case rel => exact ⟨j + 1, by omega, HO'.out, HB'.out⟩
      case measure =>
        have hn := own_lenOf HO'.out
        rw [hn]
        simp [lenOf]
        omega
    · obtain rfl : j = 4 := by omega
      have h1 : decide (((52 + 4 : Nat) : Int) < 56) = false := by decide
      rw [← HFE.out] at hrow
      have HRW := Lib.hid (show Row .u8 wr wr.heap.size A7 56 fl from hrow.more (fun c h => h.2.1))
      have HBQ := Lib.hid (show Below w3.heap.size w3 wr from HBX6.out.trans (hbel.mono HZX.out))
      clear hown hbel hrow
      go_wp2_with (go_at_call 68; refine (ref_hash A7 56 c7 fl wr.heap.size _ HRW.out HFB.out (by omega)).mono ?_; rintro e w' ⟨rfl, rfl⟩)
      refine (high_any (fnv start fl) 8 _ hh0 hh1 (by omega)).mono ?_
      rintro e y1 ⟨rfl, ha, hb⟩
      have hrow1 := (HRW.out.toG.below hb (fun c h => h)).more (T := fun c => c < y1.heap.size) (fun c h => Nat.lt_of_lt_of_le h hb.size)
      have hhi := ha.rowN 0 (n := 8) (beBytes_length _ _) (S := fun c => c < y1.heap.size) ha.lt
      have HBY1 := Lib.hid (HBQ.out.trans (hb.mono HBQ.out.size))
      have HR1 := Lib.hid hrow1
      have HH1 := Lib.hid hhi
      have HZW := Lib.hid (show wr.heap.size ≤ y1.heap.size from hb.size)
      clear hrow1 hhi ha hb
      go_wp2_with fail
      refine (both_any A7 (some ⟨wr.heap.size, 0, none⟩) 56 c7 8 8 fl (beBytes (fnv start fl) 8) (fun c => c < y1.heap.size) _ HR1.out HH1.out (fun c h => h) (by omega)).mono ?_
      rintro e y2 ⟨A8, c8, rfl, hnil8, hle8, hrow8, hb⟩
      rw [← HSE.out, HSL.out] at hrow8 hle8
      rw [← HSE.out, HSL.out]
      have HR8 := Lib.hid (hrow8.more (T := fun c => c < y2.heap.size) (fun c h => h.2))
      have HBY2 := Lib.hid (HBY1.out.trans (hb.mono HBY1.out.size))
      clear hrow8 hle8 hnil8 hb
      obtain ⟨b8, o8, rfl, hb8, hc8⟩ := HR8.out.2 (by omega)
      have HC8 := Lib.hid hc8
      clear hc8
      go_wp2_with (refine wpList_alloc_blk rfl rfl ?_)
      have HVA := Lib.hid (show ArrB (y2.alloc (.cells (cells8 (noughts 64)) 26)) y2.heap.size (noughts 64) from Blk.new y2 _ _)
      have HKA := Lib.hid (show Kept (fun c => c < y2.heap.size) y2 (y2.alloc (.cells (cells8 (noughts 64)) 26)) from (Kept.refl _ _).alloc (fun c h => h) _)
      generalize y2.alloc (.cells (cells8 (noughts 64)) 26) = y3 at *
      have HB8 := Lib.hid hb8
      clear hb8
      go_loopw [7] (fun i wr => ∃ k : Nat, k ≤ 64 ∧ i = .int .i64 k ∧ ArrB wr y2.heap.size (sl.take k ++ noughts (64 - k)) ∧ Kept (fun c => c < y2.heap.size) y2 wr) (fun i _ => 64 - (intOf i).toNat)
      case atStart => exact ⟨0, by omega, rfl, by simpa using HVA.out, HKA.out⟩
      case round =>
        obtain ⟨k, hk, rfl, harr, hkp⟩ := hrel
        by_cases hlt2 : k < 64
        · have hcell := (hkp.cell (p := ⟨b8, o8 + k, none⟩) HB8.out).trans (HC8.out k hlt2)
          have hlen : (sl.take k ++ noughts (64 - k)).length = 64 := by simp [HSL.out, noughts_length]; omega
          have hcell2 := harr.cell (i := k) (by rw [hlen]; exact hlt2) 0
          have hfz := harr.frozen k
          have hset := Arr.set harr k (sl.getD k 0)
          have hst : (sl.take k ++ noughts (64 - k)).set k (sl.getD k 0) = sl.take (k + 1) ++ noughts (64 - (k + 1)) := take_set sl k (by rw [HSL.out]; exact hlt2) (64 - k) (by omega)
          rw [hst] at hset
          have hk0 : (0 : Int) ≤ (k : Int) := by omega
          have hk1 : (k : Int) < 64 := by omega
          generalize sl.getD k 0 = x at *
          generalize (sl.take k ++ noughts (64 - k)).getD k 0 = x0' at *
          have HSET := Lib.hid hset
          have HKP := Lib.hid hkp
          clear hset hst hlen harr hkp
          go_wp2
          go_roundw
          case rel => exact ⟨k + 1, by omega, by go_num, HSET.out, HKP.out.setCell (fun h => by simp at h) _⟩
          case measure => (simp [intOf] <;> omega)
        · obtain rfl : k = 64 := by omega
          have hfin : sl.take 64 ++ noughts (64 - 64) = sl := by rw [List.take_of_length_le (by rw [HSL.out]; exact Nat.le_refl _)]; simp [noughts]
          rw [hfin] at harr
          have HF := Lib.hid harr
          have hbz : Below w3.heap.size w3 wr := HBY2.out.trans ((hkp.to_below (B := y2.heap.size) (fun c h => h)).mono HBY2.out.size)
          have HFB2 := Lib.hid hbz
          have HRF := Lib.hid (show ArrB wr (w.heap.size + 1) (noughts 64) from Arr.below HR2.out hbz HR2.out.lt)
          clear harr hkp hfin hbz
          go_wp2_with (first
            | (refine wpList_load_blk (.tmp 6) rfl rfl y2.heap.size 0 rfl sl HSL.out HF.out.range ?_)
            | (refine wpList_store_blk (.tmp 4) (.tmp 66) rfl rfl (w.heap.size + 1) sl rfl rfl 26 (noughts 64) HRF.out (noughts_length 64) HSL.out ?_)
            | (with_reducible refine halt_end ?_))
          exact Halt.ret (results_blk1 (p := 4) rfl _ _ (w.heap.size + 1) 26 sl rfl (HRF.out.setRow sl) HSL.out) rfl ⟨by rw [HSUP.out], below_setRow (HB2.out.trans (HFB2.out.mono HB2.out.size)) (by omega) _⟩

end Go.Proofs.Ytbnioceednkjcaa
