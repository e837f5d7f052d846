/- The document's lists without a number. -/
import Derived.Test.YthegbimolbhikaaR12
import Derived.Test.YthegbimolbhikaaWalk
namespace Go.Proofs.Ythegbimolbhikaa
open Go.RowKit
attribute [local go_sem] Oper.semAt_some
set_option linter.unusedVariables false
set_option linter.unusedSimpArgs false
set_option maxRecDepth 100000
theorem RefO.same {B : Nat} {w w' : World} {v : Value} {ds : List RowD} {xs : List (List Nat)} (h : RefO B w v ds xs) (hs : w'.heap.size = w.heap.size) (hk : ∀ k, B ≤ k → w'.heap[k]? = w.heap[k]?) : RefO B w' v ds xs := by
  refine ⟨?_, h.len, fun i hi => ?_, h.nil⟩
  · refine ⟨h.own.1, ?_⟩
    rcases h.own.2 with h0 | ⟨g, cap, cur, e, hb, hh, rest⟩
    · exact .inl h0
    · exact .inr ⟨g, cap, cur, e, hb, by rw [hk g hb]; exact hh, rest⟩
  · have := (h.row i hi).keep (w' := w') (fun p hp => World.cell?_of_block (hk p.block hp.1))
    exact this.more fun b hb => ⟨hb.1, by rw [hs]; exact hb.2.1, hb.2.2⟩
theorem RefO.base {B B' : Nat} {w : World} {v : Value} {ds : List RowD} {xs : List (List Nat)} (h : RefO B w v ds xs) (hB : B' ≤ B) : RefO B' w v ds xs :=
  ⟨own_base h.own hB, h.len, fun i hi => (h.row i hi).more fun b hb => ⟨Nat.le_trans hB hb.1, hb.2.1, hb.2.2⟩, h.nil⟩
theorem filt_take {L : List Nat} {k t : Nat} (ht : t < L.length) : (L.take (t + 1)).filter (fun y => y != k) = (L.take t).filter (fun y => y != k) ++ (if L.getD t 0 = k then [] else [L.getD t 0]) := by
  rw [List.take_add_one, List.getElem?_eq_getElem ht, List.filter_append, getD_get12 ht]
  congr 1
  by_cases e : L[t] = k
  · simp [e]
  · simp [e]
theorem outX_take {xs : List (List Nat)} {k j : Nat} (hj : j < xs.length) : outX (xs.take (j + 1)) k = outX (xs.take j) k ++ [(xs.getD j []).filter fun y => y != k] := by
  unfold outX
  rw [List.take_add_one, List.getElem?_eq_getElem hj, List.map_append]
  simp [List.getD, List.getElem?_eq_getElem hj]
/-- What without, ahead tell: lists of the call's own. -/
def WoT (numbers : Nat) (xs : List (List Nat)) (w : World) (e : Ending) (w' : World) : Prop := ∃ v ds, e = .returned (.agg #[.int .i64 (numbers : Nat), v]) ∧ RefO w.heap.size w' v ds xs ∧ Below w.heap.size w w'
set_option maxHeartbeats 8000000 in
theorem without_any {A : Option Addr} {n c : Nat} {ds : List RowD} {xs : List (List Nat)} (numbers k : Nat) {w : World} (h : RefX w (· < w.heap.size) A n ds xs) (hn : n ≤ 64) (hm : ∀ i, (xs.getD i []).length ≤ 100000) :
    Calls Try.prog 38 #[refV numbers A n c, .int .i64 (k : Nat)] w fun e w' => WoT numbers (outX xs k) w e w' := by
  obtain ⟨w2, hw2⟩ : ∃ w2, w2 = (w.alloc (.cells #[.int .i64 (numbers : Nat), .slice A n c] 31)).alloc (.cells #[.int .i64 0, .slice none 0 0] 31) := ⟨_, rfl⟩
  have hb2 : Below w.heap.size w w2 := by rw [hw2]; exact ((Below.refl _ w).alloc (Nat.le_refl _) _).alloc (by simp) _
  have HB2 := Lib.hid hb2
  have HS2 := Lib.hid (show w2.heap.size = w.heap.size + 2 by rw [hw2]; simp)
  have HK0 := Lib.hid (show Blk w2 w.heap.size 31 #[.int .i64 (numbers : Nat), .slice A n c] by rw [hw2]; exact (Blk.new w _ _).alloc _)
  have HK1 := Lib.hid (show Blk w2 (w.heap.size + 1) 31 #[.int .i64 0, .slice none 0 0] by rw [hw2]; have h := Blk.new (w.alloc (.cells #[.int .i64 (numbers : Nat), .slice A n c] 31)) 31 #[.int .i64 0, .slice none 0 0]; simpa using h)
  have HX := Lib.hid (h.size hb2)
  have HLEN := Lib.hid h.len
  have HM := Lib.hid hm
  clear h hm hb2
  obtain ⟨i0, hi0, hz0, hz1, hz2⟩ := info_parts info_nums12
  obtain ⟨i1, hi1, hy0, hy1, hy2⟩ := info_parts info_rows12
  go_enter Try.func38, Try.ntmps38
  go_wp2_with fail
  rw [← hw2]
  clear hw2
  go_loopw [5, 14] (fun s5 s14 wr => ∃ (j : Nat) (v : Value) (dz : List RowD), s14 = .int .i64 j ∧ s5 = v ∧ j ≤ n ∧ dz.length = j ∧ RefO w2.heap.size wr v dz (outX (xs.take j) k) ∧ Below w2.heap.size w2 wr) (fun _ i _ => n - (intOf i).toNat)
  case atStart => exact ⟨0, _, [], rfl, rfl, Nat.zero_le _, rfl, RefO.nilO _ _, Below.refl _ _⟩
  case round =>
    obtain ⟨j, v, dz, rfl, rfl, hj, hdz, hRO, hB⟩ := hrel
    rename World => wo
    have HRO := Lib.hid hRO
    have HB := Lib.hid hB
    have HDZ := Lib.hid hdz
    have hxr := HX.out.size hB
    have HXR := Lib.hid hxr
    clear hRO hB hdz hxr
    by_cases hjn : j < n
    · obtain ⟨b0, o0, rfl, _, hc0⟩ := HXR.out.out.2 (by omega)
      have z0 := hc0 j hjn
      have hr0 := HXR.out.row j hjn
      obtain ⟨⟨A1, m1, c1⟩, hd⟩ : ∃ d, ds.getD j d0 = d := ⟨_, rfl⟩
      rw [hd] at z0 hr0
      replace z0 : wo.cell? ⟨b0, o0 + j, none⟩ = some (.slice A1 m1 c1) := z0
      have HR := Lib.hid (show RowK12 wo (· < wo.heap.size) A1 m1 (xs.getD j []) from hr0)
      have hml : m1 ≤ 100000 := by rw [← HR.out.1]; exact HM.out j
      clear hc0 hd hr0
      go_wp2_with fail
      obtain ⟨Lj, hLj⟩ : ∃ L, xs.getD j [] = L := ⟨_, rfl⟩
      rw [hLj] at HR
      have HLJ := Lib.hid hLj
      have hBs := HB.out.size
      clear hLj
      go_loopw [8, 20] (fun s8 s20 wr => ∃ (t : Nat) (vy : Value) (Y : List Nat), s20 = .int .i64 t ∧ s8 = vy ∧ t ≤ m1 ∧ Y = (Lj.take t).filter (fun y => y != k) ∧ Y.length ≤ t ∧ wr.ownsRow wo.heap.size 3 1 vy Y.length (valsK Y) ∧ Below wo.heap.size wo wr) (fun _ i _ => m1 - (intOf i).toNat)
      case atStart => exact ⟨0, _, [], rfl, rfl, Nat.zero_le _, rfl, Nat.le_refl _, World.ownsRow_nil _ _ _ _, Below.refl _ _⟩
      case round =>
        obtain ⟨t, vy, Y, rfl, rfl, ht, hY, hYl, hown, hB2⟩ := hrel
        have HOY := Lib.hid hown
        have HBY := Lib.hid hB2
        have HY := Lib.hid hY
        clear hown hB2 hY
        by_cases htm : t < m1
        · have htl : t < Lj.length := by rw [HR.out.1]; exact htm
          have HFT := Lib.hid (filt_take (k := k) htl)
          obtain ⟨b1, o1, rfl, hb1, hc1⟩ := HR.out.2 (by omega)
          have z1 := (HBY.out.cell (p := ⟨b1, o1 + t, none⟩) hb1).trans (hc1 t htm)
          obtain ⟨v, hv⟩ : ∃ v, Lj.getD t 0 = v := ⟨_, rfl⟩
          simp only [hv, mkK] at z1
          rw [hv] at HFT
          clear hc1 hv hb1 htl
          by_cases hvk : v = k
          · subst hvk
            have hne : ((v : Int) != (v : Int)) = false := by simp
            rw [if_pos rfl, List.append_nil, ← HY.out] at HFT
            go_wp2_with fail
            go_roundw
            case rel => exact ⟨t + 1, _, Y, by simp, rfl, by omega, HFT.out.symm, by omega, HOY.out, HBY.out⟩
            case measure => show m1 - (Int.toNat ((t : Int) + 1)) < m1 - (Int.toNat (t : Int)); omega
          · have hne : ((v : Int) != (k : Int)) = true := by simp; omega
            rw [if_neg hvk, ← HY.out] at HFT
            have hs2 := HBY.out.size
            have HOA := Lib.hid (HOY.out.alloc (.cells #[Value.int .i64 (v : Nat)] 3))
            have HBA := Lib.hid (HBY.out.alloc hs2 (.cells #[Value.int .i64 (v : Nat)] 3))
            go_wp2_with (at_builtin; refine wpList_append_rowG (mk := mkK) (d := (0 : Nat)) rfl (.tmp 27) (.tmp 29) 56 rfl wo.heap.size 3 i0 (.int .i64 0) 8 Try.underlying56 hi0 hz0 hz1 hz2 rfl (fun _ => rfl) _ Y.length _ rfl HOA.out (· = wr.heap.size) _ 1 1 [v] rfl (row_new1 mkK 0 wr _ v) (fun h => by cases h) ?c2 ?c3 ?c4 ?_)
            case c2 => unfold maxLen; omega
            case c3 => omega
            case c4 => simp; omega
            intro v8 W8 hown hgrow _
            replace hown : W8.ownsRow wo.heap.size 3 1 v8 (Y ++ [v]).length (valsK (Y ++ [v])) := by simpa [valsK] using hown
            have HOW := Lib.hid hown
            have HB8 := Lib.hid (below_append HBA.out HOA.out (Nat.le_refl _) (by simp; omega) hgrow)
            clear hown hgrow
            go_wp2_with fail
            go_roundw
            case rel => exact ⟨t + 1, v8, Y ++ [v], by simp, rfl, by omega, HFT.out.symm, by simp; omega, HOW.out, HB8.out⟩
            case measure => show m1 - (Int.toNat ((t : Int) + 1)) < m1 - (Int.toNat (t : Int)); omega
        · obtain rfl : m1 = t := by omega
          have hYY : Y = Lj.filter (fun y => y != k) := by rw [HY.out, List.take_of_length_le (by rw [HR.out.1]; exact Nat.le_refl _)]
          obtain ⟨A2, c2, e2, _, hn2, hr2⟩ := rowG_own (mk := mkK) 0 HOY.out
          subst e2
          have hout : outX (xs.take (j + 1)) k = outX (xs.take j) k ++ [Y] := by rw [outX_take (by rw [HLEN.out]; exact hjn), HLJ.out, hYY]
          have HOUT := Lib.hid hout
          have hs2 := HBY.out.size
          have ha := (Below.refl wr.heap.size wr).alloc (Nat.le_refl _) (.cells #[.slice A2 Y.length c2] 56)
          have HB3 := Lib.hid (HBY.out.trans (ha.mono hs2))
          have HRO3 := Lib.hid (HRO.out.below HB3.out)
          have hlt5 := HRO.out.own.lt
          have HRN := Lib.hid (show RowK12 (wr.alloc (.cells #[.slice A2 Y.length c2] 56)) (fun b => w2.heap.size ≤ b ∧ b < (wr.alloc (.cells #[.slice A2 Y.length c2] 56)).heap.size ∧ u5.ownBlock ≠ some b) A2 Y.length Y from
            (hr2.below ha (fun b hb => hb.2.1)).more fun b hb => ⟨Nat.le_trans hBs hb.1, Nat.lt_of_lt_of_le hb.2.1 ha.size, fun e => by have := (hlt5 b e).2; have := hb.1; omega⟩)
          have HNIL := Lib.hid hn2
          have HLD := Lib.hid (row_new1 mkD d0 wr 56 (A2, Y.length, c2))
          have HDZ2 := Lib.hid (show (dz ++ [((A2, Y.length, c2) : RowD)]).length = j + 1 by simp [HDZ.out])
          have hdl : dz.length ≤ 64 := by rw [HDZ.out]; omega
          have hbase : w2.heap.size ≤ (wr.alloc (.cells #[.slice A2 Y.length c2] 56)).heap.size := by simp; omega
          have HBN := Lib.hid (HB.out.trans (HB3.out.mono hBs))
          clear hYY hr2 hn2 hout ha hlt5
          go_wp2_with (at_builtin; refine wpList_append_rowG (mk := mkD) (d := d0) rfl (.tmp 32) (.tmp 34) 29 rfl w2.heap.size 56 i1 (.slice none 0 0) 24 Try.underlying29 hi1 hy0 hy1 hy2 rfl (fun _ => rfl) _ dz.length _ rfl HRO3.out.own (· = wr.heap.size) _ 1 1 [(A2, Y.length, c2)] rfl HLD.out (fun h => by cases h) ?c2 ?c3 ?c4 ?_)
          case c2 => unfold maxLen; omega
          case c3 => omega
          case c4 => exact hbase
          intro v8 W8 hown hgrow hvv
          have HSN := Lib.hid (HRO3.out.snoc (d := (A2, Y.length, c2)) (x := Y) hbase (by simpa using hown) hgrow (by simpa using hvv) HRN.out HNIL.out)
          rw [← HOUT.out] at HSN
          have HB8 := Lib.hid (below_append HBN.out HRO3.out.own (Nat.le_refl _) hbase hgrow)
          clear hown hgrow hvv
          go_wp2_with fail
          go_roundw
          case rel => exact ⟨j + 1, v8, _, by simp, rfl, by omega, HDZ2.out, HSN.out, HB8.out⟩
          case measure => show n - (Int.toNat ((j : Int) + 1)) < n - (Int.toNat (j : Int)); omega
    · obtain rfl : n = j := by omega
      have hk0 := HK0.out.below HB.out HK0.out.lt
      have hk1 := HK1.out.below HB.out HK1.out.lt
      have c00 := hk0.cell 0
      have c01 := hk0.cell 1
      have f01 := hk0.frozen 1
      have hsl := ownsRow_slice HRO.out.own
      rw [HDZ.out] at hsl
      obtain ⟨A5, c5, rfl⟩ := hsl
      have f10 := hk1.frozen 0
      have f11 := hk1.frozen 1
      have c10 := hk1.cell 0
      have c11 := hk1.cell 1
      have HK1W := Lib.hid (((hk1.far (p := ⟨w.heap.size, 1, none⟩) (by simp) (.slice A5 n c5)).set_ 0 (.int .i64 (numbers : Nat))).set_ 1 (.slice A5 n c5))
      have ho5 := HRO.out
      rw [List.take_of_length_le (by rw [HLEN.out]; exact Nat.le_refl _)] at ho5
      have HO5 := Lib.hid ho5
      clear ho5
      have HBW := Lib.hid (HB2.out.trans (HB.out.mono HB2.out.size))
      clear hk0 hk1
      go_wp2_with fail
      refine bodyPost_ret (results_row1 rfl _ _ (w.heap.size + 1) 31 #[.int .i64 (numbers : Nat), .slice A5 n c5] _ rfl (show Blk _ _ _ #[.int .i64 (numbers : Nat), .slice A5 n c5] from HK1W.out) Try.underlying31 rfl size_ref12) rfl ?_
      have hs2 := HS2.out
      have hlow : ∀ k, w2.heap.size ≤ k → (((wo.setCell ⟨w.heap.size, 1, none⟩ (.slice A5 n c5)).setCell ⟨w.heap.size + 1, 0, none⟩ (.int .i64 (numbers : Nat))).setCell ⟨w.heap.size + 1, 1, none⟩ (.slice A5 n c5)).heap[k]? = wo.heap[k]? := fun k hk =>
        ((Below.heap_setCell _ ⟨w.heap.size + 1, 1, none⟩ _ k (by show k ≠ w.heap.size + 1; omega)).trans (Below.heap_setCell _ ⟨w.heap.size + 1, 0, none⟩ _ k (by show k ≠ w.heap.size + 1; omega))).trans (Below.heap_setCell _ ⟨w.heap.size, 1, none⟩ _ k (by show k ≠ w.heap.size; omega))
      refine ⟨_, dz, rfl, RefO.base (B := w2.heap.size) (HO5.out.same (by simp [World.setCell]) hlow) (by omega), ((HBW.out.setCell (p := ⟨w.heap.size, 1, none⟩) (by simp) _).setCell (p := ⟨w.heap.size + 1, 0, none⟩) (by simp) _).setCell (p := ⟨w.heap.size + 1, 1, none⟩) (by simp) _⟩
end Go.Proofs.Ythegbimolbhikaa
