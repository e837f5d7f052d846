/- The document's index: Drop. -/
import Derived.Test.YtfgmbkflpdobcaaRefB
import Derived.Test.YtfgmbkflpdobcaaDrop
namespace Go.Proofs.Ytfgmbkflpdobcaa
open Go.RowKit
attribute [local go_sem] Oper.semAt_some
set_option linter.unusedVariables false
set_option linter.unusedSimpArgs false
open EntM (RowE entV ent0)
theorem size_ref : (Try.prog.info? 31).map (·.size) = some 2 := by kernel_rfl
theorem take_at {α : Type} {l : List α} {d : α} {k : Nat} (h : k < l.length) : l.take (k + 1) = l.take k ++ [l.getD k d] := by
  rw [List.take_add_one]
  simp [List.getD, List.getElem?_eq_getElem h]
theorem dropE_snoc (l : List Ent) (e : Ent) (gen : Int) : dropE (l ++ [e]) gen = dropE l gen ++ (if e.2.2.1 = gen then [] else [e]) := by
  unfold dropE
  by_cases h : e.2.2.1 = gen
  · simp [h]
  · simp [h]
set_option maxRecDepth 100000 in
set_option maxHeartbeats 4000000 in
theorem ref_drop {w : World} {A : Option Addr} {n cap : Nat} {es : List Ent} (h : RowE w (· < w.heap.size) A n es) (s gen : Int) (hn : n ≤ 1024) :
    Calls Try.prog 26 #[refV s A n cap, .int .u64 gen] w fun r w' =>
      (∃ A' cap', r = .returned (.tuple #[refV s A' (dropE es gen).length cap', .int .i64 ((es.length - (dropE es gen).length : Nat) : Int)]) ∧ w'.ownsRow w.heap.size 49 4 (.slice A' (dropE es gen).length cap') (dropE es gen).length (EntM.flatG (dropE es gen))) ∧ Below w.heap.size w w' := by
  have HX := Lib.hid h
  have hl := h.1
  have hfl : ∀ m, (dropE (es.take m) gen).length ≤ 1024 := fun m => by
    unfold dropE
    have h1 := List.length_filter_le (fun e : Ent => !decide (e.2.2.1 = gen)) (es.take m)
    rw [List.length_take] at h1
    omega
  have HFL := Lib.hid hfl
  clear h hfl
  obtain ⟨w2, hw2⟩ : ∃ w2, w2 = (w.alloc (.cells #[.int .i64 s, .slice A n cap] 31)).alloc (.cells #[.int .i64 0, .slice none 0 0] 31) := ⟨_, rfl⟩
  have HB2 := Lib.hid (show Below w.heap.size w w2 by rw [hw2]; exact ((Below.refl _ w).alloc (Nat.le_refl _) _).alloc (by simp) _)
  have HK1 := Lib.hid (show Blk w2 w.heap.size 31 #[.int .i64 s, .slice A n cap] by rw [hw2]; exact (Blk.new w _ _).alloc _)
  have HK2 := Lib.hid (show Blk w2 (w.heap.size + 1) 31 #[.int .i64 0, .slice none 0 0] by rw [hw2]; have h := Blk.new (w.alloc (.cells #[.int .i64 s, .slice A n cap] 31)) 31 #[.int .i64 0, .slice none 0 0]; simpa using h)
  have HO2 := Lib.hid (World.ownsRow_nil w2 w.heap.size 49 4)
  have HW2 := Lib.hid hw2
  go_enter Try.func26, Try.ntmps26
  go_wp2
  rw [← HW2.out]
  go_loopw [6, 13] (fun v i wr => ∃ j : Nat, i = .int .i64 j ∧ j ≤ n ∧ wr.ownsRow w.heap.size 49 4 v (dropE (es.take j) gen).length (EntM.flatG (dropE (es.take j) gen)) ∧ Below w.heap.size w wr ∧ Blk wr w.heap.size 31 #[.int .i64 s, .slice A n cap] ∧ Blk wr (w.heap.size + 1) 31 #[.int .i64 0, .slice none 0 0]) (fun _ i _ => n - (intOf i).toNat)
  case atStart => exact ⟨0, rfl, Nat.zero_le _, HO2.out, HB2.out, HK1.out, HK2.out⟩
  case round =>
    obtain ⟨j, rfl, hj, hown, hB, hK, hK2⟩ := hrel
    have hbs := hB.size
    have HO := Lib.hid hown
    have HB := Lib.hid hB
    have HK := Lib.hid hK
    have HKK := Lib.hid hK2
    clear hown hB hK hK2 hw2
    by_cases hjn : j < n
    · obtain ⟨b, off, rfl, hbl, a0, a1, a2, a3⟩ := rowE_cells (HX.out.below HB.out (fun _ h => h)) hjn
      have htk := take_at (d := ent0) (show j < es.length by omega)
      obtain ⟨⟨x0, x1, x2, x3⟩, hs⟩ : ∃ s, es.getD j ent0 = s := ⟨_, rfl⟩
      rw [hs] at a0 a1 a2 a3 htk
      have hds := dropE_snoc (es.take j) (x0, x1, x2, x3) gen
      rw [← htk] at hds
      have HDS := Lib.hid hds
      have hba := Blk.new wr 49 #[.int .u32 x0, .int .i64 x1, .int .u64 x2, .int .i64 x3]
      have HBA := Lib.hid hba
      have d0 := hba.cell 0
      have d1 := hba.cell 1
      have d2 := hba.cell 2
      have d3 := hba.cell 3
      have HOA := Lib.hid (own_alloc HO.out (.cells #[.int .u32 x0, .int .i64 x1, .int .u64 x2, .int .i64 x3] 49))
      have HBB := Lib.hid (HB.out.alloc hbs (.cells #[.int .u32 x0, .int .i64 x1, .int .u64 x2, .int .i64 x3] 49))
      have HKA := Lib.hid (HK.out.alloc (.cells #[.int .u32 x0, .int .i64 x1, .int .u64 x2, .int .i64 x3] 49))
      have HKB := Lib.hid (HKK.out.alloc (.cells #[.int .u32 x0, .int .i64 x1, .int .u64 x2, .int .i64 x3] 49))
      clear hs htk hds hba
      by_cases hq : x2 = gen
      · have hq2 : (x2 != x2) = false := by simp
        subst hq
        go_wp2
        go_roundw
        case rel =>
          refine ⟨j + 1, by simp, by omega, ?_, HBB.out, HKA.out, HKB.out⟩
          rw [HDS.out, if_pos rfl, List.append_nil]
          exact HOA.out
        case measure => show n - (Int.toNat ((j : Int) + 1)) < n - (Int.toNat (j : Int)); omega
      · have hq2 : (x2 != gen) = true := by simpa using hq
        have hcnt := HFL.out j
        have hbs2 := HBB.out.size
        go_wp2_with (first
          | (refine wpList_litE (.tmp 23) rfl rfl (x0, x1, x2, x3) rfl ?_; intro w7 hlit hw7; have HLIT := Lib.hid hlit; have HO7 := Lib.hid (show w7.ownsRow w.heap.size 49 4 u6 (dropE (es.take j) gen).length (EntM.flatG (dropE (es.take j) gen)) by rw [hw7]; exact own_alloc HOA.out _); have HK7 := Lib.hid (show Blk w7 w.heap.size 31 #[.int .i64 s, .slice (some ⟨b, off, none⟩) n cap] by rw [hw7]; exact HKA.out.alloc _); have HL7 := Lib.hid (show Blk w7 (w.heap.size + 1) 31 #[.int .i64 0, .slice none 0 0] by rw [hw7]; exact HKB.out.alloc _); have HB7 := Lib.hid (show Below w.heap.size w w7 by rw [hw7]; exact HBB.out.alloc hbs2 _); have hs7 : w.heap.size ≤ w7.heap.size := HB7.out.size; clear hlit hw7)
          | (at_builtin; refine EntM.wpList_append_rowZ (.tmp 22) (.tmp 24) rfl rfl w.heap.size u6 (dropE (es.take j) gen).length _ rfl HO7.out _ _ 1 1 [(x0, x1, x2, x3)] rfl HLIT.out (fun h => by cases h) (by omega) hs7 ?_; intro v8 w8 hown hgrow _; have HO8 := Lib.hid hown; have HK8 := Lib.hid (blk_past HK7.out HO7.out (by decide) hgrow); have HL8 := Lib.hid (blk_past HL7.out HO7.out (by decide) hgrow); have HB8 := Lib.hid (below_append HB7.out HO7.out (Nat.le_refl _) hs7 hgrow); clear hown hgrow))
        go_roundw
        case rel =>
          refine ⟨j + 1, by simp, by omega, ?_, HB8.out, HK8.out, HL8.out⟩
          rw [HDS.out, if_neg hq, List.length_append, EntM.flatG_append]
          exact HO8.out
        case measure => show n - (Int.toNat ((j : Int) + 1)) < n - (Int.toNat (j : Int)); omega
    · obtain rfl : j = n := by omega
      have hall : es.take j = es := List.take_of_length_le (by omega)
      rw [hall] at HO
      have hcnt := HFL.out j
      rw [hall] at hcnt
      obtain ⟨A', cap', rfl⟩ := ownsRow_slice HO.out
      have hk0 := HK.out.cell 0
      have hk1 := HK.out.cell 1
      have hf1 := HK.out.frozen 1
      have y0 := HKK.out.cell 0
      have y1 := HKK.out.cell 1
      have hz0 := HKK.out.frozen 0
      have hz1 := HKK.out.frozen 1
      have hle : (dropE es gen).length ≤ es.length := List.length_filter_le _ _
      obtain ⟨p, hp⟩ : ∃ p, (dropE es gen).length = p := ⟨_, rfl⟩
      rw [hp] at HO hcnt hle ⊢
      go_wp2_with (with_reducible refine halt_end ?_)
      have hne : w.heap.size ≠ w.heap.size + 1 := by omega
      have hst := ((HKK.out.far (p := ⟨w.heap.size, 1, none⟩) hne.symm (.slice A' p cap')).set_ 0 (.int .i64 s)).set_ 1 (.slice A' p cap')
      have ho1 := own_past HO.out HK.out (by decide) 1 (.slice A' p cap')
      have hb1 := HKK.out.far (p := ⟨w.heap.size, 1, none⟩) hne.symm (.slice A' p cap')
      have ho2 := own_past ho1 hb1 (by decide) 0 (.int .i64 s)
      have ho3 := own_past ho2 (hb1.set_ 0 (.int .i64 s)) (by decide) 1 (.slice A' p cap')
      have hbel := ((HB.out.setCell (p := ⟨w.heap.size, 1, none⟩) (Nat.le_refl _) (.slice A' p cap')).setCell (p := ⟨w.heap.size + 1, 0, none⟩) (by simp) (.int .i64 s)).setCell (p := ⟨w.heap.size + 1, 1, none⟩) (by simp) (.slice A' p cap')
      refine Halt.ret (results_row2 rfl _ _ (w.heap.size + 1) 31 #[.int .i64 s, .slice A' p cap'] _ rfl hst Try.underlying31 rfl size_ref) rfl ⟨⟨A', cap', ?_, by rw [hp]; exact ho3⟩, hbel⟩
      rw [hp, Int.ofNat_sub (by omega), hl]
      rfl
end Go.Proofs.Ytfgmbkflpdobcaa
