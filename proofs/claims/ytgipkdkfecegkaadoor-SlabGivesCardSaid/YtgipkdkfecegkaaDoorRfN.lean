/- The document's New. -/
import Derived.Test.YtgipkdkfecegkaaDoorRfM
import Derived.Test.YtgipkdkfecegkaaDoorLast
namespace Go.Proofs.YtgipkdkfecegkaaDoor
open Go.RowKit Go.Shelf PgM
attribute [local go_sem] Oper.semAt_some
set_option linter.unusedVariables false
set_option linter.unusedSimpArgs false
theorem size_arR : (Tryd.prog.info? 35).map (·.size) = some 1 := by kernel_rfl
abbrev nw0 : Oper := { dst := some 11, op := Go.Op.fieldAddr 35 (Go.Operand.tmp 3) 0, type := 0, pos := "ref.go:36", after := #[], guard := none }
abbrev nw1 : Oper := { dst := some 12, op := Go.Op.load 33 (Go.Operand.tmp 11), type := 33, pos := "ref.go:36", after := #[{ on := 0, ground := Go.Ground.data }], guard := none }
abbrev nw2 : Oper := { dst := some 13, op := Go.Op.makeSlice 49 (Go.Operand.const (Go.Value.int Go.IntKind.i64 32)) (Go.Operand.const (Go.Value.int Go.IntKind.i64 32)), type := 49, pos := "ref.go:36", after := #[], guard := none }
abbrev nw3 : Oper := { dst := some 14, op := Go.Op.buildSlice 33 1 #[(0, Go.Operand.tmp 13)], type := 33, pos := "ref.go:36", after := #[{ on := 2, ground := Go.Ground.data }], guard := none }
abbrev nw4 : Oper := { dst := some 15, op := Go.Op.call { callee := Go.Callee.builtin Go.Builtin.append, args := #[Go.Operand.tmp 12, Go.Operand.tmp 14], argTypes := #[33, 33] }, type := 33, pos := "ref.go:36", after := #[{ on := 1, ground := Go.Ground.data }, { on := 3, ground := Go.Ground.data }], guard := none }
abbrev nw5 : Oper := { dst := some 16, op := Go.Op.fieldAddr 35 (Go.Operand.tmp 3) 0, type := 0, pos := "ref.go:36", after := #[{ on := 0, ground := Go.Ground.phase }, { on := 1, ground := Go.Ground.phase }, { on := 2, ground := Go.Ground.phase }, { on := 3, ground := Go.Ground.phase }, { on := 4, ground := Go.Ground.phase }], guard := none }
abbrev nw6 : Oper := { dst := none, op := Go.Op.store 33 (Go.Operand.tmp 16) (Go.Operand.tmp 15), type := 0, pos := "ref.go:36", after := #[{ on := 5, ground := Go.Ground.data }, { on := 4, ground := Go.Ground.data }, { on := 4, ground := Go.Ground.chain }, { on := 0, ground := Go.Ground.phase }, { on := 1, ground := Go.Ground.phase }, { on := 2, ground := Go.Ground.phase }, { on := 3, ground := Go.Ground.phase }, { on := 4, ground := Go.Ground.phase }], guard := none }
set_option maxRecDepth 100000 in
set_option maxHeartbeats 4000000 in
theorem ref_new (n : Nat) (hn : n ≤ 256) (w : World) : Calls Tryd.prog 16 #[.int .i64 n] w fun e w' => (∃ v rows, e = .returned (.agg #[v]) ∧ rows.length = n ∧ RefO w.heap.size w' v rows (fun _ _ => 0)) ∧ Below w.heap.size w w' := by
  obtain ⟨w2, hw2⟩ : ∃ w2, w2 = (w.alloc (.cells #[.slice none 0 0] 35)).alloc (.cells #[.slice none 0 0] 35) := ⟨_, rfl⟩
  have HB2 := Lib.hid (show Below w.heap.size w w2 by rw [hw2]; exact ((Below.refl _ w).alloc (Nat.le_refl _) _).alloc (by simp) _)
  have HK1 := Lib.hid (show Blk w2 w.heap.size 35 #[.slice none 0 0] by rw [hw2]; exact (Blk.new w _ _).alloc _)
  have HK2 := Lib.hid (show Blk w2 (w.heap.size + 1) 35 #[.slice none 0 0] by rw [hw2]; have h := Blk.new (w.alloc (.cells #[.slice none 0 0] 35)) 35 #[.slice none 0 0]; simpa using h)
  have HO2 := Lib.hid (show RefO w.heap.size w2 (.slice none 0 0) [] (fun _ _ => 0) from ⟨World.ownsRow_nil w2 w.heap.size 49 1, fun i hi => absurd hi (by simp), fun i j hi => absurd hi (by simp), fun i hi => absurd hi (by simp)⟩)
  have HW2 := Lib.hid hw2
  clear hw2
  go_enter Tryd.func16, Tryd.ntmps16
  go_wp2_with fail
  rw [← HW2.out]
  go_loopw [4] (fun i wr => ∃ (j : Nat) (v : Value) (rows : List Nat), i = .int .i64 j ∧ j ≤ n ∧ rows.length = j ∧ RefO w.heap.size wr v rows (fun _ _ => 0) ∧ Blk wr w.heap.size 35 #[.slice none 0 0] ∧ Blk wr (w.heap.size + 1) 35 #[v] ∧ Below w.heap.size w wr) (fun i _ => n - (intOf i).toNat)
  case atStart => exact ⟨0, .slice none 0 0, [], rfl, Nat.zero_le _, rfl, HO2.out, HK1.out, HK2.out, HB2.out⟩
  case round =>
    obtain ⟨j, v, rows, rfl, hj, hl, hO, h1, h2, hB⟩ := hrel
    obtain ⟨A0, cap0, rfl⟩ := ownsRow_slice' hO.own
    have HO := Lib.hid hO
    have H1 := Lib.hid h1
    have H2 := Lib.hid h2
    have HB := Lib.hid hB
    have HL := Lib.hid hl
    have hbs := hB.size
    have c0 := h2.cell 0
    clear hO h1 h2 hB hl
    by_cases hjn : j < n
    · go_wp2
      clear c0
      refine wp_region_noPanic ?_
      refine Tillst.region (fun W => Blk W (w.heap.size + 1) 35 #[.slice A0 rows.length cap0]) [6] (by kernel_rfl) H2.out.drew (fun hHeld => ?_)
      refine Tillst.take (i := 0) (oi := nw0) (v := ?_) rfl (by kernel_rfl) (by kernel_rfl) (by kernel_rfl) (by kernel_rfl) (fun _ _ _ h => h) (by rfl) ?_ hHeld ?_
      rotate_left
      · intro W hSW; have t0 := Blk.cell hSW 0; unfold nw0; go_simp; with_reducible rfl
      simp only [nw0, Act.put, List.setIfInBounds_toArray, List.set_cons_zero, List.set_cons_succ]
      refine Tillst.take (i := 1) (oi := nw1) (v := ?_) rfl (by kernel_rfl) (by kernel_rfl) (by kernel_rfl) (by kernel_rfl) (fun _ _ _ h => h) (by rfl) ?_ hHeld ?_
      rotate_left
      · intro W hSW; have t0 := Blk.cell hSW 0; unfold nw1; go_simp; with_reducible rfl
      simp only [nw1, Act.put, List.setIfInBounds_toArray, List.set_cons_zero, List.set_cons_succ]
      refine Tillst.one (i := 2) (o := nw2) (by kernel_rfl) rfl ?_
      intro K hK
      refine step_make32 rfl rfl ?_
      obtain ⟨r, hr⟩ : ∃ r, wr.drew.heap.size = r := ⟨_, rfl⟩
      have hrs : wr.heap.size = r := hr
      have hbA := (Below.refl wr.heap.size wr).drew.alloc (Nat.le_refl _) (.cells (rowA (fun _ => 0)) 3)
      have hnew := Blk.new wr.drew 3 (rowA (fun _ => 0))
      have hsA : (wr.drew.alloc (.cells (rowA (fun _ => 0)) 3)).heap.size = r + 1 := by rw [World.size_alloc, hr]
      have hoA := own_alloc (own_drew HO.out.own) (.cells (rowA (fun _ => 0)) 3)
      rw [hr] at hnew ⊢
      generalize wr.drew.alloc (.cells (rowA (fun _ => 0)) 3) = WA at *
      simp only [nw2, Act.put, List.setIfInBounds_toArray, List.set_cons_zero, List.set_cons_succ]
      have HBA := Lib.hid hbA
      have HNA := Lib.hid hnew
      have HOA := Lib.hid hoA
      refine hK.out _ _ (fun _ => H2.out.below hbA H2.out.lt) (fun hHeld => ?_)
      clear hHeld hK K hbA hnew hoA
      refine Tillst.one (i := 3) (o := nw3) (by kernel_rfl) rfl ?_
      intro K hK
      refine step_lit32 (.tmp 13) rfl rfl r rfl ?_
      intro WB hlit hWB
      have hbB : Below WA.heap.size WA WB := by rw [hWB]; exact (Below.refl _ WA).alloc (Nat.le_refl _) _
      have hoB : WB.ownsRow w.heap.size 49 1 (.slice A0 rows.length cap0) rows.length (rows.map mkR) := by rw [hWB]; exact own_alloc HOA.out _
      have hsB : WB.heap.size = r + 2 := by rw [hWB, World.size_alloc, hsA]
      have HBB := Lib.hid (HBA.out.trans (hbB.mono HBA.out.size))
      have HNB := Lib.hid (HNA.out.below hbB HNA.out.lt)
      have HOB := Lib.hid hoB
      have HLT := Lib.hid hlit
      clear hlit hWB hbB hoB
      simp only [nw3, Act.put, List.setIfInBounds_toArray, List.set_cons_zero, List.set_cons_succ]
      refine hK.out _ _ (fun _ => H2.out.below HBB.out H2.out.lt) (fun hHeld => ?_)
      clear hHeld hK K
      refine Tillst.one (i := 4) (o := nw4) (by kernel_rfl) rfl ?_
      intro K hK
      obtain ⟨i0, hi0, hz0, hz1, hz2⟩ := info_parts info_row32
      refine step_append_rowG (mk := mkR) (d := 0) rfl (.tmp 12) (.tmp 14) 33 rfl w.heap.size 49 i0 _ 24 Tryd.underlying33 hi0 hz0 hz1 hz2 (by simp [Value.cells]) (fun _ => rfl) (.slice A0 rows.length cap0) rows.length _ rfl HOB.out _ _ 1 1 [r] rfl HLT.out (fun h => by cases h) (by unfold maxLen; have := HL.out; omega) (by have := HL.out; omega) (by omega) ?_
      intro v8 W8 hown hgrow _
      obtain ⟨A8, c8, rfl⟩ := ownsRow_slice hown
      have HB8 := Lib.hid (below_append (HB.out.trans (HBB.out.mono HB.out.size)) HOB.out (Nat.le_refl _) (by omega) hgrow)
      have HN8 := Lib.hid (blk_past HNB.out HOB.out (by decide) hgrow)
      have HR8 := Lib.hid (fun i (hi : i < rows.length) => blk_past ((HO.out.row i hi).below HBB.out (HO.out.row i hi).lt) HOB.out (by decide) hgrow)
      have HK18 := Lib.hid (blk_past (H1.out.below HBB.out H1.out.lt) HOB.out (by decide) hgrow)
      have HK28 := Lib.hid (blk_past (H2.out.below HBB.out H2.out.lt) HOB.out (by decide) hgrow)
      have HOW := Lib.hid hown
      clear hown hgrow
      simp only [nw4, Act.put, List.setIfInBounds_toArray, List.set_cons_zero, List.set_cons_succ]
      refine hK.out _ _ (fun _ => HK28.out) (fun hHeld => ?_)
      replace hHeld := hHeld (by decide)
      clear hK K
      refine Tillst.take (i := 5) (oi := nw5) (v := ?_) rfl (by kernel_rfl) (by kernel_rfl) (by kernel_rfl) (by kernel_rfl) (fun _ _ _ h => h) (by rfl) ?_ hHeld ?_
      rotate_left
      · intro W hSW; have t0 := Blk.cell hSW 0; unfold nw5; go_simp; with_reducible rfl
      simp only [nw5, Act.put, List.setIfInBounds_toArray, List.set_cons_zero, List.set_cons_succ]
      refine Tillst.one (i := 6) (o := nw6) (by kernel_rfl) rfl ?_
      intro K hK
      refine step_store_cell (.tmp 16) (.tmp 15) 33 (by with_reducible rfl) (by rfl) ⟨w.heap.size + 1, 0, none⟩ (.slice A8 (rows.length + 1) c8) (by rfl) (by rfl) ?_ ?_
      · have f18 := HK28.out.frozen 0
        have c18 := HK28.out.cell 0
        go_simp
      simp only [nw6, Act.put]
      refine hK.out _ _ (fun h => absurd h (by decide)) (fun _ => ?_)
      clear hK K
      refine Tillst.done (by kernel_rfl) ?_ _
      refine NoPanic.normal ?_
      have n1 : (w.heap.size : Nat) ≠ w.heap.size + 1 := by omega
      have hlt2 := H2.out.lt
      have HN9 := Lib.hid (HN8.out.far (p := ⟨w.heap.size + 1, 0, none⟩) (by simp only []; omega) (.slice A8 (rows.length + 1) c8))
      have HR9 := Lib.hid (fun i (hi : i < rows.length) => (HR8.out i hi).far (p := ⟨w.heap.size + 1, 0, none⟩) (fun e => by
        replace e : rows.getD i 0 = w.heap.size + 1 := e
        have h1 := HK28.out
        rw [← e] at h1
        exact Blk.ne_ (HR8.out i hi) h1 (by decide) rfl) (.slice A8 (rows.length + 1) c8))
      have HK19 := Lib.hid (HK18.out.far (p := ⟨w.heap.size + 1, 0, none⟩) n1 (.slice A8 (rows.length + 1) c8))
      have HK29 := Lib.hid (HK28.out.set_ 0 (.slice A8 (rows.length + 1) c8))
      have HO9 := Lib.hid (own_past HOW.out HK28.out (by decide) 0 (.slice A8 (rows.length + 1) c8))
      have HB9 := Lib.hid (HB8.out.setCell (p := ⟨w.heap.size + 1, 0, none⟩) (by simp) (.slice A8 (rows.length + 1) c8))
      generalize W8.setCell ⟨w.heap.size + 1, 0, none⟩ (.slice A8 (rows.length + 1) c8) = W9 at *
      clear hHeld
      go_wp2
      go_roundw
      case rel =>
        refine ⟨j + 1, .slice A8 (rows.length + 1) c8, rows ++ [r], by simp, by omega, by simp [HL.out], ?_, HK19.out, HK29.out, HB9.out⟩
        have hget : ∀ i, i < rows.length → (rows ++ [r]).getD i 0 = rows.getD i 0 := fun i hi => by simp [List.getD, List.getElem?_append_left hi]
        have hgl : (rows ++ [r]).getD rows.length 0 = r := by simp [List.getD]
        have hold : ∀ i, i < rows.length → rows.getD i 0 < r := fun i hi => by rw [← hrs]; exact (HO.out.row i hi).lt
        refine ⟨by simpa using HO9.out, fun i hi => ?_, fun i i' hi hi' he => ?_, fun i hi => ?_⟩
        · rw [List.length_append] at hi
          by_cases e : i < rows.length
          · rw [hget i e]; exact HR9.out i e
          · obtain rfl : i = rows.length := by simp at hi; omega
            rw [hgl]; exact HN9.out
        · rw [List.length_append] at hi hi'
          simp at hi hi'
          by_cases e : i < rows.length <;> by_cases e' : i' < rows.length
          · rw [hget i e, hget i' e'] at he
            exact HO.out.nd i i' e e' he
          · obtain rfl : i' = rows.length := by omega
            rw [hget i e, hgl] at he
            have := hold i e
            omega
          · obtain rfl : i = rows.length := by omega
            rw [hget i' e', hgl] at he
            have := hold i' e'
            omega
          · omega
        · rw [List.length_append] at hi
          by_cases e : i < rows.length
          · rw [hget i e]; exact HO.out.low i e
          · obtain rfl : i = rows.length := by simp at hi; omega
            rw [hgl]; omega
      case measure => show n - (Int.toNat ((j : Int) + 1)) < n - (Int.toNat (j : Int)); omega
    · obtain rfl : j = n := by omega
      have f1 := H1.out.frozen 0
      have c1 := H1.out.cell 0
      go_wp2_with (with_reducible refine halt_end ?_)
      have hst := H1.out.set_ 0 (.slice A0 rows.length cap0)
      have hbel := HB.out.setCell (p := ⟨w.heap.size, 0, none⟩) (Nat.le_refl _) (.slice A0 rows.length cap0)
      refine Halt.ret (results_row1 rfl _ _ w.heap.size 35 #[.slice A0 rows.length cap0] _ rfl hst Tryd.underlying35 rfl size_arR) rfl ⟨⟨.slice A0 rows.length cap0, rows, rfl, HL.out, own_past HO.out.own H1.out (by decide) 0 (.slice A0 rows.length cap0), fun i hi => (HO.out.row i hi).far (p := ⟨w.heap.size, 0, none⟩) (fun e => by
        replace e : rows.getD i 0 = w.heap.size := e
        have h1 := H1.out
        rw [← e] at h1
        exact Blk.ne_ (HO.out.row i hi) h1 (by decide) rfl) (.slice A0 rows.length cap0), HO.out.nd, HO.out.low⟩, hbel⟩
end Go.Proofs.YtgipkdkfecegkaaDoor
