/- The laws of layer 6: short. -/
import Derived.Test.YtehldhdpeefljaaShort0
import Derived.Test.YtehldhdpeefljaaLast
namespace Go.Proofs.Ytehldhdpeefljaa
open Go.RowKit
set_option linter.unusedVariables false

/-- What short leaves: a record whose lists lie in memory of their own, with a 7 behind them. -/
def ShortTold (k f x s : Int) (xs ys : List Int) (p q : Nat) (w : World) (e : Ending) (w' : World) : Prop :=
  ∃ g1 cap1 g2 cap2, e = .returned (.agg #[.int .i64 k, .int .u32 f, .int .u32 x, .int .u64 s, .slice (some ⟨g1, 0, none⟩) p cap1, .slice (some ⟨g2, 0, none⟩) q cap2]) ∧
    Room w' w.heap.size g1 p cap1 (xs.take p) ∧ Room w' w.heap.size g2 q cap2 (ys.take q) ∧ g1 ≠ g2 ∧ Below w.heap.size w w'

set_option maxRecDepth 100000 in
set_option maxHeartbeats 4000000 in
theorem short_any (k f x s : Int) (A B : Option Addr) (n c m d p q : Nat) (xs ys : List Int) (w : World) (hx : RowI .u8 w (fun b => b < w.heap.size) A n xs) (hy : RowI .u8 w (fun b => b < w.heap.size) B m ys)
    (hnc : n ≤ c) (hmd : m ≤ d) (hnA : A = none → c = 0) (hnB : B = none → d = 0) (hn63 : n ≤ 9223372036854775807) (hm63 : m ≤ 9223372036854775807)
    (hp : (n ≤ 600 ∧ p = n) ∨ (600 < n ∧ p = 600)) (hq : (m ≤ 600 ∧ q = m) ∨ (600 < m ∧ q = 600)) :
    Calls Try.prog 11 #[.agg #[.int .i64 k, .int .u32 f, .int .u32 x, .int .u64 s, .slice A n c, .slice B m d]] w (ShortTold k f x s xs ys p q w) := by
  obtain ⟨i0, hi, hz0, hz1, hz2⟩ := info_parts info_u8
  have hp0 : p ≤ n := by omega
  have hq0 : q ≤ m := by omega
  have hp6 : p ≤ 600 := by omega
  have hq6 : q ≤ 600 := by omega
  have hpc : (p : Int) ≤ c := by omega
  have hqd : (q : Int) ≤ d := by omega
  have hmk : ∀ u : World, (Instr.makeSlice 24 (.int .i64 0) (.int .i64 600)).run Try.prog u = .ok (.slice (some ⟨u.heap.size, 0, none⟩) 0 600) (u.alloc (.cells (madeCells #[.int .u8 0] 600) 5)) := by
    intro u
    have := run_make (P := Try.prog) (w := u) 24 5 i0 (.int .u8 0) Try.underlying24 hi hz0 .i64 .i64 0 600 (by omega) (by omega) (by rw [hz2]; omega) (by omega)
    rw [hz1] at this
    exact this
  have HIFP := Lib.hid (show (if (600 : Int) < (n : Int) then (600 : Int) else (n : Int)) = (p : Int) by split <;> omega)
  have HIFQ := Lib.hid (show (if (600 : Int) < (m : Int) then (600 : Int) else (m : Int)) = (q : Int) by split <;> omega)
  have HX := Lib.hid hx
  have HY := Lib.hid hy
  have HLP := Lib.hid (show (xs.take p).length = p by simp [hx.1]; omega)
  have HLQ := Lib.hid (show (ys.take q).length = q by simp [hy.1]; omega)
  clear hx hy hp hq
  go_enter Try.func11, Try.ntmps11
  go_upto_region 1 with fail
  generalize hw1 : (w.alloc _).alloc _ = w1 at *
  have HRC1 := Lib.hid (show Blk w1 w.heap.size 26 (recC k f x s A n c B m d) by rw [← hw1]; exact (Blk.new w _ _).alloc _)
  have HRS1 := Lib.hid (show Blk w1 (w.heap.size + 1) 26 #[.int .i64 0, .int .u32 0, .int .u32 0, .int .u64 0, .slice none 0 0, .slice none 0 0] by rw [← hw1]; exact blk_new2 w _ _ _)
  have HW1 := Lib.hid (show w.heap.size + 2 ≤ w1.heap.size by rw [← hw1]; simp)
  have HBL1 := Lib.hid (show Below w.heap.size w w1 by rw [← hw1]; exact ((Below.refl _ _).alloc (Nat.le_refl _) _).alloc (by simp) _)
  have HK1 := Lib.hid (HX.out.below HBL1.out (fun b h => h))
  have HC1 := Lib.hid (show w1.drew.cell? ⟨w.heap.size, 4, none⟩ = some (.slice A n c) from HRC1.out.cell 4)
  have HCW := Lib.hid (show w1.cell? ⟨w.heap.size, 4, none⟩ = some (.slice A n c) from HRC1.out.cell 4)
  have HIF := HIFP
  have HLN := HLP
  clear hw1
  go_cut [2] (fun t wx => t = .pointer (some ⟨w.heap.size + 1, 0, none⟩) ∧ ∃ g1 cap1, Blk wx w.heap.size 26 (recC k f x s (some ⟨g1, 0, none⟩) p cap1 B m d) ∧ Blk wx (w.heap.size + 1) 26 #[.int .i64 0, .int .u32 0, .int .u32 0, .int .u64 0, .slice none 0 0, .slice none 0 0] ∧ Room wx w1.heap.size g1 p cap1 (xs.take p) ∧ w1.heap.size ≤ wx.heap.size ∧ Below w.heap.size w wx)
  case first =>
    refine wp_region_noPanic ?_
    refine Tillst.region (fun W => W.cell? ⟨w.heap.size, 4, none⟩ = some (.slice A n c)) [17] (by kernel_rfl) HC1.out (fun hHeld => ?_)
    have HBW := Lib.hid ((Below.refl w1.heap.size w1).drew)
    have HZW := Lib.hid (show w1.heap.size ≤ w1.drew.heap.size from Nat.le_refl _)
    generalize w1.drew = vd at *
    refine Tillst.take (i := 1) (oi := { dst := some 4, op := Op.fieldAddr 26 (Operand.tmp 1) 4, type := 0, pos := "law.go:22", after := #[], guard := none }) (v := ?_) rfl (by kernel_rfl) (by kernel_rfl) (by kernel_rfl) (by kernel_rfl) (fun _ _ _ h => h) (by rfl) ?_ hHeld ?_
    rotate_left
    · intro W hSW; (try dsimp only at hSW); go_simp; with_reducible rfl
    simp only [Act.put, List.setIfInBounds_toArray, List.set_cons_zero, List.set_cons_succ]
    refine Tillst.take (i := 2) (oi := { dst := some 5, op := Op.load 24 (Operand.tmp 4), type := 24, pos := "law.go:22", after := #[{ on := 1, ground := Ground.data }], guard := none }) (v := ?_) rfl (by kernel_rfl) (by kernel_rfl) (by kernel_rfl) (by kernel_rfl) (fun _ _ _ h => h) (by rfl) ?_ hHeld ?_
    rotate_left
    · intro W hSW; (try dsimp only at hSW); go_simp; with_reducible rfl
    simp only [Act.put, List.setIfInBounds_toArray, List.set_cons_zero, List.set_cons_succ]
    refine Tillst.take (i := 3) (oi := { dst := some 6, op := Op.fieldAddr 26 (Operand.tmp 1) 4, type := 0, pos := "law.go:22", after := #[], guard := none }) (v := ?_) rfl (by kernel_rfl) (by kernel_rfl) (by kernel_rfl) (by kernel_rfl) (fun _ _ _ h => h) (by rfl) ?_ hHeld ?_
    rotate_left
    · intro W hSW; (try dsimp only at hSW); go_simp; with_reducible rfl
    simp only [Act.put, List.setIfInBounds_toArray, List.set_cons_zero, List.set_cons_succ]
    refine Tillst.take (i := 4) (oi := { dst := some 7, op := Op.load 24 (Operand.tmp 6), type := 24, pos := "law.go:22", after := #[{ on := 3, ground := Ground.data }], guard := none }) (v := ?_) rfl (by kernel_rfl) (by kernel_rfl) (by kernel_rfl) (by kernel_rfl) (fun _ _ _ h => h) (by rfl) ?_ hHeld ?_
    rotate_left
    · intro W hSW; (try dsimp only at hSW); go_simp; with_reducible rfl
    simp only [Act.put, List.setIfInBounds_toArray, List.set_cons_zero, List.set_cons_succ]
    refine Tillst.take (i := 5) (oi := { dst := some 8, op := Op.call { callee := Callee.builtin Builtin.len, args := #[Operand.tmp 7], argTypes := #[24] }, type := 3, pos := "law.go:22", after := #[{ on := 4, ground := Ground.data }], guard := none }) (v := ?_) rfl (by kernel_rfl) (by kernel_rfl) (by kernel_rfl) (by kernel_rfl) (fun _ _ _ h => h) (by rfl) ?_ hHeld ?_
    rotate_left
    · intro W hSW; (try dsimp only at hSW); go_simp; with_reducible rfl
    simp only [Act.put, List.setIfInBounds_toArray, List.set_cons_zero, List.set_cons_succ]
    refine Tillst.take (i := 6) (oi := { dst := some 9, op := Op.call { callee := Callee.builtin Builtin.min, args := #[Operand.tmp 8, Operand.const (Value.int IntKind.i64 600)], argTypes := #[3, 3] }, type := 3, pos := "law.go:22", after := #[{ on := 5, ground := Ground.data }], guard := none }) (v := .int .i64 (p : Int)) rfl (by kernel_rfl) (by kernel_rfl) (by kernel_rfl) (by kernel_rfl) (fun _ _ _ h => h) (by rfl) ?_ hHeld ?_
    · intro W hSW; (go_simp; (first | done | (rw [HIF.out]) | (simp only [HIF.out])))
    simp only [Act.put, List.setIfInBounds_toArray, List.set_cons_zero, List.set_cons_succ]
    refine Tillst.take (i := 7) (oi := { dst := some 10, op := Op.slice 24 (Operand.tmp 5) none (some (Operand.tmp 9)) none, type := 24, pos := "law.go:22", after := #[{ on := 2, ground := Ground.data }, { on := 6, ground := Ground.data }], guard := none }) (v := ?_) rfl (by kernel_rfl) (by kernel_rfl) (by kernel_rfl) (by kernel_rfl) (fun _ _ _ h => h) (by rfl) ?_ hHeld ?_
    rotate_left
    · intro W hSW; (try dsimp only at hSW); go_simp; with_reducible rfl
    simp only [Act.put, List.setIfInBounds_toArray, List.set_cons_zero, List.set_cons_succ]
    refine Tillst.take (i := 11) (oi := { dst := some 14, op := Op.fieldAddr 26 (Operand.tmp 1) 4, type := 0, pos := "law.go:22", after := #[], guard := none }) (v := ?_) rfl (by kernel_rfl) (by kernel_rfl) (by kernel_rfl) (by kernel_rfl) (fun _ _ _ h => h) (by rfl) ?_ hHeld ?_
    rotate_left
    · intro W hSW; (try dsimp only at hSW); go_simp; with_reducible rfl
    simp only [Act.put, List.setIfInBounds_toArray, List.set_cons_zero, List.set_cons_succ]
    refine Tillst.take (i := 12) (oi := { dst := some 15, op := Op.load 24 (Operand.tmp 14), type := 24, pos := "law.go:22", after := #[{ on := 11, ground := Ground.data }], guard := none }) (v := ?_) rfl (by kernel_rfl) (by kernel_rfl) (by kernel_rfl) (by kernel_rfl) (fun _ _ _ h => h) (by rfl) ?_ hHeld ?_
    rotate_left
    · intro W hSW; (try dsimp only at hSW); go_simp; with_reducible rfl
    simp only [Act.put, List.setIfInBounds_toArray, List.set_cons_zero, List.set_cons_succ]
    refine Tillst.take (i := 13) (oi := { dst := some 16, op := Op.call { callee := Callee.builtin Builtin.len, args := #[Operand.tmp 15], argTypes := #[24] }, type := 3, pos := "law.go:22", after := #[{ on := 12, ground := Ground.data }], guard := none }) (v := ?_) rfl (by kernel_rfl) (by kernel_rfl) (by kernel_rfl) (by kernel_rfl) (fun _ _ _ h => h) (by rfl) ?_ hHeld ?_
    rotate_left
    · intro W hSW; (try dsimp only at hSW); go_simp; with_reducible rfl
    simp only [Act.put, List.setIfInBounds_toArray, List.set_cons_zero, List.set_cons_succ]
    refine Tillst.take (i := 14) (oi := { dst := some 17, op := Op.call { callee := Callee.builtin Builtin.min, args := #[Operand.tmp 16, Operand.const (Value.int IntKind.i64 600)], argTypes := #[3, 3] }, type := 3, pos := "law.go:22", after := #[{ on := 13, ground := Ground.data }], guard := none }) (v := .int .i64 (p : Int)) rfl (by kernel_rfl) (by kernel_rfl) (by kernel_rfl) (by kernel_rfl) (fun _ _ _ h => h) (by rfl) ?_ hHeld ?_
    · intro W hSW; (go_simp; (first | done | (rw [HIF.out]) | (simp only [HIF.out])))
    simp only [Act.put, List.setIfInBounds_toArray, List.set_cons_zero, List.set_cons_succ]
    refine Tillst.two (i := 0) (j := 9) (o := { dst := some 3, op := Op.makeSlice 24 (Operand.const (Value.int IntKind.i64 0)) (Operand.const (Value.int IntKind.i64 600)), type := 24, pos := "law.go:22", after := #[], guard := none }) (o' := { dst := some 12, op := Op.buildSlice 24 1 #[(0, Operand.const (Value.int IntKind.u8 7))], type := 24, pos := "law.go:22", after := #[], guard := none }) (by kernel_rfl) rfl rfl ?_ ?_
    · intro K hK
      refine step_make (.const (.int .i64 0)) (.const (.int .i64 600)) rfl rfl rfl rfl hmk w1.heap.size HZW.out ?_
      intro g0 va hg0 hown hgrow
      have HO := Lib.hid hown
      have HG0 := Lib.hid hg0.1
      have HBW := Lib.hid (HBW.out.grown hgrow HZW.out (fun g h => by cases h))
      have HZW := Lib.hid (Nat.le_trans HZW.out hgrow.size)
      clear hg0 hown hgrow
      simp only [Act.put, List.setIfInBounds_toArray, List.set_cons_zero, List.set_cons_succ]
      refine hK.out _ _ (fun _ => (HBW.out.cell (show w.heap.size < w1.heap.size by have := HW1.out; omega)).trans HCW.out) (fun hHeld => ?_)
      replace hHeld := hHeld (by decide)
      clear hK K
      refine Tillst.two (i := 8) (j := 9) (o := { dst := some 11, op := Op.call { callee := Callee.builtin Builtin.append, args := #[Operand.tmp 3, Operand.tmp 10], argTypes := #[24, 24] }, type := 24, pos := "law.go:22", after := #[{ on := 0, ground := Ground.data }, { on := 7, ground := Ground.data }], guard := none }) (o' := { dst := some 12, op := Op.buildSlice 24 1 #[(0, Operand.const (Value.int IntKind.u8 7))], type := 24, pos := "law.go:22", after := #[], guard := none }) (by kernel_rfl) rfl rfl ?_ ?_
      · intro K hK
        refine step_append_rowG (mk := Value.int .u8) (d := 0) rfl (.tmp 3) (.tmp 10) 24 rfl w1.heap.size 5 i0 (.int .u8 0) 1 Try.underlying24 hi hz0 hz1 hz2 rfl (fun _ => rfl) (.slice (some ⟨g0, 0, none⟩) 0 600) 0 [] rfl HO.out (fun b => b < w.heap.size) A p c (xs.take p) rfl ((HK1.out.below HBW.out (fun b h => by have := HW1.out; omega)).take p (by omega)) hnA (by unfold maxLen; omega) (by omega) HZW.out ?_
        intro v8 vb hown hgrow hblk
        rw [List.nil_append, Nat.zero_add] at hown
        have HO := Lib.hid hown
        have HLT8 := Lib.hid hown.lt
        have HBW := Lib.hid (HBW.out.grown hgrow HZW.out (fun g h => by (have h' : g0 = g := (by simpa [Value.ownBlock] using h)); have := HG0.out.1; omega))
        have HZW := Lib.hid (Nat.le_trans HZW.out hgrow.size)
        clear hown hgrow hblk
        simp only [Act.put, List.setIfInBounds_toArray, List.set_cons_zero, List.set_cons_succ]
        refine hK.out _ _ (fun _ => (HBW.out.cell (show w.heap.size < w1.heap.size by have := HW1.out; omega)).trans HCW.out) (fun hHeld => ?_)
        replace hHeld := hHeld (by decide)
        clear hK K
        refine Tillst.one (i := 9) (o := { dst := some 12, op := Op.buildSlice 24 1 #[(0, Operand.const (Value.int IntKind.u8 7))], type := 24, pos := "law.go:22", after := #[], guard := none }) (by kernel_rfl) rfl ?_
        intro K hK
        refine step_seven rfl rfl w1.heap.size HZW.out ?_
        intro g9 vc hg9 hrow hgrow
        have HV := Lib.hid hrow
        have HG9 := Lib.hid (show w1.heap.size ≤ g9 ∧ g9 < vc.heap.size from ⟨by rw [hg9.1]; exact HZW.out, hg9.2⟩)
        have HO := Lib.hid (own_none HO.out hgrow)
        have HVO := Lib.hid (show v8.ownBlock ≠ some g9 from fun h => by have h2 := (HLT8.out g9 h).2; have := hg9.1; omega)
        have HBW := Lib.hid (HBW.out.grown hgrow HZW.out (fun g h => by cases h))
        have HZW := Lib.hid (Nat.le_trans HZW.out hgrow.size)
        clear hg9 hrow hgrow
        simp only [Act.put, List.setIfInBounds_toArray, List.set_cons_zero, List.set_cons_succ]
        refine hK.out _ _ (fun _ => (HBW.out.cell (show w.heap.size < w1.heap.size by have := HW1.out; omega)).trans HCW.out) (fun hHeld => ?_)
        replace hHeld := hHeld (by decide)
        clear hK K
        refine Tillst.one (i := 10) (o := { dst := some 13, op := Op.call { callee := Callee.builtin Builtin.append, args := #[Operand.tmp 11, Operand.tmp 12], argTypes := #[24, 24] }, type := 24, pos := "law.go:22", after := #[{ on := 8, ground := Ground.data }, { on := 9, ground := Ground.data }, { on := 8, ground := Ground.chain }], guard := none }) (by kernel_rfl) rfl ?_
        intro K hK
        refine step_append_rowG (mk := Value.int .u8) (d := 0) rfl (.tmp 11) (.tmp 12) 24 rfl w1.heap.size 5 i0 (.int .u8 0) 1 Try.underlying24 hi hz0 hz1 hz2 rfl (fun _ => rfl) v8 p _ rfl HO.out (fun b => b = g9) (some ⟨g9, 0, none⟩) 1 1 [7] rfl HV.out (fun h => by cases h) (by unfold maxLen; omega) (by omega) HZW.out ?_
        intro v10 vz hown hgrow _
        rw [← List.map_append] at hown
        obtain ⟨gz, capz, rfl, hroom⟩ := room_of hown (HLN.out)
        have HRM := Lib.hid hroom
        have hcapz : p + 1 ≤ capz := hroom.cap_le
        have HBW := Lib.hid (HBW.out.grown hgrow HZW.out (fun g h => (HO.out.lt g h).1))
        have HZW := Lib.hid (Nat.le_trans HZW.out hgrow.size)
        clear hown hgrow hroom
        simp only [Act.put, List.setIfInBounds_toArray, List.set_cons_zero, List.set_cons_succ]
        refine hK.out _ _ (fun _ => (HBW.out.cell (show w.heap.size < w1.heap.size by have := HW1.out; omega)).trans HCW.out) (fun hHeld => ?_)
        replace hHeld := hHeld (by decide)
        clear hK K
        have hcz1 : (p : Int) ≤ (capz : Int) := by omega
        refine Tillst.take (i := 15) (oi := { dst := some 18, op := Op.slice 24 (Operand.tmp 13) none (some (Operand.tmp 17)) none, type := 24, pos := "law.go:22", after := #[{ on := 10, ground := Ground.data }, { on := 14, ground := Ground.data }], guard := none }) (v := ?_) rfl (by kernel_rfl) (by kernel_rfl) (by kernel_rfl) (by kernel_rfl) (fun _ _ _ h => h) (by rfl) ?_ hHeld ?_
        rotate_left
        · intro W hSW; (try dsimp only at hSW); go_simp; with_reducible rfl
        simp only [Act.put, List.setIfInBounds_toArray, List.set_cons_zero, List.set_cons_succ]
        refine Tillst.take (i := 16) (oi := { dst := some 19, op := Op.fieldAddr 26 (Operand.tmp 1) 4, type := 0, pos := "law.go:22", after := #[{ on := 0, ground := Ground.phase }, { on := 1, ground := Ground.phase }, { on := 2, ground := Ground.phase }, { on := 3, ground := Ground.phase }, { on := 4, ground := Ground.phase }, { on := 5, ground := Ground.phase }, { on := 6, ground := Ground.phase }, { on := 7, ground := Ground.phase }, { on := 8, ground := Ground.phase }, { on := 9, ground := Ground.phase }, { on := 10, ground := Ground.phase }, { on := 11, ground := Ground.phase }, { on := 12, ground := Ground.phase }, { on := 13, ground := Ground.phase }, { on := 14, ground := Ground.phase }, { on := 15, ground := Ground.phase }], guard := none }) (v := ?_) rfl (by kernel_rfl) (by kernel_rfl) (by kernel_rfl) (by kernel_rfl) (fun _ _ _ h => h) (by rfl) ?_ hHeld ?_
        rotate_left
        · intro W hSW; (try dsimp only at hSW); go_simp; with_reducible rfl
        simp only [Act.put, List.setIfInBounds_toArray, List.set_cons_zero, List.set_cons_succ]
        refine Tillst.one (i := 17) (o := { dst := none, op := Op.store 24 (Operand.tmp 19) (Operand.tmp 18), type := 0, pos := "law.go:22", after := #[{ on := 16, ground := Ground.data }, { on := 15, ground := Ground.data }, { on := 10, ground := Ground.chain }, { on := 0, ground := Ground.phase }, { on := 1, ground := Ground.phase }, { on := 2, ground := Ground.phase }, { on := 3, ground := Ground.phase }, { on := 4, ground := Ground.phase }, { on := 5, ground := Ground.phase }, { on := 6, ground := Ground.phase }, { on := 7, ground := Ground.phase }, { on := 8, ground := Ground.phase }, { on := 9, ground := Ground.phase }, { on := 10, ground := Ground.phase }, { on := 11, ground := Ground.phase }, { on := 12, ground := Ground.phase }, { on := 13, ground := Ground.phase }, { on := 14, ground := Ground.phase }, { on := 15, ground := Ground.phase }], guard := none }) (by kernel_rfl) rfl ?_
        intro K hK
        have hrc := HRC1.out.below HBW.out (show w.heap.size < w1.heap.size by have := HW1.out; omega)
        have q0 := hrc.cell 4
        have q1 := hrc.frozen 4
        simp only [List.getElem?_toArray, List.getElem?_cons_zero, List.getElem?_cons_succ] at q0
        go_simp
        clear q0 q1
        refine hK.out _ _ (fun h => by cases h) (fun _ => ?_)
        clear hK K
        refine Tillst.done (by kernel_rfl) ?_ _
        refine NoPanic.normal ?_
        go_wp2_with fail
        go_meet
        exact ⟨rfl, gz, capz, hrc.set_ 4 _, (HRS1.out.below HBW.out (by have := HW1.out; omega)).far (by show w.heap.size + 1 ≠ w.heap.size; omega) _, room_set HRM.out (by have := HRM.out.lt.1; have := HW1.out; show w.heap.size ≠ gz; omega) _, (by have := HZW.out; simpa using this), (HBL1.out.trans (HBW.out.mono (by have := HW1.out; omega))).setCell (Nat.le_refl _) _⟩
      · intro K hK
        refine step_seven rfl rfl w1.heap.size HZW.out ?_
        intro g9 vb hg9 hrow hgrow
        have HV := Lib.hid hrow
        have HG9 := Lib.hid (show w1.heap.size ≤ g9 ∧ g9 < vb.heap.size from ⟨by rw [hg9.1]; exact HZW.out, hg9.2⟩)
        have HO := Lib.hid (own_none HO.out hgrow)
        have HNE := Lib.hid (show g9 ≠ g0 by have h := (HG0.out).2; have := hg9.1; omega)
        have HG0 := Lib.hid (show w1.heap.size ≤ g0 ∧ g0 < vb.heap.size from ⟨HG0.out.1, Nat.lt_of_lt_of_le HG0.out.2 hgrow.size⟩)
        have HBW := Lib.hid (HBW.out.grown hgrow HZW.out (fun g h => by cases h))
        have HZW := Lib.hid (Nat.le_trans HZW.out hgrow.size)
        clear hg9 hrow hgrow
        simp only [Act.put, List.setIfInBounds_toArray, List.set_cons_zero, List.set_cons_succ]
        refine hK.out _ _ (fun _ => (HBW.out.cell (show w.heap.size < w1.heap.size by have := HW1.out; omega)).trans HCW.out) (fun hHeld => ?_)
        replace hHeld := hHeld (by decide)
        clear hK K
        refine Tillst.one (i := 8) (o := { dst := some 11, op := Op.call { callee := Callee.builtin Builtin.append, args := #[Operand.tmp 3, Operand.tmp 10], argTypes := #[24, 24] }, type := 24, pos := "law.go:22", after := #[{ on := 0, ground := Ground.data }, { on := 7, ground := Ground.data }], guard := none }) (by kernel_rfl) rfl ?_
        intro K hK
        refine step_append_rowG (mk := Value.int .u8) (d := 0) rfl (.tmp 3) (.tmp 10) 24 rfl w1.heap.size 5 i0 (.int .u8 0) 1 Try.underlying24 hi hz0 hz1 hz2 rfl (fun _ => rfl) (.slice (some ⟨g0, 0, none⟩) 0 600) 0 [] rfl HO.out (fun b => b < w.heap.size) A p c (xs.take p) rfl ((HK1.out.below HBW.out (fun b h => by have := HW1.out; omega)).take p (by omega)) hnA (by unfold maxLen; omega) (by omega) HZW.out ?_
        intro v8 vc hown hgrow hblk
        rw [List.nil_append, Nat.zero_add] at hown
        have HV := Lib.hid (row_grown HV.out hgrow (fun b hb => ⟨by rw [hb]; exact HG9.out.2, fun h => by rw [hb] at h; simp [Value.ownBlock] at h; exact HNE.out h⟩))
        have HVO := Lib.hid (show v8.ownBlock ≠ some g9 from fun h => by rcases hblk with h2 | h2 <;> rw [h] at h2 <;> simp [Value.ownBlock] at h2; exact HNE.out h2; have := HG9.out.2; omega)
        have HG9 := Lib.hid (show w1.heap.size ≤ g9 ∧ g9 < vc.heap.size from ⟨HG9.out.1, Nat.lt_of_lt_of_le HG9.out.2 hgrow.size⟩)
        have HO := Lib.hid hown
        have HLT8 := Lib.hid hown.lt
        have HBW := Lib.hid (HBW.out.grown hgrow HZW.out (fun g h => by (have h' : g0 = g := (by simpa [Value.ownBlock] using h)); have := HG0.out.1; omega))
        have HZW := Lib.hid (Nat.le_trans HZW.out hgrow.size)
        clear hown hgrow hblk
        simp only [Act.put, List.setIfInBounds_toArray, List.set_cons_zero, List.set_cons_succ]
        refine hK.out _ _ (fun _ => (HBW.out.cell (show w.heap.size < w1.heap.size by have := HW1.out; omega)).trans HCW.out) (fun hHeld => ?_)
        replace hHeld := hHeld (by decide)
        clear hK K
        refine Tillst.one (i := 10) (o := { dst := some 13, op := Op.call { callee := Callee.builtin Builtin.append, args := #[Operand.tmp 11, Operand.tmp 12], argTypes := #[24, 24] }, type := 24, pos := "law.go:22", after := #[{ on := 8, ground := Ground.data }, { on := 9, ground := Ground.data }, { on := 8, ground := Ground.chain }], guard := none }) (by kernel_rfl) rfl ?_
        intro K hK
        refine step_append_rowG (mk := Value.int .u8) (d := 0) rfl (.tmp 11) (.tmp 12) 24 rfl w1.heap.size 5 i0 (.int .u8 0) 1 Try.underlying24 hi hz0 hz1 hz2 rfl (fun _ => rfl) v8 p _ rfl HO.out (fun b => b = g9) (some ⟨g9, 0, none⟩) 1 1 [7] rfl HV.out (fun h => by cases h) (by unfold maxLen; omega) (by omega) HZW.out ?_
        intro v10 vz hown hgrow _
        rw [← List.map_append] at hown
        obtain ⟨gz, capz, rfl, hroom⟩ := room_of hown (HLN.out)
        have HRM := Lib.hid hroom
        have hcapz : p + 1 ≤ capz := hroom.cap_le
        have HBW := Lib.hid (HBW.out.grown hgrow HZW.out (fun g h => (HO.out.lt g h).1))
        have HZW := Lib.hid (Nat.le_trans HZW.out hgrow.size)
        clear hown hgrow hroom
        simp only [Act.put, List.setIfInBounds_toArray, List.set_cons_zero, List.set_cons_succ]
        refine hK.out _ _ (fun _ => (HBW.out.cell (show w.heap.size < w1.heap.size by have := HW1.out; omega)).trans HCW.out) (fun hHeld => ?_)
        replace hHeld := hHeld (by decide)
        clear hK K
        have hcz1 : (p : Int) ≤ (capz : Int) := by omega
        refine Tillst.take (i := 15) (oi := { dst := some 18, op := Op.slice 24 (Operand.tmp 13) none (some (Operand.tmp 17)) none, type := 24, pos := "law.go:22", after := #[{ on := 10, ground := Ground.data }, { on := 14, ground := Ground.data }], guard := none }) (v := ?_) rfl (by kernel_rfl) (by kernel_rfl) (by kernel_rfl) (by kernel_rfl) (fun _ _ _ h => h) (by rfl) ?_ hHeld ?_
        rotate_left
        · intro W hSW; (try dsimp only at hSW); go_simp; with_reducible rfl
        simp only [Act.put, List.setIfInBounds_toArray, List.set_cons_zero, List.set_cons_succ]
        refine Tillst.take (i := 16) (oi := { dst := some 19, op := Op.fieldAddr 26 (Operand.tmp 1) 4, type := 0, pos := "law.go:22", after := #[{ on := 0, ground := Ground.phase }, { on := 1, ground := Ground.phase }, { on := 2, ground := Ground.phase }, { on := 3, ground := Ground.phase }, { on := 4, ground := Ground.phase }, { on := 5, ground := Ground.phase }, { on := 6, ground := Ground.phase }, { on := 7, ground := Ground.phase }, { on := 8, ground := Ground.phase }, { on := 9, ground := Ground.phase }, { on := 10, ground := Ground.phase }, { on := 11, ground := Ground.phase }, { on := 12, ground := Ground.phase }, { on := 13, ground := Ground.phase }, { on := 14, ground := Ground.phase }, { on := 15, ground := Ground.phase }], guard := none }) (v := ?_) rfl (by kernel_rfl) (by kernel_rfl) (by kernel_rfl) (by kernel_rfl) (fun _ _ _ h => h) (by rfl) ?_ hHeld ?_
        rotate_left
        · intro W hSW; (try dsimp only at hSW); go_simp; with_reducible rfl
        simp only [Act.put, List.setIfInBounds_toArray, List.set_cons_zero, List.set_cons_succ]
        refine Tillst.one (i := 17) (o := { dst := none, op := Op.store 24 (Operand.tmp 19) (Operand.tmp 18), type := 0, pos := "law.go:22", after := #[{ on := 16, ground := Ground.data }, { on := 15, ground := Ground.data }, { on := 10, ground := Ground.chain }, { on := 0, ground := Ground.phase }, { on := 1, ground := Ground.phase }, { on := 2, ground := Ground.phase }, { on := 3, ground := Ground.phase }, { on := 4, ground := Ground.phase }, { on := 5, ground := Ground.phase }, { on := 6, ground := Ground.phase }, { on := 7, ground := Ground.phase }, { on := 8, ground := Ground.phase }, { on := 9, ground := Ground.phase }, { on := 10, ground := Ground.phase }, { on := 11, ground := Ground.phase }, { on := 12, ground := Ground.phase }, { on := 13, ground := Ground.phase }, { on := 14, ground := Ground.phase }, { on := 15, ground := Ground.phase }], guard := none }) (by kernel_rfl) rfl ?_
        intro K hK
        have hrc := HRC1.out.below HBW.out (show w.heap.size < w1.heap.size by have := HW1.out; omega)
        have q0 := hrc.cell 4
        have q1 := hrc.frozen 4
        simp only [List.getElem?_toArray, List.getElem?_cons_zero, List.getElem?_cons_succ] at q0
        go_simp
        clear q0 q1
        refine hK.out _ _ (fun h => by cases h) (fun _ => ?_)
        clear hK K
        refine Tillst.done (by kernel_rfl) ?_ _
        refine NoPanic.normal ?_
        go_wp2_with fail
        go_meet
        exact ⟨rfl, gz, capz, hrc.set_ 4 _, (HRS1.out.below HBW.out (by have := HW1.out; omega)).far (by show w.heap.size + 1 ≠ w.heap.size; omega) _, room_set HRM.out (by have := HRM.out.lt.1; have := HW1.out; show w.heap.size ≠ gz; omega) _, (by have := HZW.out; simpa using this), (HBL1.out.trans (HBW.out.mono (by have := HW1.out; omega))).setCell (Nat.le_refl _) _⟩
    · intro K hK
      refine step_seven rfl rfl w1.heap.size HZW.out ?_
      intro g9 va hg9 hrow hgrow
      have HV := Lib.hid hrow
      have HG9 := Lib.hid (show w1.heap.size ≤ g9 ∧ g9 < va.heap.size from ⟨by rw [hg9.1]; exact HZW.out, hg9.2⟩)
      have HBW := Lib.hid (HBW.out.grown hgrow HZW.out (fun g h => by cases h))
      have HZW := Lib.hid (Nat.le_trans HZW.out hgrow.size)
      clear hg9 hrow hgrow
      simp only [Act.put, List.setIfInBounds_toArray, List.set_cons_zero, List.set_cons_succ]
      refine hK.out _ _ (fun _ => (HBW.out.cell (show w.heap.size < w1.heap.size by have := HW1.out; omega)).trans HCW.out) (fun hHeld => ?_)
      replace hHeld := hHeld (by decide)
      clear hK K
      refine Tillst.one (i := 0) (o := { dst := some 3, op := Op.makeSlice 24 (Operand.const (Value.int IntKind.i64 0)) (Operand.const (Value.int IntKind.i64 600)), type := 24, pos := "law.go:22", after := #[], guard := none }) (by kernel_rfl) rfl ?_
      intro K hK
      refine step_make (.const (.int .i64 0)) (.const (.int .i64 600)) rfl rfl rfl rfl hmk w1.heap.size HZW.out ?_
      intro g0 vb hg0 hown hgrow
      have HO := Lib.hid hown
      have HG0 := Lib.hid hg0.1
      have HV := Lib.hid (row_grown HV.out hgrow (fun b hb => ⟨by rw [hb]; exact HG9.out.2, fun h => by cases h⟩))
      have HNE := Lib.hid (show g9 ≠ g0 by have := HG9.out.2; have := hg0.2; omega)
      have HG9 := Lib.hid (show w1.heap.size ≤ g9 ∧ g9 < vb.heap.size from ⟨HG9.out.1, Nat.lt_of_lt_of_le HG9.out.2 hgrow.size⟩)
      have HBW := Lib.hid (HBW.out.grown hgrow HZW.out (fun g h => by cases h))
      have HZW := Lib.hid (Nat.le_trans HZW.out hgrow.size)
      clear hg0 hown hgrow
      simp only [Act.put, List.setIfInBounds_toArray, List.set_cons_zero, List.set_cons_succ]
      refine hK.out _ _ (fun _ => (HBW.out.cell (show w.heap.size < w1.heap.size by have := HW1.out; omega)).trans HCW.out) (fun hHeld => ?_)
      replace hHeld := hHeld (by decide)
      clear hK K
      refine Tillst.one (i := 8) (o := { dst := some 11, op := Op.call { callee := Callee.builtin Builtin.append, args := #[Operand.tmp 3, Operand.tmp 10], argTypes := #[24, 24] }, type := 24, pos := "law.go:22", after := #[{ on := 0, ground := Ground.data }, { on := 7, ground := Ground.data }], guard := none }) (by kernel_rfl) rfl ?_
      intro K hK
      refine step_append_rowG (mk := Value.int .u8) (d := 0) rfl (.tmp 3) (.tmp 10) 24 rfl w1.heap.size 5 i0 (.int .u8 0) 1 Try.underlying24 hi hz0 hz1 hz2 rfl (fun _ => rfl) (.slice (some ⟨g0, 0, none⟩) 0 600) 0 [] rfl HO.out (fun b => b < w.heap.size) A p c (xs.take p) rfl ((HK1.out.below HBW.out (fun b h => by have := HW1.out; omega)).take p (by omega)) hnA (by unfold maxLen; omega) (by omega) HZW.out ?_
      intro v8 vc hown hgrow hblk
      rw [List.nil_append, Nat.zero_add] at hown
      have HV := Lib.hid (row_grown HV.out hgrow (fun b hb => ⟨by rw [hb]; exact HG9.out.2, fun h => by rw [hb] at h; simp [Value.ownBlock] at h; exact HNE.out h⟩))
      have HVO := Lib.hid (show v8.ownBlock ≠ some g9 from fun h => by rcases hblk with h2 | h2 <;> rw [h] at h2 <;> simp [Value.ownBlock] at h2; exact HNE.out h2; have := HG9.out.2; omega)
      have HG9 := Lib.hid (show w1.heap.size ≤ g9 ∧ g9 < vc.heap.size from ⟨HG9.out.1, Nat.lt_of_lt_of_le HG9.out.2 hgrow.size⟩)
      have HO := Lib.hid hown
      have HLT8 := Lib.hid hown.lt
      have HBW := Lib.hid (HBW.out.grown hgrow HZW.out (fun g h => by (have h' : g0 = g := (by simpa [Value.ownBlock] using h)); have := HG0.out.1; omega))
      have HZW := Lib.hid (Nat.le_trans HZW.out hgrow.size)
      clear hown hgrow hblk
      simp only [Act.put, List.setIfInBounds_toArray, List.set_cons_zero, List.set_cons_succ]
      refine hK.out _ _ (fun _ => (HBW.out.cell (show w.heap.size < w1.heap.size by have := HW1.out; omega)).trans HCW.out) (fun hHeld => ?_)
      replace hHeld := hHeld (by decide)
      clear hK K
      refine Tillst.one (i := 10) (o := { dst := some 13, op := Op.call { callee := Callee.builtin Builtin.append, args := #[Operand.tmp 11, Operand.tmp 12], argTypes := #[24, 24] }, type := 24, pos := "law.go:22", after := #[{ on := 8, ground := Ground.data }, { on := 9, ground := Ground.data }, { on := 8, ground := Ground.chain }], guard := none }) (by kernel_rfl) rfl ?_
      intro K hK
      refine step_append_rowG (mk := Value.int .u8) (d := 0) rfl (.tmp 11) (.tmp 12) 24 rfl w1.heap.size 5 i0 (.int .u8 0) 1 Try.underlying24 hi hz0 hz1 hz2 rfl (fun _ => rfl) v8 p _ rfl HO.out (fun b => b = g9) (some ⟨g9, 0, none⟩) 1 1 [7] rfl HV.out (fun h => by cases h) (by unfold maxLen; omega) (by omega) HZW.out ?_
      intro v10 vz hown hgrow _
      rw [← List.map_append] at hown
      obtain ⟨gz, capz, rfl, hroom⟩ := room_of hown (HLN.out)
      have HRM := Lib.hid hroom
      have hcapz : p + 1 ≤ capz := hroom.cap_le
      have HBW := Lib.hid (HBW.out.grown hgrow HZW.out (fun g h => (HO.out.lt g h).1))
      have HZW := Lib.hid (Nat.le_trans HZW.out hgrow.size)
      clear hown hgrow hroom
      simp only [Act.put, List.setIfInBounds_toArray, List.set_cons_zero, List.set_cons_succ]
      refine hK.out _ _ (fun _ => (HBW.out.cell (show w.heap.size < w1.heap.size by have := HW1.out; omega)).trans HCW.out) (fun hHeld => ?_)
      replace hHeld := hHeld (by decide)
      clear hK K
      have hcz1 : (p : Int) ≤ (capz : Int) := by omega
      refine Tillst.take (i := 15) (oi := { dst := some 18, op := Op.slice 24 (Operand.tmp 13) none (some (Operand.tmp 17)) none, type := 24, pos := "law.go:22", after := #[{ on := 10, ground := Ground.data }, { on := 14, ground := Ground.data }], guard := none }) (v := ?_) rfl (by kernel_rfl) (by kernel_rfl) (by kernel_rfl) (by kernel_rfl) (fun _ _ _ h => h) (by rfl) ?_ hHeld ?_
      rotate_left
      · intro W hSW; (try dsimp only at hSW); go_simp; with_reducible rfl
      simp only [Act.put, List.setIfInBounds_toArray, List.set_cons_zero, List.set_cons_succ]
      refine Tillst.take (i := 16) (oi := { dst := some 19, op := Op.fieldAddr 26 (Operand.tmp 1) 4, type := 0, pos := "law.go:22", after := #[{ on := 0, ground := Ground.phase }, { on := 1, ground := Ground.phase }, { on := 2, ground := Ground.phase }, { on := 3, ground := Ground.phase }, { on := 4, ground := Ground.phase }, { on := 5, ground := Ground.phase }, { on := 6, ground := Ground.phase }, { on := 7, ground := Ground.phase }, { on := 8, ground := Ground.phase }, { on := 9, ground := Ground.phase }, { on := 10, ground := Ground.phase }, { on := 11, ground := Ground.phase }, { on := 12, ground := Ground.phase }, { on := 13, ground := Ground.phase }, { on := 14, ground := Ground.phase }, { on := 15, ground := Ground.phase }], guard := none }) (v := ?_) rfl (by kernel_rfl) (by kernel_rfl) (by kernel_rfl) (by kernel_rfl) (fun _ _ _ h => h) (by rfl) ?_ hHeld ?_
      rotate_left
      · intro W hSW; (try dsimp only at hSW); go_simp; with_reducible rfl
      simp only [Act.put, List.setIfInBounds_toArray, List.set_cons_zero, List.set_cons_succ]
      refine Tillst.one (i := 17) (o := { dst := none, op := Op.store 24 (Operand.tmp 19) (Operand.tmp 18), type := 0, pos := "law.go:22", after := #[{ on := 16, ground := Ground.data }, { on := 15, ground := Ground.data }, { on := 10, ground := Ground.chain }, { on := 0, ground := Ground.phase }, { on := 1, ground := Ground.phase }, { on := 2, ground := Ground.phase }, { on := 3, ground := Ground.phase }, { on := 4, ground := Ground.phase }, { on := 5, ground := Ground.phase }, { on := 6, ground := Ground.phase }, { on := 7, ground := Ground.phase }, { on := 8, ground := Ground.phase }, { on := 9, ground := Ground.phase }, { on := 10, ground := Ground.phase }, { on := 11, ground := Ground.phase }, { on := 12, ground := Ground.phase }, { on := 13, ground := Ground.phase }, { on := 14, ground := Ground.phase }, { on := 15, ground := Ground.phase }], guard := none }) (by kernel_rfl) rfl ?_
      intro K hK
      have hrc := HRC1.out.below HBW.out (show w.heap.size < w1.heap.size by have := HW1.out; omega)
      have q0 := hrc.cell 4
      have q1 := hrc.frozen 4
      simp only [List.getElem?_toArray, List.getElem?_cons_zero, List.getElem?_cons_succ] at q0
      go_simp
      clear q0 q1
      refine hK.out _ _ (fun h => by cases h) (fun _ => ?_)
      clear hK K
      refine Tillst.done (by kernel_rfl) ?_ _
      refine NoPanic.normal ?_
      go_wp2_with fail
      go_meet
      exact ⟨rfl, gz, capz, hrc.set_ 4 _, (HRS1.out.below HBW.out (by have := HW1.out; omega)).far (by show w.heap.size + 1 ≠ w.heap.size; omega) _, room_set HRM.out (by have := HRM.out.lt.1; have := HW1.out; show w.heap.size ≠ gz; omega) _, (by have := HZW.out; simpa using this), (HBL1.out.trans (HBW.out.mono (by have := HW1.out; omega))).setCell (Nat.le_refl _) _⟩
  case rest =>
    obtain ⟨rfl, g1, cap1, hrc1, hrs1, hroom1, hsz1, hbl1⟩ := hcut
    have HROOM := Lib.hid hroom1
    have HWW := HW1
    have HRC1 := Lib.hid hrc1
    have HRS1 := Lib.hid hrs1
    have HW1 := Lib.hid (show w.heap.size + 2 ≤ wc.heap.size by have := HW1.out; omega)
    have HBL1 := Lib.hid hbl1
    have HK1 := Lib.hid (HY.out.below HBL1.out (fun b h => h))
    have HC1 := Lib.hid (show wc.drew.cell? ⟨w.heap.size, 5, none⟩ = some (.slice B m d) from HRC1.out.cell 5)
    have HCW := Lib.hid (show wc.cell? ⟨w.heap.size, 5, none⟩ = some (.slice B m d) from HRC1.out.cell 5)
    have HIF := HIFQ
    have HLN := HLQ
    clear hrc1 hrs1 hroom1 hsz1 hbl1
    go_upto_region 2 with fail
    go_cut [2] (fun t wx => t = .pointer (some ⟨w.heap.size + 1, 0, none⟩) ∧ ∃ g2 cap2, Blk wx w.heap.size 26 (recC k f x s (some ⟨g1, 0, none⟩) p cap1 (some ⟨g2, 0, none⟩) q cap2) ∧ Blk wx (w.heap.size + 1) 26 #[.int .i64 0, .int .u32 0, .int .u32 0, .int .u64 0, .slice none 0 0, .slice none 0 0] ∧ Room wx w1.heap.size g1 p cap1 (xs.take p) ∧ Room wx wc.heap.size g2 q cap2 (ys.take q) ∧ g1 ≠ g2 ∧ Below w.heap.size w wx)
    case first =>
      refine wp_region_noPanic ?_
      refine Tillst.region (fun W => W.cell? ⟨w.heap.size, 5, none⟩ = some (.slice B m d)) [17] (by kernel_rfl) HC1.out (fun hHeld => ?_)
      have HBW := Lib.hid ((Below.refl wc.heap.size wc).drew)
      have HZW := Lib.hid (show wc.heap.size ≤ wc.drew.heap.size from Nat.le_refl _)
      generalize wc.drew = vd at *
      refine Tillst.take (i := 1) (oi := { dst := some 21, op := Op.fieldAddr 26 (Operand.tmp 1) 5, type := 0, pos := "law.go:23", after := #[], guard := none }) (v := ?_) rfl (by kernel_rfl) (by kernel_rfl) (by kernel_rfl) (by kernel_rfl) (fun _ _ _ h => h) (by rfl) ?_ hHeld ?_
      rotate_left
      · intro W hSW; (try dsimp only at hSW); go_simp; with_reducible rfl
      simp only [Act.put, List.setIfInBounds_toArray, List.set_cons_zero, List.set_cons_succ]
      refine Tillst.take (i := 2) (oi := { dst := some 22, op := Op.load 24 (Operand.tmp 21), type := 24, pos := "law.go:23", after := #[{ on := 1, ground := Ground.data }], guard := none }) (v := ?_) rfl (by kernel_rfl) (by kernel_rfl) (by kernel_rfl) (by kernel_rfl) (fun _ _ _ h => h) (by rfl) ?_ hHeld ?_
      rotate_left
      · intro W hSW; (try dsimp only at hSW); go_simp; with_reducible rfl
      simp only [Act.put, List.setIfInBounds_toArray, List.set_cons_zero, List.set_cons_succ]
      refine Tillst.take (i := 3) (oi := { dst := some 23, op := Op.fieldAddr 26 (Operand.tmp 1) 5, type := 0, pos := "law.go:23", after := #[], guard := none }) (v := ?_) rfl (by kernel_rfl) (by kernel_rfl) (by kernel_rfl) (by kernel_rfl) (fun _ _ _ h => h) (by rfl) ?_ hHeld ?_
      rotate_left
      · intro W hSW; (try dsimp only at hSW); go_simp; with_reducible rfl
      simp only [Act.put, List.setIfInBounds_toArray, List.set_cons_zero, List.set_cons_succ]
      refine Tillst.take (i := 4) (oi := { dst := some 24, op := Op.load 24 (Operand.tmp 23), type := 24, pos := "law.go:23", after := #[{ on := 3, ground := Ground.data }], guard := none }) (v := ?_) rfl (by kernel_rfl) (by kernel_rfl) (by kernel_rfl) (by kernel_rfl) (fun _ _ _ h => h) (by rfl) ?_ hHeld ?_
      rotate_left
      · intro W hSW; (try dsimp only at hSW); go_simp; with_reducible rfl
      simp only [Act.put, List.setIfInBounds_toArray, List.set_cons_zero, List.set_cons_succ]
      refine Tillst.take (i := 5) (oi := { dst := some 25, op := Op.call { callee := Callee.builtin Builtin.len, args := #[Operand.tmp 24], argTypes := #[24] }, type := 3, pos := "law.go:23", after := #[{ on := 4, ground := Ground.data }], guard := none }) (v := ?_) rfl (by kernel_rfl) (by kernel_rfl) (by kernel_rfl) (by kernel_rfl) (fun _ _ _ h => h) (by rfl) ?_ hHeld ?_
      rotate_left
      · intro W hSW; (try dsimp only at hSW); go_simp; with_reducible rfl
      simp only [Act.put, List.setIfInBounds_toArray, List.set_cons_zero, List.set_cons_succ]
      refine Tillst.take (i := 6) (oi := { dst := some 26, op := Op.call { callee := Callee.builtin Builtin.min, args := #[Operand.tmp 25, Operand.const (Value.int IntKind.i64 600)], argTypes := #[3, 3] }, type := 3, pos := "law.go:23", after := #[{ on := 5, ground := Ground.data }], guard := none }) (v := .int .i64 (q : Int)) rfl (by kernel_rfl) (by kernel_rfl) (by kernel_rfl) (by kernel_rfl) (fun _ _ _ h => h) (by rfl) ?_ hHeld ?_
      · intro W hSW; (go_simp; (first | done | (rw [HIF.out]) | (simp only [HIF.out])))
      simp only [Act.put, List.setIfInBounds_toArray, List.set_cons_zero, List.set_cons_succ]
      refine Tillst.take (i := 7) (oi := { dst := some 27, op := Op.slice 24 (Operand.tmp 22) none (some (Operand.tmp 26)) none, type := 24, pos := "law.go:23", after := #[{ on := 2, ground := Ground.data }, { on := 6, ground := Ground.data }], guard := none }) (v := ?_) rfl (by kernel_rfl) (by kernel_rfl) (by kernel_rfl) (by kernel_rfl) (fun _ _ _ h => h) (by rfl) ?_ hHeld ?_
      rotate_left
      · intro W hSW; (try dsimp only at hSW); go_simp; with_reducible rfl
      simp only [Act.put, List.setIfInBounds_toArray, List.set_cons_zero, List.set_cons_succ]
      refine Tillst.take (i := 11) (oi := { dst := some 31, op := Op.fieldAddr 26 (Operand.tmp 1) 5, type := 0, pos := "law.go:23", after := #[], guard := none }) (v := ?_) rfl (by kernel_rfl) (by kernel_rfl) (by kernel_rfl) (by kernel_rfl) (fun _ _ _ h => h) (by rfl) ?_ hHeld ?_
      rotate_left
      · intro W hSW; (try dsimp only at hSW); go_simp; with_reducible rfl
      simp only [Act.put, List.setIfInBounds_toArray, List.set_cons_zero, List.set_cons_succ]
      refine Tillst.take (i := 12) (oi := { dst := some 32, op := Op.load 24 (Operand.tmp 31), type := 24, pos := "law.go:23", after := #[{ on := 11, ground := Ground.data }], guard := none }) (v := ?_) rfl (by kernel_rfl) (by kernel_rfl) (by kernel_rfl) (by kernel_rfl) (fun _ _ _ h => h) (by rfl) ?_ hHeld ?_
      rotate_left
      · intro W hSW; (try dsimp only at hSW); go_simp; with_reducible rfl
      simp only [Act.put, List.setIfInBounds_toArray, List.set_cons_zero, List.set_cons_succ]
      refine Tillst.take (i := 13) (oi := { dst := some 33, op := Op.call { callee := Callee.builtin Builtin.len, args := #[Operand.tmp 32], argTypes := #[24] }, type := 3, pos := "law.go:23", after := #[{ on := 12, ground := Ground.data }], guard := none }) (v := ?_) rfl (by kernel_rfl) (by kernel_rfl) (by kernel_rfl) (by kernel_rfl) (fun _ _ _ h => h) (by rfl) ?_ hHeld ?_
      rotate_left
      · intro W hSW; (try dsimp only at hSW); go_simp; with_reducible rfl
      simp only [Act.put, List.setIfInBounds_toArray, List.set_cons_zero, List.set_cons_succ]
      refine Tillst.take (i := 14) (oi := { dst := some 34, op := Op.call { callee := Callee.builtin Builtin.min, args := #[Operand.tmp 33, Operand.const (Value.int IntKind.i64 600)], argTypes := #[3, 3] }, type := 3, pos := "law.go:23", after := #[{ on := 13, ground := Ground.data }], guard := none }) (v := .int .i64 (q : Int)) rfl (by kernel_rfl) (by kernel_rfl) (by kernel_rfl) (by kernel_rfl) (fun _ _ _ h => h) (by rfl) ?_ hHeld ?_
      · intro W hSW; (go_simp; (first | done | (rw [HIF.out]) | (simp only [HIF.out])))
      simp only [Act.put, List.setIfInBounds_toArray, List.set_cons_zero, List.set_cons_succ]
      refine Tillst.two (i := 0) (j := 9) (o := { dst := some 20, op := Op.makeSlice 24 (Operand.const (Value.int IntKind.i64 0)) (Operand.const (Value.int IntKind.i64 600)), type := 24, pos := "law.go:23", after := #[], guard := none }) (o' := { dst := some 29, op := Op.buildSlice 24 1 #[(0, Operand.const (Value.int IntKind.u8 7))], type := 24, pos := "law.go:23", after := #[], guard := none }) (by kernel_rfl) rfl rfl ?_ ?_
      · intro K hK
        refine step_make (.const (.int .i64 0)) (.const (.int .i64 600)) rfl rfl rfl rfl hmk wc.heap.size HZW.out ?_
        intro g0 va hg0 hown hgrow
        have HO := Lib.hid hown
        have HG0 := Lib.hid hg0.1
        have HBW := Lib.hid (HBW.out.grown hgrow HZW.out (fun g h => by cases h))
        have HZW := Lib.hid (Nat.le_trans HZW.out hgrow.size)
        clear hg0 hown hgrow
        simp only [Act.put, List.setIfInBounds_toArray, List.set_cons_zero, List.set_cons_succ]
        refine hK.out _ _ (fun _ => (HBW.out.cell (show w.heap.size < wc.heap.size by have := HW1.out; omega)).trans HCW.out) (fun hHeld => ?_)
        replace hHeld := hHeld (by decide)
        clear hK K
        refine Tillst.two (i := 8) (j := 9) (o := { dst := some 28, op := Op.call { callee := Callee.builtin Builtin.append, args := #[Operand.tmp 20, Operand.tmp 27], argTypes := #[24, 24] }, type := 24, pos := "law.go:23", after := #[{ on := 0, ground := Ground.data }, { on := 7, ground := Ground.data }], guard := none }) (o' := { dst := some 29, op := Op.buildSlice 24 1 #[(0, Operand.const (Value.int IntKind.u8 7))], type := 24, pos := "law.go:23", after := #[], guard := none }) (by kernel_rfl) rfl rfl ?_ ?_
        · intro K hK
          refine step_append_rowG (mk := Value.int .u8) (d := 0) rfl (.tmp 20) (.tmp 27) 24 rfl wc.heap.size 5 i0 (.int .u8 0) 1 Try.underlying24 hi hz0 hz1 hz2 rfl (fun _ => rfl) (.slice (some ⟨g0, 0, none⟩) 0 600) 0 [] rfl HO.out (fun b => b < w.heap.size) B q d (ys.take q) rfl ((HK1.out.below HBW.out (fun b h => by have := HW1.out; omega)).take q (by omega)) hnB (by unfold maxLen; omega) (by omega) HZW.out ?_
          intro v8 vb hown hgrow hblk
          rw [List.nil_append, Nat.zero_add] at hown
          have HO := Lib.hid hown
          have HLT8 := Lib.hid hown.lt
          have HBW := Lib.hid (HBW.out.grown hgrow HZW.out (fun g h => by (have h' : g0 = g := (by simpa [Value.ownBlock] using h)); have := HG0.out.1; omega))
          have HZW := Lib.hid (Nat.le_trans HZW.out hgrow.size)
          clear hown hgrow hblk
          simp only [Act.put, List.setIfInBounds_toArray, List.set_cons_zero, List.set_cons_succ]
          refine hK.out _ _ (fun _ => (HBW.out.cell (show w.heap.size < wc.heap.size by have := HW1.out; omega)).trans HCW.out) (fun hHeld => ?_)
          replace hHeld := hHeld (by decide)
          clear hK K
          refine Tillst.one (i := 9) (o := { dst := some 29, op := Op.buildSlice 24 1 #[(0, Operand.const (Value.int IntKind.u8 7))], type := 24, pos := "law.go:23", after := #[], guard := none }) (by kernel_rfl) rfl ?_
          intro K hK
          refine step_seven rfl rfl wc.heap.size HZW.out ?_
          intro g9 vc hg9 hrow hgrow
          have HV := Lib.hid hrow
          have HG9 := Lib.hid (show wc.heap.size ≤ g9 ∧ g9 < vc.heap.size from ⟨by rw [hg9.1]; exact HZW.out, hg9.2⟩)
          have HO := Lib.hid (own_none HO.out hgrow)
          have HVO := Lib.hid (show v8.ownBlock ≠ some g9 from fun h => by have h2 := (HLT8.out g9 h).2; have := hg9.1; omega)
          have HBW := Lib.hid (HBW.out.grown hgrow HZW.out (fun g h => by cases h))
          have HZW := Lib.hid (Nat.le_trans HZW.out hgrow.size)
          clear hg9 hrow hgrow
          simp only [Act.put, List.setIfInBounds_toArray, List.set_cons_zero, List.set_cons_succ]
          refine hK.out _ _ (fun _ => (HBW.out.cell (show w.heap.size < wc.heap.size by have := HW1.out; omega)).trans HCW.out) (fun hHeld => ?_)
          replace hHeld := hHeld (by decide)
          clear hK K
          refine Tillst.one (i := 10) (o := { dst := some 30, op := Op.call { callee := Callee.builtin Builtin.append, args := #[Operand.tmp 28, Operand.tmp 29], argTypes := #[24, 24] }, type := 24, pos := "law.go:23", after := #[{ on := 8, ground := Ground.data }, { on := 9, ground := Ground.data }, { on := 8, ground := Ground.chain }], guard := none }) (by kernel_rfl) rfl ?_
          intro K hK
          refine step_append_rowG (mk := Value.int .u8) (d := 0) rfl (.tmp 28) (.tmp 29) 24 rfl wc.heap.size 5 i0 (.int .u8 0) 1 Try.underlying24 hi hz0 hz1 hz2 rfl (fun _ => rfl) v8 q _ rfl HO.out (fun b => b = g9) (some ⟨g9, 0, none⟩) 1 1 [7] rfl HV.out (fun h => by cases h) (by unfold maxLen; omega) (by omega) HZW.out ?_
          intro v10 vz hown hgrow _
          rw [← List.map_append] at hown
          obtain ⟨gz, capz, rfl, hroom⟩ := room_of hown (HLN.out)
          have HRM := Lib.hid hroom
          have hcapz : q + 1 ≤ capz := hroom.cap_le
          have HBW := Lib.hid (HBW.out.grown hgrow HZW.out (fun g h => (HO.out.lt g h).1))
          have HZW := Lib.hid (Nat.le_trans HZW.out hgrow.size)
          clear hown hgrow hroom
          simp only [Act.put, List.setIfInBounds_toArray, List.set_cons_zero, List.set_cons_succ]
          refine hK.out _ _ (fun _ => (HBW.out.cell (show w.heap.size < wc.heap.size by have := HW1.out; omega)).trans HCW.out) (fun hHeld => ?_)
          replace hHeld := hHeld (by decide)
          clear hK K
          have hcz1 : (q : Int) ≤ (capz : Int) := by omega
          refine Tillst.take (i := 15) (oi := { dst := some 35, op := Op.slice 24 (Operand.tmp 30) none (some (Operand.tmp 34)) none, type := 24, pos := "law.go:23", after := #[{ on := 10, ground := Ground.data }, { on := 14, ground := Ground.data }], guard := none }) (v := ?_) rfl (by kernel_rfl) (by kernel_rfl) (by kernel_rfl) (by kernel_rfl) (fun _ _ _ h => h) (by rfl) ?_ hHeld ?_
          rotate_left
          · intro W hSW; (try dsimp only at hSW); go_simp; with_reducible rfl
          simp only [Act.put, List.setIfInBounds_toArray, List.set_cons_zero, List.set_cons_succ]
          refine Tillst.take (i := 16) (oi := { dst := some 36, op := Op.fieldAddr 26 (Operand.tmp 1) 5, type := 0, pos := "law.go:23", after := #[{ on := 0, ground := Ground.phase }, { on := 1, ground := Ground.phase }, { on := 2, ground := Ground.phase }, { on := 3, ground := Ground.phase }, { on := 4, ground := Ground.phase }, { on := 5, ground := Ground.phase }, { on := 6, ground := Ground.phase }, { on := 7, ground := Ground.phase }, { on := 8, ground := Ground.phase }, { on := 9, ground := Ground.phase }, { on := 10, ground := Ground.phase }, { on := 11, ground := Ground.phase }, { on := 12, ground := Ground.phase }, { on := 13, ground := Ground.phase }, { on := 14, ground := Ground.phase }, { on := 15, ground := Ground.phase }], guard := none }) (v := ?_) rfl (by kernel_rfl) (by kernel_rfl) (by kernel_rfl) (by kernel_rfl) (fun _ _ _ h => h) (by rfl) ?_ hHeld ?_
          rotate_left
          · intro W hSW; (try dsimp only at hSW); go_simp; with_reducible rfl
          simp only [Act.put, List.setIfInBounds_toArray, List.set_cons_zero, List.set_cons_succ]
          refine Tillst.one (i := 17) (o := { dst := none, op := Op.store 24 (Operand.tmp 36) (Operand.tmp 35), type := 0, pos := "law.go:23", after := #[{ on := 16, ground := Ground.data }, { on := 15, ground := Ground.data }, { on := 10, ground := Ground.chain }, { on := 0, ground := Ground.phase }, { on := 1, ground := Ground.phase }, { on := 2, ground := Ground.phase }, { on := 3, ground := Ground.phase }, { on := 4, ground := Ground.phase }, { on := 5, ground := Ground.phase }, { on := 6, ground := Ground.phase }, { on := 7, ground := Ground.phase }, { on := 8, ground := Ground.phase }, { on := 9, ground := Ground.phase }, { on := 10, ground := Ground.phase }, { on := 11, ground := Ground.phase }, { on := 12, ground := Ground.phase }, { on := 13, ground := Ground.phase }, { on := 14, ground := Ground.phase }, { on := 15, ground := Ground.phase }], guard := none }) (by kernel_rfl) rfl ?_
          intro K hK
          have hrc := HRC1.out.below HBW.out (show w.heap.size < wc.heap.size by have := HW1.out; omega)
          have q0 := hrc.cell 5
          have q1 := hrc.frozen 5
          simp only [List.getElem?_toArray, List.getElem?_cons_zero, List.getElem?_cons_succ] at q0
          go_simp
          clear q0 q1
          refine hK.out _ _ (fun h => by cases h) (fun _ => ?_)
          clear hK K
          refine Tillst.done (by kernel_rfl) ?_ _
          refine NoPanic.normal ?_
          go_wp2_with fail
          go_meet
          exact ⟨rfl, gz, capz, hrc.set_ 5 _, (HRS1.out.below HBW.out (by have := HW1.out; omega)).far (by show w.heap.size + 1 ≠ w.heap.size; omega) _, room_set (HROOM.out.below HBW.out) (by have := HROOM.out.lt.1; have := HWW.out; show w.heap.size ≠ g1; omega) _, room_set HRM.out (by have := HRM.out.lt.1; have := HW1.out; show w.heap.size ≠ gz; omega) _, (by have := HRM.out.lt.1; have := HROOM.out.lt.2; omega), (HBL1.out.trans (HBW.out.mono (by have := HW1.out; omega))).setCell (Nat.le_refl _) _⟩
        · intro K hK
          refine step_seven rfl rfl wc.heap.size HZW.out ?_
          intro g9 vb hg9 hrow hgrow
          have HV := Lib.hid hrow
          have HG9 := Lib.hid (show wc.heap.size ≤ g9 ∧ g9 < vb.heap.size from ⟨by rw [hg9.1]; exact HZW.out, hg9.2⟩)
          have HO := Lib.hid (own_none HO.out hgrow)
          have HNE := Lib.hid (show g9 ≠ g0 by have h := (HG0.out).2; have := hg9.1; omega)
          have HG0 := Lib.hid (show wc.heap.size ≤ g0 ∧ g0 < vb.heap.size from ⟨HG0.out.1, Nat.lt_of_lt_of_le HG0.out.2 hgrow.size⟩)
          have HBW := Lib.hid (HBW.out.grown hgrow HZW.out (fun g h => by cases h))
          have HZW := Lib.hid (Nat.le_trans HZW.out hgrow.size)
          clear hg9 hrow hgrow
          simp only [Act.put, List.setIfInBounds_toArray, List.set_cons_zero, List.set_cons_succ]
          refine hK.out _ _ (fun _ => (HBW.out.cell (show w.heap.size < wc.heap.size by have := HW1.out; omega)).trans HCW.out) (fun hHeld => ?_)
          replace hHeld := hHeld (by decide)
          clear hK K
          refine Tillst.one (i := 8) (o := { dst := some 28, op := Op.call { callee := Callee.builtin Builtin.append, args := #[Operand.tmp 20, Operand.tmp 27], argTypes := #[24, 24] }, type := 24, pos := "law.go:23", after := #[{ on := 0, ground := Ground.data }, { on := 7, ground := Ground.data }], guard := none }) (by kernel_rfl) rfl ?_
          intro K hK
          refine step_append_rowG (mk := Value.int .u8) (d := 0) rfl (.tmp 20) (.tmp 27) 24 rfl wc.heap.size 5 i0 (.int .u8 0) 1 Try.underlying24 hi hz0 hz1 hz2 rfl (fun _ => rfl) (.slice (some ⟨g0, 0, none⟩) 0 600) 0 [] rfl HO.out (fun b => b < w.heap.size) B q d (ys.take q) rfl ((HK1.out.below HBW.out (fun b h => by have := HW1.out; omega)).take q (by omega)) hnB (by unfold maxLen; omega) (by omega) HZW.out ?_
          intro v8 vc hown hgrow hblk
          rw [List.nil_append, Nat.zero_add] at hown
          have HV := Lib.hid (row_grown HV.out hgrow (fun b hb => ⟨by rw [hb]; exact HG9.out.2, fun h => by rw [hb] at h; simp [Value.ownBlock] at h; exact HNE.out h⟩))
          have HVO := Lib.hid (show v8.ownBlock ≠ some g9 from fun h => by rcases hblk with h2 | h2 <;> rw [h] at h2 <;> simp [Value.ownBlock] at h2; exact HNE.out h2; have := HG9.out.2; omega)
          have HG9 := Lib.hid (show wc.heap.size ≤ g9 ∧ g9 < vc.heap.size from ⟨HG9.out.1, Nat.lt_of_lt_of_le HG9.out.2 hgrow.size⟩)
          have HO := Lib.hid hown
          have HLT8 := Lib.hid hown.lt
          have HBW := Lib.hid (HBW.out.grown hgrow HZW.out (fun g h => by (have h' : g0 = g := (by simpa [Value.ownBlock] using h)); have := HG0.out.1; omega))
          have HZW := Lib.hid (Nat.le_trans HZW.out hgrow.size)
          clear hown hgrow hblk
          simp only [Act.put, List.setIfInBounds_toArray, List.set_cons_zero, List.set_cons_succ]
          refine hK.out _ _ (fun _ => (HBW.out.cell (show w.heap.size < wc.heap.size by have := HW1.out; omega)).trans HCW.out) (fun hHeld => ?_)
          replace hHeld := hHeld (by decide)
          clear hK K
          refine Tillst.one (i := 10) (o := { dst := some 30, op := Op.call { callee := Callee.builtin Builtin.append, args := #[Operand.tmp 28, Operand.tmp 29], argTypes := #[24, 24] }, type := 24, pos := "law.go:23", after := #[{ on := 8, ground := Ground.data }, { on := 9, ground := Ground.data }, { on := 8, ground := Ground.chain }], guard := none }) (by kernel_rfl) rfl ?_
          intro K hK
          refine step_append_rowG (mk := Value.int .u8) (d := 0) rfl (.tmp 28) (.tmp 29) 24 rfl wc.heap.size 5 i0 (.int .u8 0) 1 Try.underlying24 hi hz0 hz1 hz2 rfl (fun _ => rfl) v8 q _ rfl HO.out (fun b => b = g9) (some ⟨g9, 0, none⟩) 1 1 [7] rfl HV.out (fun h => by cases h) (by unfold maxLen; omega) (by omega) HZW.out ?_
          intro v10 vz hown hgrow _
          rw [← List.map_append] at hown
          obtain ⟨gz, capz, rfl, hroom⟩ := room_of hown (HLN.out)
          have HRM := Lib.hid hroom
          have hcapz : q + 1 ≤ capz := hroom.cap_le
          have HBW := Lib.hid (HBW.out.grown hgrow HZW.out (fun g h => (HO.out.lt g h).1))
          have HZW := Lib.hid (Nat.le_trans HZW.out hgrow.size)
          clear hown hgrow hroom
          simp only [Act.put, List.setIfInBounds_toArray, List.set_cons_zero, List.set_cons_succ]
          refine hK.out _ _ (fun _ => (HBW.out.cell (show w.heap.size < wc.heap.size by have := HW1.out; omega)).trans HCW.out) (fun hHeld => ?_)
          replace hHeld := hHeld (by decide)
          clear hK K
          have hcz1 : (q : Int) ≤ (capz : Int) := by omega
          refine Tillst.take (i := 15) (oi := { dst := some 35, op := Op.slice 24 (Operand.tmp 30) none (some (Operand.tmp 34)) none, type := 24, pos := "law.go:23", after := #[{ on := 10, ground := Ground.data }, { on := 14, ground := Ground.data }], guard := none }) (v := ?_) rfl (by kernel_rfl) (by kernel_rfl) (by kernel_rfl) (by kernel_rfl) (fun _ _ _ h => h) (by rfl) ?_ hHeld ?_
          rotate_left
          · intro W hSW; (try dsimp only at hSW); go_simp; with_reducible rfl
          simp only [Act.put, List.setIfInBounds_toArray, List.set_cons_zero, List.set_cons_succ]
          refine Tillst.take (i := 16) (oi := { dst := some 36, op := Op.fieldAddr 26 (Operand.tmp 1) 5, type := 0, pos := "law.go:23", after := #[{ on := 0, ground := Ground.phase }, { on := 1, ground := Ground.phase }, { on := 2, ground := Ground.phase }, { on := 3, ground := Ground.phase }, { on := 4, ground := Ground.phase }, { on := 5, ground := Ground.phase }, { on := 6, ground := Ground.phase }, { on := 7, ground := Ground.phase }, { on := 8, ground := Ground.phase }, { on := 9, ground := Ground.phase }, { on := 10, ground := Ground.phase }, { on := 11, ground := Ground.phase }, { on := 12, ground := Ground.phase }, { on := 13, ground := Ground.phase }, { on := 14, ground := Ground.phase }, { on := 15, ground := Ground.phase }], guard := none }) (v := ?_) rfl (by kernel_rfl) (by kernel_rfl) (by kernel_rfl) (by kernel_rfl) (fun _ _ _ h => h) (by rfl) ?_ hHeld ?_
          rotate_left
          · intro W hSW; (try dsimp only at hSW); go_simp; with_reducible rfl
          simp only [Act.put, List.setIfInBounds_toArray, List.set_cons_zero, List.set_cons_succ]
          refine Tillst.one (i := 17) (o := { dst := none, op := Op.store 24 (Operand.tmp 36) (Operand.tmp 35), type := 0, pos := "law.go:23", after := #[{ on := 16, ground := Ground.data }, { on := 15, ground := Ground.data }, { on := 10, ground := Ground.chain }, { on := 0, ground := Ground.phase }, { on := 1, ground := Ground.phase }, { on := 2, ground := Ground.phase }, { on := 3, ground := Ground.phase }, { on := 4, ground := Ground.phase }, { on := 5, ground := Ground.phase }, { on := 6, ground := Ground.phase }, { on := 7, ground := Ground.phase }, { on := 8, ground := Ground.phase }, { on := 9, ground := Ground.phase }, { on := 10, ground := Ground.phase }, { on := 11, ground := Ground.phase }, { on := 12, ground := Ground.phase }, { on := 13, ground := Ground.phase }, { on := 14, ground := Ground.phase }, { on := 15, ground := Ground.phase }], guard := none }) (by kernel_rfl) rfl ?_
          intro K hK
          have hrc := HRC1.out.below HBW.out (show w.heap.size < wc.heap.size by have := HW1.out; omega)
          have q0 := hrc.cell 5
          have q1 := hrc.frozen 5
          simp only [List.getElem?_toArray, List.getElem?_cons_zero, List.getElem?_cons_succ] at q0
          go_simp
          clear q0 q1
          refine hK.out _ _ (fun h => by cases h) (fun _ => ?_)
          clear hK K
          refine Tillst.done (by kernel_rfl) ?_ _
          refine NoPanic.normal ?_
          go_wp2_with fail
          go_meet
          exact ⟨rfl, gz, capz, hrc.set_ 5 _, (HRS1.out.below HBW.out (by have := HW1.out; omega)).far (by show w.heap.size + 1 ≠ w.heap.size; omega) _, room_set (HROOM.out.below HBW.out) (by have := HROOM.out.lt.1; have := HWW.out; show w.heap.size ≠ g1; omega) _, room_set HRM.out (by have := HRM.out.lt.1; have := HW1.out; show w.heap.size ≠ gz; omega) _, (by have := HRM.out.lt.1; have := HROOM.out.lt.2; omega), (HBL1.out.trans (HBW.out.mono (by have := HW1.out; omega))).setCell (Nat.le_refl _) _⟩
      · intro K hK
        refine step_seven rfl rfl wc.heap.size HZW.out ?_
        intro g9 va hg9 hrow hgrow
        have HV := Lib.hid hrow
        have HG9 := Lib.hid (show wc.heap.size ≤ g9 ∧ g9 < va.heap.size from ⟨by rw [hg9.1]; exact HZW.out, hg9.2⟩)
        have HBW := Lib.hid (HBW.out.grown hgrow HZW.out (fun g h => by cases h))
        have HZW := Lib.hid (Nat.le_trans HZW.out hgrow.size)
        clear hg9 hrow hgrow
        simp only [Act.put, List.setIfInBounds_toArray, List.set_cons_zero, List.set_cons_succ]
        refine hK.out _ _ (fun _ => (HBW.out.cell (show w.heap.size < wc.heap.size by have := HW1.out; omega)).trans HCW.out) (fun hHeld => ?_)
        replace hHeld := hHeld (by decide)
        clear hK K
        refine Tillst.one (i := 0) (o := { dst := some 20, op := Op.makeSlice 24 (Operand.const (Value.int IntKind.i64 0)) (Operand.const (Value.int IntKind.i64 600)), type := 24, pos := "law.go:23", after := #[], guard := none }) (by kernel_rfl) rfl ?_
        intro K hK
        refine step_make (.const (.int .i64 0)) (.const (.int .i64 600)) rfl rfl rfl rfl hmk wc.heap.size HZW.out ?_
        intro g0 vb hg0 hown hgrow
        have HO := Lib.hid hown
        have HG0 := Lib.hid hg0.1
        have HV := Lib.hid (row_grown HV.out hgrow (fun b hb => ⟨by rw [hb]; exact HG9.out.2, fun h => by cases h⟩))
        have HNE := Lib.hid (show g9 ≠ g0 by have := HG9.out.2; have := hg0.2; omega)
        have HG9 := Lib.hid (show wc.heap.size ≤ g9 ∧ g9 < vb.heap.size from ⟨HG9.out.1, Nat.lt_of_lt_of_le HG9.out.2 hgrow.size⟩)
        have HBW := Lib.hid (HBW.out.grown hgrow HZW.out (fun g h => by cases h))
        have HZW := Lib.hid (Nat.le_trans HZW.out hgrow.size)
        clear hg0 hown hgrow
        simp only [Act.put, List.setIfInBounds_toArray, List.set_cons_zero, List.set_cons_succ]
        refine hK.out _ _ (fun _ => (HBW.out.cell (show w.heap.size < wc.heap.size by have := HW1.out; omega)).trans HCW.out) (fun hHeld => ?_)
        replace hHeld := hHeld (by decide)
        clear hK K
        refine Tillst.one (i := 8) (o := { dst := some 28, op := Op.call { callee := Callee.builtin Builtin.append, args := #[Operand.tmp 20, Operand.tmp 27], argTypes := #[24, 24] }, type := 24, pos := "law.go:23", after := #[{ on := 0, ground := Ground.data }, { on := 7, ground := Ground.data }], guard := none }) (by kernel_rfl) rfl ?_
        intro K hK
        refine step_append_rowG (mk := Value.int .u8) (d := 0) rfl (.tmp 20) (.tmp 27) 24 rfl wc.heap.size 5 i0 (.int .u8 0) 1 Try.underlying24 hi hz0 hz1 hz2 rfl (fun _ => rfl) (.slice (some ⟨g0, 0, none⟩) 0 600) 0 [] rfl HO.out (fun b => b < w.heap.size) B q d (ys.take q) rfl ((HK1.out.below HBW.out (fun b h => by have := HW1.out; omega)).take q (by omega)) hnB (by unfold maxLen; omega) (by omega) HZW.out ?_
        intro v8 vc hown hgrow hblk
        rw [List.nil_append, Nat.zero_add] at hown
        have HV := Lib.hid (row_grown HV.out hgrow (fun b hb => ⟨by rw [hb]; exact HG9.out.2, fun h => by rw [hb] at h; simp [Value.ownBlock] at h; exact HNE.out h⟩))
        have HVO := Lib.hid (show v8.ownBlock ≠ some g9 from fun h => by rcases hblk with h2 | h2 <;> rw [h] at h2 <;> simp [Value.ownBlock] at h2; exact HNE.out h2; have := HG9.out.2; omega)
        have HG9 := Lib.hid (show wc.heap.size ≤ g9 ∧ g9 < vc.heap.size from ⟨HG9.out.1, Nat.lt_of_lt_of_le HG9.out.2 hgrow.size⟩)
        have HO := Lib.hid hown
        have HLT8 := Lib.hid hown.lt
        have HBW := Lib.hid (HBW.out.grown hgrow HZW.out (fun g h => by (have h' : g0 = g := (by simpa [Value.ownBlock] using h)); have := HG0.out.1; omega))
        have HZW := Lib.hid (Nat.le_trans HZW.out hgrow.size)
        clear hown hgrow hblk
        simp only [Act.put, List.setIfInBounds_toArray, List.set_cons_zero, List.set_cons_succ]
        refine hK.out _ _ (fun _ => (HBW.out.cell (show w.heap.size < wc.heap.size by have := HW1.out; omega)).trans HCW.out) (fun hHeld => ?_)
        replace hHeld := hHeld (by decide)
        clear hK K
        refine Tillst.one (i := 10) (o := { dst := some 30, op := Op.call { callee := Callee.builtin Builtin.append, args := #[Operand.tmp 28, Operand.tmp 29], argTypes := #[24, 24] }, type := 24, pos := "law.go:23", after := #[{ on := 8, ground := Ground.data }, { on := 9, ground := Ground.data }, { on := 8, ground := Ground.chain }], guard := none }) (by kernel_rfl) rfl ?_
        intro K hK
        refine step_append_rowG (mk := Value.int .u8) (d := 0) rfl (.tmp 28) (.tmp 29) 24 rfl wc.heap.size 5 i0 (.int .u8 0) 1 Try.underlying24 hi hz0 hz1 hz2 rfl (fun _ => rfl) v8 q _ rfl HO.out (fun b => b = g9) (some ⟨g9, 0, none⟩) 1 1 [7] rfl HV.out (fun h => by cases h) (by unfold maxLen; omega) (by omega) HZW.out ?_
        intro v10 vz hown hgrow _
        rw [← List.map_append] at hown
        obtain ⟨gz, capz, rfl, hroom⟩ := room_of hown (HLN.out)
        have HRM := Lib.hid hroom
        have hcapz : q + 1 ≤ capz := hroom.cap_le
        have HBW := Lib.hid (HBW.out.grown hgrow HZW.out (fun g h => (HO.out.lt g h).1))
        have HZW := Lib.hid (Nat.le_trans HZW.out hgrow.size)
        clear hown hgrow hroom
        simp only [Act.put, List.setIfInBounds_toArray, List.set_cons_zero, List.set_cons_succ]
        refine hK.out _ _ (fun _ => (HBW.out.cell (show w.heap.size < wc.heap.size by have := HW1.out; omega)).trans HCW.out) (fun hHeld => ?_)
        replace hHeld := hHeld (by decide)
        clear hK K
        have hcz1 : (q : Int) ≤ (capz : Int) := by omega
        refine Tillst.take (i := 15) (oi := { dst := some 35, op := Op.slice 24 (Operand.tmp 30) none (some (Operand.tmp 34)) none, type := 24, pos := "law.go:23", after := #[{ on := 10, ground := Ground.data }, { on := 14, ground := Ground.data }], guard := none }) (v := ?_) rfl (by kernel_rfl) (by kernel_rfl) (by kernel_rfl) (by kernel_rfl) (fun _ _ _ h => h) (by rfl) ?_ hHeld ?_
        rotate_left
        · intro W hSW; (try dsimp only at hSW); go_simp; with_reducible rfl
        simp only [Act.put, List.setIfInBounds_toArray, List.set_cons_zero, List.set_cons_succ]
        refine Tillst.take (i := 16) (oi := { dst := some 36, op := Op.fieldAddr 26 (Operand.tmp 1) 5, type := 0, pos := "law.go:23", after := #[{ on := 0, ground := Ground.phase }, { on := 1, ground := Ground.phase }, { on := 2, ground := Ground.phase }, { on := 3, ground := Ground.phase }, { on := 4, ground := Ground.phase }, { on := 5, ground := Ground.phase }, { on := 6, ground := Ground.phase }, { on := 7, ground := Ground.phase }, { on := 8, ground := Ground.phase }, { on := 9, ground := Ground.phase }, { on := 10, ground := Ground.phase }, { on := 11, ground := Ground.phase }, { on := 12, ground := Ground.phase }, { on := 13, ground := Ground.phase }, { on := 14, ground := Ground.phase }, { on := 15, ground := Ground.phase }], guard := none }) (v := ?_) rfl (by kernel_rfl) (by kernel_rfl) (by kernel_rfl) (by kernel_rfl) (fun _ _ _ h => h) (by rfl) ?_ hHeld ?_
        rotate_left
        · intro W hSW; (try dsimp only at hSW); go_simp; with_reducible rfl
        simp only [Act.put, List.setIfInBounds_toArray, List.set_cons_zero, List.set_cons_succ]
        refine Tillst.one (i := 17) (o := { dst := none, op := Op.store 24 (Operand.tmp 36) (Operand.tmp 35), type := 0, pos := "law.go:23", after := #[{ on := 16, ground := Ground.data }, { on := 15, ground := Ground.data }, { on := 10, ground := Ground.chain }, { on := 0, ground := Ground.phase }, { on := 1, ground := Ground.phase }, { on := 2, ground := Ground.phase }, { on := 3, ground := Ground.phase }, { on := 4, ground := Ground.phase }, { on := 5, ground := Ground.phase }, { on := 6, ground := Ground.phase }, { on := 7, ground := Ground.phase }, { on := 8, ground := Ground.phase }, { on := 9, ground := Ground.phase }, { on := 10, ground := Ground.phase }, { on := 11, ground := Ground.phase }, { on := 12, ground := Ground.phase }, { on := 13, ground := Ground.phase }, { on := 14, ground := Ground.phase }, { on := 15, ground := Ground.phase }], guard := none }) (by kernel_rfl) rfl ?_
        intro K hK
        have hrc := HRC1.out.below HBW.out (show w.heap.size < wc.heap.size by have := HW1.out; omega)
        have q0 := hrc.cell 5
        have q1 := hrc.frozen 5
        simp only [List.getElem?_toArray, List.getElem?_cons_zero, List.getElem?_cons_succ] at q0
        go_simp
        clear q0 q1
        refine hK.out _ _ (fun h => by cases h) (fun _ => ?_)
        clear hK K
        refine Tillst.done (by kernel_rfl) ?_ _
        refine NoPanic.normal ?_
        go_wp2_with fail
        go_meet
        exact ⟨rfl, gz, capz, hrc.set_ 5 _, (HRS1.out.below HBW.out (by have := HW1.out; omega)).far (by show w.heap.size + 1 ≠ w.heap.size; omega) _, room_set (HROOM.out.below HBW.out) (by have := HROOM.out.lt.1; have := HWW.out; show w.heap.size ≠ g1; omega) _, room_set HRM.out (by have := HRM.out.lt.1; have := HW1.out; show w.heap.size ≠ gz; omega) _, (by have := HRM.out.lt.1; have := HROOM.out.lt.2; omega), (HBL1.out.trans (HBW.out.mono (by have := HW1.out; omega))).setCell (Nat.le_refl _) _⟩
    case rest =>
      obtain ⟨rfl, g2, cap2, hrc2, hrs2, hroom1, hroom2, hne, hbl2⟩ := hcut
      have HRC2 := Lib.hid hrc2
      have HRS2 := Lib.hid hrs2
      have HRO1 := Lib.hid hroom1
      have HRO2 := Lib.hid hroom2
      have HBL2 := Lib.hid hbl2
      have HNE := Lib.hid hne
      clear hrc2 hrs2 hroom1 hroom2 hne hbl2
      go_wp2_with (first
        | (refine wpList_load_rowB (.tmp 1) 26 rfl rfl w.heap.size rfl 26 [.int .i64 k, .int .u32 f, .int .u32 x, .int .u64 s, .slice (some ⟨g1, 0, none⟩) p cap1, .slice (some ⟨g2, 0, none⟩) q cap2] _ Try.underlying26 rfl size_rec HRC2.out ?_)
        | (refine wpList_store_rowB (.tmp 2) (.tmp 37) 26 rfl rfl (w.heap.size + 1) (recC k f x s (some ⟨g1, 0, none⟩) p cap1 (some ⟨g2, 0, none⟩) q cap2) rfl rfl 26 _ HRS2.out size_rec rfl (one_rec _ _ _ _ _ _ _ _ _ _) ?_)
        | (with_reducible refine halt_end ?_))
      have hst := setRow_heap _ _ _ (recC k f x s (some ⟨g1, 0, none⟩) p cap1 (some ⟨g2, 0, none⟩) q cap2) _ _ HRS2.out
      refine Halt.ret (results_row1 rfl _ _ (w.heap.size + 1) 26 (recC k f x s (some ⟨g1, 0, none⟩) p cap1 (some ⟨g2, 0, none⟩) q cap2) _ rfl hst Try.underlying26 rfl size_rec) rfl ⟨g1, cap1, g2, cap2, rfl, ?_, ?_, HNE.out, below_setRow HBL2.out (by omega) _⟩
      · exact room_setRow (HRO1.out.base_le (by have := HWW.out; omega)) (by have := HRO1.out.lt.1; have := HWW.out; omega) _
      · exact room_setRow (HRO2.out.base_le (by have := HW1.out; omega)) (by have := HRO2.out.lt.1; have := HW1.out; omega) _

end Go.Proofs.Ytehldhdpeefljaa
