/- The laws of layer 6: copied. -/
import Derived.Test.YtehldhdpeefljaaShort0
import Derived.Test.YtehldhdpeefljaaLast
namespace Go.Proofs.Ytehldhdpeefljaa
open Go.RowKit
set_option linter.unusedVariables false

section
variable {ops : Array Oper} {o : Oper} {a : Act} {Q : Exit → Act → World → Prop} {K : Act → World → Prop} {E : Prop} {w : World}
/-- '[]byte{}'. -/
theorem step_empty (ho : o.op = .buildSlice 24 0 #[]) (hgd : Region.wanted o (yielded ops a.tmps) = true) (base : Nat) (hb : base ≤ w.heap.size)
    (h : ∀ g w', (base ≤ g ∧ g < w'.heap.size) ∧ w.heap.size ≤ g → w'.ownsRow base 5 1 (.slice (some ⟨g, 0, none⟩) 0 0) 0 [] → w.grownBy w' none → K (a.put o.dst (.slice (some ⟨g, 0, none⟩) 0 0)) w') :
    if Region.wanted o (yielded ops a.tmps) = true then Oper.wp Try.prog o a w K Q else E := by
  refine step_by hgd (.slice (some ⟨w.heap.size, 0, none⟩) 0 0) (w.alloc (.cells #[] 5)) ?_ (h _ _ ⟨⟨hb, by simp⟩, Nat.le_refl _⟩ (World.ownsRow_made w #[] 0 hb (by unfold maxLen; omega) (by simp)) (grown_alloc w _))
  unfold execOp
  simp [go_sem, ho, Act.eval]
end

/-- What copied leaves: a record whose lists lie in memory of their own. -/
def CopyTold (k f x s : Int) (n m : Nat) (xs ys : List Int) (w : World) (e : Ending) (w' : World) : Prop :=
  ∃ A1 c1 A2 c2, e = .returned (.agg #[.int .i64 k, .int .u32 f, .int .u32 x, .int .u64 s, .slice A1 n c1, .slice A2 m c2]) ∧
    RowI .u8 w' (fun b => w.heap.size ≤ b ∧ b < w'.heap.size) A1 n xs ∧ RowI .u8 w' (fun b => w.heap.size ≤ b ∧ b < w'.heap.size) A2 m ys ∧ (((A1 = none → c1 = 0) ∧ (A2 = none → c2 = 0)) ∧ n ≤ c1 ∧ m ≤ c2) ∧ Below w.heap.size w w'

set_option maxRecDepth 100000 in
set_option maxHeartbeats 4000000 in
theorem copied_any (k f x s : Int) (A B : Option Addr) (n c m d : Nat) (xs ys : List Int) (w : World) (hx : RowI .u8 w (fun b => b < w.heap.size) A n xs) (hy : RowI .u8 w (fun b => b < w.heap.size) B m ys)
    (hnA : A = none → c = 0) (hnB : B = none → d = 0) (hn6 : n ≤ 600) (hm6 : m ≤ 600) :
    Calls Try.prog 12 #[.agg #[.int .i64 k, .int .u32 f, .int .u32 x, .int .u64 s, .slice A n c, .slice B m d]] w (CopyTold k f x s n m xs ys w) := by
  obtain ⟨i0, hi, hz0, hz1, hz2⟩ := info_parts info_u8
  have HX := Lib.hid hx
  have HY := Lib.hid hy
  clear hx hy
  go_enter Try.func12, Try.ntmps12
  go_upto_region 1 with fail
  generalize hw1 : (w.alloc _).alloc _ = w1 at *
  have HRC1 := Lib.hid (show Blk w1 w.heap.size 26 (recC k f x s A n c B m d) by rw [← hw1]; exact (Blk.new w _ _).alloc _)
  have HRS1 := Lib.hid (show Blk w1 (w.heap.size + 1) 26 #[.int .i64 0, .int .u32 0, .int .u32 0, .int .u64 0, .slice none 0 0, .slice none 0 0] by rw [← hw1]; exact blk_new2 w _ _ _)
  have HW1 := Lib.hid (show w.heap.size + 2 ≤ w1.heap.size by rw [← hw1]; simp)
  have HBL1 := Lib.hid (show Below w.heap.size w w1 by rw [← hw1]; exact ((Below.refl _ _).alloc (Nat.le_refl _) _).alloc (by simp) _)
  have HK1 := Lib.hid (HX.out.below HBL1.out (fun b h => h))
  have HK2 := Lib.hid (HY.out.below HBL1.out (fun b h => h))
  have HC4 := Lib.hid (show w1.cell? ⟨w.heap.size, 4, none⟩ = some (.slice A n c) from HRC1.out.cell 4)
  have HC5 := Lib.hid (show w1.cell? ⟨w.heap.size, 5, none⟩ = some (.slice B m d) from HRC1.out.cell 5)
  clear hw1
  go_cut [2] (fun t wx => t = .pointer (some ⟨w.heap.size + 1, 0, none⟩) ∧ ∃ A1 c1 A2 c2, Blk wx w.heap.size 26 (recC k f x s A1 n c1 A2 m c2) ∧ Blk wx (w.heap.size + 1) 26 #[.int .i64 0, .int .u32 0, .int .u32 0, .int .u64 0, .slice none 0 0, .slice none 0 0] ∧
    RowI .u8 wx (fun b => w1.heap.size ≤ b ∧ b < wx.heap.size) A1 n xs ∧ RowI .u8 wx (fun b => w1.heap.size ≤ b ∧ b < wx.heap.size) A2 m ys ∧ (((A1 = none → c1 = 0) ∧ (A2 = none → c2 = 0)) ∧ n ≤ c1 ∧ m ≤ c2) ∧ Below w.heap.size w wx)
  case first =>
    refine wp_region_noPanic ?_
    refine Tillst.region (fun W => W.cell? ⟨w.heap.size, 4, none⟩ = some (.slice A n c) ∧ W.cell? ⟨w.heap.size, 5, none⟩ = some (.slice B m d)) [9, 10, 11] (by kernel_rfl) ⟨HC4.out, HC5.out⟩ (fun hHeld => ?_)
    have HBW := Lib.hid ((Below.refl w1.heap.size w1).drew)
    have HZW := Lib.hid (show w1.heap.size ≤ w1.drew.heap.size from Nat.le_refl _)
    generalize w1.drew = vd at *
    refine Tillst.take (i := 1) (oi := { dst := some 4, op := Op.fieldAddr 26 (Operand.tmp 1) 4, type := 0, pos := "law.go:29", after := #[], guard := none }) (v := ?_) rfl (by kernel_rfl) (by kernel_rfl) (by kernel_rfl) (by kernel_rfl) (fun _ _ _ h => h) (by rfl) ?_ hHeld ?_
    rotate_left
    · intro W hSW; obtain ⟨hS4, hS5⟩ := hSW; go_simp; with_reducible rfl
    simp only [Act.put, List.setIfInBounds_toArray, List.set_cons_zero, List.set_cons_succ]
    refine Tillst.take (i := 2) (oi := { dst := some 5, op := Op.load 24 (Operand.tmp 4), type := 24, pos := "law.go:29", after := #[{ on := 1, ground := Ground.data }], guard := none }) (v := ?_) rfl (by kernel_rfl) (by kernel_rfl) (by kernel_rfl) (by kernel_rfl) (fun _ _ _ h => h) (by rfl) ?_ hHeld ?_
    rotate_left
    · intro W hSW; obtain ⟨hS4, hS5⟩ := hSW; go_simp; with_reducible rfl
    simp only [Act.put, List.setIfInBounds_toArray, List.set_cons_zero, List.set_cons_succ]
    refine Tillst.take (i := 5) (oi := { dst := some 8, op := Op.fieldAddr 26 (Operand.tmp 1) 5, type := 0, pos := "law.go:29", after := #[], guard := none }) (v := ?_) rfl (by kernel_rfl) (by kernel_rfl) (by kernel_rfl) (by kernel_rfl) (fun _ _ _ h => h) (by rfl) ?_ hHeld ?_
    rotate_left
    · intro W hSW; obtain ⟨hS4, hS5⟩ := hSW; go_simp; with_reducible rfl
    simp only [Act.put, List.setIfInBounds_toArray, List.set_cons_zero, List.set_cons_succ]
    refine Tillst.take (i := 6) (oi := { dst := some 9, op := Op.load 24 (Operand.tmp 8), type := 24, pos := "law.go:29", after := #[{ on := 5, ground := Ground.data }], guard := none }) (v := ?_) rfl (by kernel_rfl) (by kernel_rfl) (by kernel_rfl) (by kernel_rfl) (fun _ _ _ h => h) (by rfl) ?_ hHeld ?_
    rotate_left
    · intro W hSW; obtain ⟨hS4, hS5⟩ := hSW; go_simp; with_reducible rfl
    simp only [Act.put, List.setIfInBounds_toArray, List.set_cons_zero, List.set_cons_succ]
    refine Tillst.two (i := 0) (j := 4) (o := { dst := some 3, op := Op.buildSlice 24 0 #[], type := 24, pos := "law.go:29", after := #[], guard := none }) (o' := { dst := some 7, op := Op.buildSlice 24 0 #[], type := 24, pos := "law.go:29", after := #[], guard := none }) (by kernel_rfl) rfl rfl ?_ ?_
    · intro K hK
      refine step_empty rfl rfl w1.heap.size HZW.out ?_
      intro g0 va hg hown hgrow
      have HE0 := Lib.hid hown
      have HG0 := Lib.hid hg.1
      have HBW := Lib.hid (HBW.out.grown hgrow HZW.out (fun g h => by cases h))
      have HZW := Lib.hid (Nat.le_trans HZW.out hgrow.size)
      clear hg hown hgrow
      simp only [Act.put, List.setIfInBounds_toArray, List.set_cons_zero, List.set_cons_succ]
      refine hK.out _ _ (fun _ => ⟨(HBW.out.cell (show w.heap.size < w1.heap.size by have := HW1.out; omega)).trans HC4.out, (HBW.out.cell (show w.heap.size < w1.heap.size by have := HW1.out; omega)).trans HC5.out⟩) (fun hHeld => ?_)
      replace hHeld := hHeld (by decide)
      clear hK K
      refine Tillst.two (i := 3) (j := 4) (o := { dst := some 6, op := Op.call { callee := Callee.builtin Builtin.append, args := #[Operand.tmp 3, Operand.tmp 5], argTypes := #[24, 24] }, type := 24, pos := "law.go:29", after := #[{ on := 0, ground := Ground.data }, { on := 2, ground := Ground.data }], guard := none }) (o' := { dst := some 7, op := Op.buildSlice 24 0 #[], type := 24, pos := "law.go:29", after := #[], guard := none }) (by kernel_rfl) rfl rfl ?_ ?_
      · intro K hK
        refine step_append_rowG (mk := Value.int .u8) (d := 0) rfl (.tmp 3) (.tmp 5) 24 rfl w1.heap.size 5 i0 (.int .u8 0) 1 Try.underlying24 hi hz0 hz1 hz2 rfl (fun _ => rfl) (.slice (some ⟨g0, 0, none⟩) 0 0) 0 [] rfl HE0.out (fun b => b < w.heap.size) A n c xs rfl (HK1.out.below HBW.out (fun b h => by have := HW1.out; omega)) hnA (by unfold maxLen; omega) (by omega) HZW.out ?_
        intro v3 vb hown hgrow hblk
        rw [List.nil_append, Nat.zero_add] at hown
        have HO3 := Lib.hid hown
        have HBW := Lib.hid (HBW.out.grown hgrow HZW.out (fun g h => by (have h' : g0 = g := (by simpa [Value.ownBlock] using h)); have := HG0.out.1; omega))
        have HZW := Lib.hid (Nat.le_trans HZW.out hgrow.size)
        clear hown hgrow hblk
        simp only [Act.put, List.setIfInBounds_toArray, List.set_cons_zero, List.set_cons_succ]
        refine hK.out _ _ (fun _ => ⟨(HBW.out.cell (show w.heap.size < w1.heap.size by have := HW1.out; omega)).trans HC4.out, (HBW.out.cell (show w.heap.size < w1.heap.size by have := HW1.out; omega)).trans HC5.out⟩) (fun hHeld => ?_)
        replace hHeld := hHeld (by decide)
        clear hK K
        refine Tillst.take (i := 8) (oi := { dst := some 11, op := Op.fieldAddr 26 (Operand.tmp 1) 4, type := 0, pos := "law.go:29", after := #[{ on := 0, ground := Ground.phase }, { on := 1, ground := Ground.phase }, { on := 2, ground := Ground.phase }, { on := 3, ground := Ground.phase }, { on := 4, ground := Ground.textOnly Departure.lateStores }, { on := 5, ground := Ground.phase }, { on := 6, ground := Ground.phase }, { on := 7, ground := Ground.textOnly Departure.lateStoresUnsure }], guard := none }) (v := ?_) rfl (by kernel_rfl) (by kernel_rfl) (by kernel_rfl) (by kernel_rfl) (fun _ _ _ h => h) (by rfl) ?_ hHeld ?_
        rotate_left
        · intro W hSW; obtain ⟨hS4, hS5⟩ := hSW; go_simp; with_reducible rfl
        simp only [Act.put, List.setIfInBounds_toArray, List.set_cons_zero, List.set_cons_succ]
        refine Tillst.one (i := 4) (o := { dst := some 7, op := Op.buildSlice 24 0 #[], type := 24, pos := "law.go:29", after := #[], guard := none }) (by kernel_rfl) rfl ?_
        intro K hK
        refine step_empty rfl rfl w1.heap.size HZW.out ?_
        intro g4 vc hg hown hgrow
        have HE4 := Lib.hid hown
        have HG4 := Lib.hid hg.1
        have HVN := Lib.hid (show v3.ownBlock ≠ some g4 from fun h => by have h2 := (HO3.out.lt g4 h).2; have := hg.2; omega)
        have HO3 := Lib.hid (own_none HO3.out hgrow)
        have HBW := Lib.hid (HBW.out.grown hgrow HZW.out (fun g h => by cases h))
        have HZW := Lib.hid (Nat.le_trans HZW.out hgrow.size)
        clear hg hown hgrow
        simp only [Act.put, List.setIfInBounds_toArray, List.set_cons_zero, List.set_cons_succ]
        refine hK.out _ _ (fun _ => ⟨(HBW.out.cell (show w.heap.size < w1.heap.size by have := HW1.out; omega)).trans HC4.out, (HBW.out.cell (show w.heap.size < w1.heap.size by have := HW1.out; omega)).trans HC5.out⟩) (fun hHeld => ?_)
        replace hHeld := hHeld (by decide)
        clear hK K
        refine Tillst.one (i := 7) (o := { dst := some 10, op := Op.call { callee := Callee.builtin Builtin.append, args := #[Operand.tmp 7, Operand.tmp 9], argTypes := #[24, 24] }, type := 24, pos := "law.go:29", after := #[{ on := 4, ground := Ground.data }, { on := 6, ground := Ground.data }, { on := 3, ground := Ground.chain }], guard := none }) (by kernel_rfl) rfl ?_
        intro K hK
        refine step_append_rowG (mk := Value.int .u8) (d := 0) rfl (.tmp 7) (.tmp 9) 24 rfl w1.heap.size 5 i0 (.int .u8 0) 1 Try.underlying24 hi hz0 hz1 hz2 rfl (fun _ => rfl) (.slice (some ⟨g4, 0, none⟩) 0 0) 0 [] rfl HE4.out (fun b => b < w.heap.size) B m d ys rfl (HK2.out.below HBW.out (fun b h => by have := HW1.out; omega)) hnB (by unfold maxLen; omega) (by omega) HZW.out ?_
        intro v7 vz hown hgrow hblk
        rw [List.nil_append, Nat.zero_add] at hown
        have hO3 := HO3.out.kept hgrow (.inr (fun h => HVN.out (by simpa [Value.ownBlock] using h)))
        obtain ⟨A1, c1, rfl, hc1, hn1, hr1⟩ := rowG_own 0 hO3
        obtain ⟨A2, c2, rfl, hc2, hn2, hr2⟩ := rowG_own 0 hown
        have HR1 := Lib.hid hr1
        have HR2 := Lib.hid hr2
        have HN := Lib.hid (And.intro (And.intro hn1 hn2) (And.intro hc1 hc2))
        have HBW := Lib.hid (HBW.out.grown hgrow HZW.out (fun g h => by (have h' : g4 = g := (by simpa [Value.ownBlock] using h)); have := HG4.out.1; omega))
        have HZW := Lib.hid (Nat.le_trans HZW.out hgrow.size)
        clear hown hgrow hblk hO3 hc1 hn1 hr1 hc2 hn2 hr2
        simp only [Act.put, List.setIfInBounds_toArray, List.set_cons_zero, List.set_cons_succ]
        refine hK.out _ _ (fun _ => ⟨(HBW.out.cell (show w.heap.size < w1.heap.size by have := HW1.out; omega)).trans HC4.out, (HBW.out.cell (show w.heap.size < w1.heap.size by have := HW1.out; omega)).trans HC5.out⟩) (fun hHeld => ?_)
        replace hHeld := hHeld (by decide)
        clear hK K
        refine Tillst.one (i := 9) (o := { dst := none, op := Op.store 24 (Operand.tmp 11) (Operand.tmp 6), type := 0, pos := "law.go:29", after := #[{ on := 8, ground := Ground.data }, { on := 3, ground := Ground.data }, { on := 7, ground := Ground.chain }, { on := 0, ground := Ground.phase }, { on := 1, ground := Ground.phase }, { on := 2, ground := Ground.phase }, { on := 3, ground := Ground.phase }, { on := 4, ground := Ground.textOnly Departure.lateStores }, { on := 5, ground := Ground.phase }, { on := 6, ground := Ground.phase }, { on := 7, ground := Ground.textOnly Departure.lateStoresUnsure }], guard := none }) (by kernel_rfl) rfl ?_
        intro K hK
        have hrc := HRC1.out.below HBW.out (show w.heap.size < w1.heap.size by have := HW1.out; omega)
        have q0 := hrc.cell 4
        have q1 := hrc.frozen 4
        simp only [List.getElem?_toArray, List.getElem?_cons_zero, List.getElem?_cons_succ] at q0
        go_simp
        clear q0 q1
        refine hK.out _ _ (fun h => by cases h) (fun _ => ?_)
        clear hK K
        refine Tillst.one (i := 10) (o := { dst := some 12, op := Op.fieldAddr 26 (Operand.tmp 1) 5, type := 0, pos := "law.go:29", after := #[{ on := 0, ground := Ground.phase }, { on := 1, ground := Ground.phase }, { on := 2, ground := Ground.phase }, { on := 3, ground := Ground.phase }, { on := 4, ground := Ground.phase }, { on := 5, ground := Ground.phase }, { on := 6, ground := Ground.phase }, { on := 7, ground := Ground.phase }, { on := 8, ground := Ground.phase }, { on := 9, ground := Ground.phase }], guard := none }) (by kernel_rfl) rfl ?_
        intro K hK
        go_simp
        refine hK.out _ _ (fun h => by cases h) (fun _ => ?_)
        clear hK K
        refine Tillst.one (i := 11) (o := { dst := none, op := Op.store 24 (Operand.tmp 12) (Operand.tmp 10), type := 0, pos := "law.go:29", after := #[{ on := 10, ground := Ground.data }, { on := 7, ground := Ground.data }, { on := 9, ground := Ground.chain }, { on := 0, ground := Ground.phase }, { on := 1, ground := Ground.phase }, { on := 2, ground := Ground.phase }, { on := 3, ground := Ground.phase }, { on := 4, ground := Ground.phase }, { on := 5, ground := Ground.phase }, { on := 6, ground := Ground.phase }, { on := 7, ground := Ground.phase }, { on := 8, ground := Ground.phase }, { on := 9, ground := Ground.phase }], guard := none }) (by kernel_rfl) rfl ?_
        intro K hK
        have hrc2 := hrc.set_ 4 (.slice A1 n c1)
        have q0 := hrc2.cell 5
        have q1 := hrc2.frozen 5
        have q0 : (vz.setCell ⟨w.heap.size, 4, none⟩ (.slice A1 n c1)).cell? ⟨w.heap.size, 5, none⟩ = some (.slice B m d) := q0
        go_simp
        clear q0 q1
        refine hK.out _ _ (fun h => by cases h) (fun _ => ?_)
        clear hK K
        refine Tillst.done (by kernel_rfl) ?_ _
        refine NoPanic.normal ?_
        go_wp2_with fail
        go_meet
        have hfar : ∀ p : Addr, p.block ≠ w.heap.size → ((vz.setCell ⟨w.heap.size, 4, none⟩ (.slice A1 n c1)).setCell ⟨w.heap.size, 5, none⟩ (.slice A2 m c2)).cell? p = vz.cell? p := fun p hp => (World.cell?_setCell_other _ _ _ _ (by rintro rfl; exact hp rfl)).trans (World.cell?_setCell_other _ _ _ _ (by rintro rfl; exact hp rfl))
        exact ⟨rfl, A1, c1, A2, c2, hrc2.set_ 5 _, (((HRS1.out.below HBW.out (by have := HW1.out; omega)).far (by show w.heap.size + 1 ≠ w.heap.size; omega) _).far (by show w.heap.size + 1 ≠ w.heap.size; omega) _), (HR1.out.keep (fun p hp => hfar p (by have := hp.1; have := HW1.out; omega))).more (fun b hb => ⟨hb.1, by simpa using hb.2.1⟩), (HR2.out.keep (fun p hp => hfar p (by have := hp.1; have := HW1.out; omega))).more (fun b hb => ⟨hb.1, by simpa using hb.2.1⟩), HN.out, ((HBL1.out.trans (HBW.out.mono (by have := HW1.out; omega))).setCell (Nat.le_refl _) _).setCell (Nat.le_refl _) _⟩
      · intro K hK
        refine step_empty rfl rfl w1.heap.size HZW.out ?_
        intro g4 vb hg hown hgrow
        have HE4 := Lib.hid hown
        have HG4 := Lib.hid hg.1
        have HNE := Lib.hid (show g0 ≠ g4 by have h := HG0.out.2; have := hg.2; omega)
        have HE0 := Lib.hid (own_none HE0.out hgrow)
        have HG0 := Lib.hid (show w1.heap.size ≤ g0 ∧ g0 < vb.heap.size from ⟨HG0.out.1, Nat.lt_of_lt_of_le HG0.out.2 hgrow.size⟩)
        have HBW := Lib.hid (HBW.out.grown hgrow HZW.out (fun g h => by cases h))
        have HZW := Lib.hid (Nat.le_trans HZW.out hgrow.size)
        clear hg hown hgrow
        simp only [Act.put, List.setIfInBounds_toArray, List.set_cons_zero, List.set_cons_succ]
        refine hK.out _ _ (fun _ => ⟨(HBW.out.cell (show w.heap.size < w1.heap.size by have := HW1.out; omega)).trans HC4.out, (HBW.out.cell (show w.heap.size < w1.heap.size by have := HW1.out; omega)).trans HC5.out⟩) (fun hHeld => ?_)
        replace hHeld := hHeld (by decide)
        clear hK K
        refine Tillst.one (i := 3) (o := { dst := some 6, op := Op.call { callee := Callee.builtin Builtin.append, args := #[Operand.tmp 3, Operand.tmp 5], argTypes := #[24, 24] }, type := 24, pos := "law.go:29", after := #[{ on := 0, ground := Ground.data }, { on := 2, ground := Ground.data }], guard := none }) (by kernel_rfl) rfl ?_
        intro K hK
        refine step_append_rowG (mk := Value.int .u8) (d := 0) rfl (.tmp 3) (.tmp 5) 24 rfl w1.heap.size 5 i0 (.int .u8 0) 1 Try.underlying24 hi hz0 hz1 hz2 rfl (fun _ => rfl) (.slice (some ⟨g0, 0, none⟩) 0 0) 0 [] rfl HE0.out (fun b => b < w.heap.size) A n c xs rfl (HK1.out.below HBW.out (fun b h => by have := HW1.out; omega)) hnA (by unfold maxLen; omega) (by omega) HZW.out ?_
        intro v3 vc hown hgrow hblk
        rw [List.nil_append, Nat.zero_add] at hown
        have HO3 := Lib.hid hown
        have HVN := Lib.hid (show v3.ownBlock ≠ some g4 from fun h => by rcases hblk with h2 | h2 <;> rw [h] at h2 <;> simp [Value.ownBlock] at h2; exact HNE.out h2.symm; have := HG4.out.2; omega)
        have HE4 := Lib.hid (HE4.out.kept hgrow (.inr (fun h => HNE.out (by simpa [Value.ownBlock] using h.symm))))
        have HG4 := Lib.hid (show w1.heap.size ≤ g4 ∧ g4 < vc.heap.size from ⟨HG4.out.1, Nat.lt_of_lt_of_le HG4.out.2 hgrow.size⟩)
        have HBW := Lib.hid (HBW.out.grown hgrow HZW.out (fun g h => by (have h' : g0 = g := (by simpa [Value.ownBlock] using h)); have := HG0.out.1; omega))
        have HZW := Lib.hid (Nat.le_trans HZW.out hgrow.size)
        clear hown hgrow hblk
        simp only [Act.put, List.setIfInBounds_toArray, List.set_cons_zero, List.set_cons_succ]
        refine hK.out _ _ (fun _ => ⟨(HBW.out.cell (show w.heap.size < w1.heap.size by have := HW1.out; omega)).trans HC4.out, (HBW.out.cell (show w.heap.size < w1.heap.size by have := HW1.out; omega)).trans HC5.out⟩) (fun hHeld => ?_)
        replace hHeld := hHeld (by decide)
        clear hK K
        refine Tillst.take (i := 8) (oi := { dst := some 11, op := Op.fieldAddr 26 (Operand.tmp 1) 4, type := 0, pos := "law.go:29", after := #[{ on := 0, ground := Ground.phase }, { on := 1, ground := Ground.phase }, { on := 2, ground := Ground.phase }, { on := 3, ground := Ground.phase }, { on := 4, ground := Ground.textOnly Departure.lateStores }, { on := 5, ground := Ground.phase }, { on := 6, ground := Ground.phase }, { on := 7, ground := Ground.textOnly Departure.lateStoresUnsure }], guard := none }) (v := ?_) rfl (by kernel_rfl) (by kernel_rfl) (by kernel_rfl) (by kernel_rfl) (fun _ _ _ h => h) (by rfl) ?_ hHeld ?_
        rotate_left
        · intro W hSW; obtain ⟨hS4, hS5⟩ := hSW; go_simp; with_reducible rfl
        simp only [Act.put, List.setIfInBounds_toArray, List.set_cons_zero, List.set_cons_succ]
        refine Tillst.one (i := 7) (o := { dst := some 10, op := Op.call { callee := Callee.builtin Builtin.append, args := #[Operand.tmp 7, Operand.tmp 9], argTypes := #[24, 24] }, type := 24, pos := "law.go:29", after := #[{ on := 4, ground := Ground.data }, { on := 6, ground := Ground.data }, { on := 3, ground := Ground.chain }], guard := none }) (by kernel_rfl) rfl ?_
        intro K hK
        refine step_append_rowG (mk := Value.int .u8) (d := 0) rfl (.tmp 7) (.tmp 9) 24 rfl w1.heap.size 5 i0 (.int .u8 0) 1 Try.underlying24 hi hz0 hz1 hz2 rfl (fun _ => rfl) (.slice (some ⟨g4, 0, none⟩) 0 0) 0 [] rfl HE4.out (fun b => b < w.heap.size) B m d ys rfl (HK2.out.below HBW.out (fun b h => by have := HW1.out; omega)) hnB (by unfold maxLen; omega) (by omega) HZW.out ?_
        intro v7 vz hown hgrow hblk
        rw [List.nil_append, Nat.zero_add] at hown
        have hO3 := HO3.out.kept hgrow (.inr (fun h => HVN.out (by simpa [Value.ownBlock] using h)))
        obtain ⟨A1, c1, rfl, hc1, hn1, hr1⟩ := rowG_own 0 hO3
        obtain ⟨A2, c2, rfl, hc2, hn2, hr2⟩ := rowG_own 0 hown
        have HR1 := Lib.hid hr1
        have HR2 := Lib.hid hr2
        have HN := Lib.hid (And.intro (And.intro hn1 hn2) (And.intro hc1 hc2))
        have HBW := Lib.hid (HBW.out.grown hgrow HZW.out (fun g h => by (have h' : g4 = g := (by simpa [Value.ownBlock] using h)); have := HG4.out.1; omega))
        have HZW := Lib.hid (Nat.le_trans HZW.out hgrow.size)
        clear hown hgrow hblk hO3 hc1 hn1 hr1 hc2 hn2 hr2
        simp only [Act.put, List.setIfInBounds_toArray, List.set_cons_zero, List.set_cons_succ]
        refine hK.out _ _ (fun _ => ⟨(HBW.out.cell (show w.heap.size < w1.heap.size by have := HW1.out; omega)).trans HC4.out, (HBW.out.cell (show w.heap.size < w1.heap.size by have := HW1.out; omega)).trans HC5.out⟩) (fun hHeld => ?_)
        replace hHeld := hHeld (by decide)
        clear hK K
        refine Tillst.one (i := 9) (o := { dst := none, op := Op.store 24 (Operand.tmp 11) (Operand.tmp 6), type := 0, pos := "law.go:29", after := #[{ on := 8, ground := Ground.data }, { on := 3, ground := Ground.data }, { on := 7, ground := Ground.chain }, { on := 0, ground := Ground.phase }, { on := 1, ground := Ground.phase }, { on := 2, ground := Ground.phase }, { on := 3, ground := Ground.phase }, { on := 4, ground := Ground.textOnly Departure.lateStores }, { on := 5, ground := Ground.phase }, { on := 6, ground := Ground.phase }, { on := 7, ground := Ground.textOnly Departure.lateStoresUnsure }], guard := none }) (by kernel_rfl) rfl ?_
        intro K hK
        have hrc := HRC1.out.below HBW.out (show w.heap.size < w1.heap.size by have := HW1.out; omega)
        have q0 := hrc.cell 4
        have q1 := hrc.frozen 4
        simp only [List.getElem?_toArray, List.getElem?_cons_zero, List.getElem?_cons_succ] at q0
        go_simp
        clear q0 q1
        refine hK.out _ _ (fun h => by cases h) (fun _ => ?_)
        clear hK K
        refine Tillst.one (i := 10) (o := { dst := some 12, op := Op.fieldAddr 26 (Operand.tmp 1) 5, type := 0, pos := "law.go:29", after := #[{ on := 0, ground := Ground.phase }, { on := 1, ground := Ground.phase }, { on := 2, ground := Ground.phase }, { on := 3, ground := Ground.phase }, { on := 4, ground := Ground.phase }, { on := 5, ground := Ground.phase }, { on := 6, ground := Ground.phase }, { on := 7, ground := Ground.phase }, { on := 8, ground := Ground.phase }, { on := 9, ground := Ground.phase }], guard := none }) (by kernel_rfl) rfl ?_
        intro K hK
        go_simp
        refine hK.out _ _ (fun h => by cases h) (fun _ => ?_)
        clear hK K
        refine Tillst.one (i := 11) (o := { dst := none, op := Op.store 24 (Operand.tmp 12) (Operand.tmp 10), type := 0, pos := "law.go:29", after := #[{ on := 10, ground := Ground.data }, { on := 7, ground := Ground.data }, { on := 9, ground := Ground.chain }, { on := 0, ground := Ground.phase }, { on := 1, ground := Ground.phase }, { on := 2, ground := Ground.phase }, { on := 3, ground := Ground.phase }, { on := 4, ground := Ground.phase }, { on := 5, ground := Ground.phase }, { on := 6, ground := Ground.phase }, { on := 7, ground := Ground.phase }, { on := 8, ground := Ground.phase }, { on := 9, ground := Ground.phase }], guard := none }) (by kernel_rfl) rfl ?_
        intro K hK
        have hrc2 := hrc.set_ 4 (.slice A1 n c1)
        have q0 := hrc2.cell 5
        have q1 := hrc2.frozen 5
        have q0 : (vz.setCell ⟨w.heap.size, 4, none⟩ (.slice A1 n c1)).cell? ⟨w.heap.size, 5, none⟩ = some (.slice B m d) := q0
        go_simp
        clear q0 q1
        refine hK.out _ _ (fun h => by cases h) (fun _ => ?_)
        clear hK K
        refine Tillst.done (by kernel_rfl) ?_ _
        refine NoPanic.normal ?_
        go_wp2_with fail
        go_meet
        have hfar : ∀ p : Addr, p.block ≠ w.heap.size → ((vz.setCell ⟨w.heap.size, 4, none⟩ (.slice A1 n c1)).setCell ⟨w.heap.size, 5, none⟩ (.slice A2 m c2)).cell? p = vz.cell? p := fun p hp => (World.cell?_setCell_other _ _ _ _ (by rintro rfl; exact hp rfl)).trans (World.cell?_setCell_other _ _ _ _ (by rintro rfl; exact hp rfl))
        exact ⟨rfl, A1, c1, A2, c2, hrc2.set_ 5 _, (((HRS1.out.below HBW.out (by have := HW1.out; omega)).far (by show w.heap.size + 1 ≠ w.heap.size; omega) _).far (by show w.heap.size + 1 ≠ w.heap.size; omega) _), (HR1.out.keep (fun p hp => hfar p (by have := hp.1; have := HW1.out; omega))).more (fun b hb => ⟨hb.1, by simpa using hb.2.1⟩), (HR2.out.keep (fun p hp => hfar p (by have := hp.1; have := HW1.out; omega))).more (fun b hb => ⟨hb.1, by simpa using hb.2.1⟩), HN.out, ((HBL1.out.trans (HBW.out.mono (by have := HW1.out; omega))).setCell (Nat.le_refl _) _).setCell (Nat.le_refl _) _⟩
    · intro K hK
      refine step_empty rfl rfl w1.heap.size HZW.out ?_
      intro g4 va hg hown hgrow
      have HE4 := Lib.hid hown
      have HG4 := Lib.hid hg.1
      have HBW := Lib.hid (HBW.out.grown hgrow HZW.out (fun g h => by cases h))
      have HZW := Lib.hid (Nat.le_trans HZW.out hgrow.size)
      clear hg hown hgrow
      simp only [Act.put, List.setIfInBounds_toArray, List.set_cons_zero, List.set_cons_succ]
      refine hK.out _ _ (fun _ => ⟨(HBW.out.cell (show w.heap.size < w1.heap.size by have := HW1.out; omega)).trans HC4.out, (HBW.out.cell (show w.heap.size < w1.heap.size by have := HW1.out; omega)).trans HC5.out⟩) (fun hHeld => ?_)
      replace hHeld := hHeld (by decide)
      clear hK K
      refine Tillst.one (i := 0) (o := { dst := some 3, op := Op.buildSlice 24 0 #[], type := 24, pos := "law.go:29", after := #[], guard := none }) (by kernel_rfl) rfl ?_
      intro K hK
      refine step_empty rfl rfl w1.heap.size HZW.out ?_
      intro g0 vb hg hown hgrow
      have HE0 := Lib.hid hown
      have HG0 := Lib.hid hg.1
      have HNE := Lib.hid (show g0 ≠ g4 by have h := HG4.out.2; have := hg.2; omega)
      have HE4 := Lib.hid (own_none HE4.out hgrow)
      have HG4 := Lib.hid (show w1.heap.size ≤ g4 ∧ g4 < vb.heap.size from ⟨HG4.out.1, Nat.lt_of_lt_of_le HG4.out.2 hgrow.size⟩)
      have HBW := Lib.hid (HBW.out.grown hgrow HZW.out (fun g h => by cases h))
      have HZW := Lib.hid (Nat.le_trans HZW.out hgrow.size)
      clear hg hown hgrow
      simp only [Act.put, List.setIfInBounds_toArray, List.set_cons_zero, List.set_cons_succ]
      refine hK.out _ _ (fun _ => ⟨(HBW.out.cell (show w.heap.size < w1.heap.size by have := HW1.out; omega)).trans HC4.out, (HBW.out.cell (show w.heap.size < w1.heap.size by have := HW1.out; omega)).trans HC5.out⟩) (fun hHeld => ?_)
      replace hHeld := hHeld (by decide)
      clear hK K
      refine Tillst.one (i := 3) (o := { dst := some 6, op := Op.call { callee := Callee.builtin Builtin.append, args := #[Operand.tmp 3, Operand.tmp 5], argTypes := #[24, 24] }, type := 24, pos := "law.go:29", after := #[{ on := 0, ground := Ground.data }, { on := 2, ground := Ground.data }], guard := none }) (by kernel_rfl) rfl ?_
      intro K hK
      refine step_append_rowG (mk := Value.int .u8) (d := 0) rfl (.tmp 3) (.tmp 5) 24 rfl w1.heap.size 5 i0 (.int .u8 0) 1 Try.underlying24 hi hz0 hz1 hz2 rfl (fun _ => rfl) (.slice (some ⟨g0, 0, none⟩) 0 0) 0 [] rfl HE0.out (fun b => b < w.heap.size) A n c xs rfl (HK1.out.below HBW.out (fun b h => by have := HW1.out; omega)) hnA (by unfold maxLen; omega) (by omega) HZW.out ?_
      intro v3 vc hown hgrow hblk
      rw [List.nil_append, Nat.zero_add] at hown
      have HO3 := Lib.hid hown
      have HVN := Lib.hid (show v3.ownBlock ≠ some g4 from fun h => by rcases hblk with h2 | h2 <;> rw [h] at h2 <;> simp [Value.ownBlock] at h2; exact HNE.out h2.symm; have := HG4.out.2; omega)
      have HE4 := Lib.hid (HE4.out.kept hgrow (.inr (fun h => HNE.out (by simpa [Value.ownBlock] using h.symm))))
      have HG4 := Lib.hid (show w1.heap.size ≤ g4 ∧ g4 < vc.heap.size from ⟨HG4.out.1, Nat.lt_of_lt_of_le HG4.out.2 hgrow.size⟩)
      have HBW := Lib.hid (HBW.out.grown hgrow HZW.out (fun g h => by (have h' : g0 = g := (by simpa [Value.ownBlock] using h)); have := HG0.out.1; omega))
      have HZW := Lib.hid (Nat.le_trans HZW.out hgrow.size)
      clear hown hgrow hblk
      simp only [Act.put, List.setIfInBounds_toArray, List.set_cons_zero, List.set_cons_succ]
      refine hK.out _ _ (fun _ => ⟨(HBW.out.cell (show w.heap.size < w1.heap.size by have := HW1.out; omega)).trans HC4.out, (HBW.out.cell (show w.heap.size < w1.heap.size by have := HW1.out; omega)).trans HC5.out⟩) (fun hHeld => ?_)
      replace hHeld := hHeld (by decide)
      clear hK K
      refine Tillst.take (i := 8) (oi := { dst := some 11, op := Op.fieldAddr 26 (Operand.tmp 1) 4, type := 0, pos := "law.go:29", after := #[{ on := 0, ground := Ground.phase }, { on := 1, ground := Ground.phase }, { on := 2, ground := Ground.phase }, { on := 3, ground := Ground.phase }, { on := 4, ground := Ground.textOnly Departure.lateStores }, { on := 5, ground := Ground.phase }, { on := 6, ground := Ground.phase }, { on := 7, ground := Ground.textOnly Departure.lateStoresUnsure }], guard := none }) (v := ?_) rfl (by kernel_rfl) (by kernel_rfl) (by kernel_rfl) (by kernel_rfl) (fun _ _ _ h => h) (by rfl) ?_ hHeld ?_
      rotate_left
      · intro W hSW; obtain ⟨hS4, hS5⟩ := hSW; go_simp; with_reducible rfl
      simp only [Act.put, List.setIfInBounds_toArray, List.set_cons_zero, List.set_cons_succ]
      refine Tillst.one (i := 7) (o := { dst := some 10, op := Op.call { callee := Callee.builtin Builtin.append, args := #[Operand.tmp 7, Operand.tmp 9], argTypes := #[24, 24] }, type := 24, pos := "law.go:29", after := #[{ on := 4, ground := Ground.data }, { on := 6, ground := Ground.data }, { on := 3, ground := Ground.chain }], guard := none }) (by kernel_rfl) rfl ?_
      intro K hK
      refine step_append_rowG (mk := Value.int .u8) (d := 0) rfl (.tmp 7) (.tmp 9) 24 rfl w1.heap.size 5 i0 (.int .u8 0) 1 Try.underlying24 hi hz0 hz1 hz2 rfl (fun _ => rfl) (.slice (some ⟨g4, 0, none⟩) 0 0) 0 [] rfl HE4.out (fun b => b < w.heap.size) B m d ys rfl (HK2.out.below HBW.out (fun b h => by have := HW1.out; omega)) hnB (by unfold maxLen; omega) (by omega) HZW.out ?_
      intro v7 vz hown hgrow hblk
      rw [List.nil_append, Nat.zero_add] at hown
      have hO3 := HO3.out.kept hgrow (.inr (fun h => HVN.out (by simpa [Value.ownBlock] using h)))
      obtain ⟨A1, c1, rfl, hc1, hn1, hr1⟩ := rowG_own 0 hO3
      obtain ⟨A2, c2, rfl, hc2, hn2, hr2⟩ := rowG_own 0 hown
      have HR1 := Lib.hid hr1
      have HR2 := Lib.hid hr2
      have HN := Lib.hid (And.intro (And.intro hn1 hn2) (And.intro hc1 hc2))
      have HBW := Lib.hid (HBW.out.grown hgrow HZW.out (fun g h => by (have h' : g4 = g := (by simpa [Value.ownBlock] using h)); have := HG4.out.1; omega))
      have HZW := Lib.hid (Nat.le_trans HZW.out hgrow.size)
      clear hown hgrow hblk hO3 hc1 hn1 hr1 hc2 hn2 hr2
      simp only [Act.put, List.setIfInBounds_toArray, List.set_cons_zero, List.set_cons_succ]
      refine hK.out _ _ (fun _ => ⟨(HBW.out.cell (show w.heap.size < w1.heap.size by have := HW1.out; omega)).trans HC4.out, (HBW.out.cell (show w.heap.size < w1.heap.size by have := HW1.out; omega)).trans HC5.out⟩) (fun hHeld => ?_)
      replace hHeld := hHeld (by decide)
      clear hK K
      refine Tillst.one (i := 9) (o := { dst := none, op := Op.store 24 (Operand.tmp 11) (Operand.tmp 6), type := 0, pos := "law.go:29", after := #[{ on := 8, ground := Ground.data }, { on := 3, ground := Ground.data }, { on := 7, ground := Ground.chain }, { on := 0, ground := Ground.phase }, { on := 1, ground := Ground.phase }, { on := 2, ground := Ground.phase }, { on := 3, ground := Ground.phase }, { on := 4, ground := Ground.textOnly Departure.lateStores }, { on := 5, ground := Ground.phase }, { on := 6, ground := Ground.phase }, { on := 7, ground := Ground.textOnly Departure.lateStoresUnsure }], guard := none }) (by kernel_rfl) rfl ?_
      intro K hK
      have hrc := HRC1.out.below HBW.out (show w.heap.size < w1.heap.size by have := HW1.out; omega)
      have q0 := hrc.cell 4
      have q1 := hrc.frozen 4
      simp only [List.getElem?_toArray, List.getElem?_cons_zero, List.getElem?_cons_succ] at q0
      go_simp
      clear q0 q1
      refine hK.out _ _ (fun h => by cases h) (fun _ => ?_)
      clear hK K
      refine Tillst.one (i := 10) (o := { dst := some 12, op := Op.fieldAddr 26 (Operand.tmp 1) 5, type := 0, pos := "law.go:29", after := #[{ on := 0, ground := Ground.phase }, { on := 1, ground := Ground.phase }, { on := 2, ground := Ground.phase }, { on := 3, ground := Ground.phase }, { on := 4, ground := Ground.phase }, { on := 5, ground := Ground.phase }, { on := 6, ground := Ground.phase }, { on := 7, ground := Ground.phase }, { on := 8, ground := Ground.phase }, { on := 9, ground := Ground.phase }], guard := none }) (by kernel_rfl) rfl ?_
      intro K hK
      go_simp
      refine hK.out _ _ (fun h => by cases h) (fun _ => ?_)
      clear hK K
      refine Tillst.one (i := 11) (o := { dst := none, op := Op.store 24 (Operand.tmp 12) (Operand.tmp 10), type := 0, pos := "law.go:29", after := #[{ on := 10, ground := Ground.data }, { on := 7, ground := Ground.data }, { on := 9, ground := Ground.chain }, { on := 0, ground := Ground.phase }, { on := 1, ground := Ground.phase }, { on := 2, ground := Ground.phase }, { on := 3, ground := Ground.phase }, { on := 4, ground := Ground.phase }, { on := 5, ground := Ground.phase }, { on := 6, ground := Ground.phase }, { on := 7, ground := Ground.phase }, { on := 8, ground := Ground.phase }, { on := 9, ground := Ground.phase }], guard := none }) (by kernel_rfl) rfl ?_
      intro K hK
      have hrc2 := hrc.set_ 4 (.slice A1 n c1)
      have q0 := hrc2.cell 5
      have q1 := hrc2.frozen 5
      have q0 : (vz.setCell ⟨w.heap.size, 4, none⟩ (.slice A1 n c1)).cell? ⟨w.heap.size, 5, none⟩ = some (.slice B m d) := q0
      go_simp
      clear q0 q1
      refine hK.out _ _ (fun h => by cases h) (fun _ => ?_)
      clear hK K
      refine Tillst.done (by kernel_rfl) ?_ _
      refine NoPanic.normal ?_
      go_wp2_with fail
      go_meet
      have hfar : ∀ p : Addr, p.block ≠ w.heap.size → ((vz.setCell ⟨w.heap.size, 4, none⟩ (.slice A1 n c1)).setCell ⟨w.heap.size, 5, none⟩ (.slice A2 m c2)).cell? p = vz.cell? p := fun p hp => (World.cell?_setCell_other _ _ _ _ (by rintro rfl; exact hp rfl)).trans (World.cell?_setCell_other _ _ _ _ (by rintro rfl; exact hp rfl))
      exact ⟨rfl, A1, c1, A2, c2, hrc2.set_ 5 _, (((HRS1.out.below HBW.out (by have := HW1.out; omega)).far (by show w.heap.size + 1 ≠ w.heap.size; omega) _).far (by show w.heap.size + 1 ≠ w.heap.size; omega) _), (HR1.out.keep (fun p hp => hfar p (by have := hp.1; have := HW1.out; omega))).more (fun b hb => ⟨hb.1, by simpa using hb.2.1⟩), (HR2.out.keep (fun p hp => hfar p (by have := hp.1; have := HW1.out; omega))).more (fun b hb => ⟨hb.1, by simpa using hb.2.1⟩), HN.out, ((HBL1.out.trans (HBW.out.mono (by have := HW1.out; omega))).setCell (Nat.le_refl _) _).setCell (Nat.le_refl _) _⟩
  case rest =>
    obtain ⟨rfl, A1, c1, A2, c2, hrc, hrs, hr1, hr2, hn, hbl⟩ := hcut
    have HRC2 := Lib.hid hrc
    have HRS2 := Lib.hid hrs
    have HR1 := Lib.hid hr1
    have HR2 := Lib.hid hr2
    have HN := Lib.hid hn
    have HBL := Lib.hid hbl
    clear hrc hrs hr1 hr2 hn hbl
    go_wp2_with (first
      | (refine wpList_load_rowB (.tmp 1) 26 rfl rfl w.heap.size rfl 26 [.int .i64 k, .int .u32 f, .int .u32 x, .int .u64 s, .slice A1 n c1, .slice A2 m c2] _ Try.underlying26 rfl size_rec HRC2.out ?_)
      | (refine wpList_store_rowB (.tmp 2) (.tmp 13) 26 rfl rfl (w.heap.size + 1) (recC k f x s A1 n c1 A2 m c2) rfl rfl 26 _ HRS2.out size_rec rfl (one_rec _ _ _ _ _ _ _ _ _ _) ?_)
      | (with_reducible refine halt_end ?_))
    have hst := setRow_heap _ _ _ (recC k f x s A1 n c1 A2 m c2) _ _ HRS2.out
    refine Halt.ret (results_row1 rfl _ _ (w.heap.size + 1) 26 (recC k f x s A1 n c1 A2 m c2) _ rfl hst Try.underlying26 rfl size_rec) rfl ⟨A1, c1, A2, c2, rfl, ?_, ?_, HN.out, below_setRow HBL.out (by omega) _⟩
    · exact (HR1.out.keep (fun p hp => World.cell?_of_block (setRow_other _ _ _ _ (by have := hp.1; have := HW1.out; omega)))).more (fun b hb => ⟨by have := hb.1; have := HW1.out; omega, by have := hb.2; simpa [World.setRow] using this⟩)
    · exact (HR2.out.keep (fun p hp => World.cell?_of_block (setRow_other _ _ _ _ (by have := hp.1; have := HW1.out; omega)))).more (fun b hb => ⟨by have := hb.1; have := HW1.out; omega, by have := hb.2; simpa [World.setRow] using this⟩)

end Go.Proofs.Ytehldhdpeefljaa
