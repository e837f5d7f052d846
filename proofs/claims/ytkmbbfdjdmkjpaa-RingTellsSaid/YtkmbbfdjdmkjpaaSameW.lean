/- RingSame: the walk. -/
import Derived.Test.YtkmbbfdjdmkjpaaWakesR
import Derived.Test.YtkmbbfdjdmkjpaaSameR
import Derived.Test.YtkmbbfdjdmkjpaaSameP
import Derived.Test.YtkmbbfdjdmkjpaaShortR
import Derived.Test.YtkmbbfdjdmkjpaaGoesW
import Derived.Test.YtkmbbfdjdmkjpaaArgsRing
namespace Go.Proofs.Ytkmbbfdjdmkjpaa
open Go.RowKit
set_option linter.unusedVariables false
set_option linter.unusedSimpArgs false

theorem OwnZ.cut {w : World} {m p cap : Nat} {A : Option Addr} {ys : List Seg} {s : Seg} (h : OwnZ w m A (p + 1) cap (ys ++ [s])) (hp : ys.length = p) : RowZ w (From m w) A p ys := by
  have h2 := RowZ_take h.row p (by omega)
  rwa [List.take_append_of_le_length (by omega), ← hp, List.take_length, hp] at h2
/-- Two rings' variables. -/
def TwoV (w : World) (s0 s1 : Int) (x y : Value) (W : World) : Prop :=
  Below w.heap.size w W ∧ Blk W w.heap.size 66 #[.int .i64 s0, x] ∧ Blk W (w.heap.size + 1) 66 #[.int .i64 s1, y]
section
variable {w : World} {s0 s1 : Int} {x y : Value} {W W' : World}
theorem TwoV.next (h : TwoV w s0 s1 x y W) (hb : Below W.heap.size W W') : TwoV w s0 s1 x y W' := ⟨h.1.trans (hb.mono h.1.size), h.2.1.below hb h.2.1.lt, h.2.2.below hb h.2.2.lt⟩
theorem TwoV.cells (h : TwoV w s0 s1 x y W) : W.cell? ⟨w.heap.size, 0, none⟩ = some (.int .i64 s0) ∧ W.cell? ⟨w.heap.size, 1, none⟩ = some x ∧ W.cell? ⟨w.heap.size + 1, 0, none⟩ = some (.int .i64 s1) ∧ W.cell? ⟨w.heap.size + 1, 1, none⟩ = some y := ⟨h.2.1.cell 0, h.2.1.cell 1, h.2.2.cell 0, h.2.2.cell 1⟩
theorem TwoV.setA (h : TwoV w s0 s1 x y W) (x' : Value) : TwoV w s0 s1 x' y (W.setRow w.heap.size #[.int .i64 s0, x']) :=
  ⟨below_setRow h.1 (Nat.le_refl _) _, setRow_heap W w.heap.size _ _ _ _ h.2.1, (setRow_other W w.heap.size (w.heap.size + 1) _ (by omega)).trans h.2.2⟩
theorem TwoV.setB (h : TwoV w s0 s1 x y W) (y' : Value) : TwoV w s0 s1 x y' (W.setRow (w.heap.size + 1) #[.int .i64 s1, y']) :=
  ⟨below_setRow h.1 (Nat.le_succ _) _, (setRow_other W (w.heap.size + 1) w.heap.size _ (by omega)).trans h.2.1, setRow_heap W (w.heap.size + 1) _ _ _ _ h.2.2⟩
end
abbrev sa0 : Oper := { dst := some 7, op := Go.Op.load 66 (Go.Operand.tmp 2), type := 66, pos := "law.go:140", after := #[], guard := none }
abbrev sa1 : Oper := { dst := some 8, op := Go.Op.call { callee := Go.Callee.value (Go.Operand.func 34), args := #[Go.Operand.tmp 7], argTypes := #[66] }, type := 66, pos := "law.go:140", after := #[{ on := 0, ground := Go.Ground.data }], guard := none }
abbrev sa2 : Oper := { dst := some 9, op := Go.Op.load 66 (Go.Operand.tmp 3), type := 66, pos := "law.go:140", after := #[], guard := none }
abbrev sa3 : Oper := { dst := some 10, op := Go.Op.call { callee := Go.Callee.value (Go.Operand.func 34), args := #[Go.Operand.tmp 9], argTypes := #[66] }, type := 66, pos := "law.go:140", after := #[{ on := 2, ground := Go.Ground.data }, { on := 1, ground := Go.Ground.chain }], guard := none }
abbrev sa4 : Oper := { dst := none, op := Go.Op.store 66 (Go.Operand.tmp 2) (Go.Operand.tmp 8), type := 0, pos := "law.go:140", after := #[{ on := 1, ground := Go.Ground.data }, { on := 3, ground := Go.Ground.chain }, { on := 0, ground := Go.Ground.phase }, { on := 1, ground := Go.Ground.phase }, { on := 2, ground := Go.Ground.textOnly Go.Departure.lateStores }, { on := 3, ground := Go.Ground.textOnly Go.Departure.lateStoresUnsure }], guard := none }
abbrev sa5 : Oper := { dst := none, op := Go.Op.store 66 (Go.Operand.tmp 3) (Go.Operand.tmp 10), type := 0, pos := "law.go:140", after := #[{ on := 3, ground := Go.Ground.data }, { on := 4, ground := Go.Ground.chain }, { on := 0, ground := Go.Ground.phase }, { on := 1, ground := Go.Ground.phase }, { on := 2, ground := Go.Ground.phase }, { on := 3, ground := Go.Ground.phase }, { on := 4, ground := Go.Ground.phase }], guard := none }
abbrev sb0 : Oper := { dst := some 11, op := Go.Op.load 66 (Go.Operand.tmp 2), type := 66, pos := "law.go:141", after := #[], guard := none }
abbrev sb1 : Oper := { dst := some 12, op := Go.Op.load 66 (Go.Operand.tmp 3), type := 66, pos := "law.go:141", after := #[], guard := none }
abbrev sb2 : Oper := { dst := some 13, op := Go.Op.call { callee := Go.Callee.value (Go.Operand.func 63), args := #[Go.Operand.tmp 11, Go.Operand.tmp 12], argTypes := #[66, 66] }, type := 4, pos := "law.go:141", after := #[{ on := 0, ground := Go.Ground.data }, { on := 1, ground := Go.Ground.data }], guard := none }
abbrev sb3 : Oper := { dst := some 14, op := Go.Op.load 66 (Go.Operand.tmp 2), type := 66, pos := "law.go:141", after := #[], guard := none }
abbrev sb4 : Oper := { dst := some 15, op := Go.Op.load 66 (Go.Operand.tmp 3), type := 66, pos := "law.go:141", after := #[], guard := none }
abbrev sb5 : Oper := { dst := some 16, op := Go.Op.call { callee := Go.Callee.value (Go.Operand.func 62), args := #[Go.Operand.tmp 14, Go.Operand.tmp 15], argTypes := #[66, 66] }, type := 4, pos := "law.go:141", after := #[{ on := 3, ground := Go.Ground.data }, { on := 4, ground := Go.Ground.data }, { on := 2, ground := Go.Ground.chain }], guard := none }
abbrev sb6 : Oper := { dst := some 17, op := Go.Op.binOp Go.BinOp.eql 4 (Go.Operand.tmp 13) (Go.Operand.tmp 16) 4, type := 4, pos := "law.go:141", after := #[{ on := 2, ground := Go.Ground.data }, { on := 5, ground := Go.Ground.data }], guard := none }
abbrev sb7 : Oper := { dst := some 18, op := Go.Op.move (Go.Operand.tmp 17), type := 4, pos := "law.go:141", after := #[{ on := 6, ground := Go.Ground.data }, { on := 5, ground := Go.Ground.chain }], guard := none }
abbrev sb8 : Oper := { dst := some 19, op := Go.Op.load 66 (Go.Operand.tmp 2), type := 66, pos := "law.go:141", after := #[{ on := 7, ground := Go.Ground.guard }], guard := some (7, true) }
abbrev sb9 : Oper := { dst := some 20, op := Go.Op.load 66 (Go.Operand.tmp 2), type := 66, pos := "law.go:141", after := #[{ on := 7, ground := Go.Ground.guard }], guard := some (7, true) }
abbrev sb10 : Oper := { dst := some 21, op := Go.Op.call { callee := Go.Callee.value (Go.Operand.func 35), args := #[Go.Operand.tmp 20], argTypes := #[66] }, type := 66, pos := "law.go:141", after := #[{ on := 9, ground := Go.Ground.data }, { on := 7, ground := Go.Ground.chain }, { on := 7, ground := Go.Ground.guard }], guard := some (7, true) }
abbrev sb11 : Oper := { dst := some 22, op := Go.Op.call { callee := Go.Callee.value (Go.Operand.func 63), args := #[Go.Operand.tmp 19, Go.Operand.tmp 21], argTypes := #[66, 66] }, type := 4, pos := "law.go:141", after := #[{ on := 8, ground := Go.Ground.data }, { on := 10, ground := Go.Ground.data }, { on := 10, ground := Go.Ground.chain }, { on := 7, ground := Go.Ground.guard }], guard := some (7, true) }
abbrev sb12 : Oper := { dst := some 23, op := Go.Op.pick (Go.Operand.tmp 18) (Go.Operand.tmp 22) (Go.Operand.const (Go.Value.bool false)), type := 4, pos := "law.go:141", after := #[{ on := 7, ground := Go.Ground.data }, { on := 11, ground := Go.Ground.data }], guard := none }
abbrev sb13 : Oper := { dst := some 4, op := Go.Op.assign (Go.Operand.tmp 23), type := 4, pos := "law.go:141", after := #[{ on := 12, ground := Go.Ground.data }, { on := 11, ground := Go.Ground.chain }, { on := 0, ground := Go.Ground.phase }, { on := 1, ground := Go.Ground.phase }, { on := 2, ground := Go.Ground.phase }, { on := 3, ground := Go.Ground.phase }, { on := 4, ground := Go.Ground.phase }, { on := 5, ground := Go.Ground.phase }, { on := 6, ground := Go.Ground.phase }, { on := 7, ground := Go.Ground.phase }, { on := 8, ground := Go.Ground.phase }, { on := 9, ground := Go.Ground.phase }, { on := 10, ground := Go.Ground.phase }, { on := 11, ground := Go.Ground.phase }, { on := 12, ground := Go.Ground.phase }], guard := none }

set_option maxRecDepth 100000 in
set_option maxHeartbeats 4000000 in
theorem same_law (s0 : Int) (A0 : Option Addr) (n0 c0 : Nat) (xs0 : List Seg) (s1 : Int) (A1 : Option Addr) (n1 c1 : Nat) (xs1 : List Seg) (w : World) (w0 : IsRing w s0 A0 n0 c0 xs0) (w1 : IsRing w s1 A1 n1 c1 xs1) :
    Calls Try.prog 11 #[ringV s0 A0 n0 c0, ringV s1 A1 n1 c1] w fun e w' => e = .returned (.bool true) ∧ Below w.heap.size w w' := by
  have HX := Lib.hid w0.row
  have HY := Lib.hid w1.row
  obtain ⟨p, hp⟩ : ∃ p, p = min n0 40 := ⟨_, rfl⟩
  obtain ⟨q, hq⟩ : ∃ q, q = min n1 40 := ⟨_, rfl⟩
  have HP := Lib.hid hp
  have HQ := Lib.hid hq
  have HP1 := Lib.hid (show p ≤ 1000 by omega)
  have HLP := Lib.hid (show (xs0.take p).length = p by have := w0.row.1; simp; omega)
  have HLQ := Lib.hid (show (xs1.take q).length = q by have := w1.row.1; simp; omega)
  have hv0 : TwoV w s0 s1 (.slice A0 n0 c0) (.slice A1 n1 c1) ((w.alloc (.cells #[.int .i64 s0, .slice A0 n0 c0] 66)).alloc (.cells #[.int .i64 s1, .slice A1 n1 c1] 66)) :=
    ⟨((Below.refl _ w).alloc (Nat.le_refl _) _).alloc (by simp) _, (Blk.new w _ _).alloc _, blk_new2 w _ _ _⟩
  have HV0 := Lib.hid hv0
  obtain ⟨RR, hRR⟩ : ∃ RR, decide (s0 = s1 ∧ xs0.take p = xs1.take q) = RR := ⟨_, rfl⟩
  have HRR := Lib.hid hRR
  have hrr : (RR == RR) = true := by cases RR <;> rfl
  clear hp hq hv0 hRR
  go_enter Try.func11, Try.ntmps11
  go_wp2_with fail
  refine (wakes8 _).mono ?_
  rintro e w2 ⟨rfl, hb2⟩
  have HV := Lib.hid (HV0.out.next hb2)
  clear hb2
  go_wp2_with fail
  refine wp_region_noPanic ?_
  refine Tillst.region (fun _ => True) [] (by kernel_rfl) trivial (fun hHeld => ?_)
  have HV := Lib.hid (HV.out.next (Below.refl _ _).drew)
  have HM := Lib.hid HV.out.2.1.lt
  have HM1 := Lib.hid HV.out.2.2.lt
  generalize w2.drew = vd at *
  obtain ⟨x0, x1, y0, y1⟩ := HV.out.cells
  refine Tillst.two (i := 0) (j := 2) (o := sa0) (o' := sa2) (by kernel_rfl) rfl rfl ?_ ?_
  · intro K hK
    refine step_value ?_ rfl ?_ ?_
    rotate_left
    · unfold sa0; go_simp; with_reducible rfl
    simp only [sa0, Act.put, List.setIfInBounds_toArray, List.set_cons_zero, List.set_cons_succ]
    refine hK.out _ _ (fun _ => trivial) (fun hHeld => ?_)
    replace hHeld := hHeld (by decide)
    clear hK K
    refine Tillst.two (i := 1) (j := 2) (o := sa1) (o' := sa2) (by kernel_rfl) rfl rfl ?_ ?_
    · intro K hK
      refine step_call 34 #[.tmp 7] #[66] rfl rfl Try.func34 rfl rfl [ringV s0 A0 n0 c0] rfl ?_
      refine (short_ring (row_now HX.out HV.out.1) s0 w0.nc w0.n63 w0.nA HP.out).mono ?_
      rintro e u1 ⟨⟨ga, capa, rfl, howna⟩, hb⟩
      refine ⟨_, rfl, ?_⟩
      have HOA := Lib.hid howna
      have HS1 := Lib.hid hb.size
      have HV := Lib.hid (HV.out.next hb)
      clear x0 x1 y0 y1
      obtain ⟨x0, x1, y0, y1⟩ := HV.out.cells
      clear hb howna
      simp only [sa1, Act.put, List.setIfInBounds_toArray, List.set_cons_zero, List.set_cons_succ]
      refine hK.out _ _ (fun _ => trivial) (fun hHeld => ?_)
      replace hHeld := hHeld (by decide)
      clear hK K
      refine Tillst.one (i := 2) (o := sa2) (by kernel_rfl) rfl ?_
      intro K hK
      refine step_value ?_ rfl ?_ ?_
      rotate_left
      · unfold sa2; go_simp; with_reducible rfl
      simp only [sa2, Act.put, List.setIfInBounds_toArray, List.set_cons_zero, List.set_cons_succ]
      refine hK.out _ _ (fun _ => trivial) (fun hHeld => ?_)
      replace hHeld := hHeld (by decide)
      clear hK K
      refine Tillst.one (i := 3) (o := sa3) (by kernel_rfl) rfl ?_
      intro K hK
      refine step_call 34 #[.tmp 9] #[66] rfl rfl Try.func34 rfl rfl [ringV s1 A1 n1 c1] rfl ?_
      refine (short_ring (row_now HY.out HV.out.1) s1 w1.nc w1.n63 w1.nA HQ.out).mono ?_
      rintro e u3 ⟨⟨gb, capb, rfl, hownb⟩, hb⟩
      refine ⟨_, rfl, ?_⟩
      have HOB := Lib.hid (hownb.base HS1.out)
      have HOA := Lib.hid (HOA.out.below hb)
      have HV := Lib.hid (HV.out.next hb)
      clear x0 x1 y0 y1
      obtain ⟨x0, x1, y0, y1⟩ := HV.out.cells
      clear hb hownb
      simp only [sa3, Act.put, List.setIfInBounds_toArray, List.set_cons_zero, List.set_cons_succ]
      refine hK.out _ _ (fun _ => trivial) (fun hHeld => ?_)
      replace hHeld := hHeld (by decide)
      clear hK K
      refine Tillst.one (i := 4) (o := sa4) (by kernel_rfl) rfl ?_
      intro K hK
      refine step_store_whole (.tmp 2) (.tmp 8) 66 rfl rfl w.heap.size #[.int .i64 s0, .slice (some ⟨ga, 0, none⟩) p capa] #[.int .i64 s0, .slice A0 n0 c0] 66 rfl rfl HV.out.2.1 Try.sizeOf66 rfl (by intro v hv; simp at hv; rcases hv with rfl | rfl <;> rfl) ?_
      simp only [sa4, Act.put, List.setIfInBounds_toArray, List.set_cons_zero, List.set_cons_succ]
      refine hK.out _ _ (fun _ => trivial) (fun hHeld => ?_)
      replace hHeld := hHeld (by decide)
      clear hK K
      have HV := Lib.hid (HV.out.setA (.slice (some ⟨ga, 0, none⟩) p capa))
      have HOA := Lib.hid (HOA.out.setRow HM.out #[.int .i64 s0, .slice (some ⟨ga, 0, none⟩) p capa])
      have HOB := Lib.hid (HOB.out.setRow HM.out #[.int .i64 s0, .slice (some ⟨ga, 0, none⟩) p capa])
      have hu : u3.heap.size = (u3.setRow w.heap.size #[.int .i64 s0, .slice (some ⟨ga, 0, none⟩) p capa]).heap.size := by simp [World.setRow]
      generalize u3.setRow w.heap.size #[.int .i64 s0, .slice (some ⟨ga, 0, none⟩) p capa] = u4 at *
      refine Tillst.one (i := 5) (o := sa5) (by kernel_rfl) rfl ?_
      intro K hK
      refine step_store_whole (.tmp 3) (.tmp 10) 66 rfl rfl (w.heap.size + 1) #[.int .i64 s1, .slice (some ⟨gb, 0, none⟩) q capb] #[.int .i64 s1, .slice A1 n1 c1] 66 rfl rfl HV.out.2.2 Try.sizeOf66 rfl (by intro v hv; simp at hv; rcases hv with rfl | rfl <;> rfl) ?_
      simp only [sa5, Act.put, List.setIfInBounds_toArray, List.set_cons_zero, List.set_cons_succ]
      refine hK.out _ _ (fun _ => trivial) (fun hHeld => ?_)
      replace hHeld := hHeld (by decide)
      clear hK K
      have HV := Lib.hid (HV.out.setB (.slice (some ⟨gb, 0, none⟩) q capb))
      have HOA := Lib.hid (HOA.out.setRow HM1.out #[.int .i64 s1, .slice (some ⟨gb, 0, none⟩) q capb])
      have HOB := Lib.hid (HOB.out.setRow HM1.out #[.int .i64 s1, .slice (some ⟨gb, 0, none⟩) q capb])
      generalize u4.setRow (w.heap.size + 1) #[.int .i64 s1, .slice (some ⟨gb, 0, none⟩) q capb] = u5 at *
      clear hu x0 x1 y0 y1
      refine Tillst.done (by kernel_rfl) ?_ _
      refine NoPanic.normal ?_
      clear hHeld
      have HRA := Lib.hid (HOA.out.cut HLP.out)
      have HRB := Lib.hid (HOB.out.cut HLQ.out)
      go_wp2_with fail
      refine wp_region_noPanic ?_
      refine Tillst.region (fun W => Below u5.heap.size u5 W) [] (by kernel_rfl) (Below.refl _ _).drew (fun hHeld => ?_)
      generalize u5.drew = vd at *
      refine Tillst.take (i := 0) (oi := sb0) (v := ?_) rfl (by kernel_rfl) (by kernel_rfl) (by kernel_rfl) (by kernel_rfl) (fun _ _ _ h => h) (by rfl) ?_ hHeld ?_
      rotate_left
      · intro W hSW; obtain ⟨x0, x1, y0, y1⟩ := (HV.out.next hSW).cells; unfold sb0; go_simp; with_reducible rfl
      simp only [sb0, Act.put, List.setIfInBounds_toArray, List.set_cons_zero, List.set_cons_succ]
      refine Tillst.take (i := 1) (oi := sb1) (v := ?_) rfl (by kernel_rfl) (by kernel_rfl) (by kernel_rfl) (by kernel_rfl) (fun _ _ _ h => h) (by rfl) ?_ hHeld ?_
      rotate_left
      · intro W hSW; obtain ⟨x0, x1, y0, y1⟩ := (HV.out.next hSW).cells; unfold sb1; go_simp; with_reducible rfl
      simp only [sb1, Act.put, List.setIfInBounds_toArray, List.set_cons_zero, List.set_cons_succ]
      refine Tillst.take (i := 3) (oi := sb3) (v := ?_) rfl (by kernel_rfl) (by kernel_rfl) (by kernel_rfl) (by kernel_rfl) (fun _ _ _ h => h) (by rfl) ?_ hHeld ?_
      rotate_left
      · intro W hSW; obtain ⟨x0, x1, y0, y1⟩ := (HV.out.next hSW).cells; unfold sb3; go_simp; with_reducible rfl
      simp only [sb3, Act.put, List.setIfInBounds_toArray, List.set_cons_zero, List.set_cons_succ]
      refine Tillst.take (i := 4) (oi := sb4) (v := ?_) rfl (by kernel_rfl) (by kernel_rfl) (by kernel_rfl) (by kernel_rfl) (fun _ _ _ h => h) (by rfl) ?_ hHeld ?_
      rotate_left
      · intro W hSW; obtain ⟨x0, x1, y0, y1⟩ := (HV.out.next hSW).cells; unfold sb4; go_simp; with_reducible rfl
      simp only [sb4, Act.put, List.setIfInBounds_toArray, List.set_cons_zero, List.set_cons_succ]
      refine Tillst.one (i := 2) (o := sb2) (by kernel_rfl) rfl ?_
      intro K hK
      refine step_call 63 #[.tmp 11, .tmp 12] #[66, 66] rfl rfl Try.func63 rfl rfl [ringV s0 (some ⟨ga, 0, none⟩) p capa, ringV s1 (some ⟨gb, 0, none⟩) q capb] rfl ?_
      refine (same_ring (row_now HRA.out.now hHeld) (row_now HRB.out.now hHeld) s0 s1 HP1.out).mono ?_
      rintro e v2 ⟨rfl, hb⟩
      rw [HRR.out]
      refine ⟨_, rfl, ?_⟩
      simp only [sb2, Act.put, List.setIfInBounds_toArray, List.set_cons_zero, List.set_cons_succ]
      refine hK.out _ _ (fun _ => hHeld.trans (hb.mono hHeld.size)) (fun hHeld => ?_)
      replace hHeld := hHeld (by decide)
      clear hK K
      clear hb
      refine Tillst.one (i := 5) (o := sb5) (by kernel_rfl) rfl ?_
      intro K hK
      refine step_call 62 #[.tmp 14, .tmp 15] #[66, 66] rfl rfl Try.func62 rfl rfl [ringV s0 (some ⟨ga, 0, none⟩) p capa, ringV s1 (some ⟨gb, 0, none⟩) q capb] rfl ?_
      refine (ref_same (row_now HRA.out.now hHeld) (row_now HRB.out.now hHeld) s0 s1 HP1.out).mono ?_
      rintro e v5 ⟨rfl, hb⟩
      rw [HRR.out]
      refine ⟨_, rfl, ?_⟩
      simp only [sb5, Act.put, List.setIfInBounds_toArray, List.set_cons_zero, List.set_cons_succ]
      refine hK.out _ _ (fun _ => hHeld.trans (hb.mono hHeld.size)) (fun hHeld => ?_)
      replace hHeld := hHeld (by decide)
      clear hK K
      clear hb
      refine Tillst.take (i := 6) (oi := sb6) (v := ?_) rfl (by kernel_rfl) (by kernel_rfl) (by kernel_rfl) (by kernel_rfl) (fun _ _ _ h => h) (by rfl) ?_ hHeld ?_
      rotate_left
      · intro W hSW; (try dsimp only at hSW); unfold sb6; go_simp; with_reducible rfl
      simp only [sb6, Act.put, List.setIfInBounds_toArray, List.set_cons_zero, List.set_cons_succ]
      refine Tillst.take (i := 7) (oi := sb7) (v := ?_) rfl (by kernel_rfl) (by kernel_rfl) (by kernel_rfl) (by kernel_rfl) (fun _ _ _ h => h) (by rfl) ?_ hHeld ?_
      rotate_left
      · intro W hSW; (try dsimp only at hSW); unfold sb7; go_simp; with_reducible rfl
      simp only [sb7, Act.put, List.setIfInBounds_toArray, List.set_cons_zero, List.set_cons_succ]
      refine Tillst.take (i := 8) (oi := sb8) (v := ?_) rfl (by kernel_rfl) (by kernel_rfl) (by kernel_rfl) (by kernel_rfl) (fun _ _ _ h => h) (by rfl) ?_ hHeld ?_
      rotate_left
      · intro W hSW; obtain ⟨x0, x1, y0, y1⟩ := (HV.out.next hSW).cells; unfold sb8; go_simp; with_reducible rfl
      simp only [sb8, Act.put, List.setIfInBounds_toArray, List.set_cons_zero, List.set_cons_succ]
      refine Tillst.take (i := 9) (oi := sb9) (v := ?_) rfl (by kernel_rfl) (by kernel_rfl) (by kernel_rfl) (by kernel_rfl) (fun _ _ _ h => h) (by rfl) ?_ hHeld ?_
      rotate_left
      · intro W hSW; obtain ⟨x0, x1, y0, y1⟩ := (HV.out.next hSW).cells; unfold sb9; go_simp; with_reducible rfl
      simp only [sb9, Act.put, List.setIfInBounds_toArray, List.set_cons_zero, List.set_cons_succ]
      refine Tillst.one (i := 10) (o := sb10) (by kernel_rfl) rfl ?_
      intro K hK
      refine step_call 35 #[.tmp 20] #[66] rfl rfl Try.func35 rfl rfl [ringV s0 (some ⟨ga, 0, none⟩) p capa] rfl ?_
      refine (ref_copy (row_now HRA.out.now hHeld) (fun h => by cases h) s0 HP1.out).mono ?_
      rintro e v10 ⟨⟨Ac, capc, rfl, hcc, hnc, hownc⟩, hb⟩
      refine ⟨_, rfl, ?_⟩
      have HRC := Lib.hid ((show OwnZ v10 _ Ac p capc (xs0.take p) from ⟨HLP.out, hownc, hnc, hcc⟩).row.now)
      have HB10 := Lib.hid (hHeld.trans (hb.mono hHeld.size))
      clear hb hownc hcc hnc
      simp only [sb10, Act.put, List.setIfInBounds_toArray, List.set_cons_zero, List.set_cons_succ]
      refine hK.out _ _ (fun _ => HB10.out) (fun hHeld => ?_)
      replace hHeld := hHeld (by decide)
      clear hK K
      refine Tillst.one (i := 11) (o := sb11) (by kernel_rfl) rfl ?_
      intro K hK
      refine step_call 63 #[.tmp 19, .tmp 21] #[66, 66] rfl rfl Try.func63 rfl rfl [ringV s0 (some ⟨ga, 0, none⟩) p capa, ringV s0 Ac p capc] rfl ?_
      refine (same_ring (row_now HRA.out.now hHeld) (row_now HRC.out (Below.refl _ _)) s0 s0 HP1.out).mono ?_
      rintro e v11 ⟨rfl, hb⟩
      rw [show decide (s0 = s0 ∧ xs0.take p = xs0.take p) = true from decide_eq_true ⟨rfl, rfl⟩]
      refine ⟨_, rfl, ?_⟩
      simp only [sb11, Act.put, List.setIfInBounds_toArray, List.set_cons_zero, List.set_cons_succ]
      refine hK.out _ _ (fun _ => hHeld.trans (hb.mono hHeld.size)) (fun hHeld => ?_)
      replace hHeld := hHeld (by decide)
      clear hK K
      clear hb
      refine Tillst.take (i := 12) (oi := sb12) (v := ?_) rfl (by kernel_rfl) (by kernel_rfl) (by kernel_rfl) (by kernel_rfl) (fun _ _ _ h => h) (by rfl) ?_ hHeld ?_
      rotate_left
      · intro W hSW; (try dsimp only at hSW); unfold sb12; go_simp; with_reducible rfl
      simp only [sb12, Act.put, List.setIfInBounds_toArray, List.set_cons_zero, List.set_cons_succ]
      refine Tillst.take (i := 13) (oi := sb13) (v := ?_) rfl (by kernel_rfl) (by kernel_rfl) (by kernel_rfl) (by kernel_rfl) (fun _ _ _ h => h) (by rfl) ?_ hHeld ?_
      rotate_left
      · intro W hSW; (try dsimp only at hSW); unfold sb13; go_simp; with_reducible rfl
      simp only [sb13, Act.put, List.setIfInBounds_toArray, List.set_cons_zero, List.set_cons_succ]
      refine Tillst.done (by kernel_rfl) ?_ _
      refine NoPanic.normal ?_
      have HEND := Lib.hid (HV.out.1.trans (hHeld.mono HV.out.1.size))
      clear hHeld
      go_wp2_with fail
      go_ret
      exact ⟨rfl, HEND.out⟩
    · intro K hK
      refine step_value ?_ rfl ?_ ?_
      rotate_left
      · unfold sa2; go_simp; with_reducible rfl
      simp only [sa2, Act.put, List.setIfInBounds_toArray, List.set_cons_zero, List.set_cons_succ]
      refine hK.out _ _ (fun _ => trivial) (fun hHeld => ?_)
      replace hHeld := hHeld (by decide)
      clear hK K
      refine Tillst.one (i := 1) (o := sa1) (by kernel_rfl) rfl ?_
      intro K hK
      refine step_call 34 #[.tmp 7] #[66] rfl rfl Try.func34 rfl rfl [ringV s0 A0 n0 c0] rfl ?_
      refine (short_ring (row_now HX.out HV.out.1) s0 w0.nc w0.n63 w0.nA HP.out).mono ?_
      rintro e u1 ⟨⟨ga, capa, rfl, howna⟩, hb⟩
      refine ⟨_, rfl, ?_⟩
      have HOA := Lib.hid howna
      have HS1 := Lib.hid hb.size
      have HV := Lib.hid (HV.out.next hb)
      clear x0 x1 y0 y1
      obtain ⟨x0, x1, y0, y1⟩ := HV.out.cells
      clear hb howna
      simp only [sa1, Act.put, List.setIfInBounds_toArray, List.set_cons_zero, List.set_cons_succ]
      refine hK.out _ _ (fun _ => trivial) (fun hHeld => ?_)
      replace hHeld := hHeld (by decide)
      clear hK K
      refine Tillst.one (i := 3) (o := sa3) (by kernel_rfl) rfl ?_
      intro K hK
      refine step_call 34 #[.tmp 9] #[66] rfl rfl Try.func34 rfl rfl [ringV s1 A1 n1 c1] rfl ?_
      refine (short_ring (row_now HY.out HV.out.1) s1 w1.nc w1.n63 w1.nA HQ.out).mono ?_
      rintro e u3 ⟨⟨gb, capb, rfl, hownb⟩, hb⟩
      refine ⟨_, rfl, ?_⟩
      have HOB := Lib.hid (hownb.base HS1.out)
      have HOA := Lib.hid (HOA.out.below hb)
      have HV := Lib.hid (HV.out.next hb)
      clear x0 x1 y0 y1
      obtain ⟨x0, x1, y0, y1⟩ := HV.out.cells
      clear hb hownb
      simp only [sa3, Act.put, List.setIfInBounds_toArray, List.set_cons_zero, List.set_cons_succ]
      refine hK.out _ _ (fun _ => trivial) (fun hHeld => ?_)
      replace hHeld := hHeld (by decide)
      clear hK K
      refine Tillst.one (i := 4) (o := sa4) (by kernel_rfl) rfl ?_
      intro K hK
      refine step_store_whole (.tmp 2) (.tmp 8) 66 rfl rfl w.heap.size #[.int .i64 s0, .slice (some ⟨ga, 0, none⟩) p capa] #[.int .i64 s0, .slice A0 n0 c0] 66 rfl rfl HV.out.2.1 Try.sizeOf66 rfl (by intro v hv; simp at hv; rcases hv with rfl | rfl <;> rfl) ?_
      simp only [sa4, Act.put, List.setIfInBounds_toArray, List.set_cons_zero, List.set_cons_succ]
      refine hK.out _ _ (fun _ => trivial) (fun hHeld => ?_)
      replace hHeld := hHeld (by decide)
      clear hK K
      have HV := Lib.hid (HV.out.setA (.slice (some ⟨ga, 0, none⟩) p capa))
      have HOA := Lib.hid (HOA.out.setRow HM.out #[.int .i64 s0, .slice (some ⟨ga, 0, none⟩) p capa])
      have HOB := Lib.hid (HOB.out.setRow HM.out #[.int .i64 s0, .slice (some ⟨ga, 0, none⟩) p capa])
      have hu : u3.heap.size = (u3.setRow w.heap.size #[.int .i64 s0, .slice (some ⟨ga, 0, none⟩) p capa]).heap.size := by simp [World.setRow]
      generalize u3.setRow w.heap.size #[.int .i64 s0, .slice (some ⟨ga, 0, none⟩) p capa] = u4 at *
      refine Tillst.one (i := 5) (o := sa5) (by kernel_rfl) rfl ?_
      intro K hK
      refine step_store_whole (.tmp 3) (.tmp 10) 66 rfl rfl (w.heap.size + 1) #[.int .i64 s1, .slice (some ⟨gb, 0, none⟩) q capb] #[.int .i64 s1, .slice A1 n1 c1] 66 rfl rfl HV.out.2.2 Try.sizeOf66 rfl (by intro v hv; simp at hv; rcases hv with rfl | rfl <;> rfl) ?_
      simp only [sa5, Act.put, List.setIfInBounds_toArray, List.set_cons_zero, List.set_cons_succ]
      refine hK.out _ _ (fun _ => trivial) (fun hHeld => ?_)
      replace hHeld := hHeld (by decide)
      clear hK K
      have HV := Lib.hid (HV.out.setB (.slice (some ⟨gb, 0, none⟩) q capb))
      have HOA := Lib.hid (HOA.out.setRow HM1.out #[.int .i64 s1, .slice (some ⟨gb, 0, none⟩) q capb])
      have HOB := Lib.hid (HOB.out.setRow HM1.out #[.int .i64 s1, .slice (some ⟨gb, 0, none⟩) q capb])
      generalize u4.setRow (w.heap.size + 1) #[.int .i64 s1, .slice (some ⟨gb, 0, none⟩) q capb] = u5 at *
      clear hu x0 x1 y0 y1
      refine Tillst.done (by kernel_rfl) ?_ _
      refine NoPanic.normal ?_
      clear hHeld
      have HRA := Lib.hid (HOA.out.cut HLP.out)
      have HRB := Lib.hid (HOB.out.cut HLQ.out)
      go_wp2_with fail
      refine wp_region_noPanic ?_
      refine Tillst.region (fun W => Below u5.heap.size u5 W) [] (by kernel_rfl) (Below.refl _ _).drew (fun hHeld => ?_)
      generalize u5.drew = vd at *
      refine Tillst.take (i := 0) (oi := sb0) (v := ?_) rfl (by kernel_rfl) (by kernel_rfl) (by kernel_rfl) (by kernel_rfl) (fun _ _ _ h => h) (by rfl) ?_ hHeld ?_
      rotate_left
      · intro W hSW; obtain ⟨x0, x1, y0, y1⟩ := (HV.out.next hSW).cells; unfold sb0; go_simp; with_reducible rfl
      simp only [sb0, Act.put, List.setIfInBounds_toArray, List.set_cons_zero, List.set_cons_succ]
      refine Tillst.take (i := 1) (oi := sb1) (v := ?_) rfl (by kernel_rfl) (by kernel_rfl) (by kernel_rfl) (by kernel_rfl) (fun _ _ _ h => h) (by rfl) ?_ hHeld ?_
      rotate_left
      · intro W hSW; obtain ⟨x0, x1, y0, y1⟩ := (HV.out.next hSW).cells; unfold sb1; go_simp; with_reducible rfl
      simp only [sb1, Act.put, List.setIfInBounds_toArray, List.set_cons_zero, List.set_cons_succ]
      refine Tillst.take (i := 3) (oi := sb3) (v := ?_) rfl (by kernel_rfl) (by kernel_rfl) (by kernel_rfl) (by kernel_rfl) (fun _ _ _ h => h) (by rfl) ?_ hHeld ?_
      rotate_left
      · intro W hSW; obtain ⟨x0, x1, y0, y1⟩ := (HV.out.next hSW).cells; unfold sb3; go_simp; with_reducible rfl
      simp only [sb3, Act.put, List.setIfInBounds_toArray, List.set_cons_zero, List.set_cons_succ]
      refine Tillst.take (i := 4) (oi := sb4) (v := ?_) rfl (by kernel_rfl) (by kernel_rfl) (by kernel_rfl) (by kernel_rfl) (fun _ _ _ h => h) (by rfl) ?_ hHeld ?_
      rotate_left
      · intro W hSW; obtain ⟨x0, x1, y0, y1⟩ := (HV.out.next hSW).cells; unfold sb4; go_simp; with_reducible rfl
      simp only [sb4, Act.put, List.setIfInBounds_toArray, List.set_cons_zero, List.set_cons_succ]
      refine Tillst.one (i := 2) (o := sb2) (by kernel_rfl) rfl ?_
      intro K hK
      refine step_call 63 #[.tmp 11, .tmp 12] #[66, 66] rfl rfl Try.func63 rfl rfl [ringV s0 (some ⟨ga, 0, none⟩) p capa, ringV s1 (some ⟨gb, 0, none⟩) q capb] rfl ?_
      refine (same_ring (row_now HRA.out.now hHeld) (row_now HRB.out.now hHeld) s0 s1 HP1.out).mono ?_
      rintro e v2 ⟨rfl, hb⟩
      rw [HRR.out]
      refine ⟨_, rfl, ?_⟩
      simp only [sb2, Act.put, List.setIfInBounds_toArray, List.set_cons_zero, List.set_cons_succ]
      refine hK.out _ _ (fun _ => hHeld.trans (hb.mono hHeld.size)) (fun hHeld => ?_)
      replace hHeld := hHeld (by decide)
      clear hK K
      clear hb
      refine Tillst.one (i := 5) (o := sb5) (by kernel_rfl) rfl ?_
      intro K hK
      refine step_call 62 #[.tmp 14, .tmp 15] #[66, 66] rfl rfl Try.func62 rfl rfl [ringV s0 (some ⟨ga, 0, none⟩) p capa, ringV s1 (some ⟨gb, 0, none⟩) q capb] rfl ?_
      refine (ref_same (row_now HRA.out.now hHeld) (row_now HRB.out.now hHeld) s0 s1 HP1.out).mono ?_
      rintro e v5 ⟨rfl, hb⟩
      rw [HRR.out]
      refine ⟨_, rfl, ?_⟩
      simp only [sb5, Act.put, List.setIfInBounds_toArray, List.set_cons_zero, List.set_cons_succ]
      refine hK.out _ _ (fun _ => hHeld.trans (hb.mono hHeld.size)) (fun hHeld => ?_)
      replace hHeld := hHeld (by decide)
      clear hK K
      clear hb
      refine Tillst.take (i := 6) (oi := sb6) (v := ?_) rfl (by kernel_rfl) (by kernel_rfl) (by kernel_rfl) (by kernel_rfl) (fun _ _ _ h => h) (by rfl) ?_ hHeld ?_
      rotate_left
      · intro W hSW; (try dsimp only at hSW); unfold sb6; go_simp; with_reducible rfl
      simp only [sb6, Act.put, List.setIfInBounds_toArray, List.set_cons_zero, List.set_cons_succ]
      refine Tillst.take (i := 7) (oi := sb7) (v := ?_) rfl (by kernel_rfl) (by kernel_rfl) (by kernel_rfl) (by kernel_rfl) (fun _ _ _ h => h) (by rfl) ?_ hHeld ?_
      rotate_left
      · intro W hSW; (try dsimp only at hSW); unfold sb7; go_simp; with_reducible rfl
      simp only [sb7, Act.put, List.setIfInBounds_toArray, List.set_cons_zero, List.set_cons_succ]
      refine Tillst.take (i := 8) (oi := sb8) (v := ?_) rfl (by kernel_rfl) (by kernel_rfl) (by kernel_rfl) (by kernel_rfl) (fun _ _ _ h => h) (by rfl) ?_ hHeld ?_
      rotate_left
      · intro W hSW; obtain ⟨x0, x1, y0, y1⟩ := (HV.out.next hSW).cells; unfold sb8; go_simp; with_reducible rfl
      simp only [sb8, Act.put, List.setIfInBounds_toArray, List.set_cons_zero, List.set_cons_succ]
      refine Tillst.take (i := 9) (oi := sb9) (v := ?_) rfl (by kernel_rfl) (by kernel_rfl) (by kernel_rfl) (by kernel_rfl) (fun _ _ _ h => h) (by rfl) ?_ hHeld ?_
      rotate_left
      · intro W hSW; obtain ⟨x0, x1, y0, y1⟩ := (HV.out.next hSW).cells; unfold sb9; go_simp; with_reducible rfl
      simp only [sb9, Act.put, List.setIfInBounds_toArray, List.set_cons_zero, List.set_cons_succ]
      refine Tillst.one (i := 10) (o := sb10) (by kernel_rfl) rfl ?_
      intro K hK
      refine step_call 35 #[.tmp 20] #[66] rfl rfl Try.func35 rfl rfl [ringV s0 (some ⟨ga, 0, none⟩) p capa] rfl ?_
      refine (ref_copy (row_now HRA.out.now hHeld) (fun h => by cases h) s0 HP1.out).mono ?_
      rintro e v10 ⟨⟨Ac, capc, rfl, hcc, hnc, hownc⟩, hb⟩
      refine ⟨_, rfl, ?_⟩
      have HRC := Lib.hid ((show OwnZ v10 _ Ac p capc (xs0.take p) from ⟨HLP.out, hownc, hnc, hcc⟩).row.now)
      have HB10 := Lib.hid (hHeld.trans (hb.mono hHeld.size))
      clear hb hownc hcc hnc
      simp only [sb10, Act.put, List.setIfInBounds_toArray, List.set_cons_zero, List.set_cons_succ]
      refine hK.out _ _ (fun _ => HB10.out) (fun hHeld => ?_)
      replace hHeld := hHeld (by decide)
      clear hK K
      refine Tillst.one (i := 11) (o := sb11) (by kernel_rfl) rfl ?_
      intro K hK
      refine step_call 63 #[.tmp 19, .tmp 21] #[66, 66] rfl rfl Try.func63 rfl rfl [ringV s0 (some ⟨ga, 0, none⟩) p capa, ringV s0 Ac p capc] rfl ?_
      refine (same_ring (row_now HRA.out.now hHeld) (row_now HRC.out (Below.refl _ _)) s0 s0 HP1.out).mono ?_
      rintro e v11 ⟨rfl, hb⟩
      rw [show decide (s0 = s0 ∧ xs0.take p = xs0.take p) = true from decide_eq_true ⟨rfl, rfl⟩]
      refine ⟨_, rfl, ?_⟩
      simp only [sb11, Act.put, List.setIfInBounds_toArray, List.set_cons_zero, List.set_cons_succ]
      refine hK.out _ _ (fun _ => hHeld.trans (hb.mono hHeld.size)) (fun hHeld => ?_)
      replace hHeld := hHeld (by decide)
      clear hK K
      clear hb
      refine Tillst.take (i := 12) (oi := sb12) (v := ?_) rfl (by kernel_rfl) (by kernel_rfl) (by kernel_rfl) (by kernel_rfl) (fun _ _ _ h => h) (by rfl) ?_ hHeld ?_
      rotate_left
      · intro W hSW; (try dsimp only at hSW); unfold sb12; go_simp; with_reducible rfl
      simp only [sb12, Act.put, List.setIfInBounds_toArray, List.set_cons_zero, List.set_cons_succ]
      refine Tillst.take (i := 13) (oi := sb13) (v := ?_) rfl (by kernel_rfl) (by kernel_rfl) (by kernel_rfl) (by kernel_rfl) (fun _ _ _ h => h) (by rfl) ?_ hHeld ?_
      rotate_left
      · intro W hSW; (try dsimp only at hSW); unfold sb13; go_simp; with_reducible rfl
      simp only [sb13, Act.put, List.setIfInBounds_toArray, List.set_cons_zero, List.set_cons_succ]
      refine Tillst.done (by kernel_rfl) ?_ _
      refine NoPanic.normal ?_
      have HEND := Lib.hid (HV.out.1.trans (hHeld.mono HV.out.1.size))
      clear hHeld
      go_wp2_with fail
      go_ret
      exact ⟨rfl, HEND.out⟩
  · intro K hK
    refine step_value ?_ rfl ?_ ?_
    rotate_left
    · unfold sa2; go_simp; with_reducible rfl
    simp only [sa2, Act.put, List.setIfInBounds_toArray, List.set_cons_zero, List.set_cons_succ]
    refine hK.out _ _ (fun _ => trivial) (fun hHeld => ?_)
    replace hHeld := hHeld (by decide)
    clear hK K
    refine Tillst.one (i := 0) (o := sa0) (by kernel_rfl) rfl ?_
    intro K hK
    refine step_value ?_ rfl ?_ ?_
    rotate_left
    · unfold sa0; go_simp; with_reducible rfl
    simp only [sa0, Act.put, List.setIfInBounds_toArray, List.set_cons_zero, List.set_cons_succ]
    refine hK.out _ _ (fun _ => trivial) (fun hHeld => ?_)
    replace hHeld := hHeld (by decide)
    clear hK K
    refine Tillst.one (i := 1) (o := sa1) (by kernel_rfl) rfl ?_
    intro K hK
    refine step_call 34 #[.tmp 7] #[66] rfl rfl Try.func34 rfl rfl [ringV s0 A0 n0 c0] rfl ?_
    refine (short_ring (row_now HX.out HV.out.1) s0 w0.nc w0.n63 w0.nA HP.out).mono ?_
    rintro e u1 ⟨⟨ga, capa, rfl, howna⟩, hb⟩
    refine ⟨_, rfl, ?_⟩
    have HOA := Lib.hid howna
    have HS1 := Lib.hid hb.size
    have HV := Lib.hid (HV.out.next hb)
    clear x0 x1 y0 y1
    obtain ⟨x0, x1, y0, y1⟩ := HV.out.cells
    clear hb howna
    simp only [sa1, Act.put, List.setIfInBounds_toArray, List.set_cons_zero, List.set_cons_succ]
    refine hK.out _ _ (fun _ => trivial) (fun hHeld => ?_)
    replace hHeld := hHeld (by decide)
    clear hK K
    refine Tillst.one (i := 3) (o := sa3) (by kernel_rfl) rfl ?_
    intro K hK
    refine step_call 34 #[.tmp 9] #[66] rfl rfl Try.func34 rfl rfl [ringV s1 A1 n1 c1] rfl ?_
    refine (short_ring (row_now HY.out HV.out.1) s1 w1.nc w1.n63 w1.nA HQ.out).mono ?_
    rintro e u3 ⟨⟨gb, capb, rfl, hownb⟩, hb⟩
    refine ⟨_, rfl, ?_⟩
    have HOB := Lib.hid (hownb.base HS1.out)
    have HOA := Lib.hid (HOA.out.below hb)
    have HV := Lib.hid (HV.out.next hb)
    clear x0 x1 y0 y1
    obtain ⟨x0, x1, y0, y1⟩ := HV.out.cells
    clear hb hownb
    simp only [sa3, Act.put, List.setIfInBounds_toArray, List.set_cons_zero, List.set_cons_succ]
    refine hK.out _ _ (fun _ => trivial) (fun hHeld => ?_)
    replace hHeld := hHeld (by decide)
    clear hK K
    refine Tillst.one (i := 4) (o := sa4) (by kernel_rfl) rfl ?_
    intro K hK
    refine step_store_whole (.tmp 2) (.tmp 8) 66 rfl rfl w.heap.size #[.int .i64 s0, .slice (some ⟨ga, 0, none⟩) p capa] #[.int .i64 s0, .slice A0 n0 c0] 66 rfl rfl HV.out.2.1 Try.sizeOf66 rfl (by intro v hv; simp at hv; rcases hv with rfl | rfl <;> rfl) ?_
    simp only [sa4, Act.put, List.setIfInBounds_toArray, List.set_cons_zero, List.set_cons_succ]
    refine hK.out _ _ (fun _ => trivial) (fun hHeld => ?_)
    replace hHeld := hHeld (by decide)
    clear hK K
    have HV := Lib.hid (HV.out.setA (.slice (some ⟨ga, 0, none⟩) p capa))
    have HOA := Lib.hid (HOA.out.setRow HM.out #[.int .i64 s0, .slice (some ⟨ga, 0, none⟩) p capa])
    have HOB := Lib.hid (HOB.out.setRow HM.out #[.int .i64 s0, .slice (some ⟨ga, 0, none⟩) p capa])
    have hu : u3.heap.size = (u3.setRow w.heap.size #[.int .i64 s0, .slice (some ⟨ga, 0, none⟩) p capa]).heap.size := by simp [World.setRow]
    generalize u3.setRow w.heap.size #[.int .i64 s0, .slice (some ⟨ga, 0, none⟩) p capa] = u4 at *
    refine Tillst.one (i := 5) (o := sa5) (by kernel_rfl) rfl ?_
    intro K hK
    refine step_store_whole (.tmp 3) (.tmp 10) 66 rfl rfl (w.heap.size + 1) #[.int .i64 s1, .slice (some ⟨gb, 0, none⟩) q capb] #[.int .i64 s1, .slice A1 n1 c1] 66 rfl rfl HV.out.2.2 Try.sizeOf66 rfl (by intro v hv; simp at hv; rcases hv with rfl | rfl <;> rfl) ?_
    simp only [sa5, Act.put, List.setIfInBounds_toArray, List.set_cons_zero, List.set_cons_succ]
    refine hK.out _ _ (fun _ => trivial) (fun hHeld => ?_)
    replace hHeld := hHeld (by decide)
    clear hK K
    have HV := Lib.hid (HV.out.setB (.slice (some ⟨gb, 0, none⟩) q capb))
    have HOA := Lib.hid (HOA.out.setRow HM1.out #[.int .i64 s1, .slice (some ⟨gb, 0, none⟩) q capb])
    have HOB := Lib.hid (HOB.out.setRow HM1.out #[.int .i64 s1, .slice (some ⟨gb, 0, none⟩) q capb])
    generalize u4.setRow (w.heap.size + 1) #[.int .i64 s1, .slice (some ⟨gb, 0, none⟩) q capb] = u5 at *
    clear hu x0 x1 y0 y1
    refine Tillst.done (by kernel_rfl) ?_ _
    refine NoPanic.normal ?_
    clear hHeld
    have HRA := Lib.hid (HOA.out.cut HLP.out)
    have HRB := Lib.hid (HOB.out.cut HLQ.out)
    go_wp2_with fail
    refine wp_region_noPanic ?_
    refine Tillst.region (fun W => Below u5.heap.size u5 W) [] (by kernel_rfl) (Below.refl _ _).drew (fun hHeld => ?_)
    generalize u5.drew = vd at *
    refine Tillst.take (i := 0) (oi := sb0) (v := ?_) rfl (by kernel_rfl) (by kernel_rfl) (by kernel_rfl) (by kernel_rfl) (fun _ _ _ h => h) (by rfl) ?_ hHeld ?_
    rotate_left
    · intro W hSW; obtain ⟨x0, x1, y0, y1⟩ := (HV.out.next hSW).cells; unfold sb0; go_simp; with_reducible rfl
    simp only [sb0, Act.put, List.setIfInBounds_toArray, List.set_cons_zero, List.set_cons_succ]
    refine Tillst.take (i := 1) (oi := sb1) (v := ?_) rfl (by kernel_rfl) (by kernel_rfl) (by kernel_rfl) (by kernel_rfl) (fun _ _ _ h => h) (by rfl) ?_ hHeld ?_
    rotate_left
    · intro W hSW; obtain ⟨x0, x1, y0, y1⟩ := (HV.out.next hSW).cells; unfold sb1; go_simp; with_reducible rfl
    simp only [sb1, Act.put, List.setIfInBounds_toArray, List.set_cons_zero, List.set_cons_succ]
    refine Tillst.take (i := 3) (oi := sb3) (v := ?_) rfl (by kernel_rfl) (by kernel_rfl) (by kernel_rfl) (by kernel_rfl) (fun _ _ _ h => h) (by rfl) ?_ hHeld ?_
    rotate_left
    · intro W hSW; obtain ⟨x0, x1, y0, y1⟩ := (HV.out.next hSW).cells; unfold sb3; go_simp; with_reducible rfl
    simp only [sb3, Act.put, List.setIfInBounds_toArray, List.set_cons_zero, List.set_cons_succ]
    refine Tillst.take (i := 4) (oi := sb4) (v := ?_) rfl (by kernel_rfl) (by kernel_rfl) (by kernel_rfl) (by kernel_rfl) (fun _ _ _ h => h) (by rfl) ?_ hHeld ?_
    rotate_left
    · intro W hSW; obtain ⟨x0, x1, y0, y1⟩ := (HV.out.next hSW).cells; unfold sb4; go_simp; with_reducible rfl
    simp only [sb4, Act.put, List.setIfInBounds_toArray, List.set_cons_zero, List.set_cons_succ]
    refine Tillst.one (i := 2) (o := sb2) (by kernel_rfl) rfl ?_
    intro K hK
    refine step_call 63 #[.tmp 11, .tmp 12] #[66, 66] rfl rfl Try.func63 rfl rfl [ringV s0 (some ⟨ga, 0, none⟩) p capa, ringV s1 (some ⟨gb, 0, none⟩) q capb] rfl ?_
    refine (same_ring (row_now HRA.out.now hHeld) (row_now HRB.out.now hHeld) s0 s1 HP1.out).mono ?_
    rintro e v2 ⟨rfl, hb⟩
    rw [HRR.out]
    refine ⟨_, rfl, ?_⟩
    simp only [sb2, Act.put, List.setIfInBounds_toArray, List.set_cons_zero, List.set_cons_succ]
    refine hK.out _ _ (fun _ => hHeld.trans (hb.mono hHeld.size)) (fun hHeld => ?_)
    replace hHeld := hHeld (by decide)
    clear hK K
    clear hb
    refine Tillst.one (i := 5) (o := sb5) (by kernel_rfl) rfl ?_
    intro K hK
    refine step_call 62 #[.tmp 14, .tmp 15] #[66, 66] rfl rfl Try.func62 rfl rfl [ringV s0 (some ⟨ga, 0, none⟩) p capa, ringV s1 (some ⟨gb, 0, none⟩) q capb] rfl ?_
    refine (ref_same (row_now HRA.out.now hHeld) (row_now HRB.out.now hHeld) s0 s1 HP1.out).mono ?_
    rintro e v5 ⟨rfl, hb⟩
    rw [HRR.out]
    refine ⟨_, rfl, ?_⟩
    simp only [sb5, Act.put, List.setIfInBounds_toArray, List.set_cons_zero, List.set_cons_succ]
    refine hK.out _ _ (fun _ => hHeld.trans (hb.mono hHeld.size)) (fun hHeld => ?_)
    replace hHeld := hHeld (by decide)
    clear hK K
    clear hb
    refine Tillst.take (i := 6) (oi := sb6) (v := ?_) rfl (by kernel_rfl) (by kernel_rfl) (by kernel_rfl) (by kernel_rfl) (fun _ _ _ h => h) (by rfl) ?_ hHeld ?_
    rotate_left
    · intro W hSW; (try dsimp only at hSW); unfold sb6; go_simp; with_reducible rfl
    simp only [sb6, Act.put, List.setIfInBounds_toArray, List.set_cons_zero, List.set_cons_succ]
    refine Tillst.take (i := 7) (oi := sb7) (v := ?_) rfl (by kernel_rfl) (by kernel_rfl) (by kernel_rfl) (by kernel_rfl) (fun _ _ _ h => h) (by rfl) ?_ hHeld ?_
    rotate_left
    · intro W hSW; (try dsimp only at hSW); unfold sb7; go_simp; with_reducible rfl
    simp only [sb7, Act.put, List.setIfInBounds_toArray, List.set_cons_zero, List.set_cons_succ]
    refine Tillst.take (i := 8) (oi := sb8) (v := ?_) rfl (by kernel_rfl) (by kernel_rfl) (by kernel_rfl) (by kernel_rfl) (fun _ _ _ h => h) (by rfl) ?_ hHeld ?_
    rotate_left
    · intro W hSW; obtain ⟨x0, x1, y0, y1⟩ := (HV.out.next hSW).cells; unfold sb8; go_simp; with_reducible rfl
    simp only [sb8, Act.put, List.setIfInBounds_toArray, List.set_cons_zero, List.set_cons_succ]
    refine Tillst.take (i := 9) (oi := sb9) (v := ?_) rfl (by kernel_rfl) (by kernel_rfl) (by kernel_rfl) (by kernel_rfl) (fun _ _ _ h => h) (by rfl) ?_ hHeld ?_
    rotate_left
    · intro W hSW; obtain ⟨x0, x1, y0, y1⟩ := (HV.out.next hSW).cells; unfold sb9; go_simp; with_reducible rfl
    simp only [sb9, Act.put, List.setIfInBounds_toArray, List.set_cons_zero, List.set_cons_succ]
    refine Tillst.one (i := 10) (o := sb10) (by kernel_rfl) rfl ?_
    intro K hK
    refine step_call 35 #[.tmp 20] #[66] rfl rfl Try.func35 rfl rfl [ringV s0 (some ⟨ga, 0, none⟩) p capa] rfl ?_
    refine (ref_copy (row_now HRA.out.now hHeld) (fun h => by cases h) s0 HP1.out).mono ?_
    rintro e v10 ⟨⟨Ac, capc, rfl, hcc, hnc, hownc⟩, hb⟩
    refine ⟨_, rfl, ?_⟩
    have HRC := Lib.hid ((show OwnZ v10 _ Ac p capc (xs0.take p) from ⟨HLP.out, hownc, hnc, hcc⟩).row.now)
    have HB10 := Lib.hid (hHeld.trans (hb.mono hHeld.size))
    clear hb hownc hcc hnc
    simp only [sb10, Act.put, List.setIfInBounds_toArray, List.set_cons_zero, List.set_cons_succ]
    refine hK.out _ _ (fun _ => HB10.out) (fun hHeld => ?_)
    replace hHeld := hHeld (by decide)
    clear hK K
    refine Tillst.one (i := 11) (o := sb11) (by kernel_rfl) rfl ?_
    intro K hK
    refine step_call 63 #[.tmp 19, .tmp 21] #[66, 66] rfl rfl Try.func63 rfl rfl [ringV s0 (some ⟨ga, 0, none⟩) p capa, ringV s0 Ac p capc] rfl ?_
    refine (same_ring (row_now HRA.out.now hHeld) (row_now HRC.out (Below.refl _ _)) s0 s0 HP1.out).mono ?_
    rintro e v11 ⟨rfl, hb⟩
    rw [show decide (s0 = s0 ∧ xs0.take p = xs0.take p) = true from decide_eq_true ⟨rfl, rfl⟩]
    refine ⟨_, rfl, ?_⟩
    simp only [sb11, Act.put, List.setIfInBounds_toArray, List.set_cons_zero, List.set_cons_succ]
    refine hK.out _ _ (fun _ => hHeld.trans (hb.mono hHeld.size)) (fun hHeld => ?_)
    replace hHeld := hHeld (by decide)
    clear hK K
    clear hb
    refine Tillst.take (i := 12) (oi := sb12) (v := ?_) rfl (by kernel_rfl) (by kernel_rfl) (by kernel_rfl) (by kernel_rfl) (fun _ _ _ h => h) (by rfl) ?_ hHeld ?_
    rotate_left
    · intro W hSW; (try dsimp only at hSW); unfold sb12; go_simp; with_reducible rfl
    simp only [sb12, Act.put, List.setIfInBounds_toArray, List.set_cons_zero, List.set_cons_succ]
    refine Tillst.take (i := 13) (oi := sb13) (v := ?_) rfl (by kernel_rfl) (by kernel_rfl) (by kernel_rfl) (by kernel_rfl) (fun _ _ _ h => h) (by rfl) ?_ hHeld ?_
    rotate_left
    · intro W hSW; (try dsimp only at hSW); unfold sb13; go_simp; with_reducible rfl
    simp only [sb13, Act.put, List.setIfInBounds_toArray, List.set_cons_zero, List.set_cons_succ]
    refine Tillst.done (by kernel_rfl) ?_ _
    refine NoPanic.normal ?_
    have HEND := Lib.hid (HV.out.1.trans (hHeld.mono HV.out.1.size))
    clear hHeld
    go_wp2_with fail
    go_ret
    exact ⟨rfl, HEND.out⟩

end Go.Proofs.Ytkmbbfdjdmkjpaa
