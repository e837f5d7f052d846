/- The laws of layer 8: whole, spoil, turned, told. -/
import Derived.Test.YtkmbbfdjdmkjpaaSameW
import Derived.Test.YtkmbbfdjdmkjpaaRefS
namespace Go.Proofs.Ytkmbbfdjdmkjpaa
open Go.RowKit
set_option linter.unusedVariables false
set_option linter.unusedSimpArgs false

abbrev wh0 : Oper := { dst := some 5, op := Go.Op.load 66 (Go.Operand.tmp 2), type := 66, pos := "law.go:29", after := #[], guard := none }
abbrev wh1 : Oper := { dst := some 6, op := Go.Op.load 66 (Go.Operand.tmp 3), type := 66, pos := "law.go:29", after := #[], guard := none }
abbrev wh2 : Oper := { dst := some 7, op := Go.Op.call { callee := Go.Callee.value (Go.Operand.func 62), args := #[Go.Operand.tmp 5, Go.Operand.tmp 6], argTypes := #[66, 66] }, type := 4, pos := "law.go:29", after := #[{ on := 0, ground := Go.Ground.data }, { on := 1, ground := Go.Ground.data }], guard := none }
abbrev wh3 : Oper := { dst := some 8, op := Go.Op.move (Go.Operand.tmp 7), type := 4, pos := "law.go:29", after := #[{ on := 2, ground := Go.Ground.data }, { on := 2, ground := Go.Ground.chain }], guard := none }
abbrev wh4 : Oper := { dst := some 9, op := Go.Op.fieldAddr 66 (Go.Operand.tmp 2) 1, type := 0, pos := "law.go:29", after := #[{ on := 3, ground := Go.Ground.guard }], guard := some (3, true) }
abbrev wh5 : Oper := { dst := some 10, op := Go.Op.load 64 (Go.Operand.tmp 9), type := 64, pos := "law.go:29", after := #[{ on := 4, ground := Go.Ground.data }, { on := 3, ground := Go.Ground.guard }], guard := some (3, true) }
abbrev wh6 : Oper := { dst := some 11, op := Go.Op.fieldAddr 66 (Go.Operand.tmp 2) 1, type := 0, pos := "law.go:29", after := #[{ on := 3, ground := Go.Ground.guard }], guard := some (3, true) }
abbrev wh7 : Oper := { dst := some 12, op := Go.Op.load 64 (Go.Operand.tmp 11), type := 64, pos := "law.go:29", after := #[{ on := 6, ground := Go.Ground.data }, { on := 3, ground := Go.Ground.guard }], guard := some (3, true) }
abbrev wh8 : Oper := { dst := some 13, op := Go.Op.call { callee := Go.Callee.builtin Go.Builtin.len, args := #[Go.Operand.tmp 12], argTypes := #[64] }, type := 3, pos := "law.go:29", after := #[{ on := 7, ground := Go.Ground.data }, { on := 3, ground := Go.Ground.guard }], guard := some (3, true) }
abbrev wh9 : Oper := { dst := some 14, op := Go.Op.binOp Go.BinOp.add 3 (Go.Operand.tmp 13) (Go.Operand.const (Go.Value.int Go.IntKind.i64 1)) 3, type := 3, pos := "law.go:29", after := #[{ on := 8, ground := Go.Ground.data }, { on := 3, ground := Go.Ground.guard }], guard := some (3, true) }
abbrev wh10 : Oper := { dst := some 15, op := Go.Op.slice 64 (Go.Operand.tmp 10) none (some (Go.Operand.tmp 14)) none, type := 64, pos := "law.go:29", after := #[{ on := 5, ground := Go.Ground.data }, { on := 9, ground := Go.Ground.data }, { on := 3, ground := Go.Ground.guard }], guard := some (3, true) }
abbrev wh11 : Oper := { dst := some 16, op := Go.Op.fieldAddr 66 (Go.Operand.tmp 2) 1, type := 0, pos := "law.go:29", after := #[{ on := 3, ground := Go.Ground.guard }], guard := some (3, true) }
abbrev wh12 : Oper := { dst := some 17, op := Go.Op.load 64 (Go.Operand.tmp 16), type := 64, pos := "law.go:29", after := #[{ on := 11, ground := Go.Ground.data }, { on := 3, ground := Go.Ground.guard }], guard := some (3, true) }
abbrev wh13 : Oper := { dst := some 18, op := Go.Op.call { callee := Go.Callee.builtin Go.Builtin.len, args := #[Go.Operand.tmp 17], argTypes := #[64] }, type := 3, pos := "law.go:29", after := #[{ on := 12, ground := Go.Ground.data }, { on := 3, ground := Go.Ground.guard }], guard := some (3, true) }
abbrev wh14 : Oper := { dst := some 19, op := Go.Op.indexAddr 64 (Go.Operand.tmp 15) (Go.Operand.tmp 18), type := 0, pos := "law.go:29", after := #[{ on := 10, ground := Go.Ground.data }, { on := 13, ground := Go.Ground.data }, { on := 3, ground := Go.Ground.guard }], guard := some (3, true) }
abbrev wh15 : Oper := { dst := some 20, op := Go.Op.fieldAddr 78 (Go.Operand.tmp 19) 0, type := 0, pos := "law.go:29", after := #[{ on := 14, ground := Go.Ground.data }, { on := 3, ground := Go.Ground.guard }], guard := some (3, true) }
abbrev wh16 : Oper := { dst := some 21, op := Go.Op.load 3 (Go.Operand.tmp 20), type := 3, pos := "law.go:29", after := #[{ on := 15, ground := Go.Ground.data }, { on := 3, ground := Go.Ground.guard }], guard := some (3, true) }
abbrev wh17 : Oper := { dst := some 22, op := Go.Op.binOp Go.BinOp.eql 3 (Go.Operand.tmp 21) (Go.Operand.const (Go.Value.int Go.IntKind.i64 77)) 3, type := 4, pos := "law.go:29", after := #[{ on := 16, ground := Go.Ground.data }, { on := 3, ground := Go.Ground.guard }], guard := some (3, true) }
abbrev wh18 : Oper := { dst := some 23, op := Go.Op.pick (Go.Operand.tmp 8) (Go.Operand.tmp 22) (Go.Operand.const (Go.Value.bool false)), type := 4, pos := "law.go:29", after := #[{ on := 3, ground := Go.Ground.data }, { on := 17, ground := Go.Ground.data }], guard := none }
abbrev wh19 : Oper := { dst := some 4, op := Go.Op.assign (Go.Operand.tmp 23), type := 4, pos := "law.go:29", after := #[{ on := 18, ground := Go.Ground.data }, { on := 3, ground := Go.Ground.chain }, { on := 0, ground := Go.Ground.phase }, { on := 1, ground := Go.Ground.phase }, { on := 2, ground := Go.Ground.phase }, { on := 3, ground := Go.Ground.phase }, { on := 4, ground := Go.Ground.phase }, { on := 5, ground := Go.Ground.phase }, { on := 6, ground := Go.Ground.phase }, { on := 7, ground := Go.Ground.phase }, { on := 8, ground := Go.Ground.phase }, { on := 9, ground := Go.Ground.phase }, { on := 10, ground := Go.Ground.phase }, { on := 11, ground := Go.Ground.phase }, { on := 12, ground := Go.Ground.phase }, { on := 13, ground := Go.Ground.phase }, { on := 14, ground := Go.Ground.phase }, { on := 15, ground := Go.Ground.phase }, { on := 16, ground := Go.Ground.phase }, { on := 17, ground := Go.Ground.phase }, { on := 18, ground := Go.Ground.phase }], guard := none }

theorem last_cell {w : World} {m p cap g : Nat} {ys : List Seg} {s : Seg} (h : OwnZ w m (some ⟨g, 0, none⟩) (p + 1) cap (ys ++ [s])) (hl : ys.length = p) : w.cell? ⟨g, p * 3, none⟩ = some (.int .i64 s.1) ∧ g < w.heap.size := by
  obtain ⟨b, off, e, hb, hc⟩ := h.row.2 (by omega)
  injection e with e
  injection e with e1 e2
  subst e1 e2
  have hx : (ys ++ [s]).getD p seg0 = s := by simp [List.getD, ← hl]
  have h1 := hc p (by omega)
  rw [hx] at h1
  have h2 := h1 0 _ rfl
  rw [Nat.zero_add, Nat.add_zero] at h2
  exact ⟨h2, hb.2⟩
set_option maxRecDepth 100000 in
set_option maxHeartbeats 4000000 in
theorem whole_any {w : World} {s : Int} {g p cap cap' m : Nat} {A' : Option Addr} {ys : List Seg} (hr : OwnZ w m (some ⟨g, 0, none⟩) (p + 1) cap (ys ++ [s77])) (hw : RowZ w (· < w.heap.size) A' p ys) (hp : p ≤ 40) :
    Calls Try.prog 42 #[ringV s (some ⟨g, 0, none⟩) p cap, ringV s A' p cap'] w fun e w' => e = .returned (.bool true) ∧ Below w.heap.size w w' := by
  have hv0 : TwoV w s s (.slice (some ⟨g, 0, none⟩) p cap) (.slice A' p cap') ((w.alloc (.cells #[.int .i64 s, .slice (some ⟨g, 0, none⟩) p cap] 66)).alloc (.cells #[.int .i64 s, .slice A' p cap'] 66)) :=
    ⟨((Below.refl _ w).alloc (Nat.le_refl _) _).alloc (by simp) _, (Blk.new w _ _).alloc _, blk_new2 w _ _ _⟩
  have HV := Lib.hid hv0
  have HR := Lib.hid (hr.cut hw.1).now
  have HW := Lib.hid hw
  obtain ⟨h7, hgl⟩ := last_cell hr hw.1
  have HC7 := Lib.hid h7
  have HGL := Lib.hid hgl
  have hpc : ((p : Int) + 1) ≤ cap := by have := hr.2.2.2; omega
  have hpc2 : (p : Int) ≤ cap := by omega
  have h0p : (0 : Int) ≤ (p : Int) + 1 := by omega
  have hpp : (p : Int) < (p : Int) + 1 := by omega
  have hpp2 : p < p + 1 := by omega
  clear hr hw hv0 h7 hgl
  go_enter Try.func42, Try.ntmps42
  go_upto_region 1 with fail
  generalize hw1 : (w.alloc _).alloc _ = w1 at *
  clear hw1
  refine wp_region_noPanic ?_
  refine Tillst.region (fun W => Below w1.heap.size w1 W) [] (by kernel_rfl) (Below.refl _ _).drew (fun hHeld => ?_)
  generalize w1.drew = vd at *
  refine Tillst.take (i := 0) (oi := wh0) (v := ?_) rfl (by kernel_rfl) (by kernel_rfl) (by kernel_rfl) (by kernel_rfl) (fun _ _ _ h => h) (by rfl) ?_ hHeld ?_
  rotate_left
  · intro W hSW; obtain ⟨x0, x1, y0, y1⟩ := (HV.out.next hSW).cells; unfold wh0; go_simp; with_reducible rfl
  simp only [wh0, Act.put, List.setIfInBounds_toArray, List.set_cons_zero, List.set_cons_succ]
  refine Tillst.take (i := 1) (oi := wh1) (v := ?_) rfl (by kernel_rfl) (by kernel_rfl) (by kernel_rfl) (by kernel_rfl) (fun _ _ _ h => h) (by rfl) ?_ hHeld ?_
  rotate_left
  · intro W hSW; obtain ⟨x0, x1, y0, y1⟩ := (HV.out.next hSW).cells; unfold wh1; go_simp; with_reducible rfl
  simp only [wh1, Act.put, List.setIfInBounds_toArray, List.set_cons_zero, List.set_cons_succ]
  refine Tillst.one (i := 2) (o := wh2) (by kernel_rfl) rfl ?_
  intro K hK
  refine step_call 62 #[.tmp 5, .tmp 6] #[66, 66] rfl rfl Try.func62 rfl rfl [ringV s (some ⟨g, 0, none⟩) p cap, ringV s A' p cap'] rfl ?_
  refine (ref_same (row_now HR.out (HV.out.next hHeld).1) (row_now HW.out (HV.out.next hHeld).1) s s (by omega)).mono ?_
  rintro e v2 ⟨rfl, hb⟩
  rw [show decide (s = s ∧ ys = ys) = true from decide_eq_true ⟨rfl, rfl⟩]
  refine ⟨_, rfl, ?_⟩
  simp only [wh2, Act.put, List.setIfInBounds_toArray, List.set_cons_zero, List.set_cons_succ]
  refine hK.out _ _ (fun _ => hHeld.trans (hb.mono hHeld.size)) (fun hHeld => ?_)
  replace hHeld := hHeld (by decide)
  clear hK K hb
  refine Tillst.take (i := 3) (oi := wh3) (v := ?_) rfl (by kernel_rfl) (by kernel_rfl) (by kernel_rfl) (by kernel_rfl) (fun _ _ _ h => h) (by rfl) ?_ hHeld ?_
  rotate_left
  · intro W hSW; (try dsimp only at hSW); unfold wh3; go_simp; with_reducible rfl
  simp only [wh3, Act.put, List.setIfInBounds_toArray, List.set_cons_zero, List.set_cons_succ]
  refine Tillst.take (i := 4) (oi := wh4) (v := ?_) rfl (by kernel_rfl) (by kernel_rfl) (by kernel_rfl) (by kernel_rfl) (fun _ _ _ h => h) (by rfl) ?_ hHeld ?_
  rotate_left
  · intro W hSW; (try dsimp only at hSW); unfold wh4; go_simp; with_reducible rfl
  simp only [wh4, Act.put, List.setIfInBounds_toArray, List.set_cons_zero, List.set_cons_succ]
  refine Tillst.take (i := 5) (oi := wh5) (v := ?_) rfl (by kernel_rfl) (by kernel_rfl) (by kernel_rfl) (by kernel_rfl) (fun _ _ _ h => h) (by rfl) ?_ hHeld ?_
  rotate_left
  · intro W hSW; obtain ⟨x0, x1, y0, y1⟩ := (HV.out.next hSW).cells; unfold wh5; go_simp; with_reducible rfl
  simp only [wh5, Act.put, List.setIfInBounds_toArray, List.set_cons_zero, List.set_cons_succ]
  refine Tillst.take (i := 6) (oi := wh6) (v := ?_) rfl (by kernel_rfl) (by kernel_rfl) (by kernel_rfl) (by kernel_rfl) (fun _ _ _ h => h) (by rfl) ?_ hHeld ?_
  rotate_left
  · intro W hSW; (try dsimp only at hSW); unfold wh6; go_simp; with_reducible rfl
  simp only [wh6, Act.put, List.setIfInBounds_toArray, List.set_cons_zero, List.set_cons_succ]
  refine Tillst.take (i := 7) (oi := wh7) (v := ?_) rfl (by kernel_rfl) (by kernel_rfl) (by kernel_rfl) (by kernel_rfl) (fun _ _ _ h => h) (by rfl) ?_ hHeld ?_
  rotate_left
  · intro W hSW; obtain ⟨x0, x1, y0, y1⟩ := (HV.out.next hSW).cells; unfold wh7; go_simp; with_reducible rfl
  simp only [wh7, Act.put, List.setIfInBounds_toArray, List.set_cons_zero, List.set_cons_succ]
  refine Tillst.take (i := 8) (oi := wh8) (v := ?_) rfl (by kernel_rfl) (by kernel_rfl) (by kernel_rfl) (by kernel_rfl) (fun _ _ _ h => h) (by rfl) ?_ hHeld ?_
  rotate_left
  · intro W hSW; (try dsimp only at hSW); unfold wh8; go_simp; with_reducible rfl
  simp only [wh8, Act.put, List.setIfInBounds_toArray, List.set_cons_zero, List.set_cons_succ]
  refine Tillst.take (i := 9) (oi := wh9) (v := .int .i64 ((p + 1 : Nat) : Int)) rfl (by kernel_rfl) (by kernel_rfl) (by kernel_rfl) (by kernel_rfl) (fun _ _ _ h => h) (by rfl) ?_ hHeld ?_
  · intro W hSW; (try dsimp only at hSW); unfold wh9; go_simp; (first | done | (rw [IntKind.wrap_i64]; omega) | skip)
  simp only [wh9, Act.put, List.setIfInBounds_toArray, List.set_cons_zero, List.set_cons_succ]
  refine Tillst.take (i := 10) (oi := wh10) (v := ?_) rfl (by kernel_rfl) (by kernel_rfl) (by kernel_rfl) (by kernel_rfl) (fun _ _ _ h => h) (by rfl) ?_ hHeld ?_
  rotate_left
  · intro W hSW; (try dsimp only at hSW); unfold wh10; go_simp; with_reducible rfl
  simp only [wh10, Act.put, List.setIfInBounds_toArray, List.set_cons_zero, List.set_cons_succ]
  refine Tillst.take (i := 11) (oi := wh11) (v := ?_) rfl (by kernel_rfl) (by kernel_rfl) (by kernel_rfl) (by kernel_rfl) (fun _ _ _ h => h) (by rfl) ?_ hHeld ?_
  rotate_left
  · intro W hSW; (try dsimp only at hSW); unfold wh11; go_simp; with_reducible rfl
  simp only [wh11, Act.put, List.setIfInBounds_toArray, List.set_cons_zero, List.set_cons_succ]
  refine Tillst.take (i := 12) (oi := wh12) (v := ?_) rfl (by kernel_rfl) (by kernel_rfl) (by kernel_rfl) (by kernel_rfl) (fun _ _ _ h => h) (by rfl) ?_ hHeld ?_
  rotate_left
  · intro W hSW; obtain ⟨x0, x1, y0, y1⟩ := (HV.out.next hSW).cells; unfold wh12; go_simp; with_reducible rfl
  simp only [wh12, Act.put, List.setIfInBounds_toArray, List.set_cons_zero, List.set_cons_succ]
  refine Tillst.take (i := 13) (oi := wh13) (v := ?_) rfl (by kernel_rfl) (by kernel_rfl) (by kernel_rfl) (by kernel_rfl) (fun _ _ _ h => h) (by rfl) ?_ hHeld ?_
  rotate_left
  · intro W hSW; (try dsimp only at hSW); unfold wh13; go_simp; with_reducible rfl
  simp only [wh13, Act.put, List.setIfInBounds_toArray, List.set_cons_zero, List.set_cons_succ]
  refine Tillst.take (i := 14) (oi := wh14) (v := ?_) rfl (by kernel_rfl) (by kernel_rfl) (by kernel_rfl) (by kernel_rfl) (fun _ _ _ h => h) (by rfl) ?_ hHeld ?_
  rotate_left
  · intro W hSW; (try dsimp only at hSW); unfold wh14; go_simp; with_reducible rfl
  simp only [wh14, Act.put, List.setIfInBounds_toArray, List.set_cons_zero, List.set_cons_succ]
  refine Tillst.take (i := 15) (oi := wh15) (v := ?_) rfl (by kernel_rfl) (by kernel_rfl) (by kernel_rfl) (by kernel_rfl) (fun _ _ _ h => h) (by rfl) ?_ hHeld ?_
  rotate_left
  · intro W hSW; (try dsimp only at hSW); unfold wh15; go_simp; with_reducible rfl
  simp only [wh15, Act.put, List.setIfInBounds_toArray, List.set_cons_zero, List.set_cons_succ]
  refine Tillst.take (i := 16) (oi := wh16) (v := ?_) rfl (by kernel_rfl) (by kernel_rfl) (by kernel_rfl) (by kernel_rfl) (fun _ _ _ h => h) (by rfl) ?_ hHeld ?_
  rotate_left
  · intro W hSW; have y7 : W.cell? ⟨g, p * 3, none⟩ = some (.int .i64 77) := (Below.cell (HV.out.next hSW).1 (p := ⟨g, _, none⟩) HGL.out).trans HC7.out; unfold wh16; go_simp; with_reducible rfl
  simp only [wh16, Act.put, List.setIfInBounds_toArray, List.set_cons_zero, List.set_cons_succ]
  refine Tillst.take (i := 17) (oi := wh17) (v := ?_) rfl (by kernel_rfl) (by kernel_rfl) (by kernel_rfl) (by kernel_rfl) (fun _ _ _ h => h) (by rfl) ?_ hHeld ?_
  rotate_left
  · intro W hSW; (try dsimp only at hSW); unfold wh17; go_simp; with_reducible rfl
  simp only [wh17, Act.put, List.setIfInBounds_toArray, List.set_cons_zero, List.set_cons_succ]
  refine Tillst.take (i := 18) (oi := wh18) (v := ?_) rfl (by kernel_rfl) (by kernel_rfl) (by kernel_rfl) (by kernel_rfl) (fun _ _ _ h => h) (by rfl) ?_ hHeld ?_
  rotate_left
  · intro W hSW; (try dsimp only at hSW); unfold wh18; go_simp; with_reducible rfl
  simp only [wh18, Act.put, List.setIfInBounds_toArray, List.set_cons_zero, List.set_cons_succ]
  refine Tillst.take (i := 19) (oi := wh19) (v := ?_) rfl (by kernel_rfl) (by kernel_rfl) (by kernel_rfl) (by kernel_rfl) (fun _ _ _ h => h) (by rfl) ?_ hHeld ?_
  rotate_left
  · intro W hSW; (try dsimp only at hSW); unfold wh19; go_simp; with_reducible rfl
  simp only [wh19, Act.put, List.setIfInBounds_toArray, List.set_cons_zero, List.set_cons_succ]
  refine Tillst.done (by kernel_rfl) ?_ _
  refine NoPanic.normal ?_
  have HEND := Lib.hid (HV.out.next hHeld).1
  clear hHeld
  go_wp2_with fail
  go_ret
  exact ⟨rfl, HEND.out⟩

/-- The blocks of w that are not the row's. -/
def Off (w : World) (A : Option Addr) (b : Nat) : Prop := b < w.heap.size ∧ ∀ o, A ≠ some ⟨b, o, none⟩
theorem off_base {w : World} {m n cap : Nat} {A : Option Addr} {xs : List Seg} (h : OwnZ w m A n cap xs) {b : Nat} (hb : b < m) (hl : b < w.heap.size) : Off w A b := ⟨hl, fun o e => by
  rcases h.2.1.2 with ⟨h1, _⟩ | ⟨g, cap', cur, h1, hg, _⟩
  · injection h1 with h1
    rw [h1] at e
    cases e
  · injection h1 with h1
    rw [h1] at e
    injection e with e
    injection e with e
    omega⟩
set_option maxRecDepth 100000 in
set_option maxHeartbeats 4000000 in
/-- spoil writes to its ring's own row alone. -/
theorem spoil_any {w : World} {s : Int} {n cap m : Nat} {A : Option Addr} {xs : List Seg} (h : OwnZ w m A n cap xs) (hn : n ≤ 1000) :
    Calls Try.prog 94 #[ringV s A n cap] w fun e w' => e = .returned (.tuple #[]) ∧ Kept (Off w A) w w' := by
  have HO := Lib.hid h
  clear h
  go_enter Try.func94, Try.ntmps94
  go_wp2
  go_loopw [6] (fun i wr => ∃ (j : Nat) (ys : List Seg), j ≤ n ∧ i = .int .i64 j ∧ Blk wr w.heap.size 66 #[.int .i64 s, .slice A n cap] ∧ OwnZ wr m A n cap ys ∧ Kept (Off w A) w wr) (fun i _ => n - (intOf i).toNat)
  case atStart => exact ⟨0, xs, Nat.zero_le _, rfl, Blk.new w _ _, HO.out.below ((Below.refl _ w).alloc (Nat.le_refl _) _), (Kept.refl _ w).alloc (fun b h => h.1) _⟩
  case round =>
    obtain ⟨j, ys, hj, rfl, hb, hown, hbel⟩ := hrel
    have HB := Lib.hid hb
    have HY := Lib.hid hown
    have HW := Lib.hid hbel
    obtain ⟨k0, k1⟩ := ring_cells hb
    clear hb hown hbel
    by_cases hlt : j < n
    · obtain ⟨g, rfl, hmg, hgl, hcc⟩ := own_some HO.out.2.1 (by omega)
      have HGL := Lib.hid hgl
      have HL := Lib.hid (show j < ys.length by rw [HY.out.1]; exact hlt)
      clear hmg hgl
      go_wp2_with (first
        | (refine wpList_store_ownZ (.tmp 13) (.tmp 12) rfl rfl g j (99, 0, 0) rfl rfl _ n cap ys HY.out.2.1 HL.out ?_; intro w5 ho5 hk5; have HO5 := Lib.hid ho5; have HK5 := Lib.hid hk5; clear ho5 hk5))
      go_roundw
      case rel => exact ⟨j + 1, ys.set j (99, 0, 0), by omega, by simp, HB.out.kept HK5.out (by have := HGL.out; omega), ⟨by rw [List.length_set]; exact HY.out.1, HO5.out, HY.out.2.2⟩, HW.out.trans HK5.out (fun b hb e => hb.2 0 (by rw [e]))⟩
      case measure => simp [intOf]; omega
    · obtain rfl : j = n := by omega
      go_wp2
      go_end0
      exact ⟨rfl, HW.out⟩

set_option maxRecDepth 100000 in
set_option maxHeartbeats 4000000 in
theorem turned_law {w : World} {s E : Int} {n cap cap' m : Nat} {A A' : Option Addr} {xs : List Seg} (h : OwnZ w m A n cap xs) (hw : RowZ w (· < w.heap.size) A' n xs) (hn : n ≤ 1000) :
    Calls Try.prog 53 #[ringV s A n cap, ringV s A' n cap', .int .i64 E, .int .i64 E] w fun e w' => e = .returned (.bool true) ∧ Kept (Off w A) w w' := by
  have hv0 : TwoV w s s (.slice A n cap) (.slice A' n cap') ((w.alloc (.cells #[.int .i64 s, .slice A n cap] 66)).alloc (.cells #[.int .i64 s, .slice A' n cap'] 66)) :=
    ⟨((Below.refl _ w).alloc (Nat.le_refl _) _).alloc (by simp) _, (Blk.new w _ _).alloc _, blk_new2 w _ _ _⟩
  have HV := Lib.hid hv0
  have HO := Lib.hid h
  have HW := Lib.hid hw
  have he : (E != E) = false := by simp
  clear h hw hv0
  go_enter Try.func53, Try.ntmps53
  go_wp2_with fail
  refine (ref_same (row_now HO.out.row.now HV.out.1) (row_now HW.out HV.out.1) s s hn).mono ?_
  rintro e w2 ⟨rfl, hb⟩
  rw [show decide (s = s ∧ xs = xs) = true from decide_eq_true ⟨rfl, rfl⟩]
  have HV2 := Lib.hid (HV.out.next hb)
  obtain ⟨x0, x1, y0, y1⟩ := HV2.out.cells
  clear hb
  go_wp2_with fail
  refine (spoil_any (HO.out.below HV2.out.1) hn).mono ?_
  rintro e w3 ⟨rfl, hb⟩
  have HB3 := Lib.hid ((Kept.of_below (S := Off w A) HV2.out.1 (fun b h => h.1)).trans hb (fun b h => ⟨Nat.lt_of_lt_of_le h.1 HV2.out.1.size, h.2⟩))
  clear hb
  go_wp2_with fail
  go_ret
  exact ⟨rfl, HB3.out⟩

end Go.Proofs.Ytkmbbfdjdmkjpaa
