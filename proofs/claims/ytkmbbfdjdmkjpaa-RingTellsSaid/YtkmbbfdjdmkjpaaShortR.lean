/- The laws of layer 8: short. -/
import Derived.Test.YtkmbbfdjdmkjpaaOpenR
import Derived.Test.YtkmbbfdjdmkjpaaTill
namespace Go.Proofs.Ytkmbbfdjdmkjpaa
open Go.RowKit
set_option linter.unusedVariables false
set_option linter.unusedSimpArgs false

abbrev s77 : Seg := (77, 0, 0)
theorem grown_allocZ (w : World) (o : Obj) : w.grownBy (w.alloc o) none := ⟨rfl, rfl, rfl, by simp, fun k hk _ => Below.heap_alloc _ _ _ hk⟩
theorem rowZ_grown {W W' : World} {S : Nat → Prop} {A : Option Addr} {n : Nat} {xs : List Seg} {row : Option Nat} (h : RowZ W S A n xs) (hg : W.grownBy W' row) (hS : ∀ b, S b → b < W.heap.size ∧ some b ≠ row) : RowZ W' S A n xs :=
  h.keep fun p hp => World.cell?_of_block (hg.block p.block (hS _ hp).1 (hS _ hp).2)
theorem own_form {w : World} {base n : Nat} {v : Value} {P : List Value} (h : w.ownsRow base 78 3 v (n + 1) P) : ∃ g cap, v = .slice (some ⟨g, 0, none⟩) (n + 1) cap ∧ base ≤ g ∧ g < w.heap.size ∧ n + 1 ≤ cap := by
  rcases h.2 with ⟨_, h2⟩ | ⟨g, cap', cur, h1, hb, hg, hnc, _⟩
  · omega
  · exact ⟨g, cap', h1, hb, (Array.getElem?_eq_some_iff.1 hg).1, hnc⟩
section
variable {w : World} {ops : Array Oper} {o : Oper} {a : Act} {Q : Exit → Act → World → Prop} {K : Act → World → Prop} {E : Prop}
theorem step_makeZ (x y : Operand) (ho : o.op = .makeSlice 64 x y) (hgd : Region.wanted o (yielded ops a.tmps) = true) (hx : a.eval x = .int .i64 0) (c : Nat) (hy : a.eval y = .int .i64 (c : Nat)) (hc : c ≤ 1000000)
    (base : Nat) (hb : base ≤ w.heap.size)
    (h : ∀ g0 w', (base ≤ g0 ∧ g0 < w'.heap.size) ∧ w.heap.size ≤ g0 → w'.ownsRow base 78 3 (.slice (some ⟨g0, 0, none⟩) 0 c) 0 [] → w.grownBy w' none → K (a.put o.dst (.slice (some ⟨g0, 0, none⟩) 0 c)) w') :
    if Region.wanted o (yielded ops a.tmps) = true then Oper.wp Try.prog o a w K Q else E := by
  have hmk := run_make_segs 0 c (Nat.zero_le _) hc w
  have hown : (w.alloc (.cells (flatG (List.replicate c seg0)).toArray 78)).ownsRow w.heap.size 78 3 (.slice (some ⟨w.heap.size, 0, none⟩) 0 c) 0 [] :=
    ⟨rfl, .inr ⟨w.heap.size, c, _, rfl, Nat.le_refl _, heap_alloc_new w _, Nat.zero_le _, by unfold maxLen; omega, by simp [flatG_length], rfl⟩⟩
  rw [if_pos hgd]
  unfold Oper.wp execOp
  simp only [ho, hx, hy, hmk, Sem.run_bind, Result.andThen_ok, Sem.run_pure, Int.ofNat_zero]
  have e : (Instr.makeSlice 64 (.int .i64 0) (.int .i64 (c : Nat))).run Try.prog w = .ok (.slice (some ⟨w.heap.size, 0, none⟩) 0 c) (w.alloc (.cells (flatG (List.replicate c seg0)).toArray 78)) := hmk
  simp only [e, Result.andThen_ok]
  exact h _ _ ⟨⟨hb, by simp⟩, Nat.le_refl _⟩ (own_base hown hb) (grown_allocZ w _)
theorem step_77 (x : Operand) (ho : o.op = .buildSlice 64 1 #[(0, x)]) (hgd : Region.wanted o (yielded ops a.tmps) = true) (hx : a.eval x = .agg (segC s77).toArray) (base : Nat) (hb : base ≤ w.heap.size)
    (h : ∀ g9 w', g9 = w.heap.size ∧ g9 < w'.heap.size → RowZ w' (fun b => b = g9) (some ⟨g9, 0, none⟩) 1 [s77] → w.grownBy w' none → K (a.put o.dst (.slice (some ⟨g9, 0, none⟩) 1 1)) w') :
    if Region.wanted o (yielded ops a.tmps) = true then Oper.wp Try.prog o a w K Q else E := by
  have hrow : RowZ (w.alloc (.cells (flatG [s77]).toArray 78)) (fun b => b = w.heap.size) (some ⟨w.heap.size, 0, none⟩) 1 [s77] := ArrS.row (S := fun b => b = w.heap.size) (L := [s77]) (Blk.new w _ _) rfl rfl
  rw [if_pos hgd]
  obtain ⟨i0, hi, hz0, hz1, hz2⟩ := info_parts info_seg
  refine wp_buildSlice 64 78 1 #[(0, x)] ho (flatG [s77]).toArray i0 _ Try.underlying64 hi hz0 (by rw [hz1]; decide) (by rw [hz1]; decide) ?_ (h _ _ ⟨rfl, by simp⟩ hrow (grown_allocZ w _))
  rw [hz1]
  have e : (Array.map (fun (p : Nat × Operand) => (p.1, a.eval p.2)) #[(0, x)]).toList = [(0, .agg (segC s77).toArray)] := by simp [hx]
  refine (congrArg _ e).trans ?_
  kernel_rfl
end

abbrev sh0 : Oper := { dst := some 8, op := Go.Op.move (Go.Operand.tmp 3), type := 3, pos := "law.go:23", after := #[], guard := none }
abbrev sh1 : Oper := { dst := some 9, op := Go.Op.binOp Go.BinOp.add 3 (Go.Operand.tmp 8) (Go.Operand.const (Go.Value.int Go.IntKind.i64 2)) 3, type := 3, pos := "law.go:23", after := #[{ on := 0, ground := Go.Ground.data }], guard := none }
abbrev sh2 : Oper := { dst := some 10, op := Go.Op.makeSlice 64 (Go.Operand.const (Go.Value.int Go.IntKind.i64 0)) (Go.Operand.tmp 9), type := 64, pos := "law.go:23", after := #[{ on := 1, ground := Go.Ground.data }], guard := none }
abbrev sh3 : Oper := { dst := some 11, op := Go.Op.fieldAddr 66 (Go.Operand.tmp 1) 1, type := 0, pos := "law.go:23", after := #[], guard := none }
abbrev sh4 : Oper := { dst := some 12, op := Go.Op.load 64 (Go.Operand.tmp 11), type := 64, pos := "law.go:23", after := #[{ on := 3, ground := Go.Ground.data }], guard := none }
abbrev sh5 : Oper := { dst := some 13, op := Go.Op.move (Go.Operand.tmp 3), type := 3, pos := "law.go:23", after := #[], guard := none }
abbrev sh6 : Oper := { dst := some 14, op := Go.Op.slice 64 (Go.Operand.tmp 12) none (some (Go.Operand.tmp 13)) none, type := 64, pos := "law.go:23", after := #[{ on := 4, ground := Go.Ground.data }, { on := 5, ground := Go.Ground.data }], guard := none }
abbrev sh7 : Oper := { dst := some 15, op := Go.Op.call { callee := Go.Callee.builtin Go.Builtin.append, args := #[Go.Operand.tmp 10, Go.Operand.tmp 14], argTypes := #[64, 64] }, type := 64, pos := "law.go:23", after := #[{ on := 2, ground := Go.Ground.data }, { on := 6, ground := Go.Ground.data }], guard := none }
abbrev sh8 : Oper := { dst := some 16, op := Go.Op.build 78 #[(0, Go.Operand.const (Go.Value.int Go.IntKind.i64 77))], type := 78, pos := "law.go:23", after := #[], guard := none }
abbrev sh9 : Oper := { dst := some 17, op := Go.Op.buildSlice 64 1 #[(0, Go.Operand.tmp 16)], type := 64, pos := "law.go:23", after := #[{ on := 8, ground := Go.Ground.data }], guard := none }
abbrev sh10 : Oper := { dst := some 18, op := Go.Op.call { callee := Go.Callee.builtin Go.Builtin.append, args := #[Go.Operand.tmp 15, Go.Operand.tmp 17], argTypes := #[64, 64] }, type := 64, pos := "law.go:23", after := #[{ on := 7, ground := Go.Ground.data }, { on := 9, ground := Go.Ground.data }, { on := 7, ground := Go.Ground.chain }], guard := none }
abbrev sh11 : Oper := { dst := some 19, op := Go.Op.move (Go.Operand.tmp 3), type := 3, pos := "law.go:23", after := #[], guard := none }
abbrev sh12 : Oper := { dst := some 20, op := Go.Op.slice 64 (Go.Operand.tmp 18) none (some (Go.Operand.tmp 19)) none, type := 64, pos := "law.go:23", after := #[{ on := 10, ground := Go.Ground.data }, { on := 11, ground := Go.Ground.data }], guard := none }
abbrev sh13 : Oper := { dst := some 21, op := Go.Op.fieldAddr 66 (Go.Operand.tmp 1) 1, type := 0, pos := "law.go:23", after := #[{ on := 0, ground := Go.Ground.phase }, { on := 1, ground := Go.Ground.phase }, { on := 2, ground := Go.Ground.phase }, { on := 3, ground := Go.Ground.phase }, { on := 4, ground := Go.Ground.phase }, { on := 5, ground := Go.Ground.phase }, { on := 6, ground := Go.Ground.phase }, { on := 7, ground := Go.Ground.phase }, { on := 8, ground := Go.Ground.phase }, { on := 9, ground := Go.Ground.phase }, { on := 10, ground := Go.Ground.phase }, { on := 11, ground := Go.Ground.phase }, { on := 12, ground := Go.Ground.phase }], guard := none }
abbrev sh14 : Oper := { dst := none, op := Go.Op.store 64 (Go.Operand.tmp 21) (Go.Operand.tmp 20), type := 0, pos := "law.go:23", after := #[{ on := 13, ground := Go.Ground.data }, { on := 12, ground := Go.Ground.data }, { on := 10, ground := Go.Ground.chain }, { on := 0, ground := Go.Ground.phase }, { on := 1, ground := Go.Ground.phase }, { on := 2, ground := Go.Ground.phase }, { on := 3, ground := Go.Ground.phase }, { on := 4, ground := Go.Ground.phase }, { on := 5, ground := Go.Ground.phase }, { on := 6, ground := Go.Ground.phase }, { on := 7, ground := Go.Ground.phase }, { on := 8, ground := Go.Ground.phase }, { on := 9, ground := Go.Ground.phase }, { on := 10, ground := Go.Ground.phase }, { on := 11, ground := Go.Ground.phase }, { on := 12, ground := Go.Ground.phase }], guard := none }

set_option maxRecDepth 100000 in
set_option maxHeartbeats 4000000 in
theorem short_ring {w : World} {A : Option Addr} {n c p : Nat} {xs : List Seg} (hx : RowZ w (· < w.heap.size) A n xs) (s : Int) (hnc : n ≤ c) (hn63 : n ≤ 9223372036854775807) (hnA : A = none → c = 0) (hp : p = min n 40) :
    Calls Try.prog 34 #[ringV s A n c] w fun e w' => (∃ g cap, e = .returned (ringV s (some ⟨g, 0, none⟩) p cap) ∧ OwnZ w' w.heap.size (some ⟨g, 0, none⟩) (p + 1) cap (xs.take p ++ [s77])) ∧ Below w.heap.size w w' := by
  have hmin : min (n : Int) 40 = (p : Int) := by omega
  have hp40 : p ≤ 40 := by omega
  have hpc : (p : Int) ≤ c := by omega
  have HPN := Lib.hid (show p ≤ n by omega)
  have HX := Lib.hid hx
  have HL := Lib.hid (show (xs.take p).length = p by simp [hx.1]; omega)
  clear hx hp
  go_enter Try.func34, Try.ntmps34
  go_upto_region 2 with fail
  generalize hw1 : (w.alloc _).alloc _ = w1 at *
  have HR := Lib.hid (show Blk w1 w.heap.size 66 #[.int .i64 s, .slice A n c] by rw [← hw1]; exact (Blk.new w _ _).alloc _)
  have HS := Lib.hid (show Blk w1 (w.heap.size + 1) 66 #[.int .i64 0, .slice none 0 0] by rw [← hw1]; exact blk_new2 w _ _ _)
  have HLT := Lib.hid HR.out.lt
  have HLT1 := Lib.hid HS.out.lt
  have HB1 := Lib.hid (show Below w.heap.size w w1 by rw [← hw1]; exact ((Below.refl _ _).alloc (Nat.le_refl _) _).alloc (by simp) _)
  have HX := Lib.hid (HX.out.below HB1.out (fun b h => h))
  clear hw1
  refine wp_region_noPanic ?_
  refine Tillst.region (fun W => W.cell? ⟨w.heap.size, 1, none⟩ = some (.slice A n c)) [14] (by kernel_rfl) (ring_cells HR.out).2 (fun hHeld => ?_)
  have HBW := Lib.hid ((Below.refl w1.heap.size w1).drew)
  have HZW := Lib.hid (show w1.heap.size ≤ w1.drew.heap.size from Nat.le_refl _)
  generalize w1.drew = vd at *
  refine Tillst.take (i := 0) (oi := sh0) (v := ?_) rfl (by kernel_rfl) (by kernel_rfl) (by kernel_rfl) (by kernel_rfl) (fun _ _ _ h => h) (by rfl) ?_ hHeld ?_
  rotate_left
  · intro W hSW; (try dsimp only at hSW); unfold sh0; go_simp; with_reducible rfl
  simp only [sh0, Act.put, List.setIfInBounds_toArray, List.set_cons_zero, List.set_cons_succ]
  refine Tillst.take (i := 1) (oi := sh1) (v := .int .i64 ((p + 2 : Nat) : Int)) rfl (by kernel_rfl) (by kernel_rfl) (by kernel_rfl) (by kernel_rfl) (fun _ _ _ h => h) (by rfl) ?_ hHeld ?_
  · intro W hSW; (try dsimp only at hSW); unfold sh1; go_simp; (first | done | (rw [IntKind.wrap_i64]; omega) | skip)
  simp only [sh1, Act.put, List.setIfInBounds_toArray, List.set_cons_zero, List.set_cons_succ]
  refine Tillst.take (i := 3) (oi := sh3) (v := ?_) rfl (by kernel_rfl) (by kernel_rfl) (by kernel_rfl) (by kernel_rfl) (fun _ _ _ h => h) (by rfl) ?_ hHeld ?_
  rotate_left
  · intro W hSW; (try dsimp only at hSW); unfold sh3; go_simp; with_reducible rfl
  simp only [sh3, Act.put, List.setIfInBounds_toArray, List.set_cons_zero, List.set_cons_succ]
  refine Tillst.take (i := 4) (oi := sh4) (v := ?_) rfl (by kernel_rfl) (by kernel_rfl) (by kernel_rfl) (by kernel_rfl) (fun _ _ _ h => h) (by rfl) ?_ hHeld ?_
  rotate_left
  · intro W hSW; (try dsimp only at hSW); unfold sh4; go_simp; with_reducible rfl
  simp only [sh4, Act.put, List.setIfInBounds_toArray, List.set_cons_zero, List.set_cons_succ]
  refine Tillst.take (i := 5) (oi := sh5) (v := ?_) rfl (by kernel_rfl) (by kernel_rfl) (by kernel_rfl) (by kernel_rfl) (fun _ _ _ h => h) (by rfl) ?_ hHeld ?_
  rotate_left
  · intro W hSW; (try dsimp only at hSW); unfold sh5; go_simp; with_reducible rfl
  simp only [sh5, Act.put, List.setIfInBounds_toArray, List.set_cons_zero, List.set_cons_succ]
  refine Tillst.take (i := 6) (oi := sh6) (v := ?_) rfl (by kernel_rfl) (by kernel_rfl) (by kernel_rfl) (by kernel_rfl) (fun _ _ _ h => h) (by rfl) ?_ hHeld ?_
  rotate_left
  · intro W hSW; (try dsimp only at hSW); unfold sh6; go_simp; with_reducible rfl
  simp only [sh6, Act.put, List.setIfInBounds_toArray, List.set_cons_zero, List.set_cons_succ]
  refine Tillst.take (i := 8) (oi := sh8) (v := ?_) rfl (by kernel_rfl) (by kernel_rfl) (by kernel_rfl) (by kernel_rfl) (fun _ _ _ h => h) (by rfl) ?_ hHeld ?_
  rotate_left
  · intro W hSW; (try dsimp only at hSW); unfold sh8; go_simp; with_reducible rfl
  simp only [sh8, Act.put, List.setIfInBounds_toArray, List.set_cons_zero, List.set_cons_succ]
  refine Tillst.take (i := 11) (oi := sh11) (v := ?_) rfl (by kernel_rfl) (by kernel_rfl) (by kernel_rfl) (by kernel_rfl) (fun _ _ _ h => h) (by rfl) ?_ hHeld ?_
  rotate_left
  · intro W hSW; (try dsimp only at hSW); unfold sh11; go_simp; with_reducible rfl
  simp only [sh11, Act.put, List.setIfInBounds_toArray, List.set_cons_zero, List.set_cons_succ]
  refine Tillst.two (i := 2) (j := 9) (o := sh2) (o' := sh9) (by kernel_rfl) rfl rfl ?_ ?_
  · intro K hK
    refine step_makeZ (.const (.int .i64 0)) (.tmp 9) rfl rfl rfl (p + 2) rfl (by omega) w1.heap.size HZW.out ?_
    intro g0 va hg0 hown hgrow
    have HO := Lib.hid hown
    have HG0 := Lib.hid hg0
    have HBW := Lib.hid (HBW.out.grown hgrow HZW.out (fun g h => by cases h))
    have HZW := Lib.hid (Nat.le_trans HZW.out hgrow.size)
    clear hg0 hown hgrow
    simp only [sh2, Act.put, List.setIfInBounds_toArray, List.set_cons_zero, List.set_cons_succ]
    refine hK.out _ _ (fun _ => (ring_cells (HR.out.below HBW.out HLT.out)).2) (fun hHeld => ?_)
    replace hHeld := hHeld (by decide)
    clear hK K
    refine Tillst.two (i := 7) (j := 9) (o := sh7) (o' := sh9) (by kernel_rfl) rfl rfl ?_ ?_
    · intro K hK
      refine step_append_rowZ (.tmp 10) (.tmp 14) rfl rfl w1.heap.size _ 0 [] rfl HO.out (fun b => b < w.heap.size) A p c (xs.take p) rfl (RowZ_take (HX.out.below HBW.out (fun b h => by have := HLT1.out; omega)) p HPN.out) hnA (by omega) HZW.out ?_
      intro v8 vb hown hgrow hblk
      rw [List.nil_append, Nat.zero_add] at hown
      have HO := Lib.hid hown
      have HBW := Lib.hid (HBW.out.grown hgrow HZW.out (fun g h => by (have h3 : some g0 = some g := h); injection h3 with h3; have := HG0.out.1.1; omega))
      have HZW := Lib.hid (Nat.le_trans HZW.out hgrow.size)
      clear hown hgrow hblk
      simp only [sh7, Act.put, List.setIfInBounds_toArray, List.set_cons_zero, List.set_cons_succ]
      refine hK.out _ _ (fun _ => (ring_cells (HR.out.below HBW.out HLT.out)).2) (fun hHeld => ?_)
      replace hHeld := hHeld (by decide)
      clear hK K
      refine Tillst.one (i := 9) (o := sh9) (by kernel_rfl) rfl ?_
      intro K hK
      refine step_77 (.tmp 16) rfl rfl rfl w1.heap.size HZW.out ?_
      intro g9 vc hg9 hrow hgrow
      have HV := Lib.hid hrow
      have HG9 := Lib.hid (show w1.heap.size ≤ g9 ∧ g9 < vc.heap.size from ⟨by rw [hg9.1]; exact HZW.out, hg9.2⟩)
      have HO := Lib.hid (HO.out.kept hgrow (by cases Value.ownBlock _ <;> simp))
      have HBW := Lib.hid (HBW.out.grown hgrow HZW.out (fun g h => by cases h))
      have HZW := Lib.hid (Nat.le_trans HZW.out hgrow.size)
      clear hg9 hrow hgrow
      simp only [sh9, Act.put, List.setIfInBounds_toArray, List.set_cons_zero, List.set_cons_succ]
      refine hK.out _ _ (fun _ => (ring_cells (HR.out.below HBW.out HLT.out)).2) (fun hHeld => ?_)
      replace hHeld := hHeld (by decide)
      clear hK K
      refine Tillst.one (i := 10) (o := sh10) (by kernel_rfl) rfl ?_
      intro K hK
      refine step_append_rowZ (.tmp 15) (.tmp 17) rfl rfl w1.heap.size v8 p _ rfl HO.out (fun b => b = g9) (some ⟨g9, 0, none⟩) 1 1 [s77] rfl HV.out (fun h => by cases h) (by omega) HZW.out ?_
      intro v10 vz hown hgrow _
      rw [← flatG_append] at hown
      obtain ⟨gz, capz, rfl, hlez, hltz, hcz⟩ := own_form hown
      have HRM := Lib.hid (show OwnZ vz w1.heap.size (some ⟨gz, 0, none⟩) (p + 1) capz (xs.take p ++ [s77]) from ⟨by simp [HL.out], hown, (fun h => by cases h), hcz⟩)
      have HZ := Lib.hid (show w1.heap.size ≤ gz ∧ gz < vz.heap.size from ⟨hlez, hltz⟩)
      have HBW := Lib.hid (HBW.out.grown hgrow HZW.out (fun g h => by have := own_least HO.out h; omega))
      have HCZ := Lib.hid hcz
      have hpc2 : (p : Int) ≤ capz := by omega
      clear hown hgrow hlez hltz hcz
      simp only [sh10, Act.put, List.setIfInBounds_toArray, List.set_cons_zero, List.set_cons_succ]
      refine hK.out _ _ (fun _ => (ring_cells (HR.out.below HBW.out HLT.out)).2) (fun hHeld => ?_)
      replace hHeld := hHeld (by decide)
      clear hK K
      refine Tillst.take (i := 12) (oi := sh12) (v := ?_) rfl (by kernel_rfl) (by kernel_rfl) (by kernel_rfl) (by kernel_rfl) (fun _ _ _ h => h) (by rfl) ?_ hHeld ?_
      rotate_left
      · intro W hSW; (try dsimp only at hSW); unfold sh12; go_simp; with_reducible rfl
      simp only [sh12, Act.put, List.setIfInBounds_toArray, List.set_cons_zero, List.set_cons_succ]
      refine Tillst.take (i := 13) (oi := sh13) (v := ?_) rfl (by kernel_rfl) (by kernel_rfl) (by kernel_rfl) (by kernel_rfl) (fun _ _ _ h => h) (by rfl) ?_ hHeld ?_
      rotate_left
      · intro W hSW; (try dsimp only at hSW); unfold sh13; go_simp; with_reducible rfl
      simp only [sh13, Act.put, List.setIfInBounds_toArray, List.set_cons_zero, List.set_cons_succ]
      refine Tillst.one (i := 14) (o := sh14) (by kernel_rfl) rfl ?_
      intro K hK
      refine step_store_cell (.tmp 21) (.tmp 20) 64 rfl rfl ⟨w.heap.size, 1, none⟩ (.slice (some ⟨gz, 0, none⟩) p capz) rfl rfl ?_ ?_
      · have f := (HR.out.below HBW.out HLT.out).frozen 1
        have cc := (ring_cells (HR.out.below HBW.out HLT.out)).2
        simp [go_sem, f, cc, Try.underlying64]
      simp only [sh14, Act.put, List.setIfInBounds_toArray, List.set_cons_zero, List.set_cons_succ]
      refine hK.out _ _ (fun h => absurd h (by decide)) (fun _ => ?_)
      clear hK K
      refine Tillst.done (by kernel_rfl) ?_ _
      refine NoPanic.normal ?_
      have hk5 := (HR.out.below HBW.out HLT.out).set_ 1 (.slice (some ⟨gz, 0, none⟩) p capz)
      have hs5 := (HS.out.below HBW.out HLT1.out).far (p := ⟨w.heap.size, 1, none⟩) (by show w.heap.size + 1 ≠ w.heap.size; omega) (.slice (some ⟨gz, 0, none⟩) p capz)
      have hr5 := HRM.out.far (p := ⟨w.heap.size, 1, none⟩) HLT.out (.slice (some ⟨gz, 0, none⟩) p capz)
      have hb5 := (HB1.out.trans (HBW.out.mono HB1.out.size)).setCell (p := ⟨w.heap.size, 1, none⟩) (Nat.le_refl _) (.slice (some ⟨gz, 0, none⟩) p capz)
      generalize vz.setCell ⟨w.heap.size, 1, none⟩ (.slice (some ⟨gz, 0, none⟩) p capz) = w5 at *
      obtain ⟨k0, k1⟩ := ring_cells hk5
      obtain ⟨j0, j1⟩ := ring_cells hs5
      obtain ⟨f0, f1⟩ := And.intro (hs5.frozen 0) (hs5.frozen 1)
      have HS5 := Lib.hid hs5
      have HR5 := Lib.hid hr5
      have HB5 := Lib.hid hb5
      clear hs5 hr5 hb5 hk5 hHeld
      go_wp2_with (with_reducible refine halt_end ?_)
      exact Halt.ret (results_row1 rfl _ _ (w.heap.size + 1) 66 #[.int .i64 s, .slice (some ⟨gz, 0, none⟩) p capz] _ rfl ((HS5.out.set_ 0 (.int .i64 s)).set_ 1 (.slice (some ⟨gz, 0, none⟩) p capz)) Try.underlying66 rfl size_ring) rfl ⟨⟨gz, capz, rfl, ((HR5.out.far (p := ⟨w.heap.size + 1, 0, none⟩) HLT1.out (.int .i64 s)).far (p := ⟨w.heap.size + 1, 1, none⟩) HLT1.out (.slice (some ⟨gz, 0, none⟩) p capz)).base HB1.out.size⟩, (HB5.out.setCell (p := ⟨w.heap.size + 1, 0, none⟩) (by simp) _).setCell (p := ⟨w.heap.size + 1, 1, none⟩) (by simp) _⟩
    · intro K hK
      refine step_77 (.tmp 16) rfl rfl rfl w1.heap.size HZW.out ?_
      intro g9 vb hg9 hrow hgrow
      have HV := Lib.hid hrow
      have HG9 := Lib.hid (show w1.heap.size ≤ g9 ∧ g9 < vb.heap.size from ⟨by rw [hg9.1]; exact HZW.out, hg9.2⟩)
      have HO := Lib.hid (HO.out.kept hgrow (by cases Value.ownBlock _ <;> simp))
      have HNE := Lib.hid (show g9 ≠ g0 by have h := HG0.out.1.2; have := hg9.1; omega)
      have HBW := Lib.hid (HBW.out.grown hgrow HZW.out (fun g h => by cases h))
      have HZW := Lib.hid (Nat.le_trans HZW.out hgrow.size)
      clear hg9 hrow hgrow
      simp only [sh9, Act.put, List.setIfInBounds_toArray, List.set_cons_zero, List.set_cons_succ]
      refine hK.out _ _ (fun _ => (ring_cells (HR.out.below HBW.out HLT.out)).2) (fun hHeld => ?_)
      replace hHeld := hHeld (by decide)
      clear hK K
      refine Tillst.one (i := 7) (o := sh7) (by kernel_rfl) rfl ?_
      intro K hK
      refine step_append_rowZ (.tmp 10) (.tmp 14) rfl rfl w1.heap.size _ 0 [] rfl HO.out (fun b => b < w.heap.size) A p c (xs.take p) rfl (RowZ_take (HX.out.below HBW.out (fun b h => by have := HLT1.out; omega)) p HPN.out) hnA (by omega) HZW.out ?_
      intro v8 vc hown hgrow hblk
      rw [List.nil_append, Nat.zero_add] at hown
      have HO := Lib.hid hown
      have HV := Lib.hid (rowZ_grown HV.out hgrow (fun b hb => ⟨by rw [hb]; exact HG9.out.2, fun h => HNE.out (Option.some.inj (show some g9 = some g0 by rw [← hb]; exact h))⟩))
      have HG9 := Lib.hid (show w1.heap.size ≤ g9 ∧ g9 < vc.heap.size from ⟨HG9.out.1, Nat.lt_of_lt_of_le HG9.out.2 hgrow.size⟩)
      have HBW := Lib.hid (HBW.out.grown hgrow HZW.out (fun g h => by (have h3 : some g0 = some g := h); injection h3 with h3; have := HG0.out.1.1; omega))
      have HZW := Lib.hid (Nat.le_trans HZW.out hgrow.size)
      clear hown hgrow hblk
      simp only [sh7, Act.put, List.setIfInBounds_toArray, List.set_cons_zero, List.set_cons_succ]
      refine hK.out _ _ (fun _ => (ring_cells (HR.out.below HBW.out HLT.out)).2) (fun hHeld => ?_)
      replace hHeld := hHeld (by decide)
      clear hK K
      refine Tillst.one (i := 10) (o := sh10) (by kernel_rfl) rfl ?_
      intro K hK
      refine step_append_rowZ (.tmp 15) (.tmp 17) rfl rfl w1.heap.size v8 p _ rfl HO.out (fun b => b = g9) (some ⟨g9, 0, none⟩) 1 1 [s77] rfl HV.out (fun h => by cases h) (by omega) HZW.out ?_
      intro v10 vz hown hgrow _
      rw [← flatG_append] at hown
      obtain ⟨gz, capz, rfl, hlez, hltz, hcz⟩ := own_form hown
      have HRM := Lib.hid (show OwnZ vz w1.heap.size (some ⟨gz, 0, none⟩) (p + 1) capz (xs.take p ++ [s77]) from ⟨by simp [HL.out], hown, (fun h => by cases h), hcz⟩)
      have HZ := Lib.hid (show w1.heap.size ≤ gz ∧ gz < vz.heap.size from ⟨hlez, hltz⟩)
      have HBW := Lib.hid (HBW.out.grown hgrow HZW.out (fun g h => by have := own_least HO.out h; omega))
      have HCZ := Lib.hid hcz
      have hpc2 : (p : Int) ≤ capz := by omega
      clear hown hgrow hlez hltz hcz
      simp only [sh10, Act.put, List.setIfInBounds_toArray, List.set_cons_zero, List.set_cons_succ]
      refine hK.out _ _ (fun _ => (ring_cells (HR.out.below HBW.out HLT.out)).2) (fun hHeld => ?_)
      replace hHeld := hHeld (by decide)
      clear hK K
      refine Tillst.take (i := 12) (oi := sh12) (v := ?_) rfl (by kernel_rfl) (by kernel_rfl) (by kernel_rfl) (by kernel_rfl) (fun _ _ _ h => h) (by rfl) ?_ hHeld ?_
      rotate_left
      · intro W hSW; (try dsimp only at hSW); unfold sh12; go_simp; with_reducible rfl
      simp only [sh12, Act.put, List.setIfInBounds_toArray, List.set_cons_zero, List.set_cons_succ]
      refine Tillst.take (i := 13) (oi := sh13) (v := ?_) rfl (by kernel_rfl) (by kernel_rfl) (by kernel_rfl) (by kernel_rfl) (fun _ _ _ h => h) (by rfl) ?_ hHeld ?_
      rotate_left
      · intro W hSW; (try dsimp only at hSW); unfold sh13; go_simp; with_reducible rfl
      simp only [sh13, Act.put, List.setIfInBounds_toArray, List.set_cons_zero, List.set_cons_succ]
      refine Tillst.one (i := 14) (o := sh14) (by kernel_rfl) rfl ?_
      intro K hK
      refine step_store_cell (.tmp 21) (.tmp 20) 64 rfl rfl ⟨w.heap.size, 1, none⟩ (.slice (some ⟨gz, 0, none⟩) p capz) rfl rfl ?_ ?_
      · have f := (HR.out.below HBW.out HLT.out).frozen 1
        have cc := (ring_cells (HR.out.below HBW.out HLT.out)).2
        simp [go_sem, f, cc, Try.underlying64]
      simp only [sh14, Act.put, List.setIfInBounds_toArray, List.set_cons_zero, List.set_cons_succ]
      refine hK.out _ _ (fun h => absurd h (by decide)) (fun _ => ?_)
      clear hK K
      refine Tillst.done (by kernel_rfl) ?_ _
      refine NoPanic.normal ?_
      have hk5 := (HR.out.below HBW.out HLT.out).set_ 1 (.slice (some ⟨gz, 0, none⟩) p capz)
      have hs5 := (HS.out.below HBW.out HLT1.out).far (p := ⟨w.heap.size, 1, none⟩) (by show w.heap.size + 1 ≠ w.heap.size; omega) (.slice (some ⟨gz, 0, none⟩) p capz)
      have hr5 := HRM.out.far (p := ⟨w.heap.size, 1, none⟩) HLT.out (.slice (some ⟨gz, 0, none⟩) p capz)
      have hb5 := (HB1.out.trans (HBW.out.mono HB1.out.size)).setCell (p := ⟨w.heap.size, 1, none⟩) (Nat.le_refl _) (.slice (some ⟨gz, 0, none⟩) p capz)
      generalize vz.setCell ⟨w.heap.size, 1, none⟩ (.slice (some ⟨gz, 0, none⟩) p capz) = w5 at *
      obtain ⟨k0, k1⟩ := ring_cells hk5
      obtain ⟨j0, j1⟩ := ring_cells hs5
      obtain ⟨f0, f1⟩ := And.intro (hs5.frozen 0) (hs5.frozen 1)
      have HS5 := Lib.hid hs5
      have HR5 := Lib.hid hr5
      have HB5 := Lib.hid hb5
      clear hs5 hr5 hb5 hk5 hHeld
      go_wp2_with (with_reducible refine halt_end ?_)
      exact Halt.ret (results_row1 rfl _ _ (w.heap.size + 1) 66 #[.int .i64 s, .slice (some ⟨gz, 0, none⟩) p capz] _ rfl ((HS5.out.set_ 0 (.int .i64 s)).set_ 1 (.slice (some ⟨gz, 0, none⟩) p capz)) Try.underlying66 rfl size_ring) rfl ⟨⟨gz, capz, rfl, ((HR5.out.far (p := ⟨w.heap.size + 1, 0, none⟩) HLT1.out (.int .i64 s)).far (p := ⟨w.heap.size + 1, 1, none⟩) HLT1.out (.slice (some ⟨gz, 0, none⟩) p capz)).base HB1.out.size⟩, (HB5.out.setCell (p := ⟨w.heap.size + 1, 0, none⟩) (by simp) _).setCell (p := ⟨w.heap.size + 1, 1, none⟩) (by simp) _⟩
  · intro K hK
    refine step_77 (.tmp 16) rfl rfl rfl w1.heap.size HZW.out ?_
    intro g9 va hg9 hrow hgrow
    have HV := Lib.hid hrow
    have HG9 := Lib.hid (show w1.heap.size ≤ g9 ∧ g9 < va.heap.size from ⟨by rw [hg9.1]; exact HZW.out, hg9.2⟩)
    have HBW := Lib.hid (HBW.out.grown hgrow HZW.out (fun g h => by cases h))
    have HZW := Lib.hid (Nat.le_trans HZW.out hgrow.size)
    clear hg9 hrow hgrow
    simp only [sh9, Act.put, List.setIfInBounds_toArray, List.set_cons_zero, List.set_cons_succ]
    refine hK.out _ _ (fun _ => (ring_cells (HR.out.below HBW.out HLT.out)).2) (fun hHeld => ?_)
    replace hHeld := hHeld (by decide)
    clear hK K
    refine Tillst.one (i := 2) (o := sh2) (by kernel_rfl) rfl ?_
    intro K hK
    refine step_makeZ (.const (.int .i64 0)) (.tmp 9) rfl rfl rfl (p + 2) rfl (by omega) w1.heap.size HZW.out ?_
    intro g0 vb hg0 hown hgrow
    have HO := Lib.hid hown
    have HG0 := Lib.hid hg0
    have HV := Lib.hid (rowZ_grown HV.out hgrow (fun b hb => ⟨by rw [hb]; exact HG9.out.2, fun h => by cases h⟩))
    have HNE := Lib.hid (show g9 ≠ g0 by have := HG9.out.2; have := hg0.2; omega)
    have HG9 := Lib.hid (show w1.heap.size ≤ g9 ∧ g9 < vb.heap.size from ⟨HG9.out.1, Nat.lt_of_lt_of_le HG9.out.2 hgrow.size⟩)
    have HBW := Lib.hid (HBW.out.grown hgrow HZW.out (fun g h => by cases h))
    have HZW := Lib.hid (Nat.le_trans HZW.out hgrow.size)
    clear hg0 hown hgrow
    simp only [sh2, Act.put, List.setIfInBounds_toArray, List.set_cons_zero, List.set_cons_succ]
    refine hK.out _ _ (fun _ => (ring_cells (HR.out.below HBW.out HLT.out)).2) (fun hHeld => ?_)
    replace hHeld := hHeld (by decide)
    clear hK K
    refine Tillst.one (i := 7) (o := sh7) (by kernel_rfl) rfl ?_
    intro K hK
    refine step_append_rowZ (.tmp 10) (.tmp 14) rfl rfl w1.heap.size _ 0 [] rfl HO.out (fun b => b < w.heap.size) A p c (xs.take p) rfl (RowZ_take (HX.out.below HBW.out (fun b h => by have := HLT1.out; omega)) p HPN.out) hnA (by omega) HZW.out ?_
    intro v8 vc hown hgrow hblk
    rw [List.nil_append, Nat.zero_add] at hown
    have HO := Lib.hid hown
    have HV := Lib.hid (rowZ_grown HV.out hgrow (fun b hb => ⟨by rw [hb]; exact HG9.out.2, fun h => HNE.out (Option.some.inj (show some g9 = some g0 by rw [← hb]; exact h))⟩))
    have HG9 := Lib.hid (show w1.heap.size ≤ g9 ∧ g9 < vc.heap.size from ⟨HG9.out.1, Nat.lt_of_lt_of_le HG9.out.2 hgrow.size⟩)
    have HBW := Lib.hid (HBW.out.grown hgrow HZW.out (fun g h => by (have h3 : some g0 = some g := h); injection h3 with h3; have := HG0.out.1.1; omega))
    have HZW := Lib.hid (Nat.le_trans HZW.out hgrow.size)
    clear hown hgrow hblk
    simp only [sh7, Act.put, List.setIfInBounds_toArray, List.set_cons_zero, List.set_cons_succ]
    refine hK.out _ _ (fun _ => (ring_cells (HR.out.below HBW.out HLT.out)).2) (fun hHeld => ?_)
    replace hHeld := hHeld (by decide)
    clear hK K
    refine Tillst.one (i := 10) (o := sh10) (by kernel_rfl) rfl ?_
    intro K hK
    refine step_append_rowZ (.tmp 15) (.tmp 17) rfl rfl w1.heap.size v8 p _ rfl HO.out (fun b => b = g9) (some ⟨g9, 0, none⟩) 1 1 [s77] rfl HV.out (fun h => by cases h) (by omega) HZW.out ?_
    intro v10 vz hown hgrow _
    rw [← flatG_append] at hown
    obtain ⟨gz, capz, rfl, hlez, hltz, hcz⟩ := own_form hown
    have HRM := Lib.hid (show OwnZ vz w1.heap.size (some ⟨gz, 0, none⟩) (p + 1) capz (xs.take p ++ [s77]) from ⟨by simp [HL.out], hown, (fun h => by cases h), hcz⟩)
    have HZ := Lib.hid (show w1.heap.size ≤ gz ∧ gz < vz.heap.size from ⟨hlez, hltz⟩)
    have HBW := Lib.hid (HBW.out.grown hgrow HZW.out (fun g h => by have := own_least HO.out h; omega))
    have HCZ := Lib.hid hcz
    have hpc2 : (p : Int) ≤ capz := by omega
    clear hown hgrow hlez hltz hcz
    simp only [sh10, Act.put, List.setIfInBounds_toArray, List.set_cons_zero, List.set_cons_succ]
    refine hK.out _ _ (fun _ => (ring_cells (HR.out.below HBW.out HLT.out)).2) (fun hHeld => ?_)
    replace hHeld := hHeld (by decide)
    clear hK K
    refine Tillst.take (i := 12) (oi := sh12) (v := ?_) rfl (by kernel_rfl) (by kernel_rfl) (by kernel_rfl) (by kernel_rfl) (fun _ _ _ h => h) (by rfl) ?_ hHeld ?_
    rotate_left
    · intro W hSW; (try dsimp only at hSW); unfold sh12; go_simp; with_reducible rfl
    simp only [sh12, Act.put, List.setIfInBounds_toArray, List.set_cons_zero, List.set_cons_succ]
    refine Tillst.take (i := 13) (oi := sh13) (v := ?_) rfl (by kernel_rfl) (by kernel_rfl) (by kernel_rfl) (by kernel_rfl) (fun _ _ _ h => h) (by rfl) ?_ hHeld ?_
    rotate_left
    · intro W hSW; (try dsimp only at hSW); unfold sh13; go_simp; with_reducible rfl
    simp only [sh13, Act.put, List.setIfInBounds_toArray, List.set_cons_zero, List.set_cons_succ]
    refine Tillst.one (i := 14) (o := sh14) (by kernel_rfl) rfl ?_
    intro K hK
    refine step_store_cell (.tmp 21) (.tmp 20) 64 rfl rfl ⟨w.heap.size, 1, none⟩ (.slice (some ⟨gz, 0, none⟩) p capz) rfl rfl ?_ ?_
    · have f := (HR.out.below HBW.out HLT.out).frozen 1
      have cc := (ring_cells (HR.out.below HBW.out HLT.out)).2
      simp [go_sem, f, cc, Try.underlying64]
    simp only [sh14, Act.put, List.setIfInBounds_toArray, List.set_cons_zero, List.set_cons_succ]
    refine hK.out _ _ (fun h => absurd h (by decide)) (fun _ => ?_)
    clear hK K
    refine Tillst.done (by kernel_rfl) ?_ _
    refine NoPanic.normal ?_
    have hk5 := (HR.out.below HBW.out HLT.out).set_ 1 (.slice (some ⟨gz, 0, none⟩) p capz)
    have hs5 := (HS.out.below HBW.out HLT1.out).far (p := ⟨w.heap.size, 1, none⟩) (by show w.heap.size + 1 ≠ w.heap.size; omega) (.slice (some ⟨gz, 0, none⟩) p capz)
    have hr5 := HRM.out.far (p := ⟨w.heap.size, 1, none⟩) HLT.out (.slice (some ⟨gz, 0, none⟩) p capz)
    have hb5 := (HB1.out.trans (HBW.out.mono HB1.out.size)).setCell (p := ⟨w.heap.size, 1, none⟩) (Nat.le_refl _) (.slice (some ⟨gz, 0, none⟩) p capz)
    generalize vz.setCell ⟨w.heap.size, 1, none⟩ (.slice (some ⟨gz, 0, none⟩) p capz) = w5 at *
    obtain ⟨k0, k1⟩ := ring_cells hk5
    obtain ⟨j0, j1⟩ := ring_cells hs5
    obtain ⟨f0, f1⟩ := And.intro (hs5.frozen 0) (hs5.frozen 1)
    have HS5 := Lib.hid hs5
    have HR5 := Lib.hid hr5
    have HB5 := Lib.hid hb5
    clear hs5 hr5 hb5 hk5 hHeld
    go_wp2_with (with_reducible refine halt_end ?_)
    exact Halt.ret (results_row1 rfl _ _ (w.heap.size + 1) 66 #[.int .i64 s, .slice (some ⟨gz, 0, none⟩) p capz] _ rfl ((HS5.out.set_ 0 (.int .i64 s)).set_ 1 (.slice (some ⟨gz, 0, none⟩) p capz)) Try.underlying66 rfl size_ring) rfl ⟨⟨gz, capz, rfl, ((HR5.out.far (p := ⟨w.heap.size + 1, 0, none⟩) HLT1.out (.int .i64 s)).far (p := ⟨w.heap.size + 1, 1, none⟩) HLT1.out (.slice (some ⟨gz, 0, none⟩) p capz)).base HB1.out.size⟩, (HB5.out.setCell (p := ⟨w.heap.size + 1, 0, none⟩) (by simp) _).setCell (p := ⟨w.heap.size + 1, 1, none⟩) (by simp) _⟩

end Go.Proofs.Ytkmbbfdjdmkjpaa
