/- The law's does: an op by the program and by the document. MADE by mkdoes.py. -/
import Derived.Test.YtfgmbkflpdobcaaDoc10
import Derived.Test.YtfgmbkflpdobcaaDrop
import Derived.Test.YtfgmbkflpdobcaaTillG
import Derived.Test.YtfgmbkflpdobcaaSameA
namespace Go.Proofs.Ytfgmbkflpdobcaa
open Go.RowKit
attribute [local go_sem] Oper.semAt_some
set_option linter.unusedVariables false
set_option linter.unusedSimpArgs false
open EntM (RowE entV ent0)
abbrev da0 : Oper := { dst := some 55, op := Go.Op.move (Go.Operand.tmp 1), type := 40, pos := "law.go:79", after := #[], guard := none }
abbrev da1 : Oper := { dst := some 56, op := Go.Op.move (Go.Operand.tmp 1), type := 40, pos := "law.go:79", after := #[], guard := none }
abbrev da2 : Oper := { dst := some 57, op := Go.Op.nilCheck (Go.Operand.tmp 56), type := 0, pos := "law.go:79", after := #[{ on := 1, ground := Go.Ground.data }], guard := none }
abbrev da3 : Oper := { dst := some 58, op := Go.Op.load 31 (Go.Operand.tmp 57), type := 31, pos := "law.go:79", after := #[{ on := 2, ground := Go.Ground.data }], guard := none }
abbrev da4 : Oper := { dst := some 59, op := Go.Op.fieldAddr 38 (Go.Operand.tmp 5) 1, type := 0, pos := "law.go:79", after := #[], guard := none }
abbrev da5 : Oper := { dst := some 60, op := Go.Op.load 33 (Go.Operand.tmp 59), type := 33, pos := "law.go:79", after := #[{ on := 4, ground := Go.Ground.data }], guard := none }
abbrev da6 : Oper := { dst := some 61, op := Go.Op.fieldAddr 38 (Go.Operand.tmp 5) 2, type := 0, pos := "law.go:79", after := #[], guard := none }
abbrev da7 : Oper := { dst := some 62, op := Go.Op.load 36 (Go.Operand.tmp 61), type := 36, pos := "law.go:79", after := #[{ on := 6, ground := Go.Ground.data }], guard := none }
abbrev da8 : Oper := { dst := some 63, op := Go.Op.call { callee := Go.Callee.value (Go.Operand.func 24), args := #[Go.Operand.tmp 58, Go.Operand.tmp 60, Go.Operand.tmp 62], argTypes := #[40, 33, 36] }, type := 64, pos := "law.go:79", after := #[{ on := 3, ground := Go.Ground.data }, { on := 5, ground := Go.Ground.data }, { on := 7, ground := Go.Ground.data }], guard := none }
abbrev da9 : Oper := { dst := some 54, op := Go.Op.move (Go.Operand.tmp 63), type := 64, pos := "law.go:79", after := #[{ on := 8, ground := Go.Ground.data }], guard := none }
abbrev da10 : Oper := { dst := some 64, op := Go.Op.extract (Go.Operand.tmp 54) 0, type := 31, pos := "law.go:79", after := #[{ on := 9, ground := Go.Ground.data }], guard := none }
abbrev da11 : Oper := { dst := some 65, op := Go.Op.extract (Go.Operand.tmp 54) 1, type := 26, pos := "law.go:79", after := #[{ on := 9, ground := Go.Ground.data }, { on := 13, ground := Go.Ground.gcOnly Go.Departure.lateStores }], guard := none }
abbrev da12 : Oper := { dst := some 66, op := Go.Op.nilCheck (Go.Operand.tmp 55), type := 0, pos := "law.go:79", after := #[{ on := 0, ground := Go.Ground.data }, { on := 0, ground := Go.Ground.phase }, { on := 1, ground := Go.Ground.phase }, { on := 2, ground := Go.Ground.phase }, { on := 3, ground := Go.Ground.phase }, { on := 4, ground := Go.Ground.phase }, { on := 5, ground := Go.Ground.phase }, { on := 6, ground := Go.Ground.phase }, { on := 7, ground := Go.Ground.phase }, { on := 8, ground := Go.Ground.phase }, { on := 9, ground := Go.Ground.phase }, { on := 10, ground := Go.Ground.phase }, { on := 11, ground := Go.Ground.textOnly Go.Departure.lateStores }], guard := none }
abbrev da13 : Oper := { dst := none, op := Go.Op.store 31 (Go.Operand.tmp 66) (Go.Operand.tmp 64), type := 0, pos := "law.go:79", after := #[{ on := 12, ground := Go.Ground.data }, { on := 10, ground := Go.Ground.data }, { on := 8, ground := Go.Ground.chain }, { on := 0, ground := Go.Ground.phase }, { on := 1, ground := Go.Ground.phase }, { on := 2, ground := Go.Ground.phase }, { on := 3, ground := Go.Ground.phase }, { on := 4, ground := Go.Ground.phase }, { on := 5, ground := Go.Ground.phase }, { on := 6, ground := Go.Ground.phase }, { on := 7, ground := Go.Ground.phase }, { on := 8, ground := Go.Ground.phase }, { on := 9, ground := Go.Ground.phase }, { on := 10, ground := Go.Ground.phase }, { on := 11, ground := Go.Ground.textOnly Go.Departure.lateStores }], guard := none }
abbrev da14 : Oper := { dst := some 8, op := Go.Op.assign (Go.Operand.tmp 65), type := 26, pos := "law.go:79", after := #[{ on := 11, ground := Go.Ground.data }, { on := 13, ground := Go.Ground.chain }, { on := 0, ground := Go.Ground.phase }, { on := 1, ground := Go.Ground.phase }, { on := 2, ground := Go.Ground.phase }, { on := 3, ground := Go.Ground.phase }, { on := 4, ground := Go.Ground.phase }, { on := 5, ground := Go.Ground.phase }, { on := 6, ground := Go.Ground.phase }, { on := 7, ground := Go.Ground.phase }, { on := 8, ground := Go.Ground.phase }, { on := 9, ground := Go.Ground.phase }, { on := 10, ground := Go.Ground.phase }, { on := 11, ground := Go.Ground.phase }, { on := 12, ground := Go.Ground.phase }, { on := 13, ground := Go.Ground.phase }], guard := none }
abbrev dr0 : Oper := { dst := some 76, op := Go.Op.move (Go.Operand.tmp 1), type := 40, pos := "law.go:82", after := #[], guard := none }
abbrev dr1 : Oper := { dst := some 77, op := Go.Op.move (Go.Operand.tmp 1), type := 40, pos := "law.go:82", after := #[], guard := none }
abbrev dr2 : Oper := { dst := some 78, op := Go.Op.nilCheck (Go.Operand.tmp 77), type := 0, pos := "law.go:82", after := #[{ on := 1, ground := Go.Ground.data }], guard := none }
abbrev dr3 : Oper := { dst := some 79, op := Go.Op.load 31 (Go.Operand.tmp 78), type := 31, pos := "law.go:82", after := #[{ on := 2, ground := Go.Ground.data }], guard := none }
abbrev dr4 : Oper := { dst := some 80, op := Go.Op.fieldAddr 38 (Go.Operand.tmp 5) 1, type := 0, pos := "law.go:82", after := #[], guard := none }
abbrev dr5 : Oper := { dst := some 81, op := Go.Op.load 33 (Go.Operand.tmp 80), type := 33, pos := "law.go:82", after := #[{ on := 4, ground := Go.Ground.data }], guard := none }
abbrev dr6 : Oper := { dst := some 82, op := Go.Op.fieldAddr 38 (Go.Operand.tmp 5) 2, type := 0, pos := "law.go:82", after := #[], guard := none }
abbrev dr7 : Oper := { dst := some 83, op := Go.Op.load 36 (Go.Operand.tmp 82), type := 36, pos := "law.go:82", after := #[{ on := 6, ground := Go.Ground.data }], guard := none }
abbrev dr8 : Oper := { dst := some 84, op := Go.Op.call { callee := Go.Callee.value (Go.Operand.func 25), args := #[Go.Operand.tmp 79, Go.Operand.tmp 81, Go.Operand.tmp 83], argTypes := #[40, 33, 36] }, type := 64, pos := "law.go:82", after := #[{ on := 3, ground := Go.Ground.data }, { on := 5, ground := Go.Ground.data }, { on := 7, ground := Go.Ground.data }], guard := none }
abbrev dr9 : Oper := { dst := some 75, op := Go.Op.move (Go.Operand.tmp 84), type := 64, pos := "law.go:82", after := #[{ on := 8, ground := Go.Ground.data }], guard := none }
abbrev dr10 : Oper := { dst := some 85, op := Go.Op.extract (Go.Operand.tmp 75) 0, type := 31, pos := "law.go:82", after := #[{ on := 9, ground := Go.Ground.data }], guard := none }
abbrev dr11 : Oper := { dst := some 86, op := Go.Op.extract (Go.Operand.tmp 75) 1, type := 26, pos := "law.go:82", after := #[{ on := 9, ground := Go.Ground.data }, { on := 13, ground := Go.Ground.gcOnly Go.Departure.lateStores }], guard := none }
abbrev dr12 : Oper := { dst := some 87, op := Go.Op.nilCheck (Go.Operand.tmp 76), type := 0, pos := "law.go:82", after := #[{ on := 0, ground := Go.Ground.data }, { on := 0, ground := Go.Ground.phase }, { on := 1, ground := Go.Ground.phase }, { on := 2, ground := Go.Ground.phase }, { on := 3, ground := Go.Ground.phase }, { on := 4, ground := Go.Ground.phase }, { on := 5, ground := Go.Ground.phase }, { on := 6, ground := Go.Ground.phase }, { on := 7, ground := Go.Ground.phase }, { on := 8, ground := Go.Ground.phase }, { on := 9, ground := Go.Ground.phase }, { on := 10, ground := Go.Ground.phase }, { on := 11, ground := Go.Ground.textOnly Go.Departure.lateStores }], guard := none }
abbrev dr13 : Oper := { dst := none, op := Go.Op.store 31 (Go.Operand.tmp 87) (Go.Operand.tmp 85), type := 0, pos := "law.go:82", after := #[{ on := 12, ground := Go.Ground.data }, { on := 10, ground := Go.Ground.data }, { on := 8, ground := Go.Ground.chain }, { on := 0, ground := Go.Ground.phase }, { on := 1, ground := Go.Ground.phase }, { on := 2, ground := Go.Ground.phase }, { on := 3, ground := Go.Ground.phase }, { on := 4, ground := Go.Ground.phase }, { on := 5, ground := Go.Ground.phase }, { on := 6, ground := Go.Ground.phase }, { on := 7, ground := Go.Ground.phase }, { on := 8, ground := Go.Ground.phase }, { on := 9, ground := Go.Ground.phase }, { on := 10, ground := Go.Ground.phase }, { on := 11, ground := Go.Ground.textOnly Go.Departure.lateStores }], guard := none }
abbrev dr14 : Oper := { dst := some 8, op := Go.Op.assign (Go.Operand.tmp 86), type := 26, pos := "law.go:82", after := #[{ on := 11, ground := Go.Ground.data }, { on := 13, ground := Go.Ground.chain }, { on := 0, ground := Go.Ground.phase }, { on := 1, ground := Go.Ground.phase }, { on := 2, ground := Go.Ground.phase }, { on := 3, ground := Go.Ground.phase }, { on := 4, ground := Go.Ground.phase }, { on := 5, ground := Go.Ground.phase }, { on := 6, ground := Go.Ground.phase }, { on := 7, ground := Go.Ground.phase }, { on := 8, ground := Go.Ground.phase }, { on := 9, ground := Go.Ground.phase }, { on := 10, ground := Go.Ground.phase }, { on := 11, ground := Go.Ground.phase }, { on := 12, ground := Go.Ground.phase }, { on := 13, ground := Go.Ground.phase }], guard := none }
abbrev dd0 : Oper := { dst := some 96, op := Go.Op.move (Go.Operand.tmp 1), type := 40, pos := "law.go:85", after := #[], guard := none }
abbrev dd1 : Oper := { dst := some 97, op := Go.Op.nilCheck (Go.Operand.tmp 96), type := 0, pos := "law.go:85", after := #[{ on := 0, ground := Go.Ground.data }], guard := none }
abbrev dd2 : Oper := { dst := some 98, op := Go.Op.load 31 (Go.Operand.tmp 97), type := 31, pos := "law.go:85", after := #[{ on := 1, ground := Go.Ground.data }], guard := none }
abbrev dd3 : Oper := { dst := some 99, op := Go.Op.fieldAddr 38 (Go.Operand.tmp 5) 2, type := 0, pos := "law.go:85", after := #[], guard := none }
abbrev dd4 : Oper := { dst := some 100, op := Go.Op.fieldAddr 36 (Go.Operand.tmp 99) 1, type := 0, pos := "law.go:85", after := #[{ on := 3, ground := Go.Ground.data }], guard := none }
abbrev dd5 : Oper := { dst := some 101, op := Go.Op.load 34 (Go.Operand.tmp 100), type := 34, pos := "law.go:85", after := #[{ on := 4, ground := Go.Ground.data }], guard := none }
abbrev dd6 : Oper := { dst := some 102, op := Go.Op.call { callee := Go.Callee.value (Go.Operand.func 26), args := #[Go.Operand.tmp 98, Go.Operand.tmp 101], argTypes := #[40, 34] }, type := 66, pos := "law.go:85", after := #[{ on := 2, ground := Go.Ground.data }, { on := 5, ground := Go.Ground.data }], guard := none }
abbrev dd7 : Oper := { dst := some 95, op := Go.Op.move (Go.Operand.tmp 102), type := 66, pos := "law.go:85", after := #[{ on := 6, ground := Go.Ground.data }], guard := none }
abbrev dd8 : Oper := { dst := some 103, op := Go.Op.extract (Go.Operand.tmp 95) 0, type := 31, pos := "law.go:85", after := #[{ on := 7, ground := Go.Ground.data }], guard := none }
abbrev dd9 : Oper := { dst := some 104, op := Go.Op.extract (Go.Operand.tmp 95) 1, type := 3, pos := "law.go:85", after := #[{ on := 7, ground := Go.Ground.data }, { on := 11, ground := Go.Ground.gcOnly Go.Departure.lateStores }], guard := none }
abbrev dd10 : Oper := { dst := some 10, op := Go.Op.alloc 31, type := 0, pos := "law.go:85", after := #[], guard := none }
abbrev dd11 : Oper := { dst := none, op := Go.Op.store 31 (Go.Operand.tmp 10) (Go.Operand.tmp 103), type := 0, pos := "law.go:85", after := #[{ on := 10, ground := Go.Ground.data }, { on := 8, ground := Go.Ground.data }, { on := 6, ground := Go.Ground.chain }, { on := 0, ground := Go.Ground.phase }, { on := 1, ground := Go.Ground.phase }, { on := 2, ground := Go.Ground.phase }, { on := 3, ground := Go.Ground.phase }, { on := 4, ground := Go.Ground.phase }, { on := 5, ground := Go.Ground.phase }, { on := 6, ground := Go.Ground.phase }, { on := 7, ground := Go.Ground.phase }, { on := 8, ground := Go.Ground.phase }, { on := 9, ground := Go.Ground.textOnly Go.Departure.lateStores }, { on := 10, ground := Go.Ground.phase }], guard := none }
abbrev dd12 : Oper := { dst := some 11, op := Go.Op.assign (Go.Operand.tmp 104), type := 3, pos := "law.go:85", after := #[{ on := 9, ground := Go.Ground.data }, { on := 11, ground := Go.Ground.chain }, { on := 0, ground := Go.Ground.phase }, { on := 1, ground := Go.Ground.phase }, { on := 2, ground := Go.Ground.phase }, { on := 3, ground := Go.Ground.phase }, { on := 4, ground := Go.Ground.phase }, { on := 5, ground := Go.Ground.phase }, { on := 6, ground := Go.Ground.phase }, { on := 7, ground := Go.Ground.phase }, { on := 8, ground := Go.Ground.phase }, { on := 9, ground := Go.Ground.phase }, { on := 10, ground := Go.Ground.phase }, { on := 11, ground := Go.Ground.phase }], guard := none }
abbrev df0 : Oper := { dst := some 18, op := Go.Op.move (Go.Operand.tmp 1), type := 40, pos := "law.go:91", after := #[], guard := none }
abbrev df1 : Oper := { dst := some 19, op := Go.Op.nilCheck (Go.Operand.tmp 18), type := 0, pos := "law.go:91", after := #[{ on := 0, ground := Go.Ground.data }], guard := none }
abbrev df2 : Oper := { dst := some 20, op := Go.Op.load 31 (Go.Operand.tmp 19), type := 31, pos := "law.go:91", after := #[{ on := 1, ground := Go.Ground.data }], guard := none }
abbrev df3 : Oper := { dst := some 21, op := Go.Op.fieldAddr 38 (Go.Operand.tmp 5) 1, type := 0, pos := "law.go:91", after := #[], guard := none }
abbrev df4 : Oper := { dst := some 22, op := Go.Op.load 33 (Go.Operand.tmp 21), type := 33, pos := "law.go:91", after := #[{ on := 3, ground := Go.Ground.data }], guard := none }
abbrev df5 : Oper := { dst := some 23, op := Go.Op.call { callee := Go.Callee.value (Go.Operand.func 15), args := #[Go.Operand.tmp 20, Go.Operand.tmp 22], argTypes := #[40, 33] }, type := 43, pos := "law.go:91", after := #[{ on := 2, ground := Go.Ground.data }, { on := 4, ground := Go.Ground.data }], guard := none }
abbrev df6 : Oper := { dst := some 12, op := Go.Op.assign (Go.Operand.tmp 23), type := 43, pos := "law.go:91", after := #[{ on := 5, ground := Go.Ground.data }, { on := 5, ground := Go.Ground.chain }, { on := 0, ground := Go.Ground.phase }, { on := 1, ground := Go.Ground.phase }, { on := 2, ground := Go.Ground.phase }, { on := 3, ground := Go.Ground.phase }, { on := 4, ground := Go.Ground.phase }, { on := 5, ground := Go.Ground.phase }], guard := none }

theorem zero_ref (w : World) : (zeroValue 31).run Try.prog w = .ok (.agg #[.int .i64 0, .slice none 0 0]) w := (Try.zeroValue31 w).trans rfl
/-- A drawn alloc of a struct. -/
theorem step_allocS {P : Program} {w : World} {o : Oper} {a : Act} {Q : Exit → Act → World → Prop} {K : Act → World → Prop} {E : Prop} {ops : Array Oper} (ty : TypeId) (ho : o.op = .alloc ty) (hgd : Region.wanted o (yielded ops a.tmps) = true) (zs : Array Value) (hz : ∀ w, (zeroValue ty).run P w = .ok (.agg zs) w)
    (h : K (a.put o.dst (.pointer (some ⟨w.heap.size, 0, none⟩))) (w.alloc (.cells zs ty))) : if Region.wanted o (yielded ops a.tmps) = true then Oper.wp P o a w K Q else E := by
  rw [if_pos hgd]
  unfold Oper.wp execOp
  simp only [ho, Instr.alloc, Sem.run_bind, hz, Result.andThen_ok]
  exact h
theorem size_refS (w : World) : (sizeOf 31).run Try.prog w = .ok 2 w := Try.sizeOf31 w
/-- What an op makes of the entries. -/
def doE (slots : Nat) (es : List Ent) (q : Nat) (e : Ent) : List Ent := if q = 0 then (addE slots es e).1 else if q = 1 then (remE es e).1 else if q = 2 then dropE es e.2.2.1 else es
set_option maxRecDepth 100000 in
set_option maxHeartbeats 8000000 in
theorem does_any {w : World} {x p slots : Nat} {es : List Ent} (hx : IxE w x slots es) (hy : YS x p slots es w) (hpx : p ≠ x) (K : Int) (f : Nat) (s g c : Int) (hf : f < 4294967296) :
    Calls Try.prog 11 #[.pointer (some ⟨x, 0, none⟩), .pointer (some ⟨p, 0, none⟩), .agg #[.int .i64 K, .int .u32 f, .int .i64 s, .int .u64 g, .int .i64 c]] w fun e w' =>
      e = .returned (.bool true) ∧ IxE w' x slots (doE slots es (kindN K) (f, s, g, c)) ∧ YS x p slots (doE slots es (kindN K) (f, s, g, c)) w' ∧ Kept (fun b => b < w.heap.size ∧ b ≠ x ∧ b ≠ p) w w' := by
  have hxl := hx.lt
  have hpl := hy.lt
  have hlen := hx.len
  have ha := (Below.refl w.heap.size w).alloc (Nat.le_refl _) (.cells #[.int .i64 K, .int .u32 f, .int .i64 s, .int .u64 g, .int .i64 c] 38)
  have HX1 := Lib.hid (hx.below ha hxl)
  have HY1 := Lib.hid (hy.below ha)
  have HO1 := Lib.hid (Blk.new w 38 #[.int .i64 K, .int .u32 f, .int .i64 s, .int .u64 g, .int .i64 c])
  have HB1 := Lib.hid ha
  have hs1 : (w.alloc (.cells #[.int .i64 K, .int .u32 f, .int .i64 s, .int .u64 g, .int .i64 c] 38)).heap.size = w.heap.size + 1 := by simp
  clear ha hx hy
  have hkl := kindN_lt K
  have HKD := Lib.hid (fun W => kind_any K f s g c W)
  go_enter Try.func11, Try.ntmps11
  go_wp2_with fail
  refine (HKD.out _).mono ?_
  rintro e w2 ⟨rfl, hb2⟩
  have HX2 := Lib.hid (HX1.out.below hb2 HX1.out.lt)
  have HY2 := Lib.hid (HY1.out.below hb2)
  have HO2 := Lib.hid (HO1.out.below hb2 HO1.out.lt)
  have HB2 := Lib.hid (HB1.out.trans (hb2.mono (by omega)))
  have hs2 := hb2.size
  clear hb2 HKD
  obtain ⟨c0, c1, c2, c3, c4⟩ := And.intro (HO2.out.cell 0) (And.intro (HO2.out.cell 1) (And.intro (HO2.out.cell 2) (And.intro (HO2.out.cell 3) (HO2.out.cell 4))))
  obtain hq | hq | hq | hq : kindN K = 0 ∨ kindN K = 1 ∨ kindN K = 2 ∨ kindN K = 3 := by omega
  · rw [hq]
    go_wp2_with fail
    refine (add_ixU HX2.out f hf rfl).mono ?_
    rintro e w3 ⟨rfl, hx3, hk3⟩
    have hox : w.heap.size ≠ x := by omega
    have HX3 := Lib.hid hx3
    have HY3 := Lib.hid (HY2.out.keptX hk3 hpx)
    have HO3 := Lib.hid (HO2.out.kept hk3 ⟨HO2.out.lt, hox⟩)
    have HK3 := Lib.hid (show Kept (fun b => b < w.heap.size ∧ b ≠ x ∧ b ≠ p) w w3 from (Kept.of_below HB2.out (fun b h => h.1)).trans hk3 (fun b h => ⟨by omega, h.2.1⟩))
    have hs3 := Nat.le_trans hs2 hk3.size
    clear hx3 hk3 c0 c1 c2 c3 c4
    obtain ⟨A, n, cap, hp1, hr1, hA1⟩ := HY3.out
    have hn1 : n ≤ 1024 := by rw [← hr1.1]; omega
    have HR1 := Lib.hid hr1
    have HP1 := Lib.hid hp1
    have HREF := Lib.hid (ref_add (hr1.below (Below.refl _ w3 |>.drew) (fun b h => h.1)) (fun b h => h.1) hA1 (slots : Int) (f : Int) s g c hn1 (cap := cap))
    have heq := addR_eq hlen.1 ((f : Int), s, g, c)
    rw [heq] at HREF
    clear heq
    clear hr1 hp1
    go_wp2_with fail
    refine wp_region_noPanic ?_
    refine Tillst.region (fun W => Blk W p 31 #[.int .i64 slots, .slice A n cap] ∧ Blk W w.heap.size 38 #[.int .i64 K, .int .u32 f, .int .i64 s, .int .u64 g, .int .i64 c]) [0, 11, 13, 14] (by kernel_rfl) ⟨HP1.out, HO3.out⟩ (fun hHeld => ?_)
    refine Tillst.takeF (i := 0) (oi := da0) (v := ?_) rfl (by kernel_rfl) (by kernel_rfl) (by kernel_rfl) (by decide) (fun _ _ _ h => h) (by rfl) ?_ ?_
    rotate_left
    · intro W; unfold da0; go_simp; with_reducible rfl
    simp only [da0, Act.put, List.setIfInBounds_toArray, List.set_cons_zero, List.set_cons_succ]
    refine Tillst.takeG (i := 1) (oi := da1) (v := ?_) rfl (by kernel_rfl) (by kernel_rfl) (by kernel_rfl) (by kernel_rfl) (by kernel_rfl) (fun _ _ _ h => h) (by rfl) ?_ hHeld ?_
    rotate_left
    · intro W hSW; obtain ⟨s1, s2⟩ := hSW; have t0 := s1.cell 0; have t1 := s1.cell 1; have s4 := s2.cell 1; have s5 := s2.cell 2; have s6 := s2.cell 3; have s7 := s2.cell 4; unfold da1; go_simp; with_reducible rfl
    simp only [da1, Act.put, List.setIfInBounds_toArray, List.set_cons_zero, List.set_cons_succ]
    refine Tillst.takeG (i := 2) (oi := da2) (v := ?_) rfl (by kernel_rfl) (by kernel_rfl) (by kernel_rfl) (by kernel_rfl) (by kernel_rfl) (fun _ _ _ h => h) (by rfl) ?_ hHeld ?_
    rotate_left
    · intro W hSW; obtain ⟨s1, s2⟩ := hSW; have t0 := s1.cell 0; have t1 := s1.cell 1; have s4 := s2.cell 1; have s5 := s2.cell 2; have s6 := s2.cell 3; have s7 := s2.cell 4; unfold da2; go_simp; with_reducible rfl
    simp only [da2, Act.put, List.setIfInBounds_toArray, List.set_cons_zero, List.set_cons_succ]
    refine Tillst.takeG (i := 3) (oi := da3) (v := ?_) rfl (by kernel_rfl) (by kernel_rfl) (by kernel_rfl) (by kernel_rfl) (by kernel_rfl) (fun _ _ _ h => h) (by rfl) ?_ hHeld ?_
    rotate_left
    · intro W hSW; obtain ⟨s1, s2⟩ := hSW; have t0 := s1.cell 0; have t1 := s1.cell 1; have s4 := s2.cell 1; have s5 := s2.cell 2; have s6 := s2.cell 3; have s7 := s2.cell 4; unfold da3; go_simp; with_reducible rfl
    simp only [da3, Act.put, List.setIfInBounds_toArray, List.set_cons_zero, List.set_cons_succ]
    refine Tillst.takeG (i := 4) (oi := da4) (v := ?_) rfl (by kernel_rfl) (by kernel_rfl) (by kernel_rfl) (by kernel_rfl) (by kernel_rfl) (fun _ _ _ h => h) (by rfl) ?_ hHeld ?_
    rotate_left
    · intro W hSW; obtain ⟨s1, s2⟩ := hSW; have t0 := s1.cell 0; have t1 := s1.cell 1; have s4 := s2.cell 1; have s5 := s2.cell 2; have s6 := s2.cell 3; have s7 := s2.cell 4; unfold da4; go_simp; with_reducible rfl
    simp only [da4, Act.put, List.setIfInBounds_toArray, List.set_cons_zero, List.set_cons_succ]
    refine Tillst.takeG (i := 5) (oi := da5) (v := ?_) rfl (by kernel_rfl) (by kernel_rfl) (by kernel_rfl) (by kernel_rfl) (by kernel_rfl) (fun _ _ _ h => h) (by rfl) ?_ hHeld ?_
    rotate_left
    · intro W hSW; obtain ⟨s1, s2⟩ := hSW; have t0 := s1.cell 0; have t1 := s1.cell 1; have s4 := s2.cell 1; have s5 := s2.cell 2; have s6 := s2.cell 3; have s7 := s2.cell 4; unfold da5; go_simp; with_reducible rfl
    simp only [da5, Act.put, List.setIfInBounds_toArray, List.set_cons_zero, List.set_cons_succ]
    refine Tillst.takeG (i := 6) (oi := da6) (v := ?_) rfl (by kernel_rfl) (by kernel_rfl) (by kernel_rfl) (by kernel_rfl) (by kernel_rfl) (fun _ _ _ h => h) (by rfl) ?_ hHeld ?_
    rotate_left
    · intro W hSW; obtain ⟨s1, s2⟩ := hSW; have t0 := s1.cell 0; have t1 := s1.cell 1; have s4 := s2.cell 1; have s5 := s2.cell 2; have s6 := s2.cell 3; have s7 := s2.cell 4; unfold da6; go_simp; with_reducible rfl
    simp only [da6, Act.put, List.setIfInBounds_toArray, List.set_cons_zero, List.set_cons_succ]
    refine Tillst.takeG (i := 7) (oi := da7) (v := ?_) rfl (by kernel_rfl) (by kernel_rfl) (by kernel_rfl) (by kernel_rfl) (by kernel_rfl) (fun _ _ _ h => h) (by rfl) ?_ hHeld ?_
    rotate_left
    · intro W hSW; obtain ⟨s1, s2⟩ := hSW; have t0 := s1.cell 0; have t1 := s1.cell 1; have s4 := s2.cell 1; have s5 := s2.cell 2; have s6 := s2.cell 3; have s7 := s2.cell 4; unfold da7; go_simp; with_reducible rfl
    simp only [da7, Act.put, List.setIfInBounds_toArray, List.set_cons_zero, List.set_cons_succ]
    refine Tillst.one (i := 8) (o := da8) (by kernel_rfl) rfl ?_
    intro KK hK
    refine step_call 24 _ _ rfl rfl Try.func24 (by kernel_rfl) (by kernel_rfl) [refV slots A n cap, .int .u32 f, .agg #[.int .i64 s, .int .u64 g, .int .i64 c]] rfl ?_
    refine HREF.out.mono ?_
    rintro e w8 ⟨⟨A', n', cap', rfl, hr8, hA8⟩, hb8⟩
    have HP8 := Lib.hid ((HP1.out.below ((Below.refl w3.heap.size w3).drew) HP1.out.lt).below hb8 HP1.out.lt)
    have HO8 := Lib.hid ((HO3.out.below ((Below.refl w3.heap.size w3).drew) HO3.out.lt).below hb8 HO3.out.lt)
    have HX8 := Lib.hid ((HX3.out.below ((Below.refl w3.heap.size w3).drew) HX3.out.lt).below hb8 HX3.out.lt)
    have hsd : w3.drew.heap.size = w3.heap.size := rfl
    have hxl3 := HX3.out.lt
    have hpl3 := HP1.out.lt
    have HK8 := Lib.hid (HK3.out.trans ((Kept.of_below (S := fun b => b < w3.heap.size) (Below.refl w3.heap.size w3).drew (fun b h => h)).trans (Kept.of_below (S := fun b => b < w3.heap.size) hb8 (fun b h => h)) (fun b h => h)) (fun b h => by have := HB2.out.size; have := h.1; omega))
    have HR8 := Lib.hid (hr8.more (T := fun b => b < w8.heap.size ∧ b ≠ x ∧ b ≠ p) (fun b h => by have := hb8.size; rcases h with h | h <;> (refine ⟨?_, ?_, ?_⟩ <;> omega)))
    clear hr8 hb8
    refine ⟨_, rfl, ?_⟩
    simp only [da8, Act.put, List.setIfInBounds_toArray, List.set_cons_zero, List.set_cons_succ]
    refine hK.out _ _ (fun _ => ⟨HP8.out, HO8.out⟩) (fun hHeld => ?_)
    replace hHeld := hHeld (by decide)
    clear hK KK
    refine Tillst.takeG (i := 9) (oi := da9) (v := ?_) rfl (by kernel_rfl) (by kernel_rfl) (by kernel_rfl) (by kernel_rfl) (by kernel_rfl) (fun _ _ _ h => h) (by rfl) ?_ hHeld ?_
    rotate_left
    · intro W hSW; obtain ⟨s1, s2⟩ := hSW; have t0 := s1.cell 0; have t1 := s1.cell 1; have s4 := s2.cell 1; have s5 := s2.cell 2; have s6 := s2.cell 3; have s7 := s2.cell 4; unfold da9; go_simp; with_reducible rfl
    simp only [da9, Act.put, List.setIfInBounds_toArray, List.set_cons_zero, List.set_cons_succ]
    refine Tillst.takeF (i := 11) (oi := da11) (v := ?_) rfl (by kernel_rfl) (by kernel_rfl) (by kernel_rfl) (by decide) (fun _ _ _ h => h) (by rfl) ?_ ?_
    rotate_left
    · intro W; unfold da11; go_simp; with_reducible rfl
    simp only [da11, Act.put, List.setIfInBounds_toArray, List.set_cons_zero, List.set_cons_succ]
    refine Tillst.takeG (i := 10) (oi := da10) (v := ?_) rfl (by kernel_rfl) (by kernel_rfl) (by kernel_rfl) (by kernel_rfl) (by kernel_rfl) (fun _ _ _ h => h) (by rfl) ?_ hHeld ?_
    rotate_left
    · intro W hSW; obtain ⟨s1, s2⟩ := hSW; have t0 := s1.cell 0; have t1 := s1.cell 1; have s4 := s2.cell 1; have s5 := s2.cell 2; have s6 := s2.cell 3; have s7 := s2.cell 4; unfold da10; go_simp; with_reducible rfl
    simp only [da10, Act.put, List.setIfInBounds_toArray, List.set_cons_zero, List.set_cons_succ]
    refine Tillst.takeG (i := 12) (oi := da12) (v := ?_) rfl (by kernel_rfl) (by kernel_rfl) (by kernel_rfl) (by kernel_rfl) (by kernel_rfl) (fun _ _ _ h => h) (by rfl) ?_ hHeld ?_
    rotate_left
    · intro W hSW; obtain ⟨s1, s2⟩ := hSW; have t0 := s1.cell 0; have t1 := s1.cell 1; have s4 := s2.cell 1; have s5 := s2.cell 2; have s6 := s2.cell 3; have s7 := s2.cell 4; unfold da12; go_simp; with_reducible rfl
    simp only [da12, Act.put, List.setIfInBounds_toArray, List.set_cons_zero, List.set_cons_succ]
    refine Tillst.one (i := 13) (o := da13) (by kernel_rfl) rfl ?_
    intro KK hK
    refine step_store_whole (.tmp 66) (.tmp 64) 31 (by with_reducible rfl) (by rfl) p #[.int .i64 slots, .slice A' n' cap'] #[.int .i64 slots, .slice A n cap] 31 (by rfl) (by rfl) HP8.out size_refS rfl (by intro v hv; simp at hv; rcases hv with rfl | rfl <;> rfl) ?_
    have HY9 := Lib.hid (YS.store (x := x) HP8.out HR8.out hA8)
    have HX9 := Lib.hid (HX8.out.kept (S := fun b => b ≠ p) ((Kept.refl _ w8).setRow (fun h => h rfl) #[.int .i64 slots, .slice A' n' cap']) hpx.symm)
    have HK9 := Lib.hid (HK8.out.setRow (g := p) (fun h => h.2.2 rfl) #[.int .i64 slots, .slice A' n' cap'])
    generalize w8.setRow p #[.int .i64 slots, .slice A' n' cap'] = w9 at *
    simp only [da13, Act.put]
    refine hK.out _ _ (fun h => absurd h (by decide)) (fun _ => ?_)
    clear hK KK
    refine Tillst.one (i := 14) (o := da14) (by kernel_rfl) rfl ?_
    intro KK hK
    refine step_value ?_ rfl ?_ ?_
    rotate_left
    · unfold da14; go_simp; with_reducible rfl
    simp only [da14, Act.put, List.setIfInBounds_toArray, List.set_cons_zero, List.set_cons_succ]
    refine hK.out _ _ (fun h => absurd h (by decide)) (fun _ => ?_)
    clear hK KK hHeld
    refine Tillst.done (by kernel_rfl) ?_ _
    refine NoPanic.normal ?_
    go_wp2
    go_ret
    rw [hq]
    refine ⟨rfl, ?_, ?_, HK9.out⟩
    · exact HX9.out
    · exact HY9.out
  · rw [hq]
    go_wp2_with fail
    refine (remove_ixU HX2.out f rfl).mono ?_
    rintro e w3 ⟨rfl, hx3, hk3⟩
    have hox : w.heap.size ≠ x := by omega
    have HX3 := Lib.hid hx3
    have HY3 := Lib.hid (HY2.out.keptX hk3 hpx)
    have HO3 := Lib.hid (HO2.out.kept hk3 ⟨HO2.out.lt, hox⟩)
    have HK3 := Lib.hid (show Kept (fun b => b < w.heap.size ∧ b ≠ x ∧ b ≠ p) w w3 from (Kept.of_below HB2.out (fun b h => h.1)).trans hk3 (fun b h => ⟨by omega, h.2.1⟩))
    have hs3 := Nat.le_trans hs2 hk3.size
    clear hx3 hk3 c0 c1 c2 c3 c4
    obtain ⟨A, n, cap, hp1, hr1, hA1⟩ := HY3.out
    have hn1 : n ≤ 1024 := by rw [← hr1.1]; omega
    have HR1 := Lib.hid hr1
    have HP1 := Lib.hid hp1
    have HREF := Lib.hid (ref_remove (hr1.below (Below.refl _ w3 |>.drew) (fun b h => h.1)) (fun b h => h.1) hA1 (slots : Int) (f : Int) s g c hn1 (cap := cap))
    clear hr1 hp1
    go_wp2_with fail
    refine wp_region_noPanic ?_
    refine Tillst.region (fun W => Blk W p 31 #[.int .i64 slots, .slice A n cap] ∧ Blk W w.heap.size 38 #[.int .i64 K, .int .u32 f, .int .i64 s, .int .u64 g, .int .i64 c]) [0, 11, 13, 14] (by kernel_rfl) ⟨HP1.out, HO3.out⟩ (fun hHeld => ?_)
    refine Tillst.takeF (i := 0) (oi := dr0) (v := ?_) rfl (by kernel_rfl) (by kernel_rfl) (by kernel_rfl) (by decide) (fun _ _ _ h => h) (by rfl) ?_ ?_
    rotate_left
    · intro W; unfold dr0; go_simp; with_reducible rfl
    simp only [dr0, Act.put, List.setIfInBounds_toArray, List.set_cons_zero, List.set_cons_succ]
    refine Tillst.takeG (i := 1) (oi := dr1) (v := ?_) rfl (by kernel_rfl) (by kernel_rfl) (by kernel_rfl) (by kernel_rfl) (by kernel_rfl) (fun _ _ _ h => h) (by rfl) ?_ hHeld ?_
    rotate_left
    · intro W hSW; obtain ⟨s1, s2⟩ := hSW; have t0 := s1.cell 0; have t1 := s1.cell 1; have s4 := s2.cell 1; have s5 := s2.cell 2; have s6 := s2.cell 3; have s7 := s2.cell 4; unfold dr1; go_simp; with_reducible rfl
    simp only [dr1, Act.put, List.setIfInBounds_toArray, List.set_cons_zero, List.set_cons_succ]
    refine Tillst.takeG (i := 2) (oi := dr2) (v := ?_) rfl (by kernel_rfl) (by kernel_rfl) (by kernel_rfl) (by kernel_rfl) (by kernel_rfl) (fun _ _ _ h => h) (by rfl) ?_ hHeld ?_
    rotate_left
    · intro W hSW; obtain ⟨s1, s2⟩ := hSW; have t0 := s1.cell 0; have t1 := s1.cell 1; have s4 := s2.cell 1; have s5 := s2.cell 2; have s6 := s2.cell 3; have s7 := s2.cell 4; unfold dr2; go_simp; with_reducible rfl
    simp only [dr2, Act.put, List.setIfInBounds_toArray, List.set_cons_zero, List.set_cons_succ]
    refine Tillst.takeG (i := 3) (oi := dr3) (v := ?_) rfl (by kernel_rfl) (by kernel_rfl) (by kernel_rfl) (by kernel_rfl) (by kernel_rfl) (fun _ _ _ h => h) (by rfl) ?_ hHeld ?_
    rotate_left
    · intro W hSW; obtain ⟨s1, s2⟩ := hSW; have t0 := s1.cell 0; have t1 := s1.cell 1; have s4 := s2.cell 1; have s5 := s2.cell 2; have s6 := s2.cell 3; have s7 := s2.cell 4; unfold dr3; go_simp; with_reducible rfl
    simp only [dr3, Act.put, List.setIfInBounds_toArray, List.set_cons_zero, List.set_cons_succ]
    refine Tillst.takeG (i := 4) (oi := dr4) (v := ?_) rfl (by kernel_rfl) (by kernel_rfl) (by kernel_rfl) (by kernel_rfl) (by kernel_rfl) (fun _ _ _ h => h) (by rfl) ?_ hHeld ?_
    rotate_left
    · intro W hSW; obtain ⟨s1, s2⟩ := hSW; have t0 := s1.cell 0; have t1 := s1.cell 1; have s4 := s2.cell 1; have s5 := s2.cell 2; have s6 := s2.cell 3; have s7 := s2.cell 4; unfold dr4; go_simp; with_reducible rfl
    simp only [dr4, Act.put, List.setIfInBounds_toArray, List.set_cons_zero, List.set_cons_succ]
    refine Tillst.takeG (i := 5) (oi := dr5) (v := ?_) rfl (by kernel_rfl) (by kernel_rfl) (by kernel_rfl) (by kernel_rfl) (by kernel_rfl) (fun _ _ _ h => h) (by rfl) ?_ hHeld ?_
    rotate_left
    · intro W hSW; obtain ⟨s1, s2⟩ := hSW; have t0 := s1.cell 0; have t1 := s1.cell 1; have s4 := s2.cell 1; have s5 := s2.cell 2; have s6 := s2.cell 3; have s7 := s2.cell 4; unfold dr5; go_simp; with_reducible rfl
    simp only [dr5, Act.put, List.setIfInBounds_toArray, List.set_cons_zero, List.set_cons_succ]
    refine Tillst.takeG (i := 6) (oi := dr6) (v := ?_) rfl (by kernel_rfl) (by kernel_rfl) (by kernel_rfl) (by kernel_rfl) (by kernel_rfl) (fun _ _ _ h => h) (by rfl) ?_ hHeld ?_
    rotate_left
    · intro W hSW; obtain ⟨s1, s2⟩ := hSW; have t0 := s1.cell 0; have t1 := s1.cell 1; have s4 := s2.cell 1; have s5 := s2.cell 2; have s6 := s2.cell 3; have s7 := s2.cell 4; unfold dr6; go_simp; with_reducible rfl
    simp only [dr6, Act.put, List.setIfInBounds_toArray, List.set_cons_zero, List.set_cons_succ]
    refine Tillst.takeG (i := 7) (oi := dr7) (v := ?_) rfl (by kernel_rfl) (by kernel_rfl) (by kernel_rfl) (by kernel_rfl) (by kernel_rfl) (fun _ _ _ h => h) (by rfl) ?_ hHeld ?_
    rotate_left
    · intro W hSW; obtain ⟨s1, s2⟩ := hSW; have t0 := s1.cell 0; have t1 := s1.cell 1; have s4 := s2.cell 1; have s5 := s2.cell 2; have s6 := s2.cell 3; have s7 := s2.cell 4; unfold dr7; go_simp; with_reducible rfl
    simp only [dr7, Act.put, List.setIfInBounds_toArray, List.set_cons_zero, List.set_cons_succ]
    refine Tillst.one (i := 8) (o := dr8) (by kernel_rfl) rfl ?_
    intro KK hK
    refine step_call 25 _ _ rfl rfl Try.func25 (by kernel_rfl) (by kernel_rfl) [refV slots A n cap, .int .u32 f, .agg #[.int .i64 s, .int .u64 g, .int .i64 c]] rfl ?_
    refine HREF.out.mono ?_
    rintro e w8 ⟨⟨A', n', cap', rfl, hr8, hA8⟩, hb8⟩
    have HP8 := Lib.hid ((HP1.out.below ((Below.refl w3.heap.size w3).drew) HP1.out.lt).below hb8 HP1.out.lt)
    have HO8 := Lib.hid ((HO3.out.below ((Below.refl w3.heap.size w3).drew) HO3.out.lt).below hb8 HO3.out.lt)
    have HX8 := Lib.hid ((HX3.out.below ((Below.refl w3.heap.size w3).drew) HX3.out.lt).below hb8 HX3.out.lt)
    have hsd : w3.drew.heap.size = w3.heap.size := rfl
    have hxl3 := HX3.out.lt
    have hpl3 := HP1.out.lt
    have HK8 := Lib.hid (HK3.out.trans ((Kept.of_below (S := fun b => b < w3.heap.size) (Below.refl w3.heap.size w3).drew (fun b h => h)).trans (Kept.of_below (S := fun b => b < w3.heap.size) hb8 (fun b h => h)) (fun b h => h)) (fun b h => by have := HB2.out.size; have := h.1; omega))
    have HR8 := Lib.hid (hr8.more (T := fun b => b < w8.heap.size ∧ b ≠ x ∧ b ≠ p) (fun b h => by have := hb8.size; rcases h with h | h <;> (refine ⟨?_, ?_, ?_⟩ <;> omega)))
    clear hr8 hb8
    refine ⟨_, rfl, ?_⟩
    simp only [dr8, Act.put, List.setIfInBounds_toArray, List.set_cons_zero, List.set_cons_succ]
    refine hK.out _ _ (fun _ => ⟨HP8.out, HO8.out⟩) (fun hHeld => ?_)
    replace hHeld := hHeld (by decide)
    clear hK KK
    refine Tillst.takeG (i := 9) (oi := dr9) (v := ?_) rfl (by kernel_rfl) (by kernel_rfl) (by kernel_rfl) (by kernel_rfl) (by kernel_rfl) (fun _ _ _ h => h) (by rfl) ?_ hHeld ?_
    rotate_left
    · intro W hSW; obtain ⟨s1, s2⟩ := hSW; have t0 := s1.cell 0; have t1 := s1.cell 1; have s4 := s2.cell 1; have s5 := s2.cell 2; have s6 := s2.cell 3; have s7 := s2.cell 4; unfold dr9; go_simp; with_reducible rfl
    simp only [dr9, Act.put, List.setIfInBounds_toArray, List.set_cons_zero, List.set_cons_succ]
    refine Tillst.takeF (i := 11) (oi := dr11) (v := ?_) rfl (by kernel_rfl) (by kernel_rfl) (by kernel_rfl) (by decide) (fun _ _ _ h => h) (by rfl) ?_ ?_
    rotate_left
    · intro W; unfold dr11; go_simp; with_reducible rfl
    simp only [dr11, Act.put, List.setIfInBounds_toArray, List.set_cons_zero, List.set_cons_succ]
    refine Tillst.takeG (i := 10) (oi := dr10) (v := ?_) rfl (by kernel_rfl) (by kernel_rfl) (by kernel_rfl) (by kernel_rfl) (by kernel_rfl) (fun _ _ _ h => h) (by rfl) ?_ hHeld ?_
    rotate_left
    · intro W hSW; obtain ⟨s1, s2⟩ := hSW; have t0 := s1.cell 0; have t1 := s1.cell 1; have s4 := s2.cell 1; have s5 := s2.cell 2; have s6 := s2.cell 3; have s7 := s2.cell 4; unfold dr10; go_simp; with_reducible rfl
    simp only [dr10, Act.put, List.setIfInBounds_toArray, List.set_cons_zero, List.set_cons_succ]
    refine Tillst.takeG (i := 12) (oi := dr12) (v := ?_) rfl (by kernel_rfl) (by kernel_rfl) (by kernel_rfl) (by kernel_rfl) (by kernel_rfl) (fun _ _ _ h => h) (by rfl) ?_ hHeld ?_
    rotate_left
    · intro W hSW; obtain ⟨s1, s2⟩ := hSW; have t0 := s1.cell 0; have t1 := s1.cell 1; have s4 := s2.cell 1; have s5 := s2.cell 2; have s6 := s2.cell 3; have s7 := s2.cell 4; unfold dr12; go_simp; with_reducible rfl
    simp only [dr12, Act.put, List.setIfInBounds_toArray, List.set_cons_zero, List.set_cons_succ]
    refine Tillst.one (i := 13) (o := dr13) (by kernel_rfl) rfl ?_
    intro KK hK
    refine step_store_whole (.tmp 87) (.tmp 85) 31 (by with_reducible rfl) (by rfl) p #[.int .i64 slots, .slice A' n' cap'] #[.int .i64 slots, .slice A n cap] 31 (by rfl) (by rfl) HP8.out size_refS rfl (by intro v hv; simp at hv; rcases hv with rfl | rfl <;> rfl) ?_
    have HY9 := Lib.hid (YS.store (x := x) HP8.out HR8.out hA8)
    have HX9 := Lib.hid (HX8.out.kept (S := fun b => b ≠ p) ((Kept.refl _ w8).setRow (fun h => h rfl) #[.int .i64 slots, .slice A' n' cap']) hpx.symm)
    have HK9 := Lib.hid (HK8.out.setRow (g := p) (fun h => h.2.2 rfl) #[.int .i64 slots, .slice A' n' cap'])
    generalize w8.setRow p #[.int .i64 slots, .slice A' n' cap'] = w9 at *
    simp only [dr13, Act.put]
    refine hK.out _ _ (fun h => absurd h (by decide)) (fun _ => ?_)
    clear hK KK
    refine Tillst.one (i := 14) (o := dr14) (by kernel_rfl) rfl ?_
    intro KK hK
    refine step_value ?_ rfl ?_ ?_
    rotate_left
    · unfold dr14; go_simp; with_reducible rfl
    simp only [dr14, Act.put, List.setIfInBounds_toArray, List.set_cons_zero, List.set_cons_succ]
    refine hK.out _ _ (fun h => absurd h (by decide)) (fun _ => ?_)
    clear hK KK hHeld
    refine Tillst.done (by kernel_rfl) ?_ _
    refine NoPanic.normal ?_
    go_wp2
    go_ret
    rw [hq]
    refine ⟨rfl, ?_, ?_, HK9.out⟩
    · exact HX9.out
    · exact HY9.out
  · rw [hq]
    go_wp2_with fail
    refine (drop_ix HX2.out g).mono ?_
    rintro e w3 ⟨rfl, hx3, hk3⟩
    have hox : w.heap.size ≠ x := by omega
    have HX3 := Lib.hid hx3
    have HY3 := Lib.hid (HY2.out.keptX hk3 hpx)
    have HO3 := Lib.hid (HO2.out.kept hk3 ⟨HO2.out.lt, hox⟩)
    have HK3 := Lib.hid (show Kept (fun b => b < w.heap.size ∧ b ≠ x ∧ b ≠ p) w w3 from (Kept.of_below HB2.out (fun b h => h.1)).trans hk3 (fun b h => ⟨by omega, h.2.1⟩))
    have hs3 := Nat.le_trans hs2 hk3.size
    clear hx3 hk3 c0 c1 c2 c3 c4
    obtain ⟨A, n, cap, hp1, hr1, hA1⟩ := HY3.out
    have hn1 : n ≤ 1024 := by rw [← hr1.1]; omega
    have HPV := Lib.hid hp1
    have HOV := Lib.hid HO3.out
    have hxl3 := HX3.out.lt
    have hpl3 := HPV.out.lt
    have HREF := Lib.hid (fun (V : World) (hb : Below w3.heap.size w3 V) => ref_drop ((hr1.below hb (fun b h => h.1)).more (T := fun b => b < V.heap.size) (fun b h => Nat.lt_of_lt_of_le h.1 hb.size)) (slots : Int) g hn1 (cap := cap))
    clear hr1 hp1
    go_wp2_with fail
    refine wp_region_noPanic ?_
    refine Tillst.region (fun W => Blk W p 31 #[.int .i64 slots, .slice A n cap] ∧ Blk W w.heap.size 38 #[.int .i64 K, .int .u32 f, .int .i64 s, .int .u64 g, .int .i64 c]) [9, 11, 12] (by kernel_rfl) ⟨HPV.out, HOV.out⟩ (fun hHeld => ?_)
    have HBV := Lib.hid ((Below.refl w3.heap.size w3).drew)
    have HPV := Lib.hid (HPV.out.below HBV.out HPV.out.lt)
    have HOV := Lib.hid (HOV.out.below HBV.out HOV.out.lt)
    generalize w3.drew = vd at *
    refine Tillst.takeG (i := 0) (oi := dd0) (v := ?_) rfl (by kernel_rfl) (by kernel_rfl) (by kernel_rfl) (by kernel_rfl) (by kernel_rfl) (fun _ _ _ h => h) (by rfl) ?_ hHeld ?_
    rotate_left
    · intro W hSW; obtain ⟨s1, s2⟩ := hSW; have t0 := s1.cell 0; have t1 := s1.cell 1; have s4 := s2.cell 1; have s5 := s2.cell 2; have s6 := s2.cell 3; have s7 := s2.cell 4; unfold dd0; go_simp; with_reducible rfl
    simp only [dd0, Act.put, List.setIfInBounds_toArray, List.set_cons_zero, List.set_cons_succ]
    refine Tillst.takeG (i := 1) (oi := dd1) (v := ?_) rfl (by kernel_rfl) (by kernel_rfl) (by kernel_rfl) (by kernel_rfl) (by kernel_rfl) (fun _ _ _ h => h) (by rfl) ?_ hHeld ?_
    rotate_left
    · intro W hSW; obtain ⟨s1, s2⟩ := hSW; have t0 := s1.cell 0; have t1 := s1.cell 1; have s4 := s2.cell 1; have s5 := s2.cell 2; have s6 := s2.cell 3; have s7 := s2.cell 4; unfold dd1; go_simp; with_reducible rfl
    simp only [dd1, Act.put, List.setIfInBounds_toArray, List.set_cons_zero, List.set_cons_succ]
    refine Tillst.takeG (i := 2) (oi := dd2) (v := ?_) rfl (by kernel_rfl) (by kernel_rfl) (by kernel_rfl) (by kernel_rfl) (by kernel_rfl) (fun _ _ _ h => h) (by rfl) ?_ hHeld ?_
    rotate_left
    · intro W hSW; obtain ⟨s1, s2⟩ := hSW; have t0 := s1.cell 0; have t1 := s1.cell 1; have s4 := s2.cell 1; have s5 := s2.cell 2; have s6 := s2.cell 3; have s7 := s2.cell 4; unfold dd2; go_simp; with_reducible rfl
    simp only [dd2, Act.put, List.setIfInBounds_toArray, List.set_cons_zero, List.set_cons_succ]
    refine Tillst.takeG (i := 3) (oi := dd3) (v := ?_) rfl (by kernel_rfl) (by kernel_rfl) (by kernel_rfl) (by kernel_rfl) (by kernel_rfl) (fun _ _ _ h => h) (by rfl) ?_ hHeld ?_
    rotate_left
    · intro W hSW; obtain ⟨s1, s2⟩ := hSW; have t0 := s1.cell 0; have t1 := s1.cell 1; have s4 := s2.cell 1; have s5 := s2.cell 2; have s6 := s2.cell 3; have s7 := s2.cell 4; unfold dd3; go_simp; with_reducible rfl
    simp only [dd3, Act.put, List.setIfInBounds_toArray, List.set_cons_zero, List.set_cons_succ]
    refine Tillst.takeG (i := 4) (oi := dd4) (v := ?_) rfl (by kernel_rfl) (by kernel_rfl) (by kernel_rfl) (by kernel_rfl) (by kernel_rfl) (fun _ _ _ h => h) (by rfl) ?_ hHeld ?_
    rotate_left
    · intro W hSW; obtain ⟨s1, s2⟩ := hSW; have t0 := s1.cell 0; have t1 := s1.cell 1; have s4 := s2.cell 1; have s5 := s2.cell 2; have s6 := s2.cell 3; have s7 := s2.cell 4; unfold dd4; go_simp; with_reducible rfl
    simp only [dd4, Act.put, List.setIfInBounds_toArray, List.set_cons_zero, List.set_cons_succ]
    refine Tillst.takeG (i := 5) (oi := dd5) (v := ?_) rfl (by kernel_rfl) (by kernel_rfl) (by kernel_rfl) (by kernel_rfl) (by kernel_rfl) (fun _ _ _ h => h) (by rfl) ?_ hHeld ?_
    rotate_left
    · intro W hSW; obtain ⟨s1, s2⟩ := hSW; have t0 := s1.cell 0; have t1 := s1.cell 1; have s4 := s2.cell 1; have s5 := s2.cell 2; have s6 := s2.cell 3; have s7 := s2.cell 4; unfold dd5; go_simp; with_reducible rfl
    simp only [dd5, Act.put, List.setIfInBounds_toArray, List.set_cons_zero, List.set_cons_succ]
    refine Tillst.two (i := 6) (j := 10) (o := dd6) (o' := dd10) (by kernel_rfl) rfl rfl ?_ ?_
    · intro KK hK
      refine step_call 26 _ _ rfl rfl Try.func26 (by kernel_rfl) (by kernel_rfl) [refV slots A n cap, .int .u64 g] rfl ?_
      refine (HREF.out _ HBV.out).mono ?_
      rintro e w8 ⟨⟨A', cap', rfl, hown⟩, hb8⟩
      obtain ⟨A2, cap2, e2, _, hA8, hr8⟩ := EntM.rowZ_own hown rfl rfl
      injection e2 with e2 _ e2c
      subst e2 e2c
      have HA8 := Lib.hid hA8
      have hszV := HBV.out.size
      have HR8 := Lib.hid (hr8.more (T := fun b => b < w8.heap.size ∧ b ≠ x ∧ b ≠ p) (fun b h => by refine ⟨?_, ?_, ?_⟩ <;> omega))
      have HPV := Lib.hid (HPV.out.below hb8 HPV.out.lt)
      have HOV := Lib.hid (HOV.out.below hb8 HOV.out.lt)
      have HBV := Lib.hid (HBV.out.trans (hb8.mono hszV))
      clear hr8 hA8 hb8 hown
      refine ⟨_, rfl, ?_⟩
      simp only [dd6, Act.put, List.setIfInBounds_toArray, List.set_cons_zero, List.set_cons_succ]
      refine hK.out _ _ (fun _ => ⟨HPV.out, HOV.out⟩) (fun hHeld => ?_)
      replace hHeld := hHeld (by decide)
      clear hK KK
      refine Tillst.takeG (i := 7) (oi := dd7) (v := ?_) rfl (by kernel_rfl) (by kernel_rfl) (by kernel_rfl) (by kernel_rfl) (by kernel_rfl) (fun _ _ _ h => h) (by rfl) ?_ hHeld ?_
      rotate_left
      · intro W hSW; obtain ⟨s1, s2⟩ := hSW; have t0 := s1.cell 0; have t1 := s1.cell 1; have s4 := s2.cell 1; have s5 := s2.cell 2; have s6 := s2.cell 3; have s7 := s2.cell 4; unfold dd7; go_simp; with_reducible rfl
      simp only [dd7, Act.put, List.setIfInBounds_toArray, List.set_cons_zero, List.set_cons_succ]
      refine Tillst.takeF (i := 9) (oi := dd9) (v := ?_) rfl (by kernel_rfl) (by kernel_rfl) (by kernel_rfl) (by decide) (fun _ _ _ h => h) (by rfl) ?_ ?_
      rotate_left
      · intro W; unfold dd9; go_simp; with_reducible rfl
      simp only [dd9, Act.put, List.setIfInBounds_toArray, List.set_cons_zero, List.set_cons_succ]
      refine Tillst.takeG (i := 8) (oi := dd8) (v := ?_) rfl (by kernel_rfl) (by kernel_rfl) (by kernel_rfl) (by kernel_rfl) (by kernel_rfl) (fun _ _ _ h => h) (by rfl) ?_ hHeld ?_
      rotate_left
      · intro W hSW; obtain ⟨s1, s2⟩ := hSW; have t0 := s1.cell 0; have t1 := s1.cell 1; have s4 := s2.cell 1; have s5 := s2.cell 2; have s6 := s2.cell 3; have s7 := s2.cell 4; unfold dd8; go_simp; with_reducible rfl
      simp only [dd8, Act.put, List.setIfInBounds_toArray, List.set_cons_zero, List.set_cons_succ]
      refine Tillst.one (i := 10) (o := dd10) (by kernel_rfl) rfl ?_
      intro KK hK
      refine step_allocS 31 rfl rfl #[.int .i64 0, .slice none 0 0] zero_ref ?_
      have hba := (Below.refl w8.heap.size w8).alloc (Nat.le_refl _) (.cells #[.int .i64 0, .slice none 0 0] 31)
      have HGZ := Lib.hid (Blk.new w8 31 #[.int .i64 0, .slice none 0 0])
      obtain ⟨gz, hgz⟩ : ∃ gz, w8.heap.size = gz := ⟨_, rfl⟩
      have hszW := HBV.out.size
      have hgz3 : w3.heap.size ≤ gz := by omega
      have HPV := Lib.hid (HPV.out.below hba HPV.out.lt)
      have HOV := Lib.hid (HOV.out.below hba HOV.out.lt)
      have HBV := Lib.hid (HBV.out.trans (hba.mono hszW))
      have HR8 := Lib.hid ((HR8.out.below hba (fun b h => h.1)).more (T := fun b => b < gz ∧ b ≠ x ∧ b ≠ p) (fun b h => ⟨by have := h.1; omega, h.2⟩))
      rw [hgz] at HGZ ⊢
      generalize w8.alloc (.cells #[.int .i64 0, .slice none 0 0] 31) = va at *
      clear hba hgz hszW
      simp only [dd10, Act.put, List.setIfInBounds_toArray, List.set_cons_zero, List.set_cons_succ]
      refine hK.out _ _ (fun _ => ⟨HPV.out, HOV.out⟩) (fun hHeld => ?_)
      replace hHeld := hHeld (by decide)
      clear hK KK
      refine Tillst.one (i := 11) (o := dd11) (by kernel_rfl) rfl ?_
      intro KK hK
      refine step_store_whole (.tmp 10) (.tmp 103) 31 (by with_reducible rfl) (by rfl) gz #[.int .i64 slots, .slice A' _ cap'] #[.int .i64 0, .slice none 0 0] 31 (by rfl) (by rfl) HGZ.out size_refS rfl (by intro v hv; simp at hv; rcases hv with rfl | rfl <;> rfl) ?_
      have hkz := (Kept.refl (fun b => b ≠ gz) va).setRow (fun h => h rfl) #[.int .i64 slots, .slice A' (dropE es g).length cap']
      have hgz2 := HGZ.out.lt
      have HGZ := Lib.hid (show Blk (va.setRow gz #[.int .i64 slots, .slice A' (dropE es g).length cap']) gz 31 #[.int .i64 slots, .slice A' (dropE es g).length cap'] from setRow_heap va gz _ _ _ _ HGZ.out)
      have HPV := Lib.hid (HPV.out.kept hkz (show p ≠ gz by omega))
      have HR9 := Lib.hid (show RowE (va.setRow gz #[.int .i64 slots, .slice A' (dropE es g).length cap']) (fun b => b < (va.setRow gz #[.int .i64 slots, .slice A' (dropE es g).length cap']).heap.size ∧ b ≠ x ∧ b ≠ p) A' _ _ from (HR8.out.kept hkz (fun b h => show b ≠ gz from by have := h.1; omega)).more (fun b h => ⟨by have e : (va.setRow gz #[.int .i64 slots, .slice A' (dropE es g).length cap']).heap.size = va.heap.size := (by simp [World.setRow]); rw [e]; have := h.1; omega, h.2⟩))
      have HXV := Lib.hid ((HX3.out.below HBV.out HX3.out.lt).kept hkz (show x ≠ gz by omega))
      have HKV := Lib.hid (HK3.out.trans ((Kept.of_below (S := fun b => b < w3.heap.size) HBV.out (fun b h => h)).trans (hkz.mono (S := fun b => b < w3.heap.size) (fun b h => show b ≠ gz by omega)) (fun b h => h)) (fun b h => by have := HB2.out.size; have := h.1; omega))
      generalize va.setRow gz #[.int .i64 slots, .slice A' (dropE es g).length cap'] = wz at *
      simp only [dd11, Act.put]
      refine hK.out _ _ (fun h => absurd h (by decide)) (fun _ => ?_)
      clear hK KK hkz
      refine Tillst.one (i := 12) (o := dd12) (by kernel_rfl) rfl ?_
      intro KK hK
      refine step_value ?_ rfl ?_ ?_
      rotate_left
      · unfold dd12; go_simp; with_reducible rfl
      simp only [dd12, Act.put, List.setIfInBounds_toArray, List.set_cons_zero, List.set_cons_succ]
      refine hK.out _ _ (fun h => absurd h (by decide)) (fun _ => ?_)
      clear hK KK hHeld
      refine Tillst.done (by kernel_rfl) ?_ _
      refine NoPanic.normal ?_
      have z0 := HGZ.out
      have k0 := Blk.cell z0 0
      have k1 := Blk.cell z0 1
      have j0 := HPV.out.cell 0
      have j1 := HPV.out.cell 1
      have f0 := HPV.out.frozen 0
      have f1 := HPV.out.frozen 1
      simp only [List.getElem?_toArray, List.getElem?_cons_zero, List.getElem?_cons_succ] at k0 k1
      clear z0
      obtain ⟨dn, hdn⟩ : ∃ d : Nat, es.length - (dropE es g).length = d := ⟨_, rfl⟩
      rw [hdn]
      have hdn2 : dn ≤ 1024 := by omega
      clear hdn
      go_wp2
      go_ret
      refine ⟨rfl, ?_, ?_, (HKV.out.setCell (fun h => h.2.2 rfl) _).setCell (fun h => h.2.2 rfl) _⟩
      · exact (HXV.out.kept (S := fun b => b ≠ p) (((Kept.refl _ wz).setCell (p := ⟨p, 0, none⟩) (fun h => h rfl) _).setCell (p := ⟨p, 1, none⟩) (fun h => h rfl) _) hpx.symm)
      · exact YS.storeC (x := x) HPV.out HR9.out HA8.out
    · intro KK hK
      refine step_allocS 31 rfl rfl #[.int .i64 0, .slice none 0 0] zero_ref ?_
      have hba := (Below.refl vd.heap.size vd).alloc (Nat.le_refl _) (.cells #[.int .i64 0, .slice none 0 0] 31)
      have HGZ := Lib.hid (Blk.new vd 31 #[.int .i64 0, .slice none 0 0])
      obtain ⟨gz, hgz⟩ : ∃ gz, vd.heap.size = gz := ⟨_, rfl⟩
      have hszW := HBV.out.size
      have hgz3 : w3.heap.size ≤ gz := by omega
      have HPV := Lib.hid (HPV.out.below hba HPV.out.lt)
      have HOV := Lib.hid (HOV.out.below hba HOV.out.lt)
      have HBV := Lib.hid (HBV.out.trans (hba.mono hszW))
      rw [hgz] at HGZ ⊢
      generalize vd.alloc (.cells #[.int .i64 0, .slice none 0 0] 31) = va at *
      clear hba hgz hszW
      simp only [dd10, Act.put, List.setIfInBounds_toArray, List.set_cons_zero, List.set_cons_succ]
      refine hK.out _ _ (fun _ => ⟨HPV.out, HOV.out⟩) (fun hHeld => ?_)
      replace hHeld := hHeld (by decide)
      clear hK KK
      refine Tillst.one (i := 6) (o := dd6) (by kernel_rfl) rfl ?_
      intro KK hK
      refine step_call 26 _ _ rfl rfl Try.func26 (by kernel_rfl) (by kernel_rfl) [refV slots A n cap, .int .u64 g] rfl ?_
      refine (HREF.out _ HBV.out).mono ?_
      rintro e w8 ⟨⟨A', cap', rfl, hown⟩, hb8⟩
      obtain ⟨A2, cap2, e2, _, hA8, hr8⟩ := EntM.rowZ_own hown rfl rfl
      injection e2 with e2 _ e2c
      subst e2 e2c
      have HA8 := Lib.hid hA8
      have hszV := HBV.out.size
      have HR8 := Lib.hid (hr8.more (T := fun b => b < w8.heap.size ∧ b ≠ x ∧ b ≠ p) (fun b h => by refine ⟨?_, ?_, ?_⟩ <;> omega))
      have HPV := Lib.hid (HPV.out.below hb8 HPV.out.lt)
      have HOV := Lib.hid (HOV.out.below hb8 HOV.out.lt)
      have hgzl := HGZ.out.lt
      have HGZ := Lib.hid (HGZ.out.below hb8 HGZ.out.lt)
      have HR8 := Lib.hid (hr8.more (T := fun b => (va.heap.size ≤ b ∧ b < w8.heap.size) ∧ b ≠ x ∧ b ≠ p) (fun b h => by refine ⟨h, ?_, ?_⟩ <;> omega))
      have HBV := Lib.hid (HBV.out.trans (hb8.mono hszV))
      clear hr8 hA8 hb8 hown
      refine ⟨_, rfl, ?_⟩
      simp only [dd6, Act.put, List.setIfInBounds_toArray, List.set_cons_zero, List.set_cons_succ]
      refine hK.out _ _ (fun _ => ⟨HPV.out, HOV.out⟩) (fun hHeld => ?_)
      replace hHeld := hHeld (by decide)
      clear hK KK
      refine Tillst.takeG (i := 7) (oi := dd7) (v := ?_) rfl (by kernel_rfl) (by kernel_rfl) (by kernel_rfl) (by kernel_rfl) (by kernel_rfl) (fun _ _ _ h => h) (by rfl) ?_ hHeld ?_
      rotate_left
      · intro W hSW; obtain ⟨s1, s2⟩ := hSW; have t0 := s1.cell 0; have t1 := s1.cell 1; have s4 := s2.cell 1; have s5 := s2.cell 2; have s6 := s2.cell 3; have s7 := s2.cell 4; unfold dd7; go_simp; with_reducible rfl
      simp only [dd7, Act.put, List.setIfInBounds_toArray, List.set_cons_zero, List.set_cons_succ]
      refine Tillst.takeF (i := 9) (oi := dd9) (v := ?_) rfl (by kernel_rfl) (by kernel_rfl) (by kernel_rfl) (by decide) (fun _ _ _ h => h) (by rfl) ?_ ?_
      rotate_left
      · intro W; unfold dd9; go_simp; with_reducible rfl
      simp only [dd9, Act.put, List.setIfInBounds_toArray, List.set_cons_zero, List.set_cons_succ]
      refine Tillst.takeG (i := 8) (oi := dd8) (v := ?_) rfl (by kernel_rfl) (by kernel_rfl) (by kernel_rfl) (by kernel_rfl) (by kernel_rfl) (fun _ _ _ h => h) (by rfl) ?_ hHeld ?_
      rotate_left
      · intro W hSW; obtain ⟨s1, s2⟩ := hSW; have t0 := s1.cell 0; have t1 := s1.cell 1; have s4 := s2.cell 1; have s5 := s2.cell 2; have s6 := s2.cell 3; have s7 := s2.cell 4; unfold dd8; go_simp; with_reducible rfl
      simp only [dd8, Act.put, List.setIfInBounds_toArray, List.set_cons_zero, List.set_cons_succ]
      refine Tillst.one (i := 11) (o := dd11) (by kernel_rfl) rfl ?_
      intro KK hK
      refine step_store_whole (.tmp 10) (.tmp 103) 31 (by with_reducible rfl) (by rfl) gz #[.int .i64 slots, .slice A' _ cap'] #[.int .i64 0, .slice none 0 0] 31 (by rfl) (by rfl) HGZ.out size_refS rfl (by intro v hv; simp at hv; rcases hv with rfl | rfl <;> rfl) ?_
      have hkz := (Kept.refl (fun b => b ≠ gz) w8).setRow (fun h => h rfl) #[.int .i64 slots, .slice A' (dropE es g).length cap']
      have hgz2 := HGZ.out.lt
      have HGZ := Lib.hid (show Blk (w8.setRow gz #[.int .i64 slots, .slice A' (dropE es g).length cap']) gz 31 #[.int .i64 slots, .slice A' (dropE es g).length cap'] from setRow_heap w8 gz _ _ _ _ HGZ.out)
      have HPV := Lib.hid (HPV.out.kept hkz (show p ≠ gz by omega))
      have HR9 := Lib.hid (show RowE (w8.setRow gz #[.int .i64 slots, .slice A' (dropE es g).length cap']) (fun b => b < (w8.setRow gz #[.int .i64 slots, .slice A' (dropE es g).length cap']).heap.size ∧ b ≠ x ∧ b ≠ p) A' _ _ from (HR8.out.kept hkz (fun b h => show b ≠ gz from by have := h.1.1; omega)).more (fun b h => ⟨by have e : (w8.setRow gz #[.int .i64 slots, .slice A' (dropE es g).length cap']).heap.size = w8.heap.size := (by simp [World.setRow]); rw [e]; exact h.1.2, h.2⟩))
      have HXV := Lib.hid ((HX3.out.below HBV.out HX3.out.lt).kept hkz (show x ≠ gz by omega))
      have HKV := Lib.hid (HK3.out.trans ((Kept.of_below (S := fun b => b < w3.heap.size) HBV.out (fun b h => h)).trans (hkz.mono (S := fun b => b < w3.heap.size) (fun b h => show b ≠ gz by omega)) (fun b h => h)) (fun b h => by have := HB2.out.size; have := h.1; omega))
      generalize w8.setRow gz #[.int .i64 slots, .slice A' (dropE es g).length cap'] = wz at *
      simp only [dd11, Act.put]
      refine hK.out _ _ (fun h => absurd h (by decide)) (fun _ => ?_)
      clear hK KK hkz
      refine Tillst.one (i := 12) (o := dd12) (by kernel_rfl) rfl ?_
      intro KK hK
      refine step_value ?_ rfl ?_ ?_
      rotate_left
      · unfold dd12; go_simp; with_reducible rfl
      simp only [dd12, Act.put, List.setIfInBounds_toArray, List.set_cons_zero, List.set_cons_succ]
      refine hK.out _ _ (fun h => absurd h (by decide)) (fun _ => ?_)
      clear hK KK hHeld
      refine Tillst.done (by kernel_rfl) ?_ _
      refine NoPanic.normal ?_
      have z0 := HGZ.out
      have k0 := Blk.cell z0 0
      have k1 := Blk.cell z0 1
      have j0 := HPV.out.cell 0
      have j1 := HPV.out.cell 1
      have f0 := HPV.out.frozen 0
      have f1 := HPV.out.frozen 1
      simp only [List.getElem?_toArray, List.getElem?_cons_zero, List.getElem?_cons_succ] at k0 k1
      clear z0
      obtain ⟨dn, hdn⟩ : ∃ d : Nat, es.length - (dropE es g).length = d := ⟨_, rfl⟩
      rw [hdn]
      have hdn2 : dn ≤ 1024 := by omega
      clear hdn
      go_wp2
      go_ret
      refine ⟨rfl, ?_, ?_, (HKV.out.setCell (fun h => h.2.2 rfl) _).setCell (fun h => h.2.2 rfl) _⟩
      · exact (HXV.out.kept (S := fun b => b ≠ p) (((Kept.refl _ wz).setCell (p := ⟨p, 0, none⟩) (fun h => h rfl) _).setCell (p := ⟨p, 1, none⟩) (fun h => h rfl) _) hpx.symm)
      · exact YS.storeC (x := x) HPV.out HR9.out HA8.out
  · rw [hq]
    have hRF := fun (V : World) (hb : Below w2.heap.size w2 V) => (HY2.out.below hb)
    have HYF := Lib.hid hRF
    clear hRF
    obtain ⟨A, n, cap, hp1, hr1, hA1⟩ := HY2.out
    have hn1 : n ≤ 1024 := by rw [← hr1.1]; omega
    have HPV := Lib.hid hp1
    have HOV := Lib.hid HO2.out
    have HREF := Lib.hid (fun (V : World) (hb : Below w2.heap.size w2 V) => ref_find ((hr1.below hb (fun b h => h.1)).more (T := fun b => b < V.heap.size) (fun b h => Nat.lt_of_lt_of_le h.1 hb.size)) (slots : Int) f hn1 (cap := cap))
    clear hr1 hp1
    go_wp2_with fail
    refine wp_region_noPanic ?_
    refine Tillst.region (fun W => Blk W p 31 #[.int .i64 slots, .slice A n cap] ∧ Blk W w.heap.size 38 #[.int .i64 K, .int .u32 f, .int .i64 s, .int .u64 g, .int .i64 c]) [] (by kernel_rfl) ⟨HPV.out, HOV.out⟩ (fun hHeld => ?_)
    have HBV := Lib.hid ((Below.refl w2.heap.size w2).drew)
    have HPV := Lib.hid (HPV.out.below HBV.out HPV.out.lt)
    have HOV := Lib.hid (HOV.out.below HBV.out HOV.out.lt)
    generalize w2.drew = vd at *
    refine Tillst.takeG (i := 0) (oi := df0) (v := ?_) rfl (by kernel_rfl) (by kernel_rfl) (by kernel_rfl) (by kernel_rfl) (by kernel_rfl) (fun _ _ _ h => h) (by rfl) ?_ hHeld ?_
    rotate_left
    · intro W hSW; obtain ⟨s1, s2⟩ := hSW; have t0 := s1.cell 0; have t1 := s1.cell 1; have s4 := s2.cell 1; have s5 := s2.cell 2; have s6 := s2.cell 3; have s7 := s2.cell 4; unfold df0; go_simp; with_reducible rfl
    simp only [df0, Act.put, List.setIfInBounds_toArray, List.set_cons_zero, List.set_cons_succ]
    refine Tillst.takeG (i := 1) (oi := df1) (v := ?_) rfl (by kernel_rfl) (by kernel_rfl) (by kernel_rfl) (by kernel_rfl) (by kernel_rfl) (fun _ _ _ h => h) (by rfl) ?_ hHeld ?_
    rotate_left
    · intro W hSW; obtain ⟨s1, s2⟩ := hSW; have t0 := s1.cell 0; have t1 := s1.cell 1; have s4 := s2.cell 1; have s5 := s2.cell 2; have s6 := s2.cell 3; have s7 := s2.cell 4; unfold df1; go_simp; with_reducible rfl
    simp only [df1, Act.put, List.setIfInBounds_toArray, List.set_cons_zero, List.set_cons_succ]
    refine Tillst.takeG (i := 2) (oi := df2) (v := ?_) rfl (by kernel_rfl) (by kernel_rfl) (by kernel_rfl) (by kernel_rfl) (by kernel_rfl) (fun _ _ _ h => h) (by rfl) ?_ hHeld ?_
    rotate_left
    · intro W hSW; obtain ⟨s1, s2⟩ := hSW; have t0 := s1.cell 0; have t1 := s1.cell 1; have s4 := s2.cell 1; have s5 := s2.cell 2; have s6 := s2.cell 3; have s7 := s2.cell 4; unfold df2; go_simp; with_reducible rfl
    simp only [df2, Act.put, List.setIfInBounds_toArray, List.set_cons_zero, List.set_cons_succ]
    refine Tillst.takeG (i := 3) (oi := df3) (v := ?_) rfl (by kernel_rfl) (by kernel_rfl) (by kernel_rfl) (by kernel_rfl) (by kernel_rfl) (fun _ _ _ h => h) (by rfl) ?_ hHeld ?_
    rotate_left
    · intro W hSW; obtain ⟨s1, s2⟩ := hSW; have t0 := s1.cell 0; have t1 := s1.cell 1; have s4 := s2.cell 1; have s5 := s2.cell 2; have s6 := s2.cell 3; have s7 := s2.cell 4; unfold df3; go_simp; with_reducible rfl
    simp only [df3, Act.put, List.setIfInBounds_toArray, List.set_cons_zero, List.set_cons_succ]
    refine Tillst.takeG (i := 4) (oi := df4) (v := ?_) rfl (by kernel_rfl) (by kernel_rfl) (by kernel_rfl) (by kernel_rfl) (by kernel_rfl) (fun _ _ _ h => h) (by rfl) ?_ hHeld ?_
    rotate_left
    · intro W hSW; obtain ⟨s1, s2⟩ := hSW; have t0 := s1.cell 0; have t1 := s1.cell 1; have s4 := s2.cell 1; have s5 := s2.cell 2; have s6 := s2.cell 3; have s7 := s2.cell 4; unfold df4; go_simp; with_reducible rfl
    simp only [df4, Act.put, List.setIfInBounds_toArray, List.set_cons_zero, List.set_cons_succ]
    refine Tillst.one (i := 5) (o := df5) (by kernel_rfl) rfl ?_
    intro KK hK
    refine step_call 15 _ _ rfl rfl Try.func15 (by kernel_rfl) (by kernel_rfl) [refV slots A n cap, .int .u32 f] rfl ?_
    refine (HREF.out _ HBV.out).mono ?_
    rintro e w8 ⟨⟨v1, rfl, hu1⟩, hb8⟩
    obtain ⟨A1, cap1, rfl⟩ := ownsRow_slice hu1
    obtain ⟨A1', cap1', e1, _, _, hr1⟩ := Adr.rowZ_own hu1 rfl rfl
    injection e1 with e1 _ e1c
    subst e1 e1c
    have HW1 := Lib.hid (hr1.more (T := fun b => b < w8.heap.size) (fun b h => h.2))
    have HPV := Lib.hid (HPV.out.below hb8 HPV.out.lt)
    have HOV := Lib.hid (HOV.out.below hb8 HOV.out.lt)
    have HBV := Lib.hid (HBV.out.trans (hb8.mono HBV.out.size))
    clear hr1 hu1 hb8
    refine ⟨_, rfl, ?_⟩
    simp only [df5, Act.put, List.setIfInBounds_toArray, List.set_cons_zero, List.set_cons_succ]
    refine hK.out _ _ (fun _ => ⟨HPV.out, HOV.out⟩) (fun hHeld => ?_)
    replace hHeld := hHeld (by decide)
    clear hK KK
    refine Tillst.one (i := 6) (o := df6) (by kernel_rfl) rfl ?_
    intro KK hK
    refine step_value ?_ rfl ?_ ?_
    rotate_left
    · unfold df6; go_simp; with_reducible rfl
    simp only [df6, Act.put, List.setIfInBounds_toArray, List.set_cons_zero, List.set_cons_succ]
    refine hK.out _ _ (fun _ => hHeld) (fun hHeld => ?_)
    clear hK KK hHeld
    refine Tillst.done (by kernel_rfl) ?_ _
    refine NoPanic.normal ?_
    have HX8 := Lib.hid (HX2.out.below HBV.out HX2.out.lt)
    have HY8 := Lib.hid (HYF.out _ HBV.out)
    have hbs8 := HBV.out.size
    have hfl : (findE es f).length ≤ 1024 := by
      unfold findE
      rw [List.length_map, List.length_reverse]
      have h1 := List.length_filter_le (fun e : Ent => decide (e.1 = (f : Int))) es
      omega
    clear c0 c1 c2 c3 c4
    obtain ⟨m, hm⟩ : ∃ m, (findE es f).length = m := ⟨_, rfl⟩
    rw [hm] at HW1 hfl ⊢
    have HM := Lib.hid hm
    clear hm
    go_wp2
    go_loopw [13] (fun i wr => ∃ r : Nat, i = .int .i64 r ∧ r ≤ 2 ∧ Below w8.heap.size w8 wr) (fun i _ => 2 - (intOf i).toNat)
    case atStart => exact ⟨0, rfl, by omega, Below.refl _ _⟩
    case round =>
      obtain ⟨r, rfl, hr2, hB⟩ := hrel
      have HBR := Lib.hid hB
      have hbr := hB.size
      clear hB
      obtain rfl | hr3 : r = 2 ∨ r < 2 := by omega
      · go_wp2
        go_ret
        rw [hq]
        refine ⟨rfl, HX8.out.below HBR.out HX8.out.lt, HY8.out.below HBR.out, (Kept.of_below (S := fun b => b < w.heap.size ∧ b ≠ x ∧ b ≠ p) HB2.out (fun b h => h.1)).trans ((Kept.of_below (S := fun b => b < w2.heap.size) HBV.out (fun b h => h)).trans (Kept.of_below (S := fun b => b < w8.heap.size) HBR.out (fun b h => h)) (fun b h => by omega)) (fun b h => by have := h.1; omega)⟩
      · obtain ⟨wo, hwo⟩ : ∃ wo : World, wo = wr := ⟨_, rfl⟩
        have hc1 := (HOV.out.below HBR.out HOV.out.lt).cell 1
        rw [← hwo] at HBR hbr
        have HWO := Lib.hid hwo
        clear hwo
        go_wp2_with fail
        rw [← HWO.out]
        refine (find_ix (HX8.out.below HBR.out HX8.out.lt) f).mono ?_
        rintro e w9 ⟨⟨v2, rfl, hu2⟩, hb9⟩
        rw [HM.out] at hu2
        obtain ⟨A2, cap2, rfl⟩ := ownsRow_slice hu2
        obtain ⟨A2', cap2', e2, _, _, hr9⟩ := Adr.rowZ_own hu2 rfl HM.out
        injection e2 with e2 _ e2c
        subst e2 e2c
        have HR9 := Lib.hid hr9
        have HB9 := Lib.hid (HBR.out.trans (hb9.mono hbr))
        have HU2 := Lib.hid hu2
        have hbs9 := hb9.size
        clear hr9 hu2 hb9 hc1
        go_wp2_with fail
        refine (same_yes HR9.out (HW1.out.below HB9.out (fun b h => h)) rfl (by omega)).mono ?_
        rintro e w10 ⟨rfl, hk10⟩
        have HB10 := Lib.hid (HB9.out.trans (hk10.to_below (B := w8.heap.size) (fun _ _ => trivial)))
        have hbs10 := hk10.size
        have HLB := Lib.hid (show m = 0 ∨ ∃ g2 cur, A2 = some ⟨g2, 0, none⟩ ∧ wo.heap.size ≤ g2 ∧ m * 3 ≤ cur.size ∧ Blk w10 g2 36 cur by
          rcases HU2.out.2 with ⟨_, h0⟩ | ⟨g2, cap', cur, h1, h2, h3, h4, _, h5, _⟩
          · exact .inl h0
          · injection h1 with h1 _ _
            exact .inr ⟨g2, cur, h1, h2, by rw [h5]; omega, (hk10.block g2 trivial).trans h3⟩)
        clear hk10
        go_wp2
        rcases HLB.out with hz | ⟨g2, cur, rfl, hg2, hcur, hblk⟩
        · subst hz
          go_loopw [38] (fun i wr => i = .int .i64 0 ∧ wr = w10) (fun i _ => 0)
          case atStart => exact ⟨rfl, rfl⟩
          case round =>
            obtain ⟨rfl, rfl⟩ := hrel
            go_wp2
            go_roundw
            case rel => exact ⟨r + 1, by simp, by omega, HB10.out⟩
            case measure => show 2 - (Int.toNat ((r : Int) + 1)) < 2 - (Int.toNat (r : Int)); omega
        · have HB0 := Lib.hid hblk
          clear hblk
          go_loopw [38] (fun i wr => ∃ (j : Nat) (cur : Array Value), i = .int .i64 j ∧ j ≤ m ∧ m * 3 ≤ cur.size ∧ Blk wr g2 36 cur ∧ Below w8.heap.size w8 wr) (fun i _ => m - (intOf i).toNat)
          case atStart => exact ⟨0, cur, rfl, by omega, hcur, HB0.out, HB10.out⟩
          case round =>
            obtain ⟨j, cu, rfl, hj, hcu, hbk, hbl⟩ := hrel
            have HBK := Lib.hid hbk
            have HBL := Lib.hid hbl
            clear hbl
            by_cases hjm : j < m
            · obtain ⟨y0, hy0⟩ : ∃ v, cu[j * 3]? = some v := ⟨_, Array.getElem?_eq_getElem (by omega)⟩
              obtain ⟨y1, hy1⟩ : ∃ v, cu[j * 3 + 1]? = some v := ⟨_, Array.getElem?_eq_getElem (by omega)⟩
              obtain ⟨y2, hy2⟩ : ∃ v, cu[j * 3 + 2]? = some v := ⟨_, Array.getElem?_eq_getElem (by omega)⟩
              have q0 := hbk.cell (j * 3)
              have q1 := hbk.cell (j * 3 + 1)
              have q2 := hbk.cell (j * 3 + 2)
              rw [hy0] at q0
              rw [hy1] at q1
              rw [hy2] at q2
              have f0 := hbk.frozen (j * 3)
              have f1 := hbk.frozen (j * 3 + 1)
              have f2 := hbk.frozen (j * 3 + 2)
              clear hbk hy0 hy1 hy2
              go_wp2
              go_roundw
              case rel =>
                have h1 := ((HBK.out.set_ (j * 3) (.int .i64 (-9))).set_ (j * 3 + 1) (.int .u64 0)).set_ (j * 3 + 2) (.int .i64 0)
                exact ⟨j + 1, _, by simp, by omega, by simp only [Array.size_setIfInBounds]; exact hcu, h1, ((HBL.out.setCell (p := ⟨g2, j * 3, none⟩) (by simp only []; omega) _).setCell (p := ⟨g2, j * 3 + 1, none⟩) (by simp only []; omega) _).setCell (p := ⟨g2, j * 3 + 2, none⟩) (by simp only []; omega) _⟩
              case measure => show m - (Int.toNat ((j : Int) + 1)) < m - (Int.toNat (j : Int)); omega
            · obtain rfl : j = m := by omega
              clear hbk
              go_wp2
              go_roundw
              case rel => exact ⟨r + 1, by simp, by omega, HBL.out⟩
              case measure => show 2 - (Int.toNat ((r : Int) + 1)) < 2 - (Int.toNat (r : Int)); omega
end Go.Proofs.Ytfgmbkflpdobcaa
