/- LruDrains. -/
import Derived.Test.YthegbimolbhikaaDrP
import Derived.Test.YthegbimolbhikaaKind12
import Derived.Test.YthegbimolbhikaaWakes12
import Derived.Test.YthegbimolbhikaaOctet
import Derived.Test.YthegbimolbhikaaCalm
import Derived.Test.YthegbimolbhikaaTill
namespace Go.Proofs.Ythegbimolbhikaa
open Go.RowKit Go.Maps
attribute [local go_sem] Oper.semAt_some
set_option linter.unusedVariables false
set_option linter.unusedSimpArgs false
set_option maxRecDepth 100000
theorem kept_grown12 {w w' : World} {S : Nat → Prop} (h : Kept S w w') {b : Nat} (hb : S b) : True := trivial
/-- What stands while an op is done. -/
structure DpS (w : World) (g x p b nD : Nat) (t : TypeId) (cs : Array Value) (xs : List (List Nat)) (D : DataW Unit) (W : World) : Prop where
  blk : Blk W g t cs
  l : LrV W x p 30 xs
  own : W.ownsMap Try.prog 3 elemN b nD D
  bel : Below w.heap.size w W
  hx : w.heap.size ≤ x
  hp : w.heap.size ≤ p
  hb : w.heap.size ≤ b
  xg : x ≠ g
  pg : p ≠ g
theorem DpS.cells {w W : World} {g x p b nD : Nat} {t : TypeId} {cs : Array Value} {xs : List (List Nat)} {D : DataW Unit} (h : DpS w g x p b nD t cs xs D W) : W.cell? ⟨g, 0, none⟩ = cs[0]? ∧ W.cell? ⟨g, 1, none⟩ = cs[1]? ∧ W.cell? ⟨g, 2, none⟩ = cs[2]? :=
  ⟨h.blk.cell 0, h.blk.cell 1, h.blk.cell 2⟩
theorem DpS.next {w W V : World} {g x p b nD : Nat} {t : TypeId} {cs : Array Value} {xs : List (List Nat)} {D : DataW Unit} (h : DpS w g x p b nD t cs xs D W) (hb : Below W.heap.size W V) : DpS w g x p b nD t cs xs D V :=
  ⟨h.blk.below hb h.blk.lt, h.l.below hb h.l.lt.1 h.l.lt.2, h.own.kept (row := none) ⟨hb.os, hb.tape, hb.output, hb.size, fun k hk _ => hb.block k hk⟩ (by simp), h.bel.trans (hb.mono h.bel.size), h.hx, h.hp, h.hb, h.xg, h.pg⟩
theorem DpS.onL {w W V : World} {g x p b nD : Nat} {t : TypeId} {cs : Array Value} {xs xs' : List (List Nat)} {D : DataW Unit} (h : DpS w g x p b nD t cs xs D W) (hl : LrV V x p 30 xs') (hk : Kept (fun k => k ≠ x ∧ k ≠ p) W V) : DpS w g x p b nD t cs xs' D V := by
  obtain ⟨⟨c1, b1⟩, c2, b2⟩ := h.l.blks
  obtain ⟨es, clock, hm, r⟩ := h.own
  have n1 := map_ne12 h.own b1
  have n2 := map_ne12 h.own b2
  exact ⟨h.blk.kept hk ⟨fun e => h.xg e.symm, fun e => h.pg e.symm⟩, hl, ⟨es, clock, (hk.block b ⟨fun e => n1 e.symm, fun e => n2 e.symm⟩).trans hm, r⟩, h.bel.trans (hk.to_below fun k hk => ⟨by have := h.hx; have := h.bel.size; omega, by have := h.hp; have := h.bel.size; omega⟩), h.hx, h.hp, h.hb, h.xg, h.pg⟩
theorem DpS.onM {w W V : World} {g x p b nD nD' : Nat} {t : TypeId} {cs : Array Value} {xs : List (List Nat)} {D D' : DataW Unit} (h : DpS w g x p b nD t cs xs D W) (ho : V.ownsMap Try.prog 3 elemN b nD' D') (hg : W.grownBy V (some b)) : DpS w g x p b nD' t cs xs D' V := by
  obtain ⟨⟨c1, b1⟩, c2, b2⟩ := h.l.blks
  have n1 := map_ne12 h.own b1
  have n2 := map_ne12 h.own b2
  have n3 := map_ne12 h.own h.blk
  exact ⟨h.blk.grown hg (fun e => n3 (by injection e)), h.l.grown hg (fun e => n1 (by injection e)) (fun e => n2 (by injection e)), ho, h.bel.grown hg h.bel.size (fun k hk => by injection hk with hk; have := h.hb; omega), h.hx, h.hp, h.hb, h.xg, h.pg⟩
theorem size_two : (Try.prog.info? 53).map (·.size) = some 2 := by kernel_rfl
theorem guard_two (op : BinOp) (x y : Operand) (u v : Array Value) (w : World) : (eqGuard op 53 x y (.agg u) (.agg v)).run Try.prog w = .ok () w := by
  have h : Try.prog.eqGuardType Try.prog.depth 53 = false := by kernel_rfl
  unfold eqGuard
  have hp : (program : Sem Program).run Try.prog w = .ok Try.prog w := rfl
  cases op <;> simp [h, hp, Sem.run_bind]
theorem eql_two (a b : Int) (w : World) : (binOp .eql 53 (.agg #[.int .i64 a, .int .i64 b]) (.agg #[.int .i64 a, .int .i64 b])).run Try.prog w = .ok (.bool true) w := by
  have he := Try.underlying3
  have ht := Try.underlying53
  have hsz : ∀ w, (sizeOf 3).run Try.prog w = .ok 1 w := Try.sizeOf3
  have h : (Op.equalIn (9998 + 2) 53 (.agg #[.int .i64 a, .int .i64 b]) (.agg #[.int .i64 a, .int .i64 b])).run Try.prog w = .ok true w := by
    rw [Op.equalIn]
    simp only [Sem.run_bind, run_underlying ht, Result.andThen_ok, hsz, Std.Legacy.Range.forIn_eq_forIn_range', Std.Legacy.Range.size, Nat.sub_zero, Nat.add_sub_cancel, Nat.div_one]
    have e : List.range' 0 2 1 = [0, 1] := rfl
    have p0 : (part 3 #[.int .i64 a, .int .i64 b] (0 * 1)).run Try.prog w = .ok (.int .i64 a) w := by simp [part, isAgg, run_underlying he]
    have p1 : (part 3 #[.int .i64 a, .int .i64 b] (1 * 1)).run Try.prog w = .ok (.int .i64 b) w := by simp [part, isAgg, run_underlying he]
    have pa := run_equalIn_int (P := Try.prog) w 9998 3 .i64 .i64 a a he
    have pb := run_equalIn_int (P := Try.prog) w 9998 3 .i64 .i64 b b he
    simp [e, List.forIn_cons, Sem.run_bind, p0, p1, pa, pb, Result.andThen_ok]
  rw [run_eql_struct]
  simp only [Sem.run_bind, h, Result.andThen_ok, Sem.run_pure]
abbrev dz0 : Oper := { dst := some 140, op := Go.Op.move (Go.Operand.tmp 6), type := 26, pos := "outright.go:45", after := #[], guard := none }
abbrev dz1 : Oper := { dst := some 141, op := Go.Op.binOp Go.BinOp.eql 26 (Go.Operand.tmp 140) (Go.Operand.const (Go.Value.int Go.IntKind.i64 4)) 26, type := 4, pos := "outright.go:45", after := #[{ on := 0, ground := Go.Ground.data }], guard := none }
abbrev dz2 : Oper := { dst := some 142, op := Go.Op.move (Go.Operand.tmp 141), type := 4, pos := "outright.go:45", after := #[{ on := 1, ground := Go.Ground.data }], guard := none }
abbrev dz3 : Oper := { dst := some 143, op := Go.Op.move (Go.Operand.tmp 5), type := 25, pos := "outright.go:45", after := #[{ on := 2, ground := Go.Ground.guard }], guard := some (2, true) }
abbrev dz4 : Oper := { dst := some 144, op := Go.Op.move (Go.Operand.tmp 1), type := 3, pos := "outright.go:45", after := #[{ on := 2, ground := Go.Ground.guard }], guard := some (2, true) }
abbrev dz5 : Oper := { dst := some 145, op := Go.Op.call { callee := Go.Callee.value (Go.Operand.func 21), args := #[Go.Operand.tmp 143, Go.Operand.tmp 144], argTypes := #[25, 3] }, type := 3, pos := "outright.go:45", after := #[{ on := 3, ground := Go.Ground.data }, { on := 4, ground := Go.Ground.data }, { on := 2, ground := Go.Ground.chain }, { on := 2, ground := Go.Ground.guard }], guard := some (2, true) }
abbrev dz6 : Oper := { dst := some 146, op := Go.Op.binOp Go.BinOp.eql 3 (Go.Operand.tmp 145) (Go.Operand.const (Go.Value.int Go.IntKind.i64 0)) 3, type := 4, pos := "outright.go:45", after := #[{ on := 5, ground := Go.Ground.data }, { on := 2, ground := Go.Ground.guard }], guard := some (2, true) }
abbrev dz7 : Oper := { dst := some 147, op := Go.Op.pick (Go.Operand.tmp 142) (Go.Operand.tmp 146) (Go.Operand.const (Go.Value.bool false)), type := 4, pos := "outright.go:45", after := #[{ on := 2, ground := Go.Ground.data }, { on := 6, ground := Go.Ground.data }], guard := none }
abbrev dz8 : Oper := { dst := some 148, op := Go.Op.move (Go.Operand.tmp 147), type := 4, pos := "outright.go:45", after := #[{ on := 7, ground := Go.Ground.data }, { on := 5, ground := Go.Ground.chain }], guard := none }
abbrev dz9 : Oper := { dst := some 149, op := Go.Op.load 53 (Go.Operand.tmp 10), type := 53, pos := "outright.go:45", after := #[{ on := 8, ground := Go.Ground.guard }], guard := some (8, true) }
abbrev dz10 : Oper := { dst := some 150, op := Go.Op.move (Go.Operand.tmp 5), type := 25, pos := "outright.go:45", after := #[{ on := 8, ground := Go.Ground.guard }], guard := some (8, true) }
abbrev dz11 : Oper := { dst := some 151, op := Go.Op.move (Go.Operand.tmp 1), type := 3, pos := "outright.go:45", after := #[{ on := 8, ground := Go.Ground.guard }], guard := some (8, true) }
abbrev dz12 : Oper := { dst := some 152, op := Go.Op.binOp Go.BinOp.add 3 (Go.Operand.tmp 151) (Go.Operand.const (Go.Value.int Go.IntKind.i64 1)) 3, type := 3, pos := "outright.go:45", after := #[{ on := 11, ground := Go.Ground.data }, { on := 8, ground := Go.Ground.guard }], guard := some (8, true) }
abbrev dz13 : Oper := { dst := some 153, op := Go.Op.binOp Go.BinOp.rem 3 (Go.Operand.tmp 152) (Go.Operand.const (Go.Value.int Go.IntKind.i64 3)) 3, type := 3, pos := "outright.go:45", after := #[{ on := 12, ground := Go.Ground.data }, { on := 8, ground := Go.Ground.guard }], guard := some (8, true) }
abbrev dz14 : Oper := { dst := some 154, op := Go.Op.call { callee := Go.Callee.value (Go.Operand.func 21), args := #[Go.Operand.tmp 150, Go.Operand.tmp 153], argTypes := #[25, 3] }, type := 3, pos := "outright.go:45", after := #[{ on := 10, ground := Go.Ground.data }, { on := 13, ground := Go.Ground.data }, { on := 8, ground := Go.Ground.chain }, { on := 8, ground := Go.Ground.guard }], guard := some (8, true) }
abbrev dz15 : Oper := { dst := some 155, op := Go.Op.move (Go.Operand.tmp 5), type := 25, pos := "outright.go:45", after := #[{ on := 8, ground := Go.Ground.guard }], guard := some (8, true) }
abbrev dz16 : Oper := { dst := some 156, op := Go.Op.move (Go.Operand.tmp 1), type := 3, pos := "outright.go:45", after := #[{ on := 8, ground := Go.Ground.guard }], guard := some (8, true) }
abbrev dz17 : Oper := { dst := some 157, op := Go.Op.binOp Go.BinOp.add 3 (Go.Operand.tmp 156) (Go.Operand.const (Go.Value.int Go.IntKind.i64 2)) 3, type := 3, pos := "outright.go:45", after := #[{ on := 16, ground := Go.Ground.data }, { on := 8, ground := Go.Ground.guard }], guard := some (8, true) }
abbrev dz18 : Oper := { dst := some 158, op := Go.Op.binOp Go.BinOp.rem 3 (Go.Operand.tmp 157) (Go.Operand.const (Go.Value.int Go.IntKind.i64 3)) 3, type := 3, pos := "outright.go:45", after := #[{ on := 17, ground := Go.Ground.data }, { on := 8, ground := Go.Ground.guard }], guard := some (8, true) }
abbrev dz19 : Oper := { dst := some 159, op := Go.Op.call { callee := Go.Callee.value (Go.Operand.func 21), args := #[Go.Operand.tmp 155, Go.Operand.tmp 158], argTypes := #[25, 3] }, type := 3, pos := "outright.go:45", after := #[{ on := 15, ground := Go.Ground.data }, { on := 18, ground := Go.Ground.data }, { on := 14, ground := Go.Ground.chain }, { on := 8, ground := Go.Ground.guard }], guard := some (8, true) }
abbrev dz20 : Oper := { dst := some 160, op := Go.Op.build 53 #[(0, Go.Operand.tmp 154), (1, Go.Operand.tmp 159)], type := 53, pos := "outright.go:45", after := #[{ on := 14, ground := Go.Ground.data }, { on := 19, ground := Go.Ground.data }, { on := 8, ground := Go.Ground.guard }], guard := some (8, true) }
abbrev dz21 : Oper := { dst := some 161, op := Go.Op.binOp Go.BinOp.eql 53 (Go.Operand.tmp 149) (Go.Operand.tmp 160) 53, type := 4, pos := "outright.go:45", after := #[{ on := 9, ground := Go.Ground.data }, { on := 20, ground := Go.Ground.data }, { on := 8, ground := Go.Ground.guard }], guard := some (8, true) }
abbrev dz22 : Oper := { dst := some 162, op := Go.Op.pick (Go.Operand.tmp 148) (Go.Operand.tmp 161) (Go.Operand.const (Go.Value.bool false)), type := 4, pos := "outright.go:45", after := #[{ on := 8, ground := Go.Ground.data }, { on := 21, ground := Go.Ground.data }], guard := none }
abbrev dz23 : Oper := { dst := some 4, op := Go.Op.assign (Go.Operand.tmp 162), type := 4, pos := "outright.go:45", after := #[{ on := 22, ground := Go.Ground.data }, { on := 19, ground := Go.Ground.chain }, { on := 0, ground := Go.Ground.phase }, { on := 1, ground := Go.Ground.phase }, { on := 2, ground := Go.Ground.phase }, { on := 3, ground := Go.Ground.phase }, { on := 4, ground := Go.Ground.phase }, { on := 5, ground := Go.Ground.phase }, { on := 6, ground := Go.Ground.phase }, { on := 7, ground := Go.Ground.phase }, { on := 8, ground := Go.Ground.phase }, { on := 9, ground := Go.Ground.phase }, { on := 10, ground := Go.Ground.phase }, { on := 11, ground := Go.Ground.phase }, { on := 12, ground := Go.Ground.phase }, { on := 13, ground := Go.Ground.phase }, { on := 14, ground := Go.Ground.phase }, { on := 15, ground := Go.Ground.phase }, { on := 16, ground := Go.Ground.phase }, { on := 17, ground := Go.Ground.phase }, { on := 18, ground := Go.Ground.phase }, { on := 19, ground := Go.Ground.phase }, { on := 20, ground := Go.Ground.phase }, { on := 21, ground := Go.Ground.phase }, { on := 22, ground := Go.Ground.phase }], guard := none }
theorem dz_lex : Region.lexB .any [dz0, dz1, dz2, dz3, dz4, dz5, dz6, dz7, dz8, dz9, dz10, dz11, dz12, dz13, dz14, dz15, dz16, dz17, dz18, dz19, dz20, dz21, dz22, dz23].toArray = true := by decide +kernel
/-- What stands while the last line is told. -/
def EndD (x p : Nat) (ys : List (List Nat)) (g s1 s2 : Nat) (w W : World) : Prop := LrV W x p 30 ys ∧ Blk W g 53 #[.int .i64 (s1 : Nat), .int .i64 (s2 : Nat)] ∧ Below w.heap.size w W
set_option maxHeartbeats 8000000 in
theorem drains_law {A : Option Addr} {n cap : Nat} {z : List OpE} (a1 : Int) {w : World} (ho : IsOps w A n cap z) :
    Calls Try.prog 6 #[.slice A n cap, .int .i64 a1] w fun e w' => e = .returned (.bool true) ∧ Below w.heap.size w w' := by
  obtain ⟨m, hm⟩ : ∃ m, m = min n 200 := ⟨_, rfl⟩
  have HO := Lib.hid ho
  have hm200 : m ≤ 200 := by omega
  have hmn : m ≤ n := by omega
  have HFEW := Lib.hid (few_any A n cap m hm ho.nc ho.nA)
  have HW := Lib.hid (wakes12 w)
  have HN := Lib.hid (fun (W : World) => new_ok 30 3 (by omega) (by omega) (by omega) (by omega) W)
  have hmk := @run_makeMap Try.prog
  clear ho hm
  go_enter Try.func6, Try.ntmps6
  go_wp2_with fail
  refine HW.out.mono ?_
  rintro e w1 ⟨rfl, hb⟩
  have HB1 := Lib.hid hb
  clear hb HW
  go_wp2_with fail
  refine (HN.out w1).mono ?_
  rintro e w2 ⟨x, p, rfl, hl, hb, hx, hp⟩
  have hxw : w.heap.size ≤ x := Nat.le_trans HB1.out.size hx
  have hpw : w.heap.size ≤ p := Nat.le_trans HB1.out.size hp
  have HB2 := Lib.hid (HB1.out.trans (hb.mono HB1.out.size))
  have hmb := (Below.refl w2.heap.size w2).alloc (Nat.le_refl _) (.map #[] 0)
  have HL2 := Lib.hid (hl.below hmb hl.lt.1 hl.lt.2)
  have HOW2 := Lib.hid (World.ownsMap_made w2 Try.prog 3 elemN)
  have hs2 := HB2.out.size
  have HB3 := Lib.hid (HB2.out.alloc HB2.out.size (.map #[] 0))
  clear hb hl hx hp HN HB1 hmb
  go_wp2_with fail
  generalize w2.alloc (.map #[] 0) = w3 at *
  obtain ⟨b, hb⟩ : ∃ b, w2.heap.size = b := ⟨_, rfl⟩
  rw [hb] at HOW2 hs2 ⊢
  clear hb HB2 hmk
  refine (HFEW.out _).mono ?_
  rintro e w4 ⟨rfl, rfl⟩
  go_wp2_with fail
  go_loopw [29] (fun i wr => ∃ (j nD : Nat) (xs : List (List Nat)) (D : DataW Unit) (u : Nat → Nat), i = .int .i64 j ∧ j ≤ m ∧ nD ≤ j ∧ LrV wr x p 30 xs ∧ xs.length = 3 ∧ UsI D u j xs ∧ wr.ownsMap Try.prog 3 elemN b nD D ∧ Below w.heap.size w wr) (fun i _ => m - (intOf i).toNat)
  case atStart => exact ⟨0, 0, List.replicate 3 [], .map [], fun _ => 0, rfl, Nat.zero_le _, Nat.le_refl _, HL2.out, rfl, UsI.start 3, HOW2.out, HB3.out⟩
  case round =>
    obtain ⟨j, nD, xs, D, u, rfl, hj, hnD, hL, h3, hU, hOM, hB⟩ := hrel
    have HL := Lib.hid hL
    have HB := Lib.hid hB
    have HU := Lib.hid hU
    have HOM := Lib.hid hOM
    have H3 := Lib.hid h3
    clear hL hB hU hOM h3
    by_cases hjm : j < m
    · obtain ⟨b0, o0, rfl, K, L, N, hof, hoz, p0, p1, p2⟩ := op_cells HO.out HB.out (j := j) (by omega)
      have ha := (Below.refl wr.heap.size wr).alloc (Nat.le_refl _) (.cells #[.int .i64 K, .int .i64 L, .int .i64 N] 35)
      have HS := Lib.hid (show DpS w wr.heap.size x p b nD 35 #[.int .i64 K, .int .i64 L, .int .i64 N] xs D (wr.alloc (.cells #[.int .i64 K, .int .i64 L, .int .i64 N] 35)) from
        ⟨Blk.new wr _ _, HL.out.below ha HL.out.lt.1 HL.out.lt.2, HOM.out.kept (row := none) ⟨ha.os, ha.tape, ha.output, ha.size, fun k hk _ => ha.block k hk⟩ (by simp), HB.out.trans (ha.mono HB.out.size), hxw, hpw, hs2, by have := HL.out.lt.1; omega, by have := HL.out.lt.2; omega⟩)
      obtain ⟨c0, c1, c2⟩ := HS.out.cells
      have HOF := Lib.hid hof
      clear ha hoz hof
      obtain hq | hq | hq := kindL_lt K
      · have HQ := Lib.hid (show ∀ V, Calls Try.prog 12 #[.agg #[.int .i64 K, .int .i64 L, .int .i64 N]] V fun e w' => e = .returned (.int .i64 0) ∧ Below V.heap.size V w' from fun V => by have h := kind_any K L N V; rw [hq] at h; exact h)
        clear hq
        by_cases he : pushE 30 xs L N = 0
        · obtain ⟨i', k', rfl, rfl, hi', hk', hpx⟩ := push_put he
          have HPX := Lib.hid hpx
          have HUU := Lib.hid (HU.out.use i' k' hi')
          rw [← hpx] at HUU
          have HPU := Lib.hid (fun (V : World) (h : LrV V x p 30 xs) => by have h2 := push_lr h (i' : Int) (k' : Int); rw [he] at h2; exact h2)
          have HWF := Lib.hid (show (Lit.int .i64 (k' : Nat)).wf = true from WalkArith.wf_i64 (by omega))
          have HWJ := Lib.hid (show (Lit.int .i64 ((j + 1 : Nat) : Int)).wf = true from WalkArith.wf_i64 (by omega))
          rw [show ((j + 1 : Nat) : Int) = (j : Int) + 1 by omega] at HWJ
          clear he hpx hi'
          go_wp2_with (first
            | (go_at_call 12; refine (HQ.out _).mono ?_; rintro e v ⟨rfl, hb⟩; have HS := Lib.hid (HS.out.next hb); obtain ⟨c0, c1, c2⟩ := HS.out.cells; clear hb)
            | (go_at_call 13; refine (HPU.out _ HS.out.l).mono ?_; rintro e v ⟨rfl, hi, hk⟩; have HS := Lib.hid (HS.out.onL hi hk); obtain ⟨c0, c1, c2⟩ := HS.out.cells; clear hi hk)
            | (at_mapUpdate; refine wpList_mapUpdate_own _ rfl _ _ _ 52 rfl 3 3 keyed12 Try.underlying52 elemN b nD D rfl HS.out.own (by unfold maxLen; omega) _ _ (.int .i64 (k' : Nat)) rfl rfl (keyOf_int_mk Try.underlying3 HWF.out) (.lit (.int .i64 ((j : Int) + 1))) [] (plainElem_int Try.underlying3 HWJ.out) ?_; intro w5 hown5 hgrow5; have HS := Lib.hid (HS.out.onM hown5 hgrow5); obtain ⟨c0, c1, c2⟩ := HS.out.cells; clear hown5 hgrow5))
          go_roundw
          case rel => exact ⟨j + 1, nD + 1, _, _, _, by simp, by omega, by omega, HS.out.l, by rw [pushX_len]; exact H3.out, HUU.out, HS.out.own, HS.out.bel⟩
          case measure => show m - (Int.toNat ((j : Int) + 1)) < m - (Int.toNat (j : Int)); omega
        · have HPX := Lib.hid (push_no he)
          obtain ⟨E, hE⟩ : ∃ E, pushE 30 xs L N = E := ⟨_, rfl⟩
          rw [hE] at he
          have HPU := Lib.hid (fun (V : World) (h : LrV V x p 30 xs) => by have h2 := push_lr h L N; rw [hE, HPX.out] at h2; exact h2)
          have hne : (E == 0) = false := by simp; exact he
          clear he hE
          go_wp2_with (first | (go_at_call 12; refine (HQ.out _).mono ?_; rintro e v ⟨rfl, hb⟩; have HS := Lib.hid (HS.out.next hb); obtain ⟨c0, c1, c2⟩ := HS.out.cells; clear hb) | (go_at_call 13; refine (HPU.out _ HS.out.l).mono ?_; rintro e v ⟨rfl, hi, hk⟩; have HS := Lib.hid (HS.out.onL hi hk); obtain ⟨c0, c1, c2⟩ := HS.out.cells; clear hi hk))
          go_roundw
          case rel => exact ⟨j + 1, nD, xs, D, u, by simp, by omega, by omega, HS.out.l, H3.out, HU.out.stay, HS.out.own, HS.out.bel⟩
          case measure => show m - (Int.toNat ((j : Int) + 1)) < m - (Int.toNat (j : Int)); omega
      · have HQ := Lib.hid (show ∀ V, Calls Try.prog 12 #[.agg #[.int .i64 K, .int .i64 L, .int .i64 N]] V fun e w' => e = .returned (.int .i64 1) ∧ Below V.heap.size V w' from fun V => by have h := kind_any K L N V; rw [hq] at h; exact h)
        clear hq
        by_cases he : outE 30 xs N = 0
        · obtain ⟨i', k', rfl, hi', hk', hpx⟩ := touch_put he
          have HPX := Lib.hid hpx
          have HUU := Lib.hid (HU.out.use i' k' hi')
          rw [← hpx] at HUU
          have HPU := Lib.hid (fun (V : World) (h : LrV V x p 30 xs) => by have h2 := touch_lr h (k' : Int); rw [he] at h2; exact h2)
          have HWF := Lib.hid (show (Lit.int .i64 (k' : Nat)).wf = true from WalkArith.wf_i64 (by omega))
          have HWJ := Lib.hid (show (Lit.int .i64 ((j + 1 : Nat) : Int)).wf = true from WalkArith.wf_i64 (by omega))
          rw [show ((j + 1 : Nat) : Int) = (j : Int) + 1 by omega] at HWJ
          clear he hpx hi'
          go_wp2_with (first | (go_at_call 12; refine (HQ.out _).mono ?_; rintro e v ⟨rfl, hb⟩; have HS := Lib.hid (HS.out.next hb); obtain ⟨c0, c1, c2⟩ := HS.out.cells; clear hb) | (go_at_call 15; refine (HPU.out _ HS.out.l).mono ?_; rintro e v ⟨rfl, hi, hk⟩; have HS := Lib.hid (HS.out.onL hi hk); obtain ⟨c0, c1, c2⟩ := HS.out.cells; clear hi hk) | (at_mapUpdate; refine wpList_mapUpdate_own _ rfl _ _ _ 52 rfl 3 3 keyed12 Try.underlying52 elemN b nD D rfl HS.out.own (by unfold maxLen; omega) _ _ (.int .i64 (k' : Nat)) rfl rfl (keyOf_int_mk Try.underlying3 HWF.out) (.lit (.int .i64 ((j : Int) + 1))) [] (plainElem_int Try.underlying3 HWJ.out) ?_; intro w5 hown5 hgrow5; have HS := Lib.hid (HS.out.onM hown5 hgrow5); obtain ⟨c0, c1, c2⟩ := HS.out.cells; clear hown5 hgrow5))
          go_roundw
          case rel => exact ⟨j + 1, nD + 1, _, _, _, by simp, by omega, by omega, HS.out.l, by rw [touchX_len]; exact H3.out, HUU.out, HS.out.own, HS.out.bel⟩
          case measure => show m - (Int.toNat ((j : Int) + 1)) < m - (Int.toNat (j : Int)); omega
        · have HPX := Lib.hid (touch_no he)
          obtain ⟨E, hE⟩ : ∃ E, outE 30 xs N = E := ⟨_, rfl⟩
          rw [hE] at he
          have HPU := Lib.hid (fun (V : World) (h : LrV V x p 30 xs) => by have h2 := touch_lr h N; rw [hE, HPX.out] at h2; exact h2)
          have hne : (E == 0) = false := by simp; exact he
          clear he hE
          go_wp2_with (first | (go_at_call 12; refine (HQ.out _).mono ?_; rintro e v ⟨rfl, hb⟩; have HS := Lib.hid (HS.out.next hb); obtain ⟨c0, c1, c2⟩ := HS.out.cells; clear hb) | (go_at_call 15; refine (HPU.out _ HS.out.l).mono ?_; rintro e v ⟨rfl, hi, hk⟩; have HS := Lib.hid (HS.out.onL hi hk); obtain ⟨c0, c1, c2⟩ := HS.out.cells; clear hi hk))
          go_roundw
          case rel => exact ⟨j + 1, nD, xs, D, u, by simp, by omega, by omega, HS.out.l, H3.out, HU.out.stay, HS.out.own, HS.out.bel⟩
          case measure => show m - (Int.toNat ((j : Int) + 1)) < m - (Int.toNat (j : Int)); omega
      · have HQ := Lib.hid (show ∀ V, Calls Try.prog 12 #[.agg #[.int .i64 K, .int .i64 L, .int .i64 N]] V fun e w' => e = .returned (.int .i64 2) ∧ Below V.heap.size V w' from fun V => by have h := kind_any K L N V; rw [hq] at h; exact h)
        clear hq
        obtain ⟨E, hE⟩ : ∃ E, outE 30 xs N = E := ⟨_, rfl⟩
        have HPU := Lib.hid (fun (V : World) (h : LrV V x p 30 xs) => by have h2 := remove_lr h N; rw [hE] at h2; exact h2)
        have HUU := Lib.hid (HU.out.rem (n := 30) N)
        clear hE
        go_wp2_with (first | (go_at_call 12; refine (HQ.out _).mono ?_; rintro e v ⟨rfl, hb⟩; have HS := Lib.hid (HS.out.next hb); obtain ⟨c0, c1, c2⟩ := HS.out.cells; clear hb) | (go_at_call 17; refine (HPU.out _ HS.out.l).mono ?_; rintro e v ⟨rfl, hi, hk⟩; have HS := Lib.hid (HS.out.onL hi hk); obtain ⟨c0, c1, c2⟩ := HS.out.cells; clear hi hk))
        go_roundw
        case rel => exact ⟨j + 1, nD, _, D, u, by simp, by omega, by omega, HS.out.l, by rw [remX_len]; exact H3.out, HUU.out, HS.out.own, HS.out.bel⟩
        case measure => show m - (Int.toNat ((j : Int) + 1)) < m - (Int.toNat (j : Int)); omega
    · obtain rfl : m = j := by omega
      obtain ⟨li, hli, hli3⟩ : ∃ li : Nat, wrap64 ((IntKind.u64.wrap a1).tmod 3) = (li : Int) ∧ li < 3 := by
        have h0 := wrap_u64_pos a1
        have h1 : (IntKind.u64.wrap a1).tmod 3 = (IntKind.u64.wrap a1) % 3 := Int.tmod_eq_emod_of_nonneg h0
        rw [h1, IntWalk.wrap64_in _ (by omega)]
        exact ⟨((IntKind.u64.wrap a1) % 3).toNat, by omega, by omega⟩
      obtain ⟨l1, hl1⟩ : ∃ l1, (li + 1) % 3 = l1 := ⟨_, rfl⟩
      obtain ⟨l2, hl2⟩ : ∃ l2, (li + 2) % 3 = l2 := ⟨_, rfl⟩
      have q1 : ((li : Int) + 1).tmod 3 = (l1 : Int) := by rw [Int.tmod_eq_emod_of_nonneg (by omega)]; omega
      have q2 : ((li : Int) + 2).tmod 3 = (l2 : Int) := by rw [Int.tmod_eq_emod_of_nonneg (by omega)]; omega
      have hne1 : l1 ≠ li := by omega
      have hne2 : l2 ≠ li := by omega
      have hl13 : l1 < 3 := by omega
      have hl23 : l2 < 3 := by omega
      clear hl1 hl2
      go_upto_region 20 with fail
      rw [hli]
      have HLN := Lib.hid (fun (V : World) (i : Nat) (h : LrV V x p 30 xs) => len_any h (i : Int))
      obtain ⟨s1, hs1⟩ : ∃ s1, (ofX xs (l1 : Int)).length = s1 := ⟨_, rfl⟩
      obtain ⟨s2', hs2'⟩ : ∃ s1, (ofX xs (l2 : Int)).length = s1 := ⟨_, rfl⟩
      have HL1 := Lib.hid (show Calls Try.prog 21 #[.pointer (some ⟨x, 0, none⟩), .int .i64 (l1 : Nat)] wr fun e w' => e = .returned (.int .i64 (s1 : Nat)) ∧ w' = wr by have h := len_any HL.out (l1 : Int); rw [hs1] at h; exact h)
      have HL2' := Lib.hid (show Calls Try.prog 21 #[.pointer (some ⟨x, 0, none⟩), .int .i64 (l2 : Nat)] wr fun e w' => e = .returned (.int .i64 (s2' : Nat)) ∧ w' = wr by have h := len_any HL.out (l2 : Int); rw [hs2'] at h; exact h)
      have HS1 := Lib.hid hs1
      have HS2 := Lib.hid hs2'
      clear hli hs1 hs2' hjm hj HL2 HB3 HOW2
      go_wp2_with (first | (go_at_call 21; (with_reducible refine HL1.out.mono ?_); rintro e w5 ⟨rfl, rfl⟩) | (go_at_call 21; (with_reducible refine HL2'.out.mono ?_); rintro e w5 ⟨rfl, rfl⟩))
      have ha := (Below.refl w5.heap.size w5).alloc (Nat.le_refl _) (.cells #[.int .i64 (s1 : Nat), .int .i64 (s2' : Nat)] 53)
      have HS := Lib.hid (show DpS w w5.heap.size x p b nD 53 #[.int .i64 (s1 : Nat), .int .i64 (s2' : Nat)] xs D (w5.alloc (.cells #[.int .i64 (s1 : Nat), .int .i64 (s2' : Nat)] 53)) from
        ⟨Blk.new w5 _ _, HL.out.below ha HL.out.lt.1 HL.out.lt.2, HOM.out.kept (row := none) ⟨ha.os, ha.tape, ha.output, ha.size, fun k hk _ => ha.block k hk⟩ (by simp), HB.out.trans (ha.mono HB.out.size), hxw, hpw, hs2, by have := HL.out.lt.1; omega, by have := HL.out.lt.2; omega⟩)
      generalize w5.alloc (.cells #[.int .i64 (s1 : Nat), .int .i64 (s2' : Nat)] 53) = w6 at *
      have HL0 := Lib.hid (len_any HS.out.l (li : Int))
      obtain ⟨n0, hn0⟩ : ∃ n0, (xs.getD li []).length = n0 := ⟨_, rfl⟩
      have hof : ofX xs (li : Int) = xs.getD li [] := by unfold ofX; rw [if_pos (show hasL xs (li : Int) from ⟨by omega, by rw [H3.out]; omega⟩), Int.toNat_natCast]
      rw [hof, hn0] at HL0
      have HN0 := Lib.hid hn0
      have hn30 : n0 ≤ 30 := by rw [← hn0]; exact HL.out.len li
      clear ha hof hn0 HL HOM HB HL1 HL2'
      go_wp2_with fail
      refine HL0.out.mono ?_
      rintro e w7 ⟨rfl, rfl⟩
      go_wp2_with fail
      go_loopw [12, 86] (fun la i wr => ∃ (j last : Nat) (ys : List (List Nat)), i = .int .i64 j ∧ la = .int .i64 last ∧ j ≤ n0 ∧ DpS w w5.heap.size x p b nD 53 #[.int .i64 (s1 : Nat), .int .i64 (s2' : Nat)] ys D wr ∧ DrI xs u li j last ys) (fun _ i _ => n0 - (intOf i).toNat)
      case atStart => exact ⟨0, 0, xs, rfl, rfl, Nat.zero_le _, HS.out, DrI.start HU.out li⟩
      case round =>
        obtain ⟨j, last, ys, rfl, rfl, hj, hS, hD⟩ := hrel
        have HS := Lib.hid hS
        have HD := Lib.hid hD
        clear hS hD
        by_cases hjn : j < n0
        · obtain ⟨k, e1, e2, e3, e4, hlast, e5, e6, hD2⟩ := HD.out.step HU.out HS.out.l (by rw [H3.out]; exact hli3) (by rw [HN0.out]; exact hjn)
          have HD2 := Lib.hid hD2
          have HOL := Lib.hid (fun (V : World) (h : LrV V x p 30 ys) => by have h2 := oldest_lr h (li : Int); rw [e1, e2] at h2; exact h2)
          have HWH := Lib.hid (fun (V : World) (h : LrV V x p 30 ys) => by have h2 := where_any h (k : Int); rw [e3, e4] at h2; exact h2)
          have HR1 := Lib.hid (fun (V : World) (h : LrV V x p 30 ys) => by have h2 := remove_lr h (k : Int); rw [e3, e5] at h2; exact h2)
          have e7 : remX 30 (outX ys k) (k : Int) = outX ys k := by unfold remX; rw [e6, if_neg (by decide)]
          have HR2 := Lib.hid (fun (V : World) (h : LrV V x p 30 (outX ys k)) => by have h2 := remove_lr h (k : Int); rw [e6, e7] at h2; exact h2)
          have HAT := Lib.hid (HU.out.at_ k)
          have hk30 : k < 30 := by
            have h1 : hasN 30 (k : Int) := by
              by_cases hh : hasN 30 (k : Int)
              · exact hh
              · unfold outE at e3
                rw [if_pos hh] at e3
                cases e3
            have := h1.2
            omega
          have HWF := Lib.hid (show (Lit.int .i64 (k : Nat)).wf = true from WalkArith.wf_i64 (by omega))
          obtain ⟨uk, huk⟩ : ∃ v, u k = v := ⟨_, rfl⟩
          rw [huk] at HAT HD2 hlast
          have q3 : decide ((uk : Int) ≤ (last : Int)) = false := by simp; omega
          clear e1 e2 e3 e4 e5 e6 e7 hD2 huk
          go_wp2_with (first | (go_at_call 23; refine (HOL.out _ HS.out.l).mono ?_; rintro e v ⟨rfl, rfl⟩) | (go_at_call 25; refine (HWH.out _ HS.out.l).mono ?_; rintro e v ⟨rfl, rfl⟩) | (go_at_call 17; (with_reducible refine (HR1.out _ HS.out.l).mono ?_); rintro e v ⟨rfl, hi, hk⟩; have HS := Lib.hid (HS.out.onL hi hk); clear hi hk) | (go_at_call 17; (with_reducible refine (HR2.out _ HS.out.l).mono ?_); rintro e v ⟨rfl, hi, hk⟩; have HS := Lib.hid (HS.out.onL hi hk); clear hi hk) | (at_lookup; refine wpList_lookup_n rfl _ _ rfl b nD D rfl HS.out.own k uk rfl HWF.out HAT.out ?_))
          go_roundw
          case rel => exact ⟨j + 1, uk, _, by simp, rfl, by omega, HS.out, HD2.out⟩
          case measure => show n0 - (Int.toNat ((j : Int) + 1)) < n0 - (Int.toNat (j : Int)); omega
        · obtain rfl : n0 = j := by omega
          have hdn := HD.out
          rw [← HN0.out] at hdn
          obtain ⟨d1, d2, d3⟩ := hdn.done (by rw [H3.out]; exact hli3)
          have HOL := Lib.hid (fun (V : World) (h : LrV V x p 30 ys) => by have h2 := oldest_lr h (li : Int); rw [d1, d2] at h2; exact h2)
          have HE0 := Lib.hid (fun (V : World) (h : LrV V x p 30 ys) => by have h2 := len_any h (li : Int); rw [d3] at h2; exact h2)
          have HE1 := Lib.hid (fun (V : World) (h : LrV V x p 30 ys) => by have h2 := len_any h (l1 : Int); rw [hdn.other hne1, HS1.out] at h2; exact h2)
          have HE2 := Lib.hid (fun (V : World) (h : LrV V x p 30 ys) => by have h2 := len_any h (l2 : Int); rw [hdn.other hne2, HS2.out] at h2; exact h2)
          clear d1 d2 d3 hdn
          go_wp2_with (first | (go_at_call 23; refine (HOL.out _ HS.out.l).mono ?_; rintro e v ⟨rfl, rfl⟩))
          have w1e : IntKind.i64.wrap ((li : Int) + 1) = (li : Int) + 1 := IntWalk.i64_in _ (by omega)
          have w2e : IntKind.i64.wrap ((li : Int) + 2) = (li : Int) + 2 := IntWalk.i64_in _ (by omega)
          have wl1 : IntKind.i64.wrap (l1 : Int) = (l1 : Int) := IntWalk.i64_in _ (by omega)
          have wl2 : IntKind.i64.wrap (l2 : Int) = (l2 : Int) := IntWalk.i64_in _ (by omega)
          refine calm_region (l := [dz0, dz1, dz2, dz3, dz4, dz5, dz6, dz7, dz8, dz9, dz10, dz11, dz12, dz13, dz14, dz15, dz16, dz17, dz18, dz19, dz20, dz21, dz22, dz23]) (fun W => EndD x p ys w5.heap.size s1 s2' w W) (by kernel_rfl) dz_lex ⟨HS.out.l.drew, HS.out.blk.drew, HS.out.bel.drew⟩ ?_
          refine calm_by (.int .i64 4) rfl (fun W h => by simp [go_sem, execOp, Act.eval]) ?_
          simp only [Act.put, List.setIfInBounds_toArray, List.set_cons_zero, List.set_cons_succ]
          refine calm_by (.bool true) rfl (fun W h => by simp [go_sem, execOp, Act.eval]) ?_
          simp only [Act.put, List.setIfInBounds_toArray, List.set_cons_zero, List.set_cons_succ]
          refine calm_by (.bool true) rfl (fun W h => by simp [go_sem, execOp, Act.eval]) ?_
          simp only [Act.put, List.setIfInBounds_toArray, List.set_cons_zero, List.set_cons_succ]
          refine calm_by (.pointer (some ⟨x, 0, none⟩)) rfl (fun W h => by simp [go_sem, execOp, Act.eval]) ?_
          simp only [Act.put, List.setIfInBounds_toArray, List.set_cons_zero, List.set_cons_succ]
          refine calm_by (.int .i64 (li : Nat)) rfl (fun W h => by simp [go_sem, execOp, Act.eval]) ?_
          simp only [Act.put, List.setIfInBounds_toArray, List.set_cons_zero, List.set_cons_succ]
          refine calm_call 21 #[.tmp 143, .tmp 144] #[25, 3] rfl rfl Try.func21 rfl rfl (.int .i64 (0 : Nat)) [.pointer (some ⟨x, 0, none⟩), .int .i64 (li : Nat)] rfl (fun W hW => (HE0.out W hW.1).mono (by rintro e W' ⟨rfl, rfl⟩; exact ⟨rfl, hW⟩)) ?_
          simp only [Act.put, List.setIfInBounds_toArray, List.set_cons_zero, List.set_cons_succ]
          refine calm_by (.bool true) rfl (fun W h => by simp [go_sem, execOp, Act.eval]) ?_
          simp only [Act.put, List.setIfInBounds_toArray, List.set_cons_zero, List.set_cons_succ]
          refine calm_by (.bool true) rfl (fun W h => by simp [go_sem, execOp, Act.eval]) ?_
          simp only [Act.put, List.setIfInBounds_toArray, List.set_cons_zero, List.set_cons_succ]
          refine calm_by (.bool true) rfl (fun W h => by simp [go_sem, execOp, Act.eval]) ?_
          simp only [Act.put, List.setIfInBounds_toArray, List.set_cons_zero, List.set_cons_succ]
          refine calm_load_row (.tmp 10) 53 rfl rfl w5.heap.size rfl 53 [.int .i64 (s1 : Nat), .int .i64 (s2' : Nat)] _ Try.underlying53 rfl size_two (fun W h => h.2.1) ?_
          simp only [Act.put, List.setIfInBounds_toArray, List.set_cons_zero, List.set_cons_succ]
          refine calm_by (.pointer (some ⟨x, 0, none⟩)) rfl (fun W h => by simp [go_sem, execOp, Act.eval]) ?_
          simp only [Act.put, List.setIfInBounds_toArray, List.set_cons_zero, List.set_cons_succ]
          refine calm_by (.int .i64 (li : Nat)) rfl (fun W h => by simp [go_sem, execOp, Act.eval]) ?_
          simp only [Act.put, List.setIfInBounds_toArray, List.set_cons_zero, List.set_cons_succ]
          refine calm_by (.int .i64 ((li : Int) + 1)) rfl (fun W h => by simp [go_sem, execOp, Act.eval, w1e]) ?_
          simp only [Act.put, List.setIfInBounds_toArray, List.set_cons_zero, List.set_cons_succ]
          refine calm_by (.int .i64 (l1 : Nat)) rfl (fun W h => by simp [go_sem, execOp, Act.eval, q1, wl1]) ?_
          simp only [Act.put, List.setIfInBounds_toArray, List.set_cons_zero, List.set_cons_succ]
          refine calm_call 21 #[.tmp 150, .tmp 153] #[25, 3] rfl rfl Try.func21 rfl rfl (.int .i64 (s1 : Nat)) [.pointer (some ⟨x, 0, none⟩), .int .i64 (l1 : Nat)] rfl (fun W hW => (HE1.out W hW.1).mono (by rintro e W' ⟨rfl, rfl⟩; exact ⟨rfl, hW⟩)) ?_
          simp only [Act.put, List.setIfInBounds_toArray, List.set_cons_zero, List.set_cons_succ]
          refine calm_by (.pointer (some ⟨x, 0, none⟩)) rfl (fun W h => by simp [go_sem, execOp, Act.eval]) ?_
          simp only [Act.put, List.setIfInBounds_toArray, List.set_cons_zero, List.set_cons_succ]
          refine calm_by (.int .i64 (li : Nat)) rfl (fun W h => by simp [go_sem, execOp, Act.eval]) ?_
          simp only [Act.put, List.setIfInBounds_toArray, List.set_cons_zero, List.set_cons_succ]
          refine calm_by (.int .i64 ((li : Int) + 2)) rfl (fun W h => by simp [go_sem, execOp, Act.eval, w2e]) ?_
          simp only [Act.put, List.setIfInBounds_toArray, List.set_cons_zero, List.set_cons_succ]
          refine calm_by (.int .i64 (l2 : Nat)) rfl (fun W h => by simp [go_sem, execOp, Act.eval, q2, wl2]) ?_
          simp only [Act.put, List.setIfInBounds_toArray, List.set_cons_zero, List.set_cons_succ]
          refine calm_call 21 #[.tmp 155, .tmp 158] #[25, 3] rfl rfl Try.func21 rfl rfl (.int .i64 (s2' : Nat)) [.pointer (some ⟨x, 0, none⟩), .int .i64 (l2 : Nat)] rfl (fun W hW => (HE2.out W hW.1).mono (by rintro e W' ⟨rfl, rfl⟩; exact ⟨rfl, hW⟩)) ?_
          simp only [Act.put, List.setIfInBounds_toArray, List.set_cons_zero, List.set_cons_succ]
          refine calm_by (.agg #[.int .i64 (s1 : Nat), .int .i64 (s2' : Nat)]) rfl (fun W h => exec_build 53 #[(0, .tmp 154), (1, .tmp 159)] rfl [(0, .int .i64 (s1 : Nat)), (1, .int .i64 (s2' : Nat))] (by simp [Act.eval]) _ (by kernel_rfl)) ?_
          simp only [Act.put, List.setIfInBounds_toArray, List.set_cons_zero, List.set_cons_succ]
          refine calm_cmp .eql 53 _ (.tmp 149) (.tmp 160) rfl rfl (.agg #[.int .i64 (s1 : Nat), .int .i64 (s2' : Nat)]) (.agg #[.int .i64 (s1 : Nat), .int .i64 (s2' : Nat)]) (.bool true) rfl rfl (guard_two _ _ _ _ _) (eql_two _ _) ?_
          simp only [Act.put, List.setIfInBounds_toArray, List.set_cons_zero, List.set_cons_succ]
          refine calm_by (.bool true) rfl (fun W h => by simp [go_sem, execOp, Act.eval]) ?_
          simp only [Act.put, List.setIfInBounds_toArray, List.set_cons_zero, List.set_cons_succ]
          refine calm_by (.bool true) rfl (fun W h => by simp [go_sem, execOp, Act.eval]) ?_
          simp only [Act.put, List.setIfInBounds_toArray, List.set_cons_zero, List.set_cons_succ]
          refine wpQuiet_nil ?_
          intro W hW
          have HBW := Lib.hid hW.2.2
          clear hW
          go_wp2_with fail
          go_ret
          exact ⟨rfl, HBW.out⟩
end Go.Proofs.Ythegbimolbhikaa
