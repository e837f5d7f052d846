/- For every numbers and every list of what is to be known: whatever is set, one thing behind the other, is known, written where the document says, or refused. No condition. -/
import Derived.Test.YtbnioceednkjcaaRows
import Derived.WalkKit
import Derived.ProofKit
import Derived.OpenShut
import Derived.ShutString
import Derived.ChangeOld
import Derived.Below
import Derived.Test.YtbnioceednkjcaaSetAll
import Derived.Test.YtbnioceednkjcaaFlip
import Derived.Test.YtbnioceednkjcaaRRead
import Derived.Test.YtbnioceednkjcaaArgsSups
import Derived.Deep.CutBlock
import Derived.Deep.CutRange
namespace Go.Proofs.Ytbnioceednkjcaa.superSets
open Go.ChangeShapes Go.WideShapes Go.ChangeAt Go.RowKit
open Go.ChangeMaps (open_string shut_string)
set_option linter.unusedVariables false

theorem own : ownKnob Try.prog.godebug = none := by kernel_rfl
theorem laidOut : laidOutB Try.prog = true := by kernel_rfl

/-- What holds ahead of each round: j rounds are gone, s is known at turn tn. -/
def SetsI (w : World) (m len2 kb p d : Nat) (a0 a1 : Int) (wr : World) (t i : Value) : Prop :=
  ∃ (j : Nat) (s : Sup) (tn : Nat) (k : Dk), (j ≤ len2 ∧ j ≤ 12 ∧ tn ≤ j ∧ m ≤ wr.heap.size) ∧ i = .int .i64 j ∧ t = .int .u64 tn ∧ StoreM wr (fun b => b < m ∨ b = kb) p d 1026 s.a s.b s.g s.r s.v s.f tn k ∧ Holds s tn 1026 k ∧
    Blk wr kb 24 s.c ∧ Below w.heap.size w wr ∧ s.a = a0 ∧ s.b = a1 ∧ s.In ∧ s.May
/-- What holds behind the switch. -/
def SetsC (w6 : World) (xb kb tn : Nat) (s x : Sup) (wx : World) (t e : Value) : Prop :=
  e = .int .i64 (setE s x) ∧ t = .int .u64 (if setE s x = 0 then (tn : Int) + 1 else tn) ∧ Blk wx kb 24 (if setE s x = 0 then x else s).c ∧ Blk wx xb 24 x.c ∧ Kept (fun c => c < w6.heap.size ∧ c ≠ kb) w6 wx
theorem bound12 {i : Int} (h : (i == 12) = false) (h2 : i ≤ 12) : i < 12 := by
  have : i ≠ 12 := by simpa using h
  omega
theorem exec_neq_sup_no {o : Oper} {a : Act} {w : World} (x y : Operand) (z : TypeId) (ho : o.op = .binOp .neq 24 x y z) (s : Sup) (hx : a.eval x = .agg s.c) (hy : a.eval y = .agg s.c) :
    (execOp a.eval o).run Try.prog w = .ok (.value (.bool false)) w := by
  obtain ⟨c0, c1, c2, c3, c4, c5⟩ := s
  unfold execOp
  simp only [ho, hx, hy, Sup.c]
  go_simp
abbrev ss0 : Oper := { dst := some 106, op := Go.Op.move (Go.Operand.tmp 9), type := 42, pos := "law.go:109", after := #[], guard := none }
abbrev ss1 : Oper := { dst := some 107, op := Go.Op.load 24 (Go.Operand.tmp 13), type := 24, pos := "law.go:109", after := #[], guard := none }
abbrev ss2 : Oper := { dst := some 108, op := Go.Op.call { callee := Go.Callee.value (Go.Operand.func 23), args := #[Go.Operand.tmp 106, Go.Operand.tmp 107], argTypes := #[42, 24] }, type := 28, pos := "law.go:109", after := #[{ on := 0, ground := Go.Ground.data }, { on := 1, ground := Go.Ground.data }], guard := none }
abbrev ss3 : Oper := { dst := some 109, op := Go.Op.move (Go.Operand.tmp 14), type := 28, pos := "law.go:109", after := #[], guard := none }
abbrev ss4 : Oper := { dst := some 110, op := Go.Op.binOp Go.BinOp.neq 28 (Go.Operand.tmp 108) (Go.Operand.tmp 109) 28, type := 4, pos := "law.go:109", after := #[{ on := 2, ground := Go.Ground.data }, { on := 3, ground := Go.Ground.data }], guard := none }
abbrev ss5 : Oper := { dst := some 111, op := Go.Op.move (Go.Operand.tmp 110), type := 4, pos := "law.go:109", after := #[{ on := 4, ground := Go.Ground.data }, { on := 2, ground := Go.Ground.chain }], guard := none }
abbrev ss6 : Oper := { dst := some 112, op := Go.Op.move (Go.Operand.tmp 9), type := 42, pos := "law.go:109", after := #[{ on := 5, ground := Go.Ground.guard }], guard := some (5, false) }
abbrev ss7 : Oper := { dst := some 113, op := Go.Op.call { callee := Go.Callee.value (Go.Operand.func 24), args := #[Go.Operand.tmp 112], argTypes := #[42] }, type := 24, pos := "law.go:109", after := #[{ on := 6, ground := Go.Ground.data }, { on := 5, ground := Go.Ground.chain }, { on := 5, ground := Go.Ground.guard }], guard := some (5, false) }
abbrev ss8 : Oper := { dst := some 114, op := Go.Op.load 24 (Go.Operand.tmp 10), type := 24, pos := "law.go:109", after := #[{ on := 5, ground := Go.Ground.guard }], guard := some (5, false) }
abbrev ss9 : Oper := { dst := some 115, op := Go.Op.binOp Go.BinOp.neq 24 (Go.Operand.tmp 113) (Go.Operand.tmp 114) 24, type := 4, pos := "law.go:109", after := #[{ on := 7, ground := Go.Ground.data }, { on := 8, ground := Go.Ground.data }, { on := 5, ground := Go.Ground.guard }], guard := some (5, false) }
abbrev ss10 : Oper := { dst := some 116, op := Go.Op.pick (Go.Operand.tmp 111) (Go.Operand.const (Go.Value.bool true)) (Go.Operand.tmp 115), type := 4, pos := "law.go:109", after := #[{ on := 5, ground := Go.Ground.data }, { on := 9, ground := Go.Ground.data }], guard := none }
abbrev ss11 : Oper := { dst := some 117, op := Go.Op.move (Go.Operand.tmp 116), type := 4, pos := "law.go:109", after := #[{ on := 10, ground := Go.Ground.data }, { on := 7, ground := Go.Ground.chain }], guard := none }
abbrev ss12 : Oper := { dst := some 118, op := Go.Op.move (Go.Operand.tmp 7), type := 39, pos := "law.go:109", after := #[{ on := 11, ground := Go.Ground.guard }], guard := some (11, false) }
abbrev ss13 : Oper := { dst := some 119, op := Go.Op.call { callee := Go.Callee.value (Go.Operand.func 25), args := #[Go.Operand.tmp 118], argTypes := #[39] }, type := 48, pos := "law.go:109", after := #[{ on := 12, ground := Go.Ground.data }, { on := 11, ground := Go.Ground.chain }, { on := 11, ground := Go.Ground.guard }], guard := some (11, false) }
abbrev ss14 : Oper := { dst := some 120, op := Go.Op.call { callee := Go.Callee.builtin Go.Builtin.len, args := #[Go.Operand.tmp 119], argTypes := #[48] }, type := 3, pos := "law.go:109", after := #[{ on := 13, ground := Go.Ground.data }, { on := 11, ground := Go.Ground.guard }], guard := some (11, false) }
abbrev ss15 : Oper := { dst := some 121, op := Go.Op.binOp Go.BinOp.neq 3 (Go.Operand.tmp 120) (Go.Operand.const (Go.Value.int Go.IntKind.i64 0)) 3, type := 4, pos := "law.go:109", after := #[{ on := 14, ground := Go.Ground.data }, { on := 11, ground := Go.Ground.guard }], guard := some (11, false) }
abbrev ss16 : Oper := { dst := some 122, op := Go.Op.pick (Go.Operand.tmp 117) (Go.Operand.const (Go.Value.bool true)) (Go.Operand.tmp 121), type := 4, pos := "law.go:109", after := #[{ on := 11, ground := Go.Ground.data }, { on := 15, ground := Go.Ground.data }], guard := none }
abbrev st0 : Oper := { dst := some 131, op := Go.Op.move (Go.Operand.tmp 16), type := 28, pos := "law.go:113", after := #[], guard := none }
abbrev st1 : Oper := { dst := some 132, op := Go.Op.binOp Go.BinOp.neq 28 (Go.Operand.tmp 131) (Go.Operand.const (Go.Value.int Go.IntKind.i64 0)) 28, type := 4, pos := "law.go:113", after := #[{ on := 0, ground := Go.Ground.data }], guard := none }
abbrev st2 : Oper := { dst := some 133, op := Go.Op.move (Go.Operand.tmp 132), type := 4, pos := "law.go:113", after := #[{ on := 1, ground := Go.Ground.data }], guard := none }
abbrev st3 : Oper := { dst := some 134, op := Go.Op.load 26 (Go.Operand.tmp 15), type := 26, pos := "law.go:113", after := #[{ on := 2, ground := Go.Ground.guard }], guard := some (2, false) }
abbrev st4 : Oper := { dst := some 135, op := Go.Op.load 24 (Go.Operand.tmp 10), type := 24, pos := "law.go:113", after := #[{ on := 2, ground := Go.Ground.guard }], guard := some (2, false) }
abbrev st5 : Oper := { dst := some 136, op := Go.Op.move (Go.Operand.tmp 11), type := 22, pos := "law.go:113", after := #[{ on := 2, ground := Go.Ground.guard }], guard := some (2, false) }
abbrev st6 : Oper := { dst := some 137, op := Go.Op.call { callee := Go.Callee.value (Go.Operand.func 17), args := #[Go.Operand.tmp 135, Go.Operand.tmp 136], argTypes := #[24, 22] }, type := 26, pos := "law.go:113", after := #[{ on := 4, ground := Go.Ground.data }, { on := 5, ground := Go.Ground.data }, { on := 2, ground := Go.Ground.chain }, { on := 2, ground := Go.Ground.guard }], guard := some (2, false) }
abbrev st7 : Oper := { dst := some 138, op := Go.Op.binOp Go.BinOp.neq 26 (Go.Operand.tmp 134) (Go.Operand.tmp 137) 26, type := 4, pos := "law.go:113", after := #[{ on := 3, ground := Go.Ground.data }, { on := 6, ground := Go.Ground.data }, { on := 2, ground := Go.Ground.guard }], guard := some (2, false) }
abbrev st8 : Oper := { dst := some 139, op := Go.Op.pick (Go.Operand.tmp 133) (Go.Operand.const (Go.Value.bool true)) (Go.Operand.tmp 138), type := 4, pos := "law.go:113", after := #[{ on := 2, ground := Go.Ground.data }, { on := 7, ground := Go.Ground.data }], guard := none }

set_option maxHeartbeats 4000000 in
set_option maxRecDepth 100000 in
theorem walk (a0 : Int) (a1 : Int) (a2 : Option Addr) (len2 cap2 : Nat) (z2 : List Sup) (w : World) (w0 : (Lit.int .i64 a0).wf = true) (w1 : (Lit.int .i64 a1).wf = true) (w2 : IsSups w a2 len2 cap2 z2) :
    Calls Try.prog 4 #[.int .i64 a0, .int .i64 a1, .slice a2 len2 cap2] w fun e w' => e = .returned (.bool true) ∧ Below w.heap.size w w' := by
  -- HEARTS
  have ha : -9223372036854775808 ≤ a0 ∧ a0 ≤ 9223372036854775807 := by simpa [Lit.wf, IntKind.min, IntKind.max, IntKind.signed, IntKind.bits] using w0
  have hb : -9223372036854775808 ≤ a1 ∧ a1 ≤ 9223372036854775807 := by simpa [Lit.wf, IntKind.min, IntKind.max, IntKind.signed, IntKind.bits] using w1
  obtain ⟨hrow, hins, _, _, hmax⟩ := sups_of w2
  have HROW := Lib.hid hrow
  have HINS := Lib.hid hins
  have HMAX := Lib.hid hmax
  have HAB := Lib.hid (And.intro ha hb)
  clear w0 w1 w2 ha hb hrow hins hmax
  generalize z2.take len2 = zs at *
  go_enter Try.func4, Try.ntmps4
  go_wp2_with fail
  refine (wakes_any _).mono ?_
  rintro e w1 ⟨rfl, hb⟩
  have HB1 := Lib.hid hb
  clear hb
  go_wp2_with fail
  refine (new_i w1 1026 1026 rfl (by omega) (by omega)).mono ?_
  rintro e w2 ⟨d, rfl, hd, hb⟩
  have HB2 := Lib.hid (HB1.out.trans (hb.mono HB1.out.size))
  have HB21 := Lib.hid hb
  have HD2 := Lib.hid hd
  clear hb hd
  go_wp2_with fail
  by_cases hmay : MayS a0 a1 0 0
  case neg =>
    refine (format_arg HD2.out a0 a1 hmay).mono ?_
    rintro e w3 ⟨rfl, hb⟩
    have HD3 := Lib.hid (HD2.out.below (Y := fun b => b < w1.heap.size) hb (fun b _ h => h))
    have HB3 := Lib.hid (HB2.out.trans (hb.mono HB2.out.size))
    have HB4 := Lib.hid (HB3.out.alloc HB3.out.size (.cells (supC a0 a1 0 0 0 0) 24))
    have HZ3 := Lib.hid (Blk.new w3 24 (supC a0 a1 0 0 0 0))
    have HD4 := Lib.hid (HD3.out.below (Y := fun b => b < w1.heap.size) ((Below.refl w3.heap.size w3).alloc (Nat.le_refl _) (.cells (supC a0 a1 0 0 0 0) 24)) (fun b _ h => h))
    clear hb
    go_wp2_with (first
      | (refine wpList_alloc_row 24 rfl rfl (supC 0 0 0 0 0 0) zero_sup ?_)
      | (refine wpList_store_fresh (.tmp 10) (.tmp 34) 24 rfl rfl w3 (supC 0 0 0 0 0 0) (supC a0 a1 0 0 0 0) rfl rfl 24 rfl size_sup rfl (sup_one _ _ _ _ _ _) ?_)
      | (refine wpList_load_rowB (.tmp 10) 24 rfl rfl w3.heap.size rfl 24 (supC a0 a1 0 0 0 0).toList _ Try.underlying24 rfl size_sup HZ3.out ?_))
    refine (rmay_any a0 a1 0 0 0 0 _).mono ?_
    rintro e w5 ⟨rfl, hb⟩
    have HB5 := Lib.hid (HB4.out.trans (hb.mono HB4.out.size))
    have HD5 := Lib.hid (HD4.out.below (Y := fun b => b < w1.heap.size) hb (fun b _ h => h))
    rw [decide_eq_false hmay]
    clear hb hmay
    go_wp2_with (go_at_call 22; refine (ops_k HD5.out).mono ?_; rintro e w' ⟨rfl, rfl⟩)
    go_ret
    exact ⟨rfl, HB5.out⟩
  refine (format_fresh HD2.out (fun c h => Nat.lt_of_lt_of_le h HB21.out.size) a0 a1 hmay (by have := (area_in hmay).2; omega)).mono ?_
  rintro e w3 ⟨p, rfl, hst, hk⟩
  have HH3 := Lib.hid (holds_format 1026 (by omega) a0 a1)
  generalize (((Dk.fresh 1026).wr (Dk.put 0 (supL a0 a1 0 0 0 0 0))).wr (Dk.put 1 (noughts 64))).wr Dk.sync = k0 at *
  have HB3 := Lib.hid (HB2.out.trans (hk.to_below (B := w.heap.size) (fun b hb => Nat.lt_of_lt_of_le hb HB1.out.size)))
  have HS4 := Lib.hid (StoreM.kept (Y := fun b => b < w1.heap.size ∨ b = w3.heap.size) (Z := fun b => b < w3.heap.size) hst (Kept.of_below ((Below.refl w3.heap.size w3).alloc (Nat.le_refl _) (.cells (supC a0 a1 0 0 0 0) 24)) (fun b h => h)) (fun b h _ => h) (fun b h h' => h'.elim id (fun e => absurd e (by omega))))
  have HK4 := Lib.hid (Blk.new w3 24 (supC a0 a1 0 0 0 0))
  have HB4 := Lib.hid (HB3.out.alloc HB3.out.size (.cells (supC a0 a1 0 0 0 0) 24))
  have HZ := Lib.hid (show w.heap.size ≤ w1.heap.size ∧ w1.heap.size ≤ w3.heap.size from ⟨HB1.out.size, Nat.le_trans HB21.out.size hk.size⟩)
  clear hst hk
  go_wp2_with (first
    | (refine wpList_alloc_row 24 rfl rfl (supC 0 0 0 0 0 0) zero_sup ?_)
    | (refine wpList_store_fresh (.tmp 10) (.tmp 34) 24 rfl rfl w3 (supC 0 0 0 0 0 0) (supC a0 a1 0 0 0 0) rfl rfl 24 rfl size_sup rfl (sup_one _ _ _ _ _ _) ?_)
    | (refine wpList_load_rowB (.tmp 10) 24 rfl rfl w3.heap.size rfl 24 (supC a0 a1 0 0 0 0).toList _ Try.underlying24 rfl size_sup HK4.out ?_))
  refine (rmay_any a0 a1 0 0 0 0 _).mono ?_
  rintro e w5 ⟨rfl, hb⟩
  rw [decide_eq_true hmay]
  have HMAY := Lib.hid hmay
  have HB5 := Lib.hid (HB4.out.trans (hb.mono HB4.out.size))
  have HS5 := Lib.hid (HS4.out.below hb)
  have HK5 := Lib.hid (HK4.out.below hb HK4.out.lt)
  have HROW5 := Lib.hid (HROW.out.keep (w' := w5) (fun q hq => HB5.out.cell hq))
  obtain ⟨kb, hkb⟩ : ∃ kb, kb = w3.heap.size := ⟨_, rfl⟩
  have HKE := Lib.hid hkb
  have HK5le := Lib.hid (show w3.heap.size ≤ kb from by omega)
  rw [← hkb] at HS5 HK5
  clear hb hmay hkb
  go_wp2_with fail
  have hin0 : (Sup.mk a0 a1 0 0 0 0).In := by have := HAB.out; unfold Sup.In InS; simp only []; omega
  have HIN0 := Lib.hid hin0
  have HM5 := Lib.hid (show w1.heap.size ≤ w5.heap.size from Nat.le_trans HZ.out.2 (Nat.le_of_lt (Nat.lt_of_le_of_lt HK5le.out HK5.out.lt)))
  clear hin0
  go_loopw [11, 53] (fun t i wr => SetsI w w1.heap.size len2 kb p d a0 a1 wr t i) (fun _ i _ => 12 - (intOf i).toNat)
  case atStart => exact ⟨0, ⟨a0, a1, 0, 0, 0, 0⟩, 0, k0, ⟨by omega, by omega, by omega, HM5.out⟩, rfl, rfl, HS5.out, HH3.out, HK5.out, HB5.out, rfl, rfl, HIN0.out, HMAY.out⟩
  case round =>
    obtain ⟨j, s, tn, k, ⟨hj, hj12, htn, hm⟩, rfl, rfl, hs, hh, hkb, hbel, hsa, hsb, hsi, hsm⟩ := hrel
    have HH := Lib.hid hh
    have HS := Lib.hid hs
    have HKB := Lib.hid hkb
    have HBEL := Lib.hid hbel
    have HSA := Lib.hid hsa
    have HSB := Lib.hid hsb
    have HSI := Lib.hid hsi
    have HSM := Lib.hid hsm
    have HM := Lib.hid hm
    have HTN := Lib.hid htn
    have hmx := HMAX.out
    clear hh hs hkb hbel hsa hsb hsi hsm hm htn
    by_cases hlt : j < len2
    · obtain ⟨b, off, rfl, hbb, hcc⟩ := (HROW.out.keep (w' := wr) (fun q hq => HBEL.out.cell hq)).2 (by omega)
      have hr := hcc j hlt
      have hxi := HINS.out j hlt
      generalize zs.getD j Sup.zero = x at *
      have HR := Lib.hid hr
      have HXI := Lib.hid hxi
      have HBB := Lib.hid hbb
      obtain ⟨w6, hw6⟩ : ∃ w6, w6 = wr.alloc (.cells x.c 24) := ⟨_, rfl⟩
      have HW6 := Lib.hid hw6
      have HX6 := Lib.hid (show Blk w6 wr.heap.size 24 x.c by rw [hw6]; exact Blk.new wr _ _)
      have HK6 := Lib.hid (show Blk w6 kb 24 s.c by rw [hw6]; exact HKB.out.alloc _)
      have HB6 := Lib.hid (show Below w.heap.size w w6 by rw [hw6]; exact HBEL.out.alloc HBEL.out.size _)
      clear hcc hr hxi hbb hw6
      by_cases h12 : j = 12
      · subst h12
        go_wp2_with (first
          | (refine wpList_load_part (.tmp 56) 24 rfl rfl b (off + 12 * 6) rfl x.c.toList _ Try.underlying24 rfl size_sup HR.out ?_)
          | (refine wpList_alloc_row 24 rfl rfl (supC 0 0 0 0 0 0) zero_sup ?_)
          | (refine wpList_store_fresh (.tmp 13) (.tmp 57) 24 rfl rfl wr (supC 0 0 0 0 0 0) x.c rfl rfl 24 rfl size_sup rfl (sup_one _ _ _ _ _ _) ?_; rw [← HW6.out]))
        go_ret
        exact ⟨rfl, HB6.out⟩
      have h12i : ¬ ((j : Int) = 12) := by omega
      go_upto_block 2 with (first
        | (refine wpList_load_part (.tmp 56) 24 rfl rfl b (off + j * 6) rfl x.c.toList _ Try.underlying24 rfl size_sup HR.out ?_)
        | (refine wpList_alloc_row 24 rfl rfl (supC 0 0 0 0 0 0) zero_sup ?_)
        | (refine wpList_store_fresh (.tmp 13) (.tmp 57) 24 rfl rfl wr (supC 0 0 0 0 0 0) x.c rfl rfl 24 rfl size_sup rfl (sup_one _ _ _ _ _ _) ?_; rw [← HW6.out]))
      clear h12i
      go_cut [11, 14] from 54 to 140 (fun t e wx => SetsC w6 wr.heap.size kb tn s x wx t e)
      case first =>
        have hx6 := HX6.out.lt
        have hkne : wr.heap.size ≠ kb := by have := HKB.out.lt; omega
        by_cases hm : x.May
        case neg =>
          have hE : setE s x = 2 := by
            unfold setE
            rw [if_pos (.inl hm)]
          go_wp2_with (refine wpList_load_rowB (.tmp 13) 24 rfl rfl wr.heap.size rfl 24 x.c.toList _ Try.underlying24 rfl size_sup HX6.out ?_)
          refine (rmay_any x.a x.b x.g x.r x.v x.f _).mono ?_
          rintro e w7 ⟨rfl, hb⟩
          rw [show decide (MayS x.a x.b x.g x.r) = false from decide_eq_false hm]
          have HE := Lib.hid hE
          have HX7 := Lib.hid (HX6.out.below hb HX6.out.lt)
          have HK7 := Lib.hid (HK6.out.below hb HK6.out.lt)
          have HKP := Lib.hid (Kept.of_below hb (fun c (h : c < w6.heap.size ∧ c ≠ kb) => h.1))
          clear hb hm hE hx6 hkne
          go_wp2_with fail
          go_meet
          refine ⟨by rw [HE.out], by rw [HE.out]; rfl, ?_, HX7.out, HKP.out⟩
          rw [HE.out]
          exact HK7.out
        go_wp2_with (first | (refine wpList_load_rowB (.tmp 13) 24 rfl rfl wr.heap.size rfl 24 x.c.toList _ Try.underlying24 rfl size_sup (by first | exact HX6.out | exact HX7.out) ?_))
        refine (rmay_any x.a x.b x.g x.r x.v x.f _).mono ?_
        rintro e w7 ⟨rfl, hb⟩
        rw [show decide (MayS x.a x.b x.g x.r) = true from decide_eq_true hm]
        have HMX := Lib.hid hm
        have HX7 := Lib.hid (HX6.out.below hb HX6.out.lt)
        have HK7 := Lib.hid (HK6.out.below hb HK6.out.lt)
        have HKP := Lib.hid (Kept.of_below hb (fun c (h : c < w6.heap.size ∧ c ≠ kb) => h.1))
        have HKE7 := Lib.hid (show Blk w7 w3.heap.size 24 s.c by rw [← HKE.out]; exact HK7.out)
        clear hb hm hx6 hkne
        obtain ⟨c0, c1, c2, c3, c4, c5⟩ : _ ∧ _ ∧ _ ∧ _ ∧ _ ∧ _ := ⟨HX7.out.cell 0, HX7.out.cell 1, HX7.out.cell 2, HX7.out.cell 3, HX7.out.cell 4, HX7.out.cell 5⟩
        obtain ⟨k0, k1, k2, k3, k4, k5⟩ : _ ∧ _ ∧ _ ∧ _ ∧ _ ∧ _ := ⟨HKE7.out.cell 0, HKE7.out.cell 1, HKE7.out.cell 2, HKE7.out.cell 3, HKE7.out.cell 4, HKE7.out.cell 5⟩
        simp only [Sup.c, supC, List.getElem?_toArray, List.getElem?_cons_zero, List.getElem?_cons_succ] at c0 c1 c2 c3 c4 c5 k0 k1 k2 k3 k4 k5
        by_cases ha : x.a = a0
        case neg =>
          have hE : setE s x = 2 := by
            unfold setE
            rw [if_pos (.inr (.inl (by rw [HSA.out]; exact ha)))]
          have HE := Lib.hid hE
          have hab : (x.a != a0) = true := by simpa using ha
          clear hE
          go_wp2_with fail
          go_meet
          refine ⟨by rw [HE.out], by rw [HE.out]; rfl, ?_, HX7.out, HKP.out⟩
          rw [HE.out]
          exact HK7.out
        have hab : (x.a != a0) = false := by simpa using ha
        by_cases hb1 : x.b = a1
        case neg =>
          have hE : setE s x = 2 := by
            unfold setE
            rw [if_pos (.inr (.inr (by rw [HSB.out]; exact hb1)))]
          have HE := Lib.hid hE
          have hbb : (x.b != a1) = true := by simpa using hb1
          clear hE
          go_wp2_with fail
          go_meet
          refine ⟨by rw [HE.out], by rw [HE.out]; rfl, ?_, HX7.out, HKP.out⟩
          rw [HE.out]
          exact HK7.out
        have hbb : (x.b != a1) = false := by simpa using hb1
        have hno : ¬ (¬ x.May ∨ x.a ≠ s.a ∨ x.b ≠ s.b) := by
          rintro (c | c | c)
          · exact c HMX.out
          · exact c (ha.trans HSA.out.symm)
          · exact c (hb1.trans HSB.out.symm)
        have HNO := Lib.hid hno
        clear hno
        by_cases hl1 : x.g < s.g
        case pos =>
          have hE : setE s x = 171 := by
            unfold setE
            rw [if_neg HNO.out, if_pos (show s.Back x from .inl hl1)]
          have HE := Lib.hid hE
          have hd1 : decide (x.g < s.g) = true := decide_eq_true hl1
          clear hE
          go_wp2_with fail
          go_meet
          refine ⟨by rw [HE.out], by rw [HE.out]; rfl, ?_, HX7.out, HKP.out⟩
          rw [HE.out]
          exact HK7.out
        have hd1 : decide (x.g < s.g) = false := decide_eq_false hl1
        by_cases hl2 : x.r < s.r
        case pos =>
          have hE : setE s x = 171 := by
            unfold setE
            rw [if_neg HNO.out, if_pos (show s.Back x from .inr (.inl hl2))]
          have HE := Lib.hid hE
          have hd2 : decide (x.r < s.r) = true := decide_eq_true hl2
          clear hE
          go_wp2_with fail
          go_meet
          refine ⟨by rw [HE.out], by rw [HE.out]; rfl, ?_, HX7.out, HKP.out⟩
          rw [HE.out]
          exact HK7.out
        have hd2 : decide (x.r < s.r) = false := decide_eq_false hl2
        by_cases hl3 : x.v < s.v
        case pos =>
          have hE : setE s x = 171 := by
            unfold setE
            rw [if_neg HNO.out, if_pos (show s.Back x from .inr (.inr (.inl hl3)))]
          have HE := Lib.hid hE
          have hd3 : decide (x.v < s.v) = true := decide_eq_true hl3
          clear hE
          go_wp2_with fail
          go_meet
          refine ⟨by rw [HE.out], by rw [HE.out]; rfl, ?_, HX7.out, HKP.out⟩
          rw [HE.out]
          exact HK7.out
        have hd3 : decide (x.v < s.v) = false := decide_eq_false hl3
        by_cases hl4 : x.f < s.f
        case pos =>
          have hE : setE s x = 171 := by
            unfold setE
            rw [if_neg HNO.out, if_pos (show s.Back x from .inr (.inr (.inr hl4)))]
          have HE := Lib.hid hE
          have hd4 : decide (x.f < s.f) = true := decide_eq_true hl4
          clear hE
          go_wp2_with fail
          go_meet
          refine ⟨by rw [HE.out], by rw [HE.out]; rfl, ?_, HX7.out, HKP.out⟩
          rw [HE.out]
          exact HK7.out
        have hd4 : decide (x.f < s.f) = false := decide_eq_false hl4
        have hE : setE s x = 0 := by
          unfold setE
          rw [if_neg HNO.out, if_neg (show ¬ s.Back x from fun h => h.elim hl1 (fun h => h.elim hl2 (fun h => h.elim hl3 hl4)))]
        have HE := Lib.hid hE
        have htn := HTN.out
        have hwr : IntKind.u64.wrap ((tn : Int) + 1) = (tn : Int) + 1 := by rw [IntKind.wrap_u64]; omega
        clear hE htn
        go_wp2_with (first | (refine wpList_load_rowB (.tmp 13) 24 rfl rfl wr.heap.size rfl 24 x.c.toList _ Try.underlying24 rfl size_sup (by first | exact HX6.out | exact HX7.out) ?_) | (refine wpList_store_rowB (.tmp 10) (.tmp 60) 24 rfl rfl w3.heap.size x.c rfl rfl 24 s.c HKE7.out size_sup rfl (sup_one _ _ _ _ _ _) ?_))
        go_meet
        have hkx : wr.heap.size ≠ kb := by have := HKB.out.lt; omega
        refine ⟨by rw [HE.out], by rw [HE.out]; rfl, ?_, ?_, ?_⟩
        · rw [HE.out, HKE.out]
          exact setRow_heap _ _ _ x.c _ _ HKE7.out
        · rw [← HKE.out]
          exact HX7.out.kept ((Kept.refl (fun c => c ≠ kb) w7).setRow (fun h => h rfl) _) hkx
        · rw [← HKE.out]
          exact HKP.out.setRow (fun h => h.2 rfl) _
      case rest =>
        obtain ⟨rfl, rfl, hk9, hx9, hp9⟩ := hcut
        have hke := HKE.out
        subst hke
        have hkb := HKB.out.lt
        have hkne : wr.heap.size ≠ w3.heap.size := by omega
        have hs6 : StoreM w6 (fun b => b < w1.heap.size ∨ b = w3.heap.size ∨ b = wr.heap.size) p d 1026 s.a s.b s.g s.r s.v s.f tn k := by
          rw [HW6.out]
          exact StoreM.kept (Z := fun b => b < wr.heap.size) HS.out (Kept.of_below ((Below.refl _ wr).alloc (Nat.le_refl _) _) (fun b h => h)) (fun b h _ => h) (fun b h h' => h'.elim .inl (fun h' => h'.elim .inr (fun e => absurd e (by omega))))
        have hs9 : StoreM wc (fun b => b < w1.heap.size ∨ b = w3.heap.size ∨ b = wr.heap.size) p d 1026 s.a s.b s.g s.r s.v s.f tn k := StoreM.kept hs6 hp9 (fun b h hx => ⟨h, fun e => hx (.inr (.inl e))⟩) (fun b h h' => h')
        have hX9 : ∀ c, (c < w1.heap.size ∨ c = w3.heap.size ∨ c = wr.heap.size) → c < wc.heap.size := fun c h => h.elim (fun h => Nat.lt_of_lt_of_le h (Nat.le_trans HM.out (Nat.le_trans (by rw [HW6.out]; simp) hp9.size))) (fun h => h.elim (fun h => h ▸ hk9.lt) (fun h => h ▸ hx9.lt))
        have hb9 : Below w.heap.size w wc := HB6.out.trans (hp9.to_below (B := w.heap.size) (fun b hb => ⟨Nat.lt_of_lt_of_le hb HB6.out.size, fun e => by have := HZ.out; have := HK5le.out; omega⟩))
        have hset := fun (W : World) (hw : StoreM W (fun b => b < w1.heap.size ∨ b = w3.heap.size ∨ b = wr.heap.size) p d 1026 s.a s.b s.g s.r s.v s.f tn k) (hX : ∀ c, (c < w1.heap.size ∨ c = w3.heap.size ∨ c = wr.heap.size) → c < W.heap.size) => set_all hw hX x HXI.out (by omega) HH.out
        have hmay' : (if setE s x = 0 then x else s).May ∧ (if setE s x = 0 then x else s).a = a0 ∧ (if setE s x = 0 then x else s).b = a1 ∧ (if setE s x = 0 then x else s).In := by
          by_cases h : setE s x = 0
          · obtain ⟨h1, h2, h3, _⟩ := setE_ok h
            rw [if_pos h]
            exact ⟨h1, h2.trans HSA.out, h3.trans HSB.out, HXI.out⟩
          · rw [if_neg h]
            exact ⟨HSM.out, HSA.out, HSB.out, HSI.out⟩
        obtain ⟨tm, htm, htm2⟩ : ∃ tm : Nat, (if setE s x = 0 then (tn : Int) + 1 else tn) = (tm : Int) ∧ tm ≤ tn + 1 := by
          by_cases h : setE s x = 0
          · exact ⟨tn + 1, by rw [if_pos h]; omega, by omega⟩
          · exact ⟨tn, by rw [if_neg h], by omega⟩
        have hnx : (if setE s x = 0 then nxt (tn : Int) else tn) = (tm : Int) := by
          rw [← htm]
          have h0 : nxt (tn : Int) = tn + 1 := by have := HTN.out; unfold nxt; omega
          rw [h0]
        rw [hnx] at hset
        rw [htm]
        generalize (if setE s x = 0 then x else s) = s' at *
        have hE64 : -9223372036854775808 ≤ setE s x ∧ setE s x ≤ 9223372036854775807 := by
          unfold setE
          split
          · omega
          · split <;> omega
        generalize setE s x = e0 at *
        have HK9 := Lib.hid hk9
        have HX9 := Lib.hid hx9
        have HS9 := Lib.hid hs9
        have HXS := Lib.hid hX9
        have HB9 := Lib.hid hb9
        have HSET := Lib.hid hset
        have HM' := Lib.hid hmay'
        have HTM := Lib.hid htm2
        clear hk9 hx9 hs9 hX9 hb9 hset hmay' htm htm2 hnx hp9 hs6 hE64 HKB
        go_upto_region 23 with fail
        have hr1 : wc.rangeAt wr.heap.size 0 x.c.toList := Blk.rangeL (cs := x.c.toList) HX9.out
        have hr2 : wc.rangeAt w3.heap.size 0 s'.c.toList := Blk.rangeL (cs := s'.c.toList) HK9.out
        have hu24 := Try.underlying24
        have hs24 : (Try.prog.info? 24).map (·.size) = some x.c.toList.length := size_sup
        have hs24' : (Try.prog.info? 24).map (·.size) = some s'.c.toList.length := size_sup
        refine wp_region_noPanic ?_
        refine Tillst.region (fun W => W.rangeAt wr.heap.size 0 x.c.toList ∧ W.rangeAt w3.heap.size 0 s'.c.toList) [] (by kernel_rfl) ⟨hr1, hr2⟩ (fun hHeld => ?_)
        clear hr1 hr2
        refine Tillst.take (i := 0) (oi := ss0) (v := ?_) rfl (by kernel_rfl) (by kernel_rfl) (by kernel_rfl) (by kernel_rfl) (fun _ _ _ h => h) (by rfl) ?_ hHeld ?_
        rotate_left
        · intro W hSW; (try dsimp only at hSW); unfold ss0; go_simp; with_reducible rfl
        simp only [ss0, Act.put, List.setIfInBounds_toArray, List.set_cons_zero, List.set_cons_succ]
        refine Tillst.take (i := 1) (oi := ss1) (v := ?_) rfl (by kernel_rfl) (by kernel_rfl) (by kernel_rfl) (by kernel_rfl) (fun _ _ _ h => h) (by rfl) ?_ hHeld ?_
        rotate_left
        · intro W hSW; refine exec_load_row (.tmp 13) 24 ?_ wr.heap.size 0 ?_ x.c.toList _ hu24 rfl hs24 hSW.1 <;> rfl
        simp only [ss1, Act.put, List.setIfInBounds_toArray, List.set_cons_zero, List.set_cons_succ]
        refine Tillst.take (i := 3) (oi := ss3) (v := ?_) rfl (by kernel_rfl) (by kernel_rfl) (by kernel_rfl) (by kernel_rfl) (fun _ _ _ h => h) (by rfl) ?_ hHeld ?_
        rotate_left
        · intro W hSW; (try dsimp only at hSW); unfold ss3; go_simp; with_reducible rfl
        simp only [ss3, Act.put, List.setIfInBounds_toArray, List.set_cons_zero, List.set_cons_succ]
        refine Tillst.one (i := 2) (o := ss2) (by kernel_rfl) rfl ?_
        intro K hK
        refine step_call 23 #[.tmp 106, .tmp 107] #[42, 24] rfl rfl Try.func23 rfl rfl [.pointer (some ⟨p, 0, none⟩), .agg x.c] rfl ?_
        refine (HSET.out _ (HS9.out.below (Below.refl _ _).drew) (fun c h => HXS.out c h)).mono ?_
        rintro e wa ⟨rfl, hka, kq, hsa, hha⟩
        have HKA := Lib.hid (HK9.out.kept ((Kept.refl _ wc).drew.trans hka (fun b h => h)) (.inr (.inl rfl)))
        have HXA := Lib.hid (HX9.out.kept ((Kept.refl _ wc).drew.trans hka (fun b h => h)) (.inr (.inr rfl)))
        have HSTA := Lib.hid hsa
        have HHA := Lib.hid hha
        have HBA := Lib.hid (HB9.out.trans ((((Kept.refl _ wc).drew.trans hka (fun b h => h))).to_below (B := w.heap.size) (fun b hb => .inl (Nat.lt_of_lt_of_le hb HZ.out.1))))
        have HZA := Lib.hid (show w1.heap.size ≤ wa.heap.size from Nat.le_trans (show w1.heap.size ≤ wc.heap.size by have := HX9.out.lt; have := HM.out; omega) hka.size)
        have hS : wa.rangeAt wr.heap.size 0 x.c.toList ∧ wa.rangeAt w3.heap.size 0 s'.c.toList := ⟨Blk.rangeL (cs := x.c.toList) HXA.out, Blk.rangeL (cs := s'.c.toList) HKA.out⟩
        clear hka hsa hha
        refine ⟨_, rfl, ?_⟩
        simp only [ss2, Act.put, List.setIfInBounds_toArray, List.set_cons_zero, List.set_cons_succ]
        refine hK.out _ _ (fun _ => hS) (fun hHeld => ?_)
        replace hHeld := hHeld (by decide)
        clear hK K hS
        refine Tillst.take (i := 4) (oi := ss4) (v := ?_) rfl (by kernel_rfl) (by kernel_rfl) (by kernel_rfl) (by kernel_rfl) (fun _ _ _ h => h) (by rfl) ?_ hHeld ?_
        rotate_left
        · intro W hSW; (try dsimp only at hSW); unfold ss4; go_simp; with_reducible rfl
        simp only [ss4, Act.put, List.setIfInBounds_toArray, List.set_cons_zero, List.set_cons_succ]
        refine Tillst.take (i := 5) (oi := ss5) (v := ?_) rfl (by kernel_rfl) (by kernel_rfl) (by kernel_rfl) (by kernel_rfl) (fun _ _ _ h => h) (by rfl) ?_ hHeld ?_
        rotate_left
        · intro W hSW; (try dsimp only at hSW); unfold ss5; go_simp; with_reducible rfl
        simp only [ss5, Act.put, List.setIfInBounds_toArray, List.set_cons_zero, List.set_cons_succ]
        refine Tillst.take (i := 6) (oi := ss6) (v := ?_) rfl (by kernel_rfl) (by kernel_rfl) (by kernel_rfl) (by kernel_rfl) (fun _ _ _ h => h) (by rfl) ?_ hHeld ?_
        rotate_left
        · intro W hSW; (try dsimp only at hSW); unfold ss6; go_simp; with_reducible rfl
        simp only [ss6, Act.put, List.setIfInBounds_toArray, List.set_cons_zero, List.set_cons_succ]
        refine Tillst.take (i := 8) (oi := ss8) (v := ?_) rfl (by kernel_rfl) (by kernel_rfl) (by kernel_rfl) (by kernel_rfl) (fun _ _ _ h => h) (by rfl) ?_ hHeld ?_
        rotate_left
        · intro W hSW; refine exec_load_row (.tmp 10) 24 ?_ w3.heap.size 0 ?_ s'.c.toList _ hu24 rfl hs24' hSW.2 <;> rfl
        simp only [ss8, Act.put, List.setIfInBounds_toArray, List.set_cons_zero, List.set_cons_succ]
        refine Tillst.one (i := 7) (o := ss7) (by kernel_rfl) rfl ?_
        intro K hK
        refine step_call 24 #[.tmp 112] #[42] rfl rfl Try.func24 rfl rfl [.pointer (some ⟨p, 0, none⟩)] rfl ?_
        refine (get_any HSTA.out).mono ?_
        rintro e wb ⟨rfl, hb⟩
        have HKB := Lib.hid (HKA.out.below hb HKA.out.lt)
        have HSTB := Lib.hid (HSTA.out.below hb)
        have HBB2 := Lib.hid (HBA.out.trans (hb.mono HBA.out.size))
        have hS := And.intro (range_below hHeld.1 hb HXA.out.lt) (range_below hHeld.2 hb HKA.out.lt)
        have HZB := Lib.hid (Nat.le_trans HZA.out hb.size)
        clear hb
        refine ⟨_, rfl, ?_⟩
        simp only [ss7, Act.put, List.setIfInBounds_toArray, List.set_cons_zero, List.set_cons_succ]
        refine hK.out _ _ (fun _ => hS) (fun hHeld => ?_)
        replace hHeld := hHeld (by decide)
        clear hK K hS
        refine Tillst.take (i := 9) (oi := ss9) (v := ?_) rfl (by kernel_rfl) (by kernel_rfl) (by kernel_rfl) (by kernel_rfl) (fun _ _ _ h => h) (by rfl) ?_ hHeld ?_
        rotate_left
        · intro W hSW; refine exec_neq_sup_no (.tmp 113) (.tmp 114) 24 ?_ s' ?_ ?_ <;> rfl
        simp only [ss9, Act.put, List.setIfInBounds_toArray, List.set_cons_zero, List.set_cons_succ]
        refine Tillst.take (i := 10) (oi := ss10) (v := ?_) rfl (by kernel_rfl) (by kernel_rfl) (by kernel_rfl) (by kernel_rfl) (fun _ _ _ h => h) (by rfl) ?_ hHeld ?_
        rotate_left
        · intro W hSW; (try dsimp only at hSW); unfold ss10; go_simp; with_reducible rfl
        simp only [ss10, Act.put, List.setIfInBounds_toArray, List.set_cons_zero, List.set_cons_succ]
        refine Tillst.take (i := 11) (oi := ss11) (v := ?_) rfl (by kernel_rfl) (by kernel_rfl) (by kernel_rfl) (by kernel_rfl) (fun _ _ _ h => h) (by rfl) ?_ hHeld ?_
        rotate_left
        · intro W hSW; (try dsimp only at hSW); unfold ss11; go_simp; with_reducible rfl
        simp only [ss11, Act.put, List.setIfInBounds_toArray, List.set_cons_zero, List.set_cons_succ]
        refine Tillst.take (i := 12) (oi := ss12) (v := ?_) rfl (by kernel_rfl) (by kernel_rfl) (by kernel_rfl) (by kernel_rfl) (fun _ _ _ h => h) (by rfl) ?_ hHeld ?_
        rotate_left
        · intro W hSW; (try dsimp only at hSW); unfold ss12; go_simp; with_reducible rfl
        simp only [ss12, Act.put, List.setIfInBounds_toArray, List.set_cons_zero, List.set_cons_succ]
        refine Tillst.one (i := 13) (o := ss13) (by kernel_rfl) rfl ?_
        intro K hK
        refine step_call 25 #[.tmp 118] #[39] rfl rfl Try.func25 rfl rfl [.pointer (some ⟨d, 0, none⟩)] rfl ?_
        refine (pending_none HSTB.out.2.1 HHA.out.1.2).mono ?_
        rintro e wb2 ⟨rfl, rfl⟩
        have hS := hHeld
        refine ⟨_, rfl, ?_⟩
        simp only [ss13, Act.put, List.setIfInBounds_toArray, List.set_cons_zero, List.set_cons_succ]
        refine hK.out _ _ (fun _ => hS) (fun hHeld => ?_)
        replace hHeld := hHeld (by decide)
        clear hK K hS
        refine Tillst.take (i := 14) (oi := ss14) (v := ?_) rfl (by kernel_rfl) (by kernel_rfl) (by kernel_rfl) (by kernel_rfl) (fun _ _ _ h => h) (by rfl) ?_ hHeld ?_
        rotate_left
        · intro W hSW; (try dsimp only at hSW); unfold ss14; go_simp; with_reducible rfl
        simp only [ss14, Act.put, List.setIfInBounds_toArray, List.set_cons_zero, List.set_cons_succ]
        refine Tillst.take (i := 15) (oi := ss15) (v := ?_) rfl (by kernel_rfl) (by kernel_rfl) (by kernel_rfl) (by kernel_rfl) (fun _ _ _ h => h) (by rfl) ?_ hHeld ?_
        rotate_left
        · intro W hSW; (try dsimp only at hSW); unfold ss15; go_simp; with_reducible rfl
        simp only [ss15, Act.put, List.setIfInBounds_toArray, List.set_cons_zero, List.set_cons_succ]
        refine Tillst.take (i := 16) (oi := ss16) (v := ?_) rfl (by kernel_rfl) (by kernel_rfl) (by kernel_rfl) (by kernel_rfl) (fun _ _ _ h => h) (by rfl) ?_ hHeld ?_
        rotate_left
        · intro W hSW; (try dsimp only at hSW); unfold ss16; go_simp; with_reducible rfl
        simp only [ss16, Act.put, List.setIfInBounds_toArray, List.set_cons_zero, List.set_cons_succ]
        refine Tillst.done (by kernel_rfl) ?_ _
        refine NoPanic.normal ?_
        clear hHeld hs24
        have hX' : ∀ c, ((c < w1.heap.size ∨ c = w3.heap.size ∨ c = wr.heap.size) ∨ c = p) → c < wb.heap.size := fun c h => h.elim (fun h => h.elim (fun h => Nat.lt_of_lt_of_le h HZB.out) (fun h => h.elim (fun h => h ▸ HKB.out.lt) (fun h => h ▸ block_lt_of_cell (hHeld.1 0 _ rfl)))) (fun h => h ▸ HSTB.out.1.lt)
        have hrd : Calls Try.prog 26 #[.pointer (some ⟨d, 0, none⟩), .int .i64 ((tm : Int) % 2)] wb fun e w' => e = .returned (.tuple #[.agg (cells8 (s'.L tm)), .int .i64 0]) ∧ DiskM w' (fun c => (c < w1.heap.size ∨ c = w3.heap.size ∨ c = wr.heap.size) ∨ c = p) d 1026 kq.rd ∧ Kept (fun c => (c < w1.heap.size ∨ c = w3.heap.size ∨ c = wr.heap.size) ∨ c = p) wb w' := by
          have h := read_k HSTB.out.2.1 hX' ((tm : Int) % 2).toNat (by omega)
          rw [HHA.out.rdv, HHA.out.1.1.rde, show (((tm : Int) % 2).toNat : Int) = (tm : Int) % 2 by omega] at h
          exact h
        have HRD := Lib.hid hrd
        have hsl : (s'.L tm).length = 64 := supL_length _ _ _ _ _ _ _
        have HSL := Lib.hid hsl
        have HBK := Lib.hid (fun u => rblock_any s'.a s'.b s'.g s'.r s'.v s'.f tm u HM'.out.1 HM'.out.2.2.2 (by have := HTM.out; have := HTN.out; omega))
        have HEL := Lib.hid (show s'.L tm = supL s'.a s'.b s'.g s'.r s'.v s'.f tm from rfl)
        clear hHeld hX' hrd hsl hs24' hu24
        have htm : (tm : Int) ≤ 13 := by have := HTM.out; have := HTN.out; omega
        have h2 : (0 : Int) ≤ (tm : Int) % 2 ∧ (tm : Int) % 2 < 2 := by omega
        have hwm : IntKind.i64.wrap ((tm : Int) % 2) = (tm : Int) % 2 := by rw [IntKind.wrap_i64]; omega
        have hwu : IntKind.u64.wrap ((tm : Int) % 2) = (tm : Int) % 2 := by rw [IntKind.wrap_u64]; omega
        have htd : Int.tmod (tm : Int) 2 = (tm : Int) % 2 := Int.tmod_eq_emod_of_nonneg (by omega)
        go_wp2_with fail
        refine HRD.out.mono ?_
        rintro e wd ⟨rfl, hdd, hkd⟩
        have HKD := Lib.hid (HKB.out.kept hkd (.inl (.inr (.inl rfl))))
        have HSD := Lib.hid (show StoreM wd (fun b => b < w1.heap.size ∨ b = w3.heap.size ∨ b = wr.heap.size) p d 1026 s'.a s'.b s'.g s'.r s'.v s'.f tm kq.rd from ⟨HSTB.out.1.kept hkd (.inr rfl), hdd, HSTB.out.2.2⟩)
        have HBD := Lib.hid (HBB2.out.trans (hkd.to_below (B := w.heap.size) (fun b hb => .inl (.inl (Nat.lt_of_lt_of_le hb HZ.out.1)))))
        have HZD := Lib.hid (Nat.le_trans HZB.out hkd.size)
        obtain ⟨we, hwe⟩ : ∃ we, we = wd.alloc (.cells (cells8 (s'.L tm)) 26) := ⟨_, rfl⟩
        have HWE := Lib.hid hwe
        have HKE2 := Lib.hid (show Blk we w3.heap.size 24 s'.c by rw [hwe]; exact HKD.out.alloc _)
        have HXE := Lib.hid (show ArrB we wd.heap.size (s'.L tm) by rw [hwe]; exact Blk.new wd _ _)
        have HBEb : Below wd.heap.size wd we := by rw [hwe]; exact (Below.refl _ _).alloc (Nat.le_refl _) _
        have HSE := Lib.hid (HSD.out.below HBEb)
        have HBE := Lib.hid (HBD.out.trans (HBEb.mono HBD.out.size))
        have HZE := Lib.hid (Nat.le_trans HZD.out HBEb.size)
        clear hdd hkd hwe HBEb
        go_upto_region 26 with (first
          | (refine wpList_alloc_blk rfl rfl ?_)
          | (refine wpList_store_new (.tmp 15) (.tmp 129) rfl rfl wd (s'.L tm) rfl rfl (noughts 64) rfl (noughts_length 64) HSL.out ?_; rw [← HWE.out]))
        clear htm h2 hwm hwu htd
        have hr1 : we.rangeAt w3.heap.size 0 s'.c.toList := Blk.rangeL (cs := s'.c.toList) HKE2.out
        have hr2 := HXE.out.range
        have hu24 := Try.underlying24
        have hu26 := Try.underlying26
        have hs24 : (Try.prog.info? 24).map (·.size) = some s'.c.toList.length := size_sup
        have hs26 : (Try.prog.info? 26).map (·.size) = some ((s'.L tm).map (Value.int .u8)).length := by rw [size_blk, List.length_map, HSL.out]
        refine wp_region_noPanic ?_
        refine Tillst.region (fun W => W.rangeAt w3.heap.size 0 s'.c.toList ∧ W.rangeAt wd.heap.size 0 ((s'.L tm).map (Value.int .u8))) [] (by kernel_rfl) ⟨hr1, hr2⟩ (fun hHeld => ?_)
        clear hr1 hr2
        refine Tillst.take (i := 0) (oi := st0) (v := ?_) rfl (by kernel_rfl) (by kernel_rfl) (by kernel_rfl) (by kernel_rfl) (fun _ _ _ h => h) (by rfl) ?_ hHeld ?_
        rotate_left
        · intro W hSW; (try dsimp only at hSW); unfold st0; go_simp; with_reducible rfl
        simp only [st0, Act.put, List.setIfInBounds_toArray, List.set_cons_zero, List.set_cons_succ]
        refine Tillst.take (i := 1) (oi := st1) (v := ?_) rfl (by kernel_rfl) (by kernel_rfl) (by kernel_rfl) (by kernel_rfl) (fun _ _ _ h => h) (by rfl) ?_ hHeld ?_
        rotate_left
        · intro W hSW; (try dsimp only at hSW); unfold st1; go_simp; with_reducible rfl
        simp only [st1, Act.put, List.setIfInBounds_toArray, List.set_cons_zero, List.set_cons_succ]
        refine Tillst.take (i := 2) (oi := st2) (v := ?_) rfl (by kernel_rfl) (by kernel_rfl) (by kernel_rfl) (by kernel_rfl) (fun _ _ _ h => h) (by rfl) ?_ hHeld ?_
        rotate_left
        · intro W hSW; (try dsimp only at hSW); unfold st2; go_simp; with_reducible rfl
        simp only [st2, Act.put, List.setIfInBounds_toArray, List.set_cons_zero, List.set_cons_succ]
        refine Tillst.take (i := 3) (oi := st3) (v := ?_) rfl (by kernel_rfl) (by kernel_rfl) (by kernel_rfl) (by kernel_rfl) (fun _ _ _ h => h) (by rfl) ?_ hHeld ?_
        rotate_left
        · intro W hSW; refine exec_load_row (.tmp 15) 26 ?_ wd.heap.size 0 ?_ ((s'.L tm).map (Value.int .u8)) _ hu26 rfl hs26 hSW.2 <;> rfl
        simp only [st3, Act.put, List.setIfInBounds_toArray, List.set_cons_zero, List.set_cons_succ]
        refine Tillst.take (i := 4) (oi := st4) (v := ?_) rfl (by kernel_rfl) (by kernel_rfl) (by kernel_rfl) (by kernel_rfl) (fun _ _ _ h => h) (by rfl) ?_ hHeld ?_
        rotate_left
        · intro W hSW; refine exec_load_row (.tmp 10) 24 ?_ w3.heap.size 0 ?_ s'.c.toList _ hu24 rfl hs24 hSW.1 <;> rfl
        simp only [st4, Act.put, List.setIfInBounds_toArray, List.set_cons_zero, List.set_cons_succ]
        refine Tillst.take (i := 5) (oi := st5) (v := ?_) rfl (by kernel_rfl) (by kernel_rfl) (by kernel_rfl) (by kernel_rfl) (fun _ _ _ h => h) (by rfl) ?_ hHeld ?_
        rotate_left
        · intro W hSW; (try dsimp only at hSW); unfold st5; go_simp; with_reducible rfl
        simp only [st5, Act.put, List.setIfInBounds_toArray, List.set_cons_zero, List.set_cons_succ]
        refine Tillst.one (i := 6) (o := st6) (by kernel_rfl) rfl ?_
        intro K hK
        refine step_call 17 #[.tmp 135, .tmp 136] #[24, 22] rfl rfl Try.func17 rfl rfl [.agg s'.c, .int .u64 tm] rfl ?_
        refine (HBK.out _).mono ?_
        rintro e wz ⟨rfl, hb⟩
        have hb5 : Below we.heap.size we wz := (Below.refl _ _).drew.trans hb
        have HKZ := Lib.hid (HKE2.out.below hb5 HKE2.out.lt)
        have HBZ := Lib.hid (HBE.out.trans (hb5.mono HBE.out.size))
        have HSZ := Lib.hid (HSE.out.below hb5)
        have HZZ := Lib.hid (Nat.le_trans HZE.out hb5.size)
        have hS := And.intro (range_below hHeld.1 hb HKE2.out.lt) (range_below hHeld.2 hb HXE.out.lt)
        clear hb hb5
        refine ⟨_, rfl, ?_⟩
        simp only [st6, Act.put, List.setIfInBounds_toArray, List.set_cons_zero, List.set_cons_succ]
        refine hK.out _ _ (fun _ => hS) (fun hHeld => ?_)
        replace hHeld := hHeld (by decide)
        clear hK K hS
        rw [← HEL.out]
        refine Tillst.take (i := 7) (oi := st7) (v := ?_) rfl (by kernel_rfl) (by kernel_rfl) (by kernel_rfl) (by kernel_rfl) (fun _ _ _ h => h) (by rfl) ?_ hHeld ?_
        rotate_left
        · intro W hSW; refine exec_neq_blk (.tmp 134) (.tmp 137) 26 ?_ (s'.L tm) (s'.L tm) ?_ ?_ HSL.out HSL.out <;> rfl
        simp only [st7, Act.put, List.setIfInBounds_toArray, List.set_cons_zero, List.set_cons_succ]
        have heq : (s'.L tm == s'.L tm) = true := by simp
        rw [heq]
        clear heq
        refine Tillst.take (i := 8) (oi := st8) (v := ?_) rfl (by kernel_rfl) (by kernel_rfl) (by kernel_rfl) (by kernel_rfl) (fun _ _ _ h => h) (by rfl) ?_ hHeld ?_
        rotate_left
        · intro W hSW; (try dsimp only at hSW); unfold st8; go_simp; with_reducible rfl
        simp only [st8, Act.put, List.setIfInBounds_toArray, List.set_cons_zero, List.set_cons_succ]
        refine Tillst.done (by kernel_rfl) ?_ _
        refine NoPanic.normal ?_
        clear hHeld hs24 hs26 hu24 hu26
        go_wp2_with fail
        go_roundw
        case rel =>
          have htn := HTN.out
          have htm := HTM.out
          refine ⟨j + 1, s', tm, kq.rd, ⟨by omega, by omega, by omega, HZZ.out⟩, by simp, rfl, ?_, HHA.out.read, HKZ.out, HBZ.out, HM'.out.2.1, HM'.out.2.2.1, HM'.out.2.2.2, HM'.out.1⟩
          exact StoreM.kept (Z := fun _ => True) HSZ.out (Kept.refl _ _) (fun _ _ _ => trivial) (fun b _ h => h.elim .inl (fun h => .inr (.inl h)))
        case measure => simp [intOf]; omega
    · go_wp2_with fail
      go_ret
      exact ⟨rfl, HBEL.out⟩

set_option maxRecDepth 100000 in
theorem lifted (os : Os) (started : os.Started) (H : Type) (enc : TypeId × Value → H) :
    ReturnsInHanded {} Try.checked os 4 .any (Rows.superSetsSpec.pre6 enc Try.prog Try.f4 Rows.superSetsRow.domain false) (Rows.superSetsSpec.post enc Try.prog Try.f4 false true false false) := by
  refine returnsInHanded_of_change (C := Try.checked) own started (by kernel_rfl) Try.func4
    (ChangeSpec.witness6 (enc := enc) (C := Try.checked) false ⟨#[], #[.int .i64 0, .int .i64 0, .slice none 0 0], []⟩ 8 (by kernel_rfl) (by kernel_rfl) (by kernel_rfl) (by kernel_rfl)) ?_
  intro W base args ds gs before hval0 hW hcnd _
  have hval : ∀ (j : Nat) t v, Try.f4.params[j]? = some t → args[j]? = some v → Value.okWide Try.prog W .any base t v := hval0
  have hW' := hW
  obtain ⟨p, q, hA0, hV, rfl, hfz, hnd⟩ := hW
  have hA : DataW.TrodAll enc Try.prog W 0 (fun _ => true) true Try.f4.params.toList args.toList ds p := hA0
  rw [Try.params4] at hA hval
  obtain ⟨v0, vs0, d0, ds0, p0, q0, hargs, rfl, rfl, h0, r0⟩ := trodAll_cons hA
  obtain ⟨v1, vs1, d1, ds1, p1, q1, rfl, rfl, rfl, h1, r1⟩ := trodAll_cons r0
  obtain ⟨v2, vs2, d2, ds2, p2, q2, rfl, rfl, rfl, h2, r2⟩ := trodAll_cons r1
  obtain ⟨rfl, rfl, rfl⟩ := trodAll_nil r2
  obtain rfl : args = #[v0, v1, v2] := by cases args; simp_all
  obtain ⟨rfl, rfl⟩ := trodVars_none hV
  obtain ⟨a0, rfl, rfl, rfl, w0⟩ := open_int Try.underlying3 (hval 0 3 v0 rfl rfl) h0
  obtain ⟨a1, rfl, rfl, rfl, w1⟩ := open_int Try.underlying3 (hval 1 3 v1 rfl rfl) h1
  obtain ⟨a2, len2, cap2, rfl⟩ := okWide_slice Try.underlying38 (hval 2 38 v2 rfl rfl)
  have k2 := h2
  have lt2 : ∀ x ∈ p2, x.block < W.heap.size := by obtain ⟨m, hm⟩ := k2; exact DataW.trod_lt m _ _ _ hm
  obtain ⟨z2, w2, e2⟩ : ∃ zs, IsSups W a2 len2 cap2 zs ∧ (cap2 = 0 ∨ ∃ el sp : List (DataW H), d2 = .slice el sp ∧ el.length + sp.length = cap2) := by
    obtain ⟨fuel, hf⟩ := h2
    obtain ⟨a, l, c, zs, hcs, hz, hx⟩ := open_sups Try.underlying38 hf
    simp [Value.cells] at hcs
    obtain ⟨rfl, rfl, rfl⟩ := hcs
    exact ⟨zs, hz, hx⟩
  clear hA0 hval0
  refine (walk a0 a1 a2 len2 cap2 z2 W w0 w1 w2).mono fun e W' ⟨he, bel⟩ => ?_
  subst he
  exact ⟨_, rfl, _, _, _, [], _, [], hW', trodAll_mk1 (shut_bool Try.underlying4 _), (trodAll_cons_mk (shut_int Try.underlying3 w0) (trodAll_cons_mk (shut_int Try.underlying3 w1) (trodAll_cons_mk (Below.trod laidOut (by kernel_rfl) (of_decide_eq_true (by kernel_rfl)) k2 bel lt2) trodAll_mk0))), rfl, bel.frame _, fun h => by cases h⟩

theorem over : Rows.superSetsRow.holds Try.pinned (OpenSpec.ofChange Rows.superSetsSpec) :=
  OpenClaim.holds_of_wide 4 Try.f4 rfl rfl rfl rfl rfl rfl rfl ⟨rfl, rfl, rfl, rfl, rfl⟩ rfl rfl rfl rfl rfl (by kernel_rfl) Try.func4 (by kernel_rfl)
    (of_decide_eq_true (by kernel_rfl)) (by unfold Func.isWrapper; first | (rw [if_pos (by decide +kernel)]; kernel_rfl) | (rw [if_neg (by decide +kernel)]; exact ⟨rfl, rfl⟩))
    (fun os started H enc _ => lifted os started H enc)

theorem proved : Rows.SuperSetsSaid := over
end Go.Proofs.Ytbnioceednkjcaa.superSets
