/- Texts of LogReads, packed. -/
import Derived.Test.YtjmjhldjablfeaaGreatPackLogReads13
import Derived.Great.BuildSlice
import Derived.Laws.CopyRow
import Derived.OwnWalk
import Derived.Deep.DeepCutAuto
import Derived.Deep.CutBlock
set_option linter.unusedVariables false
set_option linter.unusedSimpArgs false
set_option maxRecDepth 100000
set_option maxHeartbeats 16000000
namespace Go.Proofs.YtjmjhldjablfeaaGreat
section
open Go.RowKit
attribute [local go_sem] Oper.semAt_some
abbrev rw0 : Oper := ⟨some 79, .move (.tmp 10), 3, "outright.go:117", #[], none⟩
abbrev rw1 : Oper := ⟨some 80, .move (.tmp 5), 28, "outright.go:117", #[], none⟩
abbrev rw2 : Oper := ⟨some 81, .call { callee := .builtin Go.Builtin.len, args := #[.tmp 80], argTypes := #[28] }, 3, "outright.go:117", #[⟨1, .data⟩], none⟩
abbrev rw3 : Oper := ⟨some 82, .binOp Go.BinOp.geq 3 (.tmp 79) (.tmp 81) 3, 4, "outright.go:117", #[⟨0, .data⟩, ⟨2, .data⟩], none⟩
abbrev rw4 : Oper := ⟨some 83, .move (.tmp 82), 4, "outright.go:117", #[⟨3, .data⟩], none⟩
abbrev rw5 : Oper := ⟨some 84, .fieldAddr 40 (.tmp 15) 0, 0, "outright.go:117", #[⟨4, .guard⟩], some (4, false)⟩
abbrev rw6 : Oper := ⟨some 85, .load 35 (.tmp 84), 35, "outright.go:117", #[⟨5, .data⟩, ⟨4, .guard⟩], some (4, false)⟩
abbrev rw7 : Oper := ⟨some 86, .move (.tmp 5), 28, "outright.go:117", #[⟨4, .guard⟩], some (4, false)⟩
abbrev rw8 : Oper := ⟨some 87, .move (.tmp 10), 3, "outright.go:117", #[⟨4, .guard⟩], some (4, false)⟩
abbrev rw9 : Oper := ⟨some 88, .indexAddr 28 (.tmp 86) (.tmp 87), 0, "outright.go:117", #[⟨7, .data⟩, ⟨8, .data⟩, ⟨4, .guard⟩], some (4, false)⟩
abbrev rw10 : Oper := ⟨some 89, .fieldAddr 40 (.tmp 88) 0, 0, "outright.go:117", #[⟨9, .data⟩, ⟨4, .guard⟩], some (4, false)⟩
abbrev rw11 : Oper := ⟨some 90, .load 35 (.tmp 89), 35, "outright.go:117", #[⟨10, .data⟩, ⟨4, .guard⟩], some (4, false)⟩
abbrev rw12 : Oper := ⟨some 91, .binOp Go.BinOp.neq 35 (.tmp 85) (.tmp 90) 35, 4, "outright.go:117", #[⟨6, .data⟩, ⟨11, .data⟩, ⟨4, .guard⟩], some (4, false)⟩
abbrev rw13 : Oper := ⟨some 92, .pick (.tmp 83) (.const (.bool true)) (.tmp 91), 4, "outright.go:117", #[⟨4, .data⟩, ⟨12, .data⟩], none⟩
abbrev rw14 : Oper := ⟨some 93, .move (.tmp 92), 4, "outright.go:117", #[⟨13, .data⟩, ⟨4, .chain⟩], none⟩
abbrev rw15 : Oper := ⟨some 94, .fieldAddr 40 (.tmp 15) 1, 0, "outright.go:117", #[⟨14, .guard⟩], some (14, false)⟩
abbrev rw16 : Oper := ⟨some 95, .load 33 (.tmp 94), 33, "outright.go:117", #[⟨15, .data⟩, ⟨14, .guard⟩], some (14, false)⟩
abbrev rw17 : Oper := ⟨some 96, .move (.tmp 5), 28, "outright.go:117", #[⟨14, .guard⟩], some (14, false)⟩
abbrev rw18 : Oper := ⟨some 97, .move (.tmp 10), 3, "outright.go:117", #[⟨14, .guard⟩], some (14, false)⟩
abbrev rw19 : Oper := ⟨some 98, .indexAddr 28 (.tmp 96) (.tmp 97), 0, "outright.go:117", #[⟨17, .data⟩, ⟨18, .data⟩, ⟨14, .guard⟩], some (14, false)⟩
abbrev rw20 : Oper := ⟨some 99, .fieldAddr 40 (.tmp 98) 1, 0, "outright.go:117", #[⟨19, .data⟩, ⟨14, .guard⟩], some (14, false)⟩
abbrev rw21 : Oper := ⟨some 100, .load 33 (.tmp 99), 33, "outright.go:117", #[⟨20, .data⟩, ⟨14, .guard⟩], some (14, false)⟩
abbrev rw22 : Oper := ⟨some 101, .call { callee := .value (.func 12), args := #[.tmp 95, .tmp 100], argTypes := #[33, 33] }, 4, "outright.go:117", #[⟨16, .data⟩, ⟨21, .data⟩, ⟨14, .chain⟩, ⟨14, .guard⟩], some (14, false)⟩
abbrev rw23 : Oper := ⟨some 102, .unOp Go.UnOp.not 4 (.tmp 101), 4, "outright.go:117", #[⟨22, .data⟩, ⟨14, .guard⟩], some (14, false)⟩
abbrev rw24 : Oper := ⟨some 103, .pick (.tmp 93) (.const (.bool true)) (.tmp 102), 4, "outright.go:117", #[⟨14, .data⟩, ⟨23, .data⟩], none⟩
section
variable {P : Program} {w : World} {ops : Array Oper} {rest : List Oper} {o : Oper} {a : Act} {Q : Exit → Act → World → Prop}
theorem wpList_load_at9 (x : Operand) (ty : TypeId) (ho : o.op = .load ty x) (hgd : Region.wanted o (yielded ops a.tmps) = true) (b off : Nat) (hx : a.eval x = .pointer (some ⟨b, off, none⟩))
 (cs : List Value) (d : TypeDesc) (hu : P.underlying ty = some d) (hd : d.isRow = true) (hi : (P.info? ty).map (·.size) = some cs.length) (hc : w.rangeAt b off cs)
 (h : wpList P ops Q rest (a.put o.dst (.agg cs.toArray)) w) : wpList P ops Q (o :: rest) a w := by
 refine wpList_step fun K hK => ?_
 rw [if_pos hgd]
 exact wp_load_mid ty x ho b off hx cs d hc hu hd hi (hK _ _ h)
end
theorem rd_may : Sup.May ⟨4, 30, 0, 0, 0, 0⟩ := by show MayS 4 30 0 0; exact ⟨by omega, by omega, by omega, by omega, by omega⟩
theorem rd_lg {w : World} {X : Nat → Prop} {l p d : Nat} {A : Option Addr} {c : Nat} (h : LogM w X l p d 1026 ⟨4, 30, 0, 0, 0, 0⟩ 0 (bornK 4 30) 30 A 4 c (List.replicate 4 seg0) false) (hc : 4 ≤ c) (hn : A = none → c = 0) : LgM w X l p d 1026 ⟨4, 30, 0, 0, 0, 0⟩ 0 (bornK 4 30) (List.replicate 4 seg0) 0 where
 log := ⟨A, c, h, hc, hn⟩
 good := born_good _ _
 ok := ok_new (n := 4) (sec := 30) ⟨by omega, by omega, by omega, by omega⟩
 top := by decide +kernel
 may := rd_may
 sin := by show InS 4 30 0 0 0 0; unfold InS; omega
 dims := rfl
 n2 := by omega
 room := by show (2 : Int) + 4 * 30 ≤ ((1026 : Nat) : Int); omega
 pend := by rw [born_pend]; exact nR _
theorem rd_put (w0 : World) : PutH w0 (bornK 4 30) ⟨4, 30, 0, 0, 0, 0⟩ (List.replicate 4 seg0) (fun _ => []) 0 [] := by
 have hV : ∀ i j : Nat, i < 4 → (j : Int) < 30 → strV (bornK 4 30) ⟨4, 30, 0, 0, 0, 0⟩ i j = noughts 64 := fun i j hi hj => by
  unfold strV
  rw [if_pos (show (j : Int) < 30 from hj)]
  show (bornK 4 30).held.getD (2 + (i : Int) * 30 + j).toNat [] = _
  exact born_held _ _ _ (by omega) (by omega)
 have hst : ∀ i, i < 4 → stG (List.replicate 4 seg0) i = 0 := fun i hi => by
  have h : i = 0 ∨ i = 1 ∨ i = 2 ∨ i = 3 := by omega
  rcases h with rfl | rfl | rfl | rfl <;> rfl
 exact ⟨HistR.start hst hV, OrdS.start, fun q _ => rfl, fun q j _ h2 h3 => hV q j h2 h3, rfl, fun e he => by cases he⟩
theorem rd_start {w w1 w2 : World} {l p d : Nat} {A : Option Addr} {c : Nat} (h : LogM w2 (fun x => x < w1.heap.size) l p d 1026 ⟨4, 30, 0, 0, 0, 0⟩ 0 (bornK 4 30) 30 A 4 c (List.replicate 4 seg0) false) (hc : 4 ≤ c) (hn : A = none → c = 0) (h1 : Below w.heap.size w w1) (h2 : Below w1.heap.size w1 w2) :
 LrS w w1.heap.size l p d w2.heap.size w2 (fun x => x < w1.heap.size) (.slice none 0 0) [] [] ⟨4, 30, 0, 0, 0, 0⟩ 0 (bornK 4 30) (List.replicate 4 seg0) (fun _ => []) 0 0 where
 lg := rd_lg h hc hn
 lt := fun b hb => nL hb h2.size
 x0 := fun b h => h
 bb := ⟨h1.size, h2.size, nR _⟩
 own := ⟨rfl, .inl ⟨rfl, rfl⟩⟩
 ownX := (fun g hg => by cases hg)
 put := rd_put w
 sup := ⟨rfl, rfl, rfl⟩
 bel := h1.trans (h2.mono h1.size)
def LrR (w0 : World) (b1 l p d base : Nat) (W : World) (v : Value) (i : Nat) : Prop :=
 ∃ (L : List PuE) (X : Nat → Prop) (s : Sup) (t : Int) (k : Dk) (xs : List Seg) (rs : Nat → List (Nat × List Int)) (m : Nat), s.g ≤ i ∧ L.length ≤ i ∧ LrS w0 b1 l p d base W X v L L s t k xs rs m (17 * i)
theorem reads_law9 {A : Option Addr} {n c : Nat} {z : List RcI} (w : World) (hz : IsRecs w A n c z) :
 Calls Tryz.prog 3 #[.slice A n c] w fun e w' => e = .returned (.bool true) ∧ Below w.heap.size w w' := by
 have HZ := hI hz
 clear hz
 go_enter Tryz.func3, Tryz.ntmps3
 go_wp2_with fail
 refine (wakes9 w).mono ?_
 rintro e w1 ⟨rfl, hb1⟩
 have HB1 := hI hb1
 clear hb1
 go_wp2_with fail
 refine (born_any 4 30 w1 (by omega) (by omega)).mono ?_
 rintro e w2 ⟨l, p, d, A4, c4, rfl, hlg, hc4, hn4, hb2⟩
 have HR2 := hI (show LrR w w1.heap.size l p d w2.heap.size w2 (.slice none 0 0) 0 from ⟨[], _, _, _, _, _, _, _, Int.le_refl _, nR _, rd_start hlg hc4 hn4 HB1.out hb2⟩)
 have HB12 := hI (And.intro HB1.out.size hb2.size)
 clear hlg hc4 hn4 hb2 HB1
 obtain ⟨b1, hb1e⟩ : ∃ b1, w1.heap.size = b1 := ⟨_, rfl⟩
 obtain ⟨base, hbe⟩ : ∃ base, w2.heap.size = base := ⟨_, rfl⟩
 rw [hb1e, hbe] at HR2 HB12
 clear hb1e hbe
 go_upto_block 0 with fail
 go_cut [5] (fun pv wy => LrR w b1 l p d base wy pv 60)
 case first J KK hJ hKK =>
  go_wp2_with fail
  go_loopw [5, 32] (fun pv iv wr => ∃ i : Nat, iv = .int .i64 i ∧ i ≤ n ∧ i ≤ 60 ∧ LrR w b1 l p d base wr pv i) (fun _ iv _ => n - (intOf iv).toNat)
  case atStart => exact ⟨0, rfl, Nat.zero_le _, by omega, HR2.out⟩
  case round =>
  clear HR2
  obtain ⟨i, rfl, hin, hi60, L, X, s, t, k, xs, rs, m, hg, hLl, hrd⟩ := hrel
  have HRD := hI hrd
  have HG := hI hg
  have HLL := hI hLl
  have HI := hI (And.intro hin hi60)
  clear hrd hg hLl
  by_cases hlt : i < n
  ·obtain ⟨b, off, rfl, hbS, hcells⟩ := HZ.out.row.2 (by omega)
   have hr := hcells i hlt
   obtain ⟨r, hr0⟩ : ∃ r, z.getD i rcI0 = r := ⟨_, rfl⟩
   rw [hr0] at hr
   have HRI := hI (show r.Is w from by rw [← hr0]; exact HZ.out.rc i hlt)
   have HRNG := hI (show wr.rangeAt b (off + i * 6) (rcV r) from fun j v hv => (HRD.out.bel.cell (p := ⟨b, _, none⟩) hbS).trans (hr j v hv))
   obtain ⟨w3, hw3⟩ : ∃ w3, w3 = wr.alloc (.cells (rcV r).toArray 33) := ⟨_, rfl⟩
   have hb3 : Below wr.heap.size wr w3 := by rw [hw3]; exact (Below.refl _ _).alloc (nR _) _
   have HP3 := hI (show Blk w3 wr.heap.size 33 (rcV r).toArray by rw [hw3]; exact Blk.new wr _ _)
   have HRD3 := hI (HRD.out.grow hb3)
   have HX3 := hI (show X wr.heap.size ∨ (wr.heap.size ≤ wr.heap.size ∧ wr.heap.size < w3.heap.size) from .inr ⟨nR _, HP3.out.lt⟩)
   have HBR := hI (And.intro HRD.out.bb HRD.out.own.lt)
   have HW3 := hI hw3.symm
   clear hr hr0 hcells hbS hw3 hb3 HRD
   by_cases h60 : i = 60
   ·subst h60
    go_wp2_with (refine wpList_load_at9 (.tmp 35) 33 rfl rfl b (off + 60 * 6) rfl (rcV r) _ Tryz.underlying33 rfl size_rec HRNG.out ?_)
    rw [HW3.out]
    go_meet
    exact ⟨L, _, s, t, k, xs, rs, m, HG.out, HLL.out, HRD3.out⟩
   ·have h60b : ((i : Int) == 60) = false := by simp; omega
    have hi2 : i < 60 := by omega
    have HAP := hI (HRD3.out.append (r := r) (by omega) (by have := HG.out; omega) HRI.out)
    go_upto_region 11 with (refine wpList_load_at9 (.tmp 35) 33 rfl rfl b (off + i * 6) rfl (rcV r) _ Tryz.underlying33 rfl size_rec HRNG.out ?_)
    rw [HW3.out]
    clear HW3 HRNG
    go_wp2_with (refine wpList_load_rowB (.tmp 7) 33 rfl rfl wr.heap.size rfl 33 (rcV r) _ Tryz.underlying33 rfl size_rec HP3.out ?_)
    refine HAP.out.mono ?_
    rintro e w4 ⟨hk4, ⟨a1, a2, a3⟩, er, rfl, hh⟩
    have HP4 := hI (HP3.out.kept hk4 HX3.out)
    have hwr1 : wrap64 ((i : Int) + 1) = (i : Int) + 1 := IntWalk.wrap64_in _ (by omega)
    have HME := hI (show n - (i + 1) < n - i by omega)
    dsimp only at hh ⊢
    clear hk4 HAP HRD3 HP3 HX3
    rcases hh with ⟨rfl, u, X4, s4, t4, k4, xs4, rs4, m4, rfl, ha, hg4, h4⟩ | ⟨her, X4, s4, t4, k4, xs4, rs4, m4, hg4, h4⟩
    ·injection ha with ha1 ha2
     injection ha2 with ha2 ha3
     subst ha1 ha2 ha3
     have HR4 := hI h4
     have HG4 := hI hg4
     clear hg4
     obtain ⟨w5, hw5⟩ : ∃ w5, w5 = w4.alloc (.cells #[.int .i64 (u.q : Int), .int .u64 u.g, .int .i64 (u.c : Int)] 35) := ⟨_, rfl⟩
     have hb5 : Below w4.heap.size w4 w5 := by rw [hw5]; exact (Below.refl _ _).alloc (nR _) _
     have HA5 := hI (show Blk w5 w4.heap.size 35 #[.int .i64 (u.q : Int), .int .u64 u.g, .int .i64 (u.c : Int)] by rw [hw5]; exact Blk.new w4 _ _)
     have HP5 := hI (HP4.out.below hb5 HP4.out.lt)
     have HW5 := hI hw5.symm
     obtain ⟨w6, hw6⟩ : ∃ w6, w6 = w5.alloc (.cells (PlM.entV u.pl).toArray 40) := ⟨_, rfl⟩
     have hb6 : Below w5.heap.size w5 w6 := by rw [hw6]; exact (Below.refl _ _).alloc (nR _) _
     have HL6 := hI (show PlM.RowE w6 (fun _ => True) (some ⟨w5.heap.size, 0, none⟩) 1 [u.pl] from PlM.row_of_flat (X := []) (g := w5.heap.size) (t := 40) (by rw [hw6, List.append_nil, PlM.flatG_one]; exact Blk.new w5 _ _) trivial rfl)
     have HW6 := hI (show w5.alloc (.cells #[.int .i64 (u.q : Int), .int .u64 u.g, .int .i64 (u.c : Int), .int .i64 u.r.k, .int .u32 u.r.f, .int .u32 u.r.x, .int .u64 u.r.s, .slice u.r.A u.r.n u.r.c, .slice u.r.B u.r.m u.r.d] 40) = w6 from hw6.symm)
     have HR6 := hI (h4.grow (hb5.trans (hb6.mono hb5.size)))
     have HLN := hI (show L.length + 1 ≤ 1000000 by have := HLL.out; omega)
     clear h4 hw5 hb5 hw6 hb6 HR4 HP4
     go_upto_region 13 with fail
     rw [HW5.out]
     go_wp2_with (first
      | (refine wpList_load_rowB (.tmp 8) 35 rfl rfl w4.heap.size rfl 35 [.int .i64 (u.q : Int), .int .u64 u.g, .int .i64 (u.c : Int)] _ Tryz.underlying35 rfl size_adr9 HA5.out ?_)
      | (refine wpList_load_rowB (.tmp 7) 33 rfl rfl wr.heap.size rfl 33 (rcV u.r) _ Tryz.underlying33 rfl size_rec HP5.out ?_)
      | (rw [HW6.out]; refine PlM.wpList_append_rowZ (.tmp 47) (.tmp 51) rfl rfl base _ L.length _ rfl HR6.out.own _ _ 1 1 [u.pl] rfl HL6.out (fun h => by cases h) HLN.out HR6.out.bb.2.2 ?_; intro v7 w7 hown hgrow hv7; have HR7 := hI (HR6.out.more hown hgrow hv7); clear hown hgrow hv7))
     go_roundw
     case rel => exact ⟨i + 1, rfl, hlt, by omega, L ++ [u], _, s4, t4, k4, xs4, rs4, m4, by have := HG4.out; have := HG.out; push_cast; omega, by have := HLL.out; simp only [List.length_append, List.length_cons, List.length_nil]; omega, by rw [show 17 * (i + 1) = 17 * i + 17 by omega]; exact HR7.out⟩
     case measure => exact HME.out
    ·obtain ⟨w5, hw5⟩ : ∃ w5, w5 = w4.alloc (.cells #[.int .i64 a1, .int .u64 a2, .int .i64 a3] 35) := ⟨_, rfl⟩
     have hb5 : Below w4.heap.size w4 w5 := by rw [hw5]; exact (Below.refl _ _).alloc (nR _) _
     have HR5 := hI (h4.grow hb5)
     have HG4 := hI hg4
     have HW5 := hI hw5.symm
     clear h4 hw5 hb5 hg4 HP4
     rcases her with rfl | rfl
     all_goals
      go_upto_region 14 with fail
      rw [HW5.out]
      go_wp2_with fail
      go_roundw
      case rel => exact ⟨i + 1, rfl, hlt, by omega, L, _, s4, t4, k4, xs4, rs4, m4, by have := HG4.out; have := HG.out; push_cast; omega, by have := HLL.out; omega, by rw [show 17 * (i + 1) = 17 * i + 17 by omega]; exact HR5.out⟩
      case measure => exact HME.out
  ·have hni : n = i := by omega
   subst hni
   go_wp2_with fail
   go_meet
   obtain ⟨L, X, s, t, k, xs, rs, m, hg, hl, h⟩ := show LrR w b1 l p d base wr _ n from ⟨L, X, s, t, k, xs, rs, m, HG.out, HLL.out, HRD.out⟩
   exact ⟨L, X, s, t, k, xs, rs, m, by omega, by omega, { h with lg := h.lg.pe_le (by omega) }⟩
 case rest =>
 obtain ⟨L, X, s, t, k, xs, rs, m, hg, hLl, hrd⟩ := hcut
 have HRD := hI hrd
 have HLL := hI hLl
 have hown := hrd.own
 obtain ⟨A5, c5, rfl⟩ := ownsRow_slice hown
 clear HR2 hrd hLl hown hg
 go_wp2_with fail
 go_loopw [10, 60] (fun nv kv wr => ∃ (q : Nat) (X : Nat → Prop) (k : Dk), kv = .int .i64 q ∧ nv = .int .i64 (preL rs xs q).length ∧ q ≤ 4 ∧ LrS w b1 l p d base wr X (.slice A5 L.length c5) L L s t k xs rs m (17 * 60)) (fun _ kv _ => 4 - (intOf kv).toNat)
 case atStart => exact ⟨0, X, k, rfl, rfl, by omega, HRD.out⟩
 case round =>
 obtain ⟨q, X, k, rfl, rfl, hq4, hrd⟩ := hrel
 clear HRD
 have HRD := hI hrd
 by_cases hq : q < 4
 ·have hq2 : (q : Int) < 4 := by omega
  have HSC := hI (scan_lg hrd.lg hrd.lt q (by rw [hrd.sup.1]; exact hq2))
  have HPS := hI (hrd.put.scan hrd.lg hq)
  obtain ⟨AL, cL, hlog, _, _⟩ := hrd.lg.log
  have HSU := hI (log_super hlog)
  clear hrd hlog
  go_wp2_with fail
  refine HSU.out.mono ?_
  rintro e w7 ⟨rfl, rfl⟩
  clear HSU
  go_wp2_with fail
  refine HSC.out.mono ?_
  rintro e w8 ⟨k8, A6, c6, ts, gen, used, a0, rfl, ha0, hl8, hh8, hk8, hgen, hg0, hg1, htold⟩
  have hT : ts.map Tl.two = rs q ∧ (ts ≠ [] → gen = genG xs q ∧ stG xs q ≠ 0) := by
   obtain ⟨p1, p2⟩ := HPS.out
   rw [← hgen] at p1 p2
   by_cases e0 : gen = 0
   ·rw [(hg0 e0).2, p1 e0]
    exact ⟨rfl, fun h => absurd rfl h⟩
   ·obtain ⟨p3, p4, p5⟩ := p2 e0
    exact ⟨(hg1 e0).2.trans p5, fun _ => ⟨p3, p4⟩⟩
  have HT := hI hT
  have h8 := HRD.out.scan hk8 hl8 hh8
  obtain ⟨w9, hw9⟩ : ∃ w9, w9 = (w8.alloc (.cells zeroS9 42)).setRow w8.heap.size (scanC gen used (.slice A6 ts.length c6)) := ⟨_, rfl⟩
  have hb9 : Below w8.heap.size w8 w9 := by rw [hw9]; exact below_setRow ((Below.refl _ _).alloc (nR _) _) (nR _) _
  have HS9 := hI (show Blk w9 w8.heap.size 42 (scanC gen used (.slice A6 ts.length c6)) by rw [hw9]; exact setRow_heap _ _ _ _ _ _ (Blk.new w8 _ _))
  have HR9 := hI (h8.grow hb9)
  have HT9 := hI (ToldF.kept htold.fix (Kept.of_below (S := fun b => b < w8.heap.size) hb9 (fun b h => h)) (fun q _ h => h))
  have HTL := hI (show ts.length ≤ 1000000 from by
   have h1 := HRD.out.put.length
   have h2 := HLL.out
   have h3 : ts.length = (rs q).length := by rw [← hT.1, List.length_map]
   have h4 : (preL rs xs (q + 1)).length ≤ (preL rs xs 4).length := pre_len_le (by omega)
   rw [preL_len] at h4
   omega)
  have HXB := hI (show ∀ b, a0 ≤ b → b < w8.heap.size → ((X b ∨ (a0 ≤ b ∧ b < w8.heap.size)) ∨ (w8.heap.size ≤ b ∧ b < w9.heap.size)) from fun b h1 h2 => .inl (.inr ⟨h1, h2⟩))
  have HW9 := hI hw9.symm
  clear h8 hw9 hb9 htold hg0 hg1 hgen hk8 hh8 hl8 ha0 hT HSC HPS
  go_upto_region 22 with (refine wpList_store_rowB (.tmp 12) (.tmp 68) 42 rfl rfl w8.heap.size (scanC gen used (.slice A6 ts.length c6)) rfl rfl 42 _ (Blk.new w8 _ _) size_scan rfl (by simp [Value.oneCell']) ?_; rw [HW9.out])
  have s2 : w9.cell? ⟨w8.heap.size, 2, none⟩ = some (.slice A6 ts.length c6) := HS9.out.cell 2
  obtain ⟨bz, hbz⟩ : ∃ bz, w8.heap.size = bz := ⟨_, rfl⟩
  rw [hbz] at s2 HS9 HT9 HXB HR9
  rw [hbz]
  clear HW9
  go_wp2_with fail
  clear s2 HS9 hbz
  clear HRD
  go_loopw [10, 75] (fun nv jv wr => ∃ (j : Nat) (X : Nat → Prop) (k : Dk), jv = .int .i64 j ∧ nv = .int .i64 ((preL rs xs q).length + j : Nat) ∧ j ≤ ts.length ∧ LrS w b1 l p d base wr X (.slice A5 L.length c5) L L s t k xs rs m (17 * 60) ∧ (∀ b, a0 ≤ b → b < bz → X b) ∧ ToldF wr a0 bz q gen A6 ts) (fun _ jv _ => ts.length - (intOf jv).toNat)
  case atStart => exact ⟨0, _, k8, rfl, rfl, Nat.zero_le _, HR9.out, HXB.out, HT9.out⟩
  case round =>
  clear HR9 HXB HT9
  obtain ⟨j, X9, k9, rfl, rfl, hjl, hr9, hx9, ht9⟩ := hrel
  have HR9 := hI hr9
  have HX9 := hI hx9
  have HT9 := hI ht9
  clear hr9 hx9 ht9
  by_cases hj : j < ts.length
  ·have hl1 : ts.length = (rs q).length := by rw [← HT.out.1, List.length_map]
   have hjr : j < (rs q).length := by omega
   have htw : Tl.two ts[j] = (rs q)[j] := by
    have h9 := congrArg (fun l => l[j]?) HT.out.1
    simp only [List.getElem?_map, List.getElem?_eq_getElem hj, List.getElem?_eq_getElem hjr, Option.map_some, Option.some.injEq] at h9
    exact h9
   obtain ⟨e, he, eq1, eq2, eq3, eq4⟩ := HR9.out.put.get hq hjr
   rw [← htw] at eq3 eq4
   have hem : e ∈ L := List.mem_of_getElem? he
   obtain ⟨hei, hem2⟩ := HR9.out.put.rec_ e hem
   have hsd := PuE.said hei hem2
   obtain ⟨hgq, hst⟩ := HT.out.2 (fun h => by rw [h] at hj; exact absurd hj (by simp))
   have hmr : (rs q)[j] ∈ rs q := List.getElem_mem _
   have hat := HR9.out.put.hist.at (by rw [HR9.out.put.ord.len]; exact hq) hst hmr
   rw [← htw, ← hgq] at hat
   obtain ⟨bq, oq, rfl, hbq, hcq⟩ := HT9.out.row.2 (by omega)
   have hr1 := hcq j hj
   rw [show (ts.map (plV q gen)).getD j PlM.ent0 = plV q gen ts[j] by simp [List.getD, hj]] at hr1
   obtain ⟨g1, g2, g3, g4⟩ := HT9.out.ent ts[j] (List.getElem_mem _)
   have hnl : (preL rs xs q).length + j < L.length := (List.getElem?_eq_some_iff.1 he).1
   obtain ⟨A', cap, hsl, _, _, hrow⟩ := PlM.rowZ_own HR9.out.own rfl (by simp)
   injection hsl with hs1 hs2 hs3
   subst hs1 hs3
   obtain ⟨gp, op, rfl, hgp, hcp⟩ := hrow.2 (by omega)
   have hr2 := hcp _ hnl
   rw [show (L.map PuE.pl).getD ((preL rs xs q).length + j) PlM.ent0 = e.pl by simp [List.getD, he]] at hr2
   obtain ⟨nn, hnn⟩ : ∃ nn, (preL rs xs q).length + j = nn := ⟨_, rfl⟩
   rw [hnn] at hr2 hnl
   rw [hnn]
   have HNN := hI hnn
   generalize ts[j] = tt at *
   obtain ⟨ta, bs, tb1, tb2⟩ := tt
   obtain ⟨eq_, eg, ec, er⟩ := e
   dsimp only at eq1 eq2 eq3 eq4 hei hem2 hsd hat g1 g2 g3 g4
   rw [← hgq] at eq2
   subst eq1 eq2 eq3
   rw [show PuE.bs ⟨eq_, eg, ec, er⟩ = bs from eq4] at hsd
   obtain ⟨sd1, sd2, sd3, sd4, sd5, sd6, sd7, sd8⟩ := hsd
   have HSAME := hI (show recSame (kindOf bs) (flagsOf bs) (expOf bs) (seqOf bs) (keyOf bs) (valOf bs) er.k er.f er.x er.s er.z er.y = true by rw [sd1, sd2, sd3, sd4, sd7, sd8]; exact recSame_self _ _ _ _ _ _)
   have HBYT := hI (show Bytes (keyOf bs) ∧ Bytes (valOf bs) from ⟨sd7 ▸ hei.bkey, sd8 ▸ hei.bvalue⟩)
   have HEI := hI hei
   have HTB := hI (And.intro g1 g2)
   have HTT := hI (And.intro g3 g4)
   have HAT := hI (show AtR k9 s xs ((eq_ : Int), eg, (ec : Int)) bs from hat)
   obtain ⟨w10, hw10⟩ : ∃ w10, w10 = wr.alloc (.cells #[.int .i64 (eq_ : Int), .int .u64 eg, .int .i64 (ec : Int), .int .i64 (kindOf bs), .int .u32 (flagsOf bs), .int .u32 (expOf bs), .int .u64 (seqOf bs), .slice (some ⟨tb1, 0, none⟩) (klenOf bs) (klenOf bs), .slice (some ⟨tb2, 0, none⟩) (vlenOf bs) (vlenOf bs)] 40) := ⟨_, rfl⟩
   have hb10 : Below wr.heap.size wr w10 := by rw [hw10]; exact (Below.refl _ _).alloc (nR _) _
   have HP10 := hI (show Blk w10 wr.heap.size 40 #[.int .i64 (eq_ : Int), .int .u64 eg, .int .i64 (ec : Int), .int .i64 (kindOf bs), .int .u32 (flagsOf bs), .int .u32 (expOf bs), .int .u64 (seqOf bs), .slice (some ⟨tb1, 0, none⟩) (klenOf bs) (klenOf bs), .slice (some ⟨tb2, 0, none⟩) (vlenOf bs) (vlenOf bs)] by rw [hw10]; exact Blk.new wr _ _)
   have HW10 := hI hw10.symm
   have HR10 := hI (HR9.out.grow hb10)
   have HT10 := hI (HT9.out.kept (Kept.of_below (S := fun b => a0 ≤ b ∧ b < bz) hb10 (fun b h => HR9.out.lt b (HX9.out b h.1 h.2))) (fun q h1 h2 => ⟨h1, h2⟩))
   have HQ1 := hI (show wr.rangeAt bq (oq + j * 9) [.int .i64 (eq_ : Int), .int .u64 eg, .int .i64 (ec : Int), .int .i64 (kindOf bs), .int .u32 (flagsOf bs), .int .u32 (expOf bs), .int .u64 (seqOf bs), .slice (some ⟨tb1, 0, none⟩) (klenOf bs) (klenOf bs), .slice (some ⟨tb2, 0, none⟩) (vlenOf bs) (vlenOf bs)] from hr1)
   have HB10 := hI hb10
   have HRG := hI (show ∀ W, Below w10.heap.size w10 W → W.rangeAt wr.heap.size 0 [.int .i64 (eq_ : Int), .int .u64 eg, .int .i64 (ec : Int)] ∧ W.rangeAt gp (op + nn * 9) [.int .i64 (eq_ : Int), .int .u64 eg, .int .i64 (ec : Int)] ∧
    W.rangeAt wr.heap.size 3 [.int .i64 (kindOf bs), .int .u32 (flagsOf bs), .int .u32 (expOf bs), .int .u64 (seqOf bs), .slice (some ⟨tb1, 0, none⟩) (klenOf bs) (klenOf bs), .slice (some ⟨tb2, 0, none⟩) (vlenOf bs) (vlenOf bs)] ∧
    W.rangeAt gp (op + nn * 9 + 3) [.int .i64 er.k, .int .u32 er.f, .int .u32 er.x, .int .u64 er.s, .slice er.A er.n er.c, .slice er.B er.m er.d] from fun W hW => by
    have hp := HP10.out.below hW HP10.out.lt
    have hb := HB10.out.trans (hW.mono HB10.out.size)
    refine ⟨fun i v hv => ?_, fun i v hv => ?_, fun i v hv => ?_, fun i v hv => ?_⟩
    ·exact (hp.cell (0 + i)).trans (by rcases i with _ | _ | _ | i <;> simp at hv ⊢ <;> exact hv)
    ·exact (hb.cell (p := ⟨gp, _, none⟩) hgp.2).trans (hr2 i v (by rcases i with _ | _ | _ | i <;> simp [PuE.pl, PlM.entV] at hv ⊢ <;> exact hv))
    ·exact (hp.cell (3 + i)).trans (by rcases i with _ | _ | _ | _ | _ | _ | i <;> simp at hv ⊢ <;> exact hv)
    ·rw [show op + nn * 9 + 3 + i = op + nn * 9 + (3 + i) by omega]
     exact (hb.cell (p := ⟨gp, _, none⟩) hgp.2).trans (hr2 (3 + i) v (by rcases i with _ | _ | _ | _ | _ | _ | i <;> simp [PuE.pl, PlM.entV] at hv ⊢ <;> exact hv)))
   have HKR := hI (show ∀ W, Below w10.heap.size w10 W → RowI .u8 W (fun b => b < w10.heap.size) (some ⟨tb1, 0, none⟩) (klenOf bs) (keyOf bs) ∧ RowI .u8 W (fun b => b < w10.heap.size) (some ⟨tb2, 0, none⟩) (vlenOf bs) (valOf bs) ∧ RowI .u8 W (fun b => b < w10.heap.size) er.A er.n er.z ∧ RowI .u8 W (fun b => b < w10.heap.size) er.B er.m er.y from fun W hW => by
    obtain ⟨e1, e2⟩ := HTT.out
    have l1 : tb1 < wr.heap.size := Blk.lt e1
    have l2 : tb2 < wr.heap.size := Blk.lt e2
    have f1 : ArrU W tb1 (keyOf bs) := Blk.below e1 (HB10.out.trans (hW.mono HB10.out.size)) l1
    have f2 : ArrU W tb2 (valOf bs) := Blk.below e2 (HB10.out.trans (hW.mono HB10.out.size)) l2
    have hsz := HB10.out.size
    have hbl := HR10.out.bel.trans (hW.mono HR10.out.bel.size)
    exact ⟨Arr.rowN (S := fun b => b < w10.heap.size) f1 0 (n := klenOf bs) (by rw [sd7, sd5]; exact hei.key.1) (by omega), Arr.rowN (S := fun b => b < w10.heap.size) f2 0 (n := vlenOf bs) (by rw [sd8, sd6]; exact hei.value.1) (by omega),
     (hei.key.below hbl (fun b h => h)).more (fun b h => nL h HR10.out.bel.size), (hei.value.below hbl (fun b h => h)).more (fun b h => nL h HR10.out.bel.size)⟩)
   have HNL := hI hnl
   have HKL := hI (show (keyOf bs).length = klenOf bs ∧ (valOf bs).length = vlenOf bs from ⟨by rw [sd7, sd5]; exact hei.key.1, by rw [sd8, sd6]; exact hei.value.1⟩)
   have hn1 : decide ((L.length : Int) ≤ (nn : Int)) = false := decide_eq_false (by omega)
   have hji : (j : Int) < ts.length := by omega
   have HXP := hI (show X9 wr.heap.size ∨ (wr.heap.size ≤ wr.heap.size ∧ wr.heap.size < w10.heap.size) from .inr ⟨nR _, HP10.out.lt⟩)
   clear hw10 hb10 hr1 hr2 g1 g2 g3 g4 hei hem2 hem sd1 sd2 sd3 sd4 sd5 sd6 sd7 sd8 hat htw eq4 hcq hgq hcp hgp hrow hmr hst he hnn hjr hl1 hbq HR9 HT9
   go_upto_region 27 with (refine wpList_load_at9 (.tmp 77) 40 rfl rfl bq (oq + j * 9) rfl [.int .i64 (eq_ : Int), .int .u64 eg, .int .i64 (ec : Int), .int .i64 (kindOf bs), .int .u32 (flagsOf bs), .int .u32 (expOf bs), .int .u64 (seqOf bs), .slice (some ⟨tb1, 0, none⟩) (klenOf bs) (klenOf bs), .slice (some ⟨tb2, 0, none⟩) (vlenOf bs) (vlenOf bs)] _ Tryz.underlying40 rfl size_pl9 HQ1.out ?_)
   rw [HW10.out]
   clear HW10 HQ1
   refine Tillst.region (fun W => Below w10.heap.size w10 W) [] (by kernel_rfl) ((Below.refl _ _).drew) (fun hė => ?_)
   generalize w10.drew = vd at *
   refine Tillst.takeG (i := 0) (oi := rw0) (v := ?_) rfl (by kernel_rfl) (by kernel_rfl) (by kernel_rfl) (by kernel_rfl) (by kernel_rfl) (fun _ _ _ h => h) (by rfl) ?_ hė ?_
   rotate_left
   ·intro W hSW; (try dsimp only at hSW); unfold rw0; go_simp; with_reducible rfl
   simp only [rw0, Act.put, sA, sZ, sS]
   refine Tillst.takeG (i := 1) (oi := rw1) (v := ?_) rfl (by kernel_rfl) (by kernel_rfl) (by kernel_rfl) (by kernel_rfl) (by kernel_rfl) (fun _ _ _ h => h) (by rfl) ?_ hė ?_
   rotate_left
   ·intro W hSW; (try dsimp only at hSW); unfold rw1; go_simp; with_reducible rfl
   simp only [rw1, Act.put, sA, sZ, sS]
   refine Tillst.takeG (i := 2) (oi := rw2) (v := ?_) rfl (by kernel_rfl) (by kernel_rfl) (by kernel_rfl) (by kernel_rfl) (by kernel_rfl) (fun _ _ _ h => h) (by rfl) ?_ hė ?_
   rotate_left
   ·intro W hSW; (try dsimp only at hSW); unfold rw2; go_simp; with_reducible rfl
   simp only [rw2, Act.put, sA, sZ, sS]
   refine Tillst.takeG (i := 3) (oi := rw3) (v := .bool false) rfl (by kernel_rfl) (by kernel_rfl) (by kernel_rfl) (by kernel_rfl) (by kernel_rfl) (fun _ _ _ h => h) (by rfl) ?_ hė ?_
   ·intro W hSW; clear hSW; unfold rw3; go_simp
   simp only [rw3, Act.put, sA, sZ, sS]
   refine Tillst.takeG (i := 4) (oi := rw4) (v := ?_) rfl (by kernel_rfl) (by kernel_rfl) (by kernel_rfl) (by kernel_rfl) (by kernel_rfl) (fun _ _ _ h => h) (by rfl) ?_ hė ?_
   rotate_left
   ·intro W hSW; (try dsimp only at hSW); unfold rw4; go_simp; with_reducible rfl
   simp only [rw4, Act.put, sA, sZ, sS]
   refine Tillst.takeG (i := 5) (oi := rw5) (v := .pointer (some ⟨wr.heap.size, 0, none⟩)) rfl (by kernel_rfl) (by kernel_rfl) (by kernel_rfl) (by kernel_rfl) (by kernel_rfl) (fun _ _ _ h => h) (by rfl) ?_ hė ?_
   ·intro W hSW; clear hSW; unfold rw5; go_simp
   simp only [rw5, Act.put, sA, sZ, sS]
   refine Tillst.takeG (i := 6) (oi := rw6) (v := .agg #[.int .i64 (eq_ : Int), .int .u64 eg, .int .i64 (ec : Int)]) rfl (by kernel_rfl) (by kernel_rfl) (by kernel_rfl) (by kernel_rfl) (by kernel_rfl) (fun _ _ _ h => h) (by rfl) ?_ hė ?_
   ·intro W hSW; refine exec_load_row (.tmp 84) 35 ?_ wr.heap.size 0 ?_ [.int .i64 (eq_ : Int), .int .u64 eg, .int .i64 (ec : Int)] _ Tryz.underlying35 rfl size_adr9 (HRG.out W hSW).1 <;> rfl
   simp only [rw6, Act.put, sA, sZ, sS]
   refine Tillst.takeG (i := 7) (oi := rw7) (v := ?_) rfl (by kernel_rfl) (by kernel_rfl) (by kernel_rfl) (by kernel_rfl) (by kernel_rfl) (fun _ _ _ h => h) (by rfl) ?_ hė ?_
   rotate_left
   ·intro W hSW; (try dsimp only at hSW); unfold rw7; go_simp; with_reducible rfl
   simp only [rw7, Act.put, sA, sZ, sS]
   refine Tillst.takeG (i := 8) (oi := rw8) (v := ?_) rfl (by kernel_rfl) (by kernel_rfl) (by kernel_rfl) (by kernel_rfl) (by kernel_rfl) (fun _ _ _ h => h) (by rfl) ?_ hė ?_
   rotate_left
   ·intro W hSW; (try dsimp only at hSW); unfold rw8; go_simp; with_reducible rfl
   simp only [rw8, Act.put, sA, sZ, sS]
   refine Tillst.takeG (i := 9) (oi := rw9) (v := .pointer (some ⟨gp, op + nn * 9, none⟩)) rfl (by kernel_rfl) (by kernel_rfl) (by kernel_rfl) (by kernel_rfl) (by kernel_rfl) (fun _ _ _ h => h) (by rfl) ?_ hė ?_
   ·intro W hSW; clear hSW; have hnl := HNL.out; unfold rw9; go_simp
   simp only [rw9, Act.put, sA, sZ, sS]
   refine Tillst.takeG (i := 10) (oi := rw10) (v := ?_) rfl (by kernel_rfl) (by kernel_rfl) (by kernel_rfl) (by kernel_rfl) (by kernel_rfl) (fun _ _ _ h => h) (by rfl) ?_ hė ?_
   rotate_left
   ·intro W hSW; (try dsimp only at hSW); unfold rw10; go_simp; with_reducible rfl
   simp only [rw10, Act.put, sA, sZ, sS]
   refine Tillst.takeG (i := 11) (oi := rw11) (v := .agg #[.int .i64 (eq_ : Int), .int .u64 eg, .int .i64 (ec : Int)]) rfl (by kernel_rfl) (by kernel_rfl) (by kernel_rfl) (by kernel_rfl) (by kernel_rfl) (fun _ _ _ h => h) (by rfl) ?_ hė ?_
   ·intro W hSW; refine exec_load_row (.tmp 89) 35 ?_ gp (op + nn * 9) ?_ [.int .i64 (eq_ : Int), .int .u64 eg, .int .i64 (ec : Int)] _ Tryz.underlying35 rfl size_adr9 (HRG.out W hSW).2.1 <;> rfl
   simp only [rw11, Act.put, sA, sZ, sS]
   refine Tillst.takeG (i := 12) (oi := rw12) (v := .bool false) rfl (by kernel_rfl) (by kernel_rfl) (by kernel_rfl) (by kernel_rfl) (by kernel_rfl) (fun _ _ _ h => h) (by rfl) ?_ hė ?_
   ·intro W hSW; clear hSW; unfold rw12; go_simp
   simp only [rw12, Act.put, sA, sZ, sS]
   refine Tillst.takeG (i := 13) (oi := rw13) (v := ?_) rfl (by kernel_rfl) (by kernel_rfl) (by kernel_rfl) (by kernel_rfl) (by kernel_rfl) (fun _ _ _ h => h) (by rfl) ?_ hė ?_
   rotate_left
   ·intro W hSW; (try dsimp only at hSW); unfold rw13; go_simp; with_reducible rfl
   simp only [rw13, Act.put, sA, sZ, sS]
   refine Tillst.takeG (i := 14) (oi := rw14) (v := ?_) rfl (by kernel_rfl) (by kernel_rfl) (by kernel_rfl) (by kernel_rfl) (by kernel_rfl) (fun _ _ _ h => h) (by rfl) ?_ hė ?_
   rotate_left
   ·intro W hSW; (try dsimp only at hSW); unfold rw14; go_simp; with_reducible rfl
   simp only [rw14, Act.put, sA, sZ, sS]
   refine Tillst.takeG (i := 15) (oi := rw15) (v := .pointer (some ⟨wr.heap.size, 3, none⟩)) rfl (by kernel_rfl) (by kernel_rfl) (by kernel_rfl) (by kernel_rfl) (by kernel_rfl) (fun _ _ _ h => h) (by rfl) ?_ hė ?_
   ·intro W hSW; clear hSW; unfold rw15; go_simp
   simp only [rw15, Act.put, sA, sZ, sS]
   refine Tillst.takeG (i := 16) (oi := rw16) (v := .agg #[.int .i64 (kindOf bs), .int .u32 (flagsOf bs), .int .u32 (expOf bs), .int .u64 (seqOf bs), .slice (some ⟨tb1, 0, none⟩) (klenOf bs) (klenOf bs), .slice (some ⟨tb2, 0, none⟩) (vlenOf bs) (vlenOf bs)]) rfl (by kernel_rfl) (by kernel_rfl) (by kernel_rfl) (by kernel_rfl) (by kernel_rfl) (fun _ _ _ h => h) (by rfl) ?_ hė ?_
   ·intro W hSW; refine exec_load_row (.tmp 94) 33 ?_ wr.heap.size 3 ?_ [.int .i64 (kindOf bs), .int .u32 (flagsOf bs), .int .u32 (expOf bs), .int .u64 (seqOf bs), .slice (some ⟨tb1, 0, none⟩) (klenOf bs) (klenOf bs), .slice (some ⟨tb2, 0, none⟩) (vlenOf bs) (vlenOf bs)] _ Tryz.underlying33 rfl size_rec (HRG.out W hSW).2.2.1 <;> rfl
   simp only [rw16, Act.put, sA, sZ, sS]
   refine Tillst.takeG (i := 17) (oi := rw17) (v := ?_) rfl (by kernel_rfl) (by kernel_rfl) (by kernel_rfl) (by kernel_rfl) (by kernel_rfl) (fun _ _ _ h => h) (by rfl) ?_ hė ?_
   rotate_left
   ·intro W hSW; (try dsimp only at hSW); unfold rw17; go_simp; with_reducible rfl
   simp only [rw17, Act.put, sA, sZ, sS]
   refine Tillst.takeG (i := 18) (oi := rw18) (v := ?_) rfl (by kernel_rfl) (by kernel_rfl) (by kernel_rfl) (by kernel_rfl) (by kernel_rfl) (fun _ _ _ h => h) (by rfl) ?_ hė ?_
   rotate_left
   ·intro W hSW; (try dsimp only at hSW); unfold rw18; go_simp; with_reducible rfl
   simp only [rw18, Act.put, sA, sZ, sS]
   refine Tillst.takeG (i := 19) (oi := rw19) (v := .pointer (some ⟨gp, op + nn * 9, none⟩)) rfl (by kernel_rfl) (by kernel_rfl) (by kernel_rfl) (by kernel_rfl) (by kernel_rfl) (fun _ _ _ h => h) (by rfl) ?_ hė ?_
   ·intro W hSW; clear hSW; have hnl := HNL.out; unfold rw19; go_simp
   simp only [rw19, Act.put, sA, sZ, sS]
   refine Tillst.takeG (i := 20) (oi := rw20) (v := .pointer (some ⟨gp, op + nn * 9 + 3, none⟩)) rfl (by kernel_rfl) (by kernel_rfl) (by kernel_rfl) (by kernel_rfl) (by kernel_rfl) (fun _ _ _ h => h) (by rfl) ?_ hė ?_
   ·intro W hSW; clear hSW; unfold rw20; go_simp
   simp only [rw20, Act.put, sA, sZ, sS]
   refine Tillst.takeG (i := 21) (oi := rw21) (v := .agg #[.int .i64 er.k, .int .u32 er.f, .int .u32 er.x, .int .u64 er.s, .slice er.A er.n er.c, .slice er.B er.m er.d]) rfl (by kernel_rfl) (by kernel_rfl) (by kernel_rfl) (by kernel_rfl) (by kernel_rfl) (fun _ _ _ h => h) (by rfl) ?_ hė ?_
   ·intro W hSW; refine exec_load_row (.tmp 99) 33 ?_ gp (op + nn * 9 + 3) ?_ [.int .i64 er.k, .int .u32 er.f, .int .u32 er.x, .int .u64 er.s, .slice er.A er.n er.c, .slice er.B er.m er.d] _ Tryz.underlying33 rfl size_rec (HRG.out W hSW).2.2.2 <;> rfl
   simp only [rw21, Act.put, sA, sZ, sS]
   refine Tillst.one (i := 22) (o := rw22) (by kernel_rfl) rfl ?_
   intro K hK
   refine step_call 12 #[.tmp 95, .tmp 100] #[33, 33] rfl rfl Tryz.func12 rfl rfl [.agg #[.int .i64 (kindOf bs), .int .u32 (flagsOf bs), .int .u32 (expOf bs), .int .u64 (seqOf bs), .slice (some ⟨tb1, 0, none⟩) (klenOf bs) (klenOf bs), .slice (some ⟨tb2, 0, none⟩) (vlenOf bs) (vlenOf bs)], .agg #[.int .i64 er.k, .int .u32 er.f, .int .u32 er.x, .int .u64 er.s, .slice er.A er.n er.c, .slice er.B er.m er.d]] rfl ((same_any _ _ _ _ _ _ _ _ _ _ _ _ _ _ _ _ _ _ _ _ (keyOf bs) er.z (valOf bs) er.y (fun b => b < w10.heap.size) vd (HKR.out vd hė).1 (HKR.out vd hė).2.2.1 (HKR.out vd hė).2.1 (HKR.out vd hė).2.2.2 (fun b h => nL h hė.size) HBYT.out.1 HEI.out.bkey HBYT.out.2 HEI.out.bvalue).mono ?_)
   rintro e w11 ⟨rfl, hb11⟩
   rw [HSAME.out]
   refine ⟨_, rfl, ?_⟩
   simp only [rw22, Act.put, sA, sZ, sS]
   have hH11 := hė.trans (hb11.mono hė.size)
   refine hK.out _ _ (fun _ => hH11) (fun hė => ?_)
   replace hė := hė (by decide)
   clear hK K hH11 hb11
   refine Tillst.takeG (i := 23) (oi := rw23) (v := .bool false) rfl (by kernel_rfl) (by kernel_rfl) (by kernel_rfl) (by kernel_rfl) (by kernel_rfl) (fun _ _ _ h => h) (by rfl) ?_ hė ?_
   ·intro W hSW; clear hSW; unfold rw23; go_simp
   simp only [rw23, Act.put, sA, sZ, sS]
   refine Tillst.takeG (i := 24) (oi := rw24) (v := ?_) rfl (by kernel_rfl) (by kernel_rfl) (by kernel_rfl) (by kernel_rfl) (by kernel_rfl) (fun _ _ _ h => h) (by rfl) ?_ hė ?_
   rotate_left
   ·intro W hSW; (try dsimp only at hSW); unfold rw24; go_simp; with_reducible rfl
   simp only [rw24, Act.put, sA, sZ, sS]
   refine Tillst.done (by kernel_rfl) ?_ _
   have HR11 := hI (HR10.out.grow hė)
   have HT11 := hI (HT10.out.kept (Kept.of_below (S := fun b => a0 ≤ b ∧ b < bz) hė (fun b h => HR10.out.lt b (.inl (HX9.out b h.1 h.2)))) (fun q h1 h2 => ⟨h1, h2⟩))
   have HP11 := hI (HP10.out.below hė HP10.out.lt)
   have HQ11 := hI (HRG.out w11 hė).1
   have HTT11 := hI (show ArrU w11 tb1 (keyOf bs) ∧ ArrU w11 tb2 (valOf bs) from ⟨Blk.below HTT.out.1 (HB10.out.trans (hė.mono HB10.out.size)) (Blk.lt HTT.out.1), Blk.below HTT.out.2 (HB10.out.trans (hė.mono HB10.out.size)) (Blk.lt HTT.out.2)⟩)
   have HRDD := hI (read_at (a := ((eq_ : Int), eg, (ec : Int))) HR11.out.lg HR11.out.lt HAT.out)
   clear hė HR10 HT10 HP10 HRG HKR HTT
   go_wp2_with (refine wpList_load_at9 (.tmp 106) 35 rfl rfl wr.heap.size 0 rfl [.int .i64 (eq_ : Int), .int .u64 eg, .int .i64 (ec : Int)] _ Tryz.underlying35 rfl size_adr9 HQ11.out ?_)
   refine HRDD.out.mono ?_
   rintro e w12 ⟨d1, d2, k12, rfl, _, _, _, hA1, hA2, hl12, hh12, hk12⟩
   have HR12 := hI (HR11.out.kept hk12 hl12 hh12)
   have HT12 := hI (HT11.out.kept hk12 (fun q h1 h2 => .inl (.inl (HX9.out q h1 h2))))
   have HP12 := hI (HP11.out.kept hk12 (.inl HXP.out))
   have HTT12 := hI (show ArrU w12 tb1 (keyOf bs) ∧ ArrU w12 tb2 (valOf bs) from ⟨Blk.kept HTT11.out.1 hk12 (.inl (.inl (HX9.out _ HTB.out.1.1 HTB.out.1.2))), Blk.kept HTT11.out.2 hk12 (.inl (.inl (HX9.out _ HTB.out.2.1 HTB.out.2.2)))⟩)
   obtain ⟨w13, hw13⟩ : ∃ w13, w13 = (w12.alloc (.cells zeroC 33)).setRow w12.heap.size (recT9 bs d1 d2) := ⟨_, rfl⟩
   have hb13 : Below w12.heap.size w12 w13 := by rw [hw13]; exact below_setRow ((Below.refl _ _).alloc (nR _) _) (nR _) _
   have HX13 := hI (show Blk w13 w12.heap.size 33 (recT9 bs d1 d2) by rw [hw13]; exact setRow_heap _ _ _ _ _ _ (Blk.new w12 _ _))
   have HW13 := hI hw13.symm
   have HR13 := hI (HR12.out.grow hb13)
   have HT13 := hI (HT12.out.kept (Kept.of_below (S := fun b => a0 ≤ b ∧ b < bz) hb13 (fun b h => HR12.out.lt b (.inl (.inl (HX9.out b h.1 h.2))))) (fun q h1 h2 => ⟨h1, h2⟩))
   have HP13 := hI (HP12.out.below hb13 HP12.out.lt)
   have HQ13 := hI (show w13.rangeAt wr.heap.size 3 [.int .i64 (kindOf bs), .int .u32 (flagsOf bs), .int .u32 (expOf bs), .int .u64 (seqOf bs), .slice (some ⟨tb1, 0, none⟩) (klenOf bs) (klenOf bs), .slice (some ⟨tb2, 0, none⟩) (vlenOf bs) (vlenOf bs)] from fun i v hv => (HP13.out.cell (3 + i)).trans (by rcases i with _ | _ | _ | _ | _ | _ | i <;> simp at hv ⊢ <;> exact hv))
   have HKR := hI (show RowI .u8 w13 (fun b => b < w13.heap.size) (some ⟨d1, 0, none⟩) (klenOf bs) (keyOf bs) ∧ RowI .u8 w13 (fun b => b < w13.heap.size) (some ⟨d2, 0, none⟩) (vlenOf bs) (valOf bs) ∧ RowI .u8 w13 (fun b => b < w13.heap.size) (some ⟨tb1, 0, none⟩) (klenOf bs) (keyOf bs) ∧ RowI .u8 w13 (fun b => b < w13.heap.size) (some ⟨tb2, 0, none⟩) (vlenOf bs) (valOf bs) from by
    have f1 : ArrU w13 d1 (keyOf bs) := Blk.below hA1 hb13 (Blk.lt hA1)
    have f2 : ArrU w13 d2 (valOf bs) := Blk.below hA2 hb13 (Blk.lt hA2)
    have f3 : ArrU w13 tb1 (keyOf bs) := Blk.below HTT12.out.1 hb13 (Blk.lt HTT12.out.1)
    have f4 : ArrU w13 tb2 (valOf bs) := Blk.below HTT12.out.2 hb13 (Blk.lt HTT12.out.2)
    exact ⟨Arr.rowN (S := fun b => b < w13.heap.size) f1 0 (n := klenOf bs) HKL.out.1 (Blk.lt f1), Arr.rowN (S := fun b => b < w13.heap.size) f2 0 (n := vlenOf bs) HKL.out.2 (Blk.lt f2), Arr.rowN (S := fun b => b < w13.heap.size) f3 0 (n := klenOf bs) HKL.out.1 (Blk.lt f3), Arr.rowN (S := fun b => b < w13.heap.size) f4 0 (n := vlenOf bs) HKL.out.2 (Blk.lt f4)⟩)
   have HEN := hI (show ∀ i : Nat, i = nn → wrap64 ((nn : Int) + 1) = (((preL rs xs eq_).length + (j + 1) : Nat) : Int) from fun i _ => by
    have := HNN.out
    have := HNL.out
    have := HLL.out
    rw [IntWalk.wrap64_in _ (by omega)]
    omega)
   have HWJ := hI (show wrap64 ((j : Int) + 1) = (j : Int) + 1 from IntWalk.wrap64_in _ (by have := HTL.out; omega))
   have HME := hI (show ts.length - (j + 1) < ts.length - j by omega)
   clear hw13 hb13 hA1 hA2 hl12 hh12 hk12 HR11 HT11 HP11 HQ11 HTT11 HRDD HT12 HP12 HTT12
   go_upto_region 30 with (refine wpList_store_rowB (.tmp 16) (.tmp 109) 33 rfl rfl w12.heap.size (recT9 bs d1 d2) rfl rfl 33 _ (Blk.new w12 _ _) size_rec rfl (one_rec _ _ _ _ _ _ _ _ _ _) ?_; rw [HW13.out])
   go_wp2_with (first
    | (refine wpList_load_rowB (.tmp 16) 33 rfl rfl w12.heap.size rfl 33 (recT9 bs d1 d2).toList _ Tryz.underlying33 rfl size_rec HX13.out ?_)
    | (refine wpList_load_at9 (.tmp 115) 33 rfl rfl wr.heap.size 3 rfl [.int .i64 (kindOf bs), .int .u32 (flagsOf bs), .int .u32 (expOf bs), .int .u64 (seqOf bs), .slice (some ⟨tb1, 0, none⟩) (klenOf bs) (klenOf bs), .slice (some ⟨tb2, 0, none⟩) (vlenOf bs) (vlenOf bs)] _ Tryz.underlying33 rfl size_rec HQ13.out ?_))
   refine (same_any _ _ _ _ _ _ _ _ _ _ _ _ _ _ _ _ _ _ _ _ (keyOf bs) (keyOf bs) (valOf bs) (valOf bs) (fun b => b < w13.heap.size) w13 HKR.out.1 HKR.out.2.2.1 HKR.out.2.1 HKR.out.2.2.2 (fun b h => h) HBYT.out.1 HBYT.out.1 HBYT.out.2 HBYT.out.2).mono ?_
   rintro e w14 ⟨rfl, hb14⟩
   rw [recSame_self]
   have HR14 := hI (HR13.out.grow hb14)
   have HT14 := hI (HT13.out.kept (Kept.of_below (S := fun b => a0 ≤ b ∧ b < bz) hb14 (fun b h => HR13.out.lt b (.inl (.inl (.inl (HX9.out b h.1 h.2)))))) (fun q h1 h2 => ⟨h1, h2⟩))
   have hwn := HEN.out nn rfl
   have hwj := HWJ.out
   clear hb14 HR13 HT13 HKR HQ13 HX13 HP13 HW13
   go_wp2_with fail
   go_roundw
   case rel => exact ⟨j + 1, _, k12, by first | (rw [HWJ.out]; rfl) | rfl, by first | rw [HEN.out nn rfl] | rfl, hj, HR14.out, fun b h1 h2 => .inl (.inl (.inl (.inl (HX9.out b h1 h2)))), HT14.out⟩
   case measure => first | (rw [HWJ.out]; exact HME.out) | exact HME.out
  ·have hje : j = ts.length := by omega
   subst hje
   have hge : ¬ ((ts.length : Int) < ts.length) := Int.lt_irrefl _
   have hwr1 : wrap64 ((q : Int) + 1) = (q : Int) + 1 := IntWalk.wrap64_in _ (by omega)
   have HPL := hI (show (preL rs xs (q + 1)).length = (preL rs xs q).length + ts.length by rw [preL_len, ← HT.out.1, List.length_map])
   go_wp2_with fail
   go_roundw
   case rel => exact ⟨q + 1, X9, k9, rfl, by rw [HPL.out], hq, HR9.out⟩
   case measure => show 4 - (q + 1) < 4 - q; omega
 ·obtain rfl : q = 4 := by omega
  have h4 : decide (((4 : Nat) : Int) < 4) = false := by decide
  have HPL := hI hrd.put.length
  rw [← HPL.out]
  have hnl : ((L.length : Int) != (L.length : Int)) = false := by simp
  have HFR := hI (free_lg hrd.lg hrd.lt (by omega) 0 (fun i hi => by
   obtain ⟨o1, o2, _⟩ := old_free hrd.lg.ok hi
   have := (hrd.lg.gen o1 (by rw [o2]; decide)).1
   rw [hrd.sup.2.2]
   omega))
  clear hrd
  go_wp2_with fail
  refine HFR.out.mono ?_
  rintro e w5 ⟨hk5, ⟨i, hi0, hold, rfl, hl5⟩ | ⟨er, her, _, rfl, hl5⟩⟩
  rotate_left
  ·have HB5 := hI (HRD.out.kept hk5 hl5 rfl).bel
   have hern : (er != 0) = true := by rw [her]; split <;> rfl
   clear her hl5 hk5 HFR
   go_wp2_with fail
   (first | go_ret | go_ret2)
   exact ⟨rfl, HB5.out⟩
  obtain rfl : i = 0 := by omega
  have HZ5 := hI (HRD.out.freed hk5 (old_free HRD.out.lg.ok hold).1 hl5)
  have HPT := hI HRD.out.put
  have HL0 := hI (show 0 < xs.length from (old_free HRD.out.lg.ok hold).1)
  clear hk5 hl5 hold hi0 HFR HRD
  generalize reS s (genG xs 0) = s5 at *
  generalize reK k s t (genG xs 0) = k5 at *
  generalize nxt t = t5 at *
  go_wp2_with fail
  go_loopw [133] (fun jv wr => ∃ (j : Nat) (X : Nat → Prop) (k : Dk), jv = .int .i64 j ∧ j ≤ L.length ∧ LrZ w b1 l p d base wr X (.slice A5 L.length c5) L s5 t5 k (freeX xs ((0 : Nat) : Int)) rs (17 * 60)) (fun jv _ => L.length - (intOf jv).toNat)
  case atStart => exact ⟨0, X, k5, rfl, Nat.zero_le _, HZ5.out⟩
  case round =>
  clear HZ5
  obtain ⟨j, X6, k6, rfl, hjl, hz6⟩ := hrel
  have HZ6 := hI hz6
  clear hz6
  by_cases hj : j < L.length
  ·have hji : (j : Int) < L.length := by omega
   obtain ⟨A', cap, hsl, _, _, hrow⟩ := PlM.rowZ_own HZ6.out.own rfl (by simp)
   injection hsl with hs1 hs2 hs3
   subst hs1 hs3
   obtain ⟨gp, op, rfl, hgp, hcp⟩ := hrow.2 (by omega)
   have hr2 := hcp j hj
   rw [show (L.map PuE.pl).getD j PlM.ent0 = L[j].pl by simp [List.getD, hj]] at hr2
   obtain ⟨e1, e2, e3, e4⟩ := HPT.out.of (List.getElem_mem hj)
   generalize L[j] = e at *
   obtain ⟨eq_, eg, ec, er⟩ := e
   dsimp only at e1 e2 e3 e4
   have HE := hI (And.intro e1 (And.intro e2 (And.intro e3 e4)))
   clear e1 e2 e3 e4
   have HQ1 := hI (show wr.rangeAt gp (op + j * 9) [.int .i64 (eq_ : Int), .int .u64 eg, .int .i64 (ec : Int), .int .i64 er.k, .int .u32 er.f, .int .u32 er.x, .int .u64 er.s, .slice er.A er.n er.c, .slice er.B er.m er.d] from hr2)
   obtain ⟨w6, hw6⟩ : ∃ w6, w6 = wr.alloc (.cells #[.int .i64 (eq_ : Int), .int .u64 eg, .int .i64 (ec : Int), .int .i64 er.k, .int .u32 er.f, .int .u32 er.x, .int .u64 er.s, .slice er.A er.n er.c, .slice er.B er.m er.d] 40) := ⟨_, rfl⟩
   have hb6 : Below wr.heap.size wr w6 := by rw [hw6]; exact (Below.refl _ _).alloc (nR _) _
   have HP6 := hI (show Blk w6 wr.heap.size 40 #[.int .i64 (eq_ : Int), .int .u64 eg, .int .i64 (ec : Int), .int .i64 er.k, .int .u32 er.f, .int .u32 er.x, .int .u64 er.s, .slice er.A er.n er.c, .slice er.B er.m er.d] by rw [hw6]; exact Blk.new wr _ _)
   have HW6 := hI hw6.symm
   have HZ7 := hI (HZ6.out.grow hb6)
   have HQ6 := hI (show w6.rangeAt wr.heap.size 0 [.int .i64 (eq_ : Int), .int .u64 eg, .int .i64 (ec : Int)] from fun i v hv => (HP6.out.cell (0 + i)).trans (by rcases i with _ | _ | _ | i <;> simp at hv ⊢ <;> exact hv))
   have HXP := hI (show X6 wr.heap.size ∨ (wr.heap.size ≤ wr.heap.size ∧ wr.heap.size < w6.heap.size) from .inr ⟨nR _, HP6.out.lt⟩)
   have HWJ := hI (show wrap64 ((j : Int) + 1) = (j : Int) + 1 from IntWalk.wrap64_in _ (by have := HLL.out; omega))
   have HME := hI (show L.length - (j + 1) < L.length - j by omega)
   clear hw6 hb6 hr2 hcp hgp hrow HZ6
   go_upto_region 42 with (refine wpList_load_at9 (.tmp 135) 40 rfl rfl gp (op + j * 9) rfl [.int .i64 (eq_ : Int), .int .u64 eg, .int .i64 (ec : Int), .int .i64 er.k, .int .u32 er.f, .int .u32 er.x, .int .u64 er.s, .slice er.A er.n er.c, .slice er.B er.m er.d] _ Tryz.underlying40 rfl size_pl9 HQ1.out ?_)
   rw [HW6.out]
   clear HW6 HQ1
   by_cases hq0 : eq_ = 0
   ·subst hq0
    have HRD := hI (show Calls Tryz.prog 13 #[.pointer (some ⟨l, 0, none⟩), .agg #[.int .i64 ((0 : Nat) : Int), .int .u64 eg, .int .i64 (ec : Int)]] w6 _ from by
     obtain ⟨A9, c9, hlog, _, _⟩ := HZ7.out.lg.log
     exact read_unused hlog (by rw [free_len, HPT.out.ord.len]; decide) ((0 : Nat) : Int) eg (ec : Int) (by
      rw [uses_in (by rw [free_len]; exact HL0.out)]
      have e9 : ((freeX xs ((0 : Nat) : Int)).getD 0 seg0).2.2 = 0 := by unfold freeX; simp [List.getD, HL0.out]
      rw [e9, decide_eq_false (show ¬ ((ec : Int) < 0) by omega), Bool.and_false, Bool.and_false]))
    go_wp2_with (refine wpList_load_at9 (.tmp 139) 35 rfl rfl wr.heap.size 0 rfl [.int .i64 ((0 : Nat) : Int), .int .u64 eg, .int .i64 (ec : Int)] _ Tryz.underlying35 rfl size_adr9 HQ6.out ?_)
    refine HRD.out.mono ?_
    rintro e w8 ⟨rfl, hb8⟩
    obtain ⟨w9, hw9⟩ : ∃ w9, w9 = (w8.alloc (.cells zeroC 33)).setRow w8.heap.size zeroC := ⟨_, rfl⟩
    have hb9 : Below w8.heap.size w8 w9 := by rw [hw9]; exact below_setRow ((Below.refl _ _).alloc (nR _) _) (nR _) _
    have HZ9 := hI ((HZ7.out.grow hb8).grow hb9)
    have HP9 := hI ((HP6.out.below hb8 HP6.out.lt).below hb9 (nL HP6.out.lt hb8.size))
    have HW9 := hI hw9.symm
    have h00 : (((0 : Nat) : Int) == 0) = true := rfl
    have p0 : w9.cell? ⟨wr.heap.size, 0, none⟩ = some (.int .i64 ((0 : Nat) : Int)) := HP9.out.cell 0
    have hwj := HWJ.out
    clear hw9 hb9 hb8 HZ7 HP6 HRD HQ6
    go_upto_region 43 with (refine wpList_store_rowB (.tmp 20) (.tmp 142) 33 rfl rfl w8.heap.size zeroC rfl rfl 33 _ (Blk.new w8 _ _) size_rec rfl one_zero ?_; rw [HW9.out])
    go_wp2_with fail
    go_roundw
    case rel => exact ⟨j + 1, _, k6, by first | (rw [HWJ.out]; rfl) | rfl, hj, HZ9.out⟩
    case measure => first | (rw [HWJ.out]; exact HME.out) | exact HME.out
   ·obtain ⟨e1, e2, e3, e4⟩ := HE.out
    have hq0b : ((eq_ : Int) == 0) = false := by simp; omega
    have hat : AtR k6 s5 (freeX xs ((0 : Nat) : Int)) ((eq_ : Int), genG (freeX xs ((0 : Nat) : Int)) eq_, (ec : Int)) (PuE.bs ⟨eq_, eg, ec, er⟩) := HZ7.out.hist.at (by rw [free_len, HPT.out.ord.len]; exact e1) (by rw [free_st HL0.out, if_neg (fun h => hq0 h.symm)]; exact e4) e3
    rw [(free_gen HL0.out eq_ (fun h => hq0 h.symm)).1, ← e2] at hat
    have HRD := hI (read_at (a := ((eq_ : Int), eg, (ec : Int))) HZ7.out.lg HZ7.out.lt hat)
    clear hat e1 e2 e3 e4
    go_wp2_with (refine wpList_load_at9 (.tmp 139) 35 rfl rfl wr.heap.size 0 rfl [.int .i64 (eq_ : Int), .int .u64 eg, .int .i64 (ec : Int)] _ Tryz.underlying35 rfl size_adr9 HQ6.out ?_)
    refine HRD.out.mono ?_
    rintro e w8 ⟨d1, d2, k8, rfl, _, _, _, hA1, hA2, hl8, hh8, hk8⟩
    obtain ⟨w9, hw9⟩ : ∃ w9, w9 = (w8.alloc (.cells zeroC 33)).setRow w8.heap.size (recT9 (PuE.bs ⟨eq_, eg, ec, er⟩) d1 d2) := ⟨_, rfl⟩
    have hb9 : Below w8.heap.size w8 w9 := by rw [hw9]; exact below_setRow ((Below.refl _ _).alloc (nR _) _) (nR _) _
    have HZ9 := hI ((HZ7.out.kept hk8 hl8 hh8).grow hb9)
    have h8 := HP6.out.kept hk8 HXP.out
    have HP9 := hI (h8.below hb9 h8.lt)
    have HW9 := hI hw9.symm
    have p0 : w9.cell? ⟨wr.heap.size, 0, none⟩ = some (.int .i64 (eq_ : Int)) := HP9.out.cell 0
    have hwj := HWJ.out
    clear hw9 hb9 hA1 hA2 hl8 hh8 hk8 h8 HZ7 HP6 HRD HQ6
    go_upto_region 43 with (refine wpList_store_rowB (.tmp 20) (.tmp 142) 33 rfl rfl w8.heap.size (recT9 (PuE.bs ⟨eq_, eg, ec, er⟩) d1 d2) rfl rfl 33 _ (Blk.new w8 _ _) size_rec rfl (one_rec _ _ _ _ _ _ _ _ _ _) ?_; rw [HW9.out])
    go_wp2_with fail
    go_roundw
    case rel => exact ⟨j + 1, _, k8, by first | (rw [HWJ.out]; rfl) | rfl, hj, HZ9.out⟩
    case measure => first | (rw [HWJ.out]; exact HME.out) | exact HME.out
  ·have hge : ¬ ((j : Int) < L.length) := by omega
   have HBE := hI HZ6.out.bel
   clear HZ6
   go_wp2_with fail
   (first | go_ret | go_ret2)
   exact ⟨rfl, HBE.out⟩
end
end Go.Proofs.YtjmjhldjablfeaaGreat
