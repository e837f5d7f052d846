/- Texts of LogOpens, packed. -/
import Derived.Test.YtodcohkblgjfeaaGreatPackLogOpens14
import Derived.OwnWalk
import Derived.Great.BuildSlice
import Derived.Laws.CopyRow
import Derived.SizedLaws
set_option linter.unusedVariables false
set_option linter.unusedSimpArgs false
namespace Go.Proofs.YtodcohkblgjfeaaGreat
set_option maxRecDepth 100000
open Go.RowKit Go.ChangeShapes Go.WideShapes Go.Deep Go.Joins
set_option linter.unusedVariables false
section
variable {H : Type} {enc : TypeId × Value → H} {w : World} {held : Bool}
theorem list2 {α : Type} : ∀ {l : List α} (h : l.length = 2), l = [l[0], l[1]]
  | [_, _], _ => rfl
set_option maxRecDepth 100000 in
theorem ring_data {s : Int} {A : Option Addr} {n c : Nat} {d : DataW H} {p : List MemPlace} (h : DataW.Trod enc Tryz.prog w 0 (fun _ => true) held 35 (.agg #[.int .i64 s, .slice A n c]) d p) :
    c = 0 ∨ ∃ (d0 : DataW H) (el sp : List (DataW H)), d = .agg [d0, .slice el sp] ∧ el.length + sp.length = c := by
  obtain ⟨fuel, hf⟩ := h
  obtain ⟨ys, fu, _, hdd, _, hyl, hg⟩ := DataW.trod_struct Tryz.underlying35 hf
  have hone : ∀ t, t = 3 ∨ t = 33 → Tryz.prog.cellsOf t = 1 := by
    rintro t (rfl | rfl) <;> kernel_rfl
  have hy2 : ys.length = 2 := hyl
  have g1 := hg 1 _ rfl
  simp only [Value.cells, hone _ (.inl rfl), hone _ (.inr rfl), List.drop_zero, List.drop_succ_cons, List.take_succ_cons, List.take_zero] at g1
  rw [List.getElem?_eq_getElem (by omega)] at g1
  rcases open_slice Tryz.underlying33 g1 with ⟨hcs, _⟩ | ⟨a, len, cap, m, nn, D, Pl, hcs, hb, hl, hm, hmm, hx, hi⟩
  · simp [hone _ (.inr rfl)] at hcs
    exact .inl hcs.2.2
  · simp [hone _ (.inr rfl)] at hcs
    obtain ⟨_, rfl, rfl⟩ := hcs
    simp only [if_true] at hmm
    subst hmm
    refine .inr ⟨ys[0].1, (List.range n).map D, (List.range (m - n)).map fun j => D (n + j), ?_, ?_⟩
    · have hd1 : d = .agg (ys.map (·.1)) := (Prod.mk.injEq _ _ _ _ ▸ hdd).1
      rw [hd1]
      conv => (lhs; rw [list2 hy2])
      simp only [List.map_cons, List.map_nil, hx]
    · simp
      omega
theorem sized_second {P : Program} {ts : List TypeId} {ds : List (DataW H)} (h : (DataW.weightsEach P ts ds).all (· ≤ reachBytes) = true) {j : Nat} {t t0 t1 e : TypeId} {fs : Array Field} {d0 : DataW H} {el sp : List (DataW H)} (ht : ts[j]? = some t) (hd : ds[j]? = some (.agg [d0, .slice el sp]))
    (hu : P.underlying t = some (.struct fs)) (hf : fs.toList.map (·.type) = [t0, t1]) (hu2 : P.underlying t1 = some (.slice e)) : (el.length + sp.length) * P.bytesOf e ≤ reachBytes := by
  have hm : (el.length + sp.length) * P.bytesOf e ∈ DataW.weightsEach P [t0, t1] [d0, .slice el sp] := DataW.weights_mem_each (j := 1) rfl rfl _ (by simp [DataW.weights, hu2])
  have := List.all_eq_true.1 h _ (DataW.weights_mem_each ht hd _ (by simp only [DataW.weights, hu, hf]; exact hm))
  simpa using this
end
end Go.Proofs.YtodcohkblgjfeaaGreat

namespace Go.Proofs.YtodcohkblgjfeaaGreat
open Go.RowKit
attribute [local go_sem] Oper.semAt_some
set_option maxRecDepth 100000
set_option linter.unusedVariables false
set_option linter.unusedSimpArgs false
theorem read_nil_l (sg g sc : Int) (w : World) : Calls Tryz.prog 17 #[.pointer none, .agg #[.int .i64 sg, .int .u64 g, .int .i64 sc]] w fun e w' => e = .returned (.tuple #[.agg zeroC, .int .i64 1]) ∧ Below w.heap.size w w' := by
  have HR := Lib.hid (blk_new2 w (.cells #[.int .i64 sg, .int .u64 g, .int .i64 sc] 46) 44 zeroC)
  have HB := Lib.hid (((Below.refl w.heap.size w).alloc (Nat.le_refl _) (.cells #[.int .i64 sg, .int .u64 g, .int .i64 sc] 46)).alloc (by simp) (.cells zeroC 44))
  go_enter Tryz.func17, Tryz.ntmps17
  go_wp2_with (first | (with_reducible refine halt_end ?_) | (refine wpList_store_rowB (.tmp 4) (.tmp 12) 44 rfl rfl (w.heap.size + 1) zeroC rfl rfl 44 _ HR.out size_rec rfl one_zero ?_))
  exact Halt.ret (results_row2 rfl _ _ (w.heap.size + 1) 44 zeroC _ rfl (setRow_heap _ _ _ zeroC _ _ HR.out) Tryz.underlying44 rfl size_rec) rfl ⟨rfl, below_setRow HB.out (by omega) _⟩
theorem base_nil9 (i : Int) (w : World) : Calls Tryz.prog 31 #[.pointer none, .int .i64 i] w fun e w' => e = .returned (.tuple #[.int .i64 0, .int .i64 1]) ∧ w' = w := by
  go_enter Tryz.func31, Tryz.ntmps31
  go_wp2
  (first | go_ret | go_ret2)
  exact ⟨rfl, rfl⟩
abbrev zeroS9 : Array Value := #[.int .u64 0, .int .i64 0, .slice none 0 0]
theorem size_scan : (Tryz.prog.info? 67).map (·.size) = some 3 := by kernel_rfl
theorem one_zeroS9 : zeroS9.all (·.oneCell') = true := by simp [zeroS9, Value.oneCell']
theorem scan_nil9 (i : Int) (w : World) : Calls Tryz.prog 22 #[.pointer none, .int .i64 i] w fun e w' => e = .returned (.tuple #[.agg zeroS9, .int .i64 1]) ∧ Below w.heap.size w w' := by
  have HBA := Lib.hid (fun (W : World) => base_nil9 i W)
  have HR := Lib.hid (Blk.new w 67 zeroS9)
  have HB := Lib.hid ((Below.refl w.heap.size w).alloc (Nat.le_refl _) (.cells zeroS9 67))
  go_enter Tryz.func22, Tryz.ntmps22
  go_wp2_with fail
  go_step3
  go_wp2_with fail
  refine (HBA.out _).mono ?_
  rintro e w2 ⟨rfl, rfl⟩
  go_wp2_with (first | (with_reducible refine halt_end ?_) | (refine wpList_store_rowB (.tmp 4) (.tmp 23) 67 rfl rfl w.heap.size zeroS9 rfl rfl 67 _ HR.out size_scan rfl one_zeroS9 ?_))
  rw [Exit.noGoto_ret]
  exact bodyPost_ret (results_row2 rfl _ _ w.heap.size 67 zeroS9 _ rfl (setRow_heap _ _ _ zeroS9 _ _ HR.out) Tryz.underlying67 rfl size_scan) rfl ⟨rfl, below_setRow HB.out (Nat.le_refl _) _⟩
end Go.Proofs.YtodcohkblgjfeaaGreat

namespace Go.Proofs.YtodcohkblgjfeaaGreat
open Go.RowKit Go.Shelf
attribute [local go_sem] Oper.semAt_some
set_option maxRecDepth 100000
set_option linter.unusedVariables false
set_option linter.unusedSimpArgs false
abbrev lq0 : Oper := { dst := some 38, op := Go.Op.move (Go.Operand.tmp 7), type := 26, pos := "law.go:188", after := #[], guard := none }
abbrev lq1 : Oper := { dst := some 39, op := Go.Op.call { callee := Go.Callee.value (Go.Operand.func 23), args := #[Go.Operand.tmp 38], argTypes := #[26] }, type := 70, pos := "law.go:188", after := #[{ on := 0, ground := Go.Ground.data }], guard := none }
abbrev lq2 : Oper := { dst := some 40, op := Go.Op.load 35 (Go.Operand.tmp 3), type := 35, pos := "law.go:188", after := #[], guard := none }
abbrev lq3 : Oper := { dst := some 41, op := Go.Op.call { callee := Go.Callee.value (Go.Operand.func 34), args := #[Go.Operand.tmp 40], argTypes := #[35] }, type := 35, pos := "law.go:188", after := #[{ on := 2, ground := Go.Ground.data }, { on := 1, ground := Go.Ground.chain }], guard := none }
abbrev lq4 : Oper := { dst := some 42, op := Go.Op.call { callee := Go.Callee.value (Go.Operand.func 33), args := #[Go.Operand.tmp 39, Go.Operand.tmp 41], argTypes := #[70, 35] }, type := 87, pos := "law.go:188", after := #[{ on := 1, ground := Go.Ground.data }, { on := 3, ground := Go.Ground.data }, { on := 3, ground := Go.Ground.chain }], guard := none }
abbrev lq5 : Oper := { dst := some 37, op := Go.Op.move (Go.Operand.tmp 42), type := 87, pos := "law.go:188", after := #[{ on := 4, ground := Go.Ground.data }], guard := none }
abbrev lq6 : Oper := { dst := some 43, op := Go.Op.extract (Go.Operand.tmp 37) 0, type := 26, pos := "law.go:188", after := #[{ on := 5, ground := Go.Ground.data }], guard := none }
abbrev lq7 : Oper := { dst := some 44, op := Go.Op.extract (Go.Operand.tmp 37) 1, type := 49, pos := "law.go:188", after := #[{ on := 5, ground := Go.Ground.data }, { on := 8, ground := Go.Ground.gcOnly Go.Departure.lateStores }], guard := none }
abbrev lq8 : Oper := { dst := some 9, op := Go.Op.assign (Go.Operand.tmp 43), type := 26, pos := "law.go:188", after := #[{ on := 6, ground := Go.Ground.data }, { on := 4, ground := Go.Ground.chain }, { on := 0, ground := Go.Ground.phase }, { on := 1, ground := Go.Ground.phase }, { on := 2, ground := Go.Ground.phase }, { on := 3, ground := Go.Ground.phase }, { on := 4, ground := Go.Ground.phase }, { on := 5, ground := Go.Ground.phase }, { on := 6, ground := Go.Ground.phase }, { on := 7, ground := Go.Ground.textOnly Go.Departure.lateStores }], guard := none }
abbrev lq9 : Oper := { dst := some 10, op := Go.Op.assign (Go.Operand.tmp 44), type := 49, pos := "law.go:188", after := #[{ on := 7, ground := Go.Ground.data }, { on := 8, ground := Go.Ground.chain }, { on := 0, ground := Go.Ground.phase }, { on := 1, ground := Go.Ground.phase }, { on := 2, ground := Go.Ground.phase }, { on := 3, ground := Go.Ground.phase }, { on := 4, ground := Go.Ground.phase }, { on := 5, ground := Go.Ground.phase }, { on := 6, ground := Go.Ground.phase }, { on := 7, ground := Go.Ground.phase }, { on := 8, ground := Go.Ground.phase }], guard := none }
abbrev lr0 : Oper := { dst := some 65, op := Go.Op.move (Go.Operand.tmp 10), type := 49, pos := "law.go:198", after := #[], guard := none }
abbrev lr1 : Oper := { dst := some 66, op := Go.Op.move (Go.Operand.tmp 11), type := 49, pos := "law.go:198", after := #[], guard := none }
abbrev lr2 : Oper := { dst := some 67, op := Go.Op.binOp Go.BinOp.neq 49 (Go.Operand.tmp 65) (Go.Operand.tmp 66) 49, type := 4, pos := "law.go:198", after := #[{ on := 0, ground := Go.Ground.data }, { on := 1, ground := Go.Ground.data }], guard := none }
abbrev lr3 : Oper := { dst := some 68, op := Go.Op.move (Go.Operand.tmp 67), type := 4, pos := "law.go:198", after := #[{ on := 2, ground := Go.Ground.data }], guard := none }
abbrev lr4 : Oper := { dst := some 69, op := Go.Op.move (Go.Operand.tmp 9), type := 26, pos := "law.go:198", after := #[{ on := 3, ground := Go.Ground.guard }], guard := some (3, false) }
abbrev lr5 : Oper := { dst := some 70, op := Go.Op.binOp Go.BinOp.eql 26 (Go.Operand.tmp 69) (Go.Operand.const (Go.Value.pointer none)) 26, type := 4, pos := "law.go:198", after := #[{ on := 4, ground := Go.Ground.data }, { on := 3, ground := Go.Ground.guard }], guard := some (3, false) }
abbrev lr6 : Oper := { dst := some 71, op := Go.Op.move (Go.Operand.tmp 11), type := 49, pos := "law.go:198", after := #[{ on := 3, ground := Go.Ground.guard }], guard := some (3, false) }
abbrev lr7 : Oper := { dst := some 72, op := Go.Op.binOp Go.BinOp.neq 49 (Go.Operand.tmp 71) (Go.Operand.const (Go.Value.int Go.IntKind.i64 0)) 49, type := 4, pos := "law.go:198", after := #[{ on := 6, ground := Go.Ground.data }, { on := 3, ground := Go.Ground.guard }], guard := some (3, false) }
abbrev lr8 : Oper := { dst := some 73, op := Go.Op.binOp Go.BinOp.neq 4 (Go.Operand.tmp 70) (Go.Operand.tmp 72) 4, type := 4, pos := "law.go:198", after := #[{ on := 5, ground := Go.Ground.data }, { on := 7, ground := Go.Ground.data }, { on := 3, ground := Go.Ground.guard }], guard := some (3, false) }
abbrev lr9 : Oper := { dst := some 74, op := Go.Op.pick (Go.Operand.tmp 68) (Go.Operand.const (Go.Value.bool true)) (Go.Operand.tmp 73), type := 4, pos := "law.go:198", after := #[{ on := 3, ground := Go.Ground.data }, { on := 8, ground := Go.Ground.data }], guard := none }
abbrev lr10 : Oper := { dst := some 75, op := Go.Op.move (Go.Operand.tmp 74), type := 4, pos := "law.go:198", after := #[{ on := 9, ground := Go.Ground.data }, { on := 3, ground := Go.Ground.chain }], guard := none }
abbrev lr11 : Oper := { dst := some 76, op := Go.Op.move (Go.Operand.tmp 9), type := 26, pos := "law.go:198", after := #[{ on := 10, ground := Go.Ground.guard }], guard := some (10, false) }
abbrev lr12 : Oper := { dst := some 77, op := Go.Op.binOp Go.BinOp.neq 26 (Go.Operand.tmp 76) (Go.Operand.const (Go.Value.pointer none)) 26, type := 4, pos := "law.go:198", after := #[{ on := 11, ground := Go.Ground.data }, { on := 10, ground := Go.Ground.guard }], guard := some (10, false) }
abbrev lr13 : Oper := { dst := some 78, op := Go.Op.move (Go.Operand.tmp 77), type := 4, pos := "law.go:198", after := #[{ on := 12, ground := Go.Ground.data }, { on := 10, ground := Go.Ground.chain }, { on := 10, ground := Go.Ground.guard }], guard := some (10, false) }
abbrev lr14 : Oper := { dst := some 79, op := Go.Op.move (Go.Operand.tmp 9), type := 26, pos := "law.go:198", after := #[{ on := 13, ground := Go.Ground.guard }], guard := some (13, true) }
abbrev lr15 : Oper := { dst := some 80, op := Go.Op.call { callee := Go.Callee.value (Go.Operand.func 29), args := #[Go.Operand.tmp 79], argTypes := #[26] }, type := 35, pos := "law.go:198", after := #[{ on := 14, ground := Go.Ground.data }, { on := 13, ground := Go.Ground.chain }, { on := 13, ground := Go.Ground.guard }], guard := some (13, true) }
abbrev lr16 : Oper := { dst := some 81, op := Go.Op.load 35 (Go.Operand.tmp 3), type := 35, pos := "law.go:198", after := #[{ on := 13, ground := Go.Ground.guard }], guard := some (13, true) }
abbrev lr17 : Oper := { dst := some 82, op := Go.Op.call { callee := Go.Callee.value (Go.Operand.func 28), args := #[Go.Operand.tmp 80, Go.Operand.tmp 81], argTypes := #[35, 35] }, type := 4, pos := "law.go:198", after := #[{ on := 15, ground := Go.Ground.data }, { on := 16, ground := Go.Ground.data }, { on := 15, ground := Go.Ground.chain }, { on := 13, ground := Go.Ground.guard }], guard := some (13, true) }
abbrev lr18 : Oper := { dst := some 83, op := Go.Op.unOp Go.UnOp.not 4 (Go.Operand.tmp 82), type := 4, pos := "law.go:198", after := #[{ on := 17, ground := Go.Ground.data }, { on := 13, ground := Go.Ground.guard }], guard := some (13, true) }
abbrev lr19 : Oper := { dst := some 84, op := Go.Op.pick (Go.Operand.tmp 78) (Go.Operand.tmp 83) (Go.Operand.const (Go.Value.bool false)), type := 4, pos := "law.go:198", after := #[{ on := 13, ground := Go.Ground.data }, { on := 18, ground := Go.Ground.data }, { on := 10, ground := Go.Ground.guard }], guard := some (10, false) }
abbrev lr20 : Oper := { dst := some 85, op := Go.Op.pick (Go.Operand.tmp 75) (Go.Operand.const (Go.Value.bool true)) (Go.Operand.tmp 84), type := 4, pos := "law.go:198", after := #[{ on := 10, ground := Go.Ground.data }, { on := 19, ground := Go.Ground.data }], guard := none }
theorem ring_range {w : World} {g : Nat} {sec : Int} {A : Option Addr} {n c : Nat} (h : Blk w g 35 #[.int .i64 sec, .slice A n c]) : w.rangeAt g 0 [.int .i64 sec, .slice A n c] := by
  intro j v hv
  rw [Nat.zero_add, h.cell j]
  rcases j with _ | _ | j <;> simp at hv ⊢ <;> exact hv
theorem run_field_segs (w : World) : (Instr.field 35 (.agg #[.int .i64 0, .slice none 0 0]) 1).run Tryz.prog w = .ok (.slice none 0 0) w := by
  unfold Instr.field
  simp [Sem.run_bind, run_underlying (Tryz.underlying35), asAgg, part, isAgg, run_underlying (Tryz.underlying33), run_underlying (Tryz.underlying3)]
def wantO (m : Nat) (s : Int) (sec : Int) (n : Nat) (xs : List Seg) (E : Int) : Prop :=
  (E = 180 ∧ ¬ OkR sec xs) ∨ (E = 2 ∧ OkR sec xs ∧ ¬ ((n : Int) = m ∧ sec = s)) ∨ (E = 181 ∧ OkR sec xs ∧ (n : Int) = m ∧ sec = s ∧ 0 ≤ opnR xs) ∨ (E = 0 ∧ OkR sec xs ∧ (n : Int) = m ∧ sec = s ∧ opnR xs < 0)
set_option maxHeartbeats 16000000 in
theorem opens_law9 {sec : Int} {A : Option Addr} {n c : Nat} {xs : List Seg} (a1 a2 : Int) (w : World) (h : IsRing w sec A n c xs) (hb : c * 24 ≤ 140737488351232) :
    Calls Tryz.prog 5 #[.agg #[.int .i64 sec, .slice A n c], .int .i64 a1, .int .i64 a2] w fun e w' => e = .returned (.bool true) ∧ Below w.heap.size w w' := by
  have HX := Lib.hid h.row
  have HXL := Lib.hid h.row.1
  have HNA := Lib.hid h.nA
  have HNB := Lib.hid (show n * 24 ≤ 140737488351232 by have := h.nc; omega)
  have HPOS := Lib.hid (show ∀ i, i < n → 0 ≤ genG xs i from h.pos)
  obtain ⟨wa, hwa⟩ : ∃ wa, wa = w.alloc (.cells #[.int .i64 sec, .slice A n c] 35) := ⟨_, rfl⟩
  have hba : Below w.heap.size w wa := by rw [hwa]; exact (Below.refl _ w).alloc (Nat.le_refl _) _
  have hka : Blk wa w.heap.size 35 #[.int .i64 sec, .slice A n c] := by rw [hwa]; exact Blk.new w _ _
  have HBA := Lib.hid hba
  have HKA := Lib.hid hka
  have HWA := Lib.hid hwa.symm
  clear h hb hba hka hwa
  go_enter Tryz.func5, Tryz.ntmps5
  go_wp2_with fail
  rw [HWA.out]
  refine (wakes9 wa).mono ?_
  rintro e w1 ⟨rfl, hb1⟩
  obtain ⟨m, s, hm, hs, hsz⟩ := sized9_any a1 a2 w1
  have HSZ := Lib.hid hsz
  have HMS := Lib.hid (And.intro hm hs)
  have HB1 := Lib.hid hb1
  have HK1 := Lib.hid (HKA.out.below hb1 HKA.out.lt)
  clear hm hs hsz hb1 HWA
  go_wp2_with fail
  refine HSZ.out.mono ?_
  rintro e w2 ⟨rfl, rfl⟩
  go_wp2_with fail
  refine (born_any m s w2 HMS.out.1 HMS.out.2).mono ?_
  rintro e w3 ⟨l, p, d, A3, c3, rfl, hL, hmc3, hn3, hb3⟩
  have HLG := Lib.hid hL
  have HK := Lib.hid (HK1.out.below hb3 HK1.out.lt)
  have HB3 := Lib.hid (HBA.out.trans ((HB1.out.mono HBA.out.size).trans (hb3.mono (Nat.le_trans HBA.out.size HB1.out.size))))
  have HST := Lib.hid (show ∃ Z, StoS w3 Z p d 1026 ⟨m, s, 0, 0, 0, 0⟩ 0 (bornK m s) ∧ ∀ b, Z b → b < w3.heap.size from by
    obtain ⟨h1, _, R, h3, _, h5⟩ := hL
    refine ⟨_, h3, fun b hb => ?_⟩
    rcases hb with hb | rfl | hb
    · exact Nat.lt_of_lt_of_le hb hb3.size
    · exact h1.lt
    · exact (h5 b hb).1)
  have hnp : (Value.pointer (some ⟨l, 0, none⟩)) ≠ .pointer none := by simp
  clear hL hmc3 hn3 hb3 HSZ HKA HK1
  by_cases hok : OkR sec xs ∧ (n : Int) = m ∧ sec = s ∧ opnR xs < 0
  · obtain ⟨h1, h2, h3, h4⟩ := hok
    obtain rfl : n = m := by omega
    subst h3
    obtain ⟨Z, hZ, hZb⟩ := HST.out
    have HOP := Lib.hid (fun (W : World) (A5 : Option Addr) (c5 : Nat) (hW : Below w3.heap.size w3 W) (hr : RowZ W (· < W.heap.size) A5 n xs) (hnil : A5 = none → c5 = 0) (hmc : n ≤ c5) =>
      open_log_ok (StoreM.below hZ hW) (fun b h => Nat.lt_of_lt_of_le (hZb b h) hW.size) hr hnil hmc sec h1 rfl rfl h4)
    have hn40 := Lib.hid (show n ≤ 40 by have := ok_n h1 HXL.out; omega)
    have HD := Lib.hid (decide_eq_true h1)
    have H4 := Lib.hid h4
    clear h1 h2 h4 hZ hZb
    go_upto_region 7 with fail
    clear hnp
    refine Tillst.region (fun W => Below w3.heap.size w3 W) [] (by kernel_rfl) (Below.refl _ _).drew (fun hHeld => ?_)
    generalize w3.drew = v7 at *
    refine Tillst.take (i := 0) (oi := lq0) (v := ?_) rfl (by kernel_rfl) (by kernel_rfl) (by kernel_rfl) (by kernel_rfl) (fun _ _ _ h => h) (by rfl) ?_ hHeld ?_
    rotate_left
    · intro W hSW; (try dsimp only at hSW); unfold lq0; go_simp; with_reducible rfl
    simp only [lq0, Act.put, List.setIfInBounds_toArray, List.set_cons_zero, List.set_cons_succ]
    refine Tillst.take (i := 2) (oi := lq2) (v := .agg #[.int .i64 sec, .slice A n c]) rfl (by kernel_rfl) (by kernel_rfl) (by kernel_rfl) (by kernel_rfl) (fun _ _ _ h => h) (by rfl) ?_ hHeld ?_
    · intro W hSW; refine exec_load_row (.tmp 3) 35 ?_ w.heap.size 0 ?_ [.int .i64 sec, .slice A n c] _ Tryz.underlying35 rfl size_ring (ring_range (HK.out.below hSW HK.out.lt)) <;> rfl
    simp only [lq2, Act.put, List.setIfInBounds_toArray, List.set_cons_zero, List.set_cons_succ]
    refine Tillst.one (i := 1) (o := lq1) (by kernel_rfl) rfl ?_
    intro K hK
    refine step_call 23 #[.tmp 38] #[26] rfl rfl Tryz.func23 rfl rfl [.pointer (some ⟨l, 0, none⟩)] rfl ((log_super (HLG.out.below hHeld)).mono ?_)
    rintro e wq ⟨rfl, rfl⟩
    refine ⟨_, rfl, ?_⟩
    simp only [lq1, Act.put, List.setIfInBounds_toArray, List.set_cons_zero, List.set_cons_succ]
    refine hK.out _ _ (fun _ => hHeld) (fun _ => ?_)
    clear hK K
    have hT7 := HB3.out.trans (hHeld.mono HB3.out.size)
    refine Tillst.one (i := 3) (o := lq3) (by kernel_rfl) rfl ?_
    intro K hK
    refine step_call 34 #[.tmp 40] #[35] rfl rfl Tryz.func34 rfl rfl [.agg #[.int .i64 sec, .slice A n c]] rfl ((ref_copy_any ((HX.out.below hT7 (fun b h => h)).more (fun b h => Nat.lt_of_lt_of_le h hT7.size)) HNA.out sec HNB.out).mono ?_)
    rintro e w5 ⟨⟨A5, c5, rfl, hc5, hn5, ho5⟩, hb5⟩
    refine ⟨_, rfl, ?_⟩
    have hOZ := OwnZ.of HXL.out ⟨hc5, hn5, ho5⟩
    have HH5 := Lib.hid (hHeld.trans (hb5.mono hHeld.size))
    have HR5 := Lib.hid (hOZ.row.now)
    have HC5 := Lib.hid (And.intro hc5 hn5)
    clear hOZ ho5 hb5 hc5 hn5
    simp only [lq3, Act.put, List.setIfInBounds_toArray, List.set_cons_zero, List.set_cons_succ]
    refine hK.out _ _ (fun _ => HH5.out) (fun _ => ?_)
    clear hK K hHeld
    refine Tillst.one (i := 4) (o := lq4) (by kernel_rfl) rfl ?_
    intro K hK
    refine step_call 33 #[.tmp 39, .tmp 41] #[70, 35] rfl rfl Tryz.func33 rfl rfl [.pointer (some ⟨p, 0, none⟩), ringV sec A5 n c5] rfl ((HOP.out _ A5 c5 HH5.out HR5.out HC5.out.2 HC5.out.1).mono ?_)
    rintro e w6 ⟨l2, A6, c6, rfl, hL6, hc6, hn6, hl6, hb6⟩
    refine ⟨_, rfl, ?_⟩
    have HB6 := Lib.hid (HH5.out.trans (hb6.mono HH5.out.size))
    have HLc := Lib.hid hL6
    have HC6 := Lib.hid (And.intro hc6 hn6)
    clear hb6 HOP HR5 HC5 HH5 hL6 hc6 hn6 hl6
    simp only [lq4, Act.put, List.setIfInBounds_toArray, List.set_cons_zero, List.set_cons_succ]
    refine hK.out _ _ (fun _ => HB6.out) (fun _ => ?_)
    clear hK K
    have hHeld := HB6.out
    refine Tillst.take (i := 5) (oi := lq5) (v := ?_) rfl (by kernel_rfl) (by kernel_rfl) (by kernel_rfl) (by kernel_rfl) (fun _ _ _ h => h) (by rfl) ?_ hHeld ?_
    rotate_left
    · intro W hSW; (try dsimp only at hSW); unfold lq5; go_simp; with_reducible rfl
    simp only [lq5, Act.put, List.setIfInBounds_toArray, List.set_cons_zero, List.set_cons_succ]
    refine Tillst.take (i := 6) (oi := lq6) (v := ?_) rfl (by kernel_rfl) (by kernel_rfl) (by kernel_rfl) (by kernel_rfl) (fun _ _ _ h => h) (by rfl) ?_ hHeld ?_
    rotate_left
    · intro W hSW; (try dsimp only at hSW); unfold lq6; go_simp; with_reducible rfl
    simp only [lq6, Act.put, List.setIfInBounds_toArray, List.set_cons_zero, List.set_cons_succ]
    refine Tillst.take (i := 7) (oi := lq7) (v := ?_) rfl (by kernel_rfl) (by kernel_rfl) (by kernel_rfl) (by kernel_rfl) (fun _ _ _ h => h) (by rfl) ?_ hHeld ?_
    rotate_left
    · intro W hSW; (try dsimp only at hSW); unfold lq7; go_simp; with_reducible rfl
    simp only [lq7, Act.put, List.setIfInBounds_toArray, List.set_cons_zero, List.set_cons_succ]
    refine Tillst.take (i := 8) (oi := lq8) (v := ?_) rfl (by kernel_rfl) (by kernel_rfl) (by kernel_rfl) (by kernel_rfl) (fun _ _ _ h => h) (by rfl) ?_ hHeld ?_
    rotate_left
    · intro W hSW; (try dsimp only at hSW); unfold lq8; go_simp; with_reducible rfl
    simp only [lq8, Act.put, List.setIfInBounds_toArray, List.set_cons_zero, List.set_cons_succ]
    refine Tillst.take (i := 9) (oi := lq9) (v := ?_) rfl (by kernel_rfl) (by kernel_rfl) (by kernel_rfl) (by kernel_rfl) (fun _ _ _ h => h) (by rfl) ?_ hHeld ?_
    rotate_left
    · intro W hSW; (try dsimp only at hSW); unfold lq9; go_simp; with_reducible rfl
    simp only [lq9, Act.put, List.setIfInBounds_toArray, List.set_cons_zero, List.set_cons_succ]
    refine Tillst.done (by kernel_rfl) ?_ _
    have HKc := Lib.hid (HK.out.below HB6.out HK.out.lt)
    have HTc := Lib.hid (HB3.out.trans (HB6.out.mono HB3.out.size))
    have HXc := Lib.hid ((HX.out.below HTc.out (fun b h => h)).more (fun b h => Nat.lt_of_lt_of_le h HTc.out.size))
    clear hHeld
    have hdok := HD.out
    obtain ⟨q0, q1⟩ := ring_cells HKc.out
    have HRT := Lib.hid (ref_right_any (cap := c) HXc.out sec HPOS.out)
    rw [hdok] at HRT
    go_wp2_with fail
    refine HRT.out.mono ?_
    rintro e w7 ⟨rfl, hbn⟩
    have HLc := Lib.hid (HLc.out.below hbn)
    clear HRT q0 q1
    have HKc := Lib.hid (HKc.out.below hbn HKc.out.lt)
    have HTc := Lib.hid (HTc.out.trans (hbn.mono HTc.out.size))
    have HXc := Lib.hid ((HX.out.below HTc.out (fun b h => h)).more (fun b h => Nat.lt_of_lt_of_le h HTc.out.size))
    clear hbn
    obtain ⟨q0, q1⟩ := ring_cells HKc.out
    clear hdok
    have HON := Lib.hid (ref_opened (cap := c) HXc.out sec hn40.out)
    go_wp2_with fail
    refine HON.out.mono ?_
    rintro e w8 ⟨rfl, hbn⟩
    have HLc := Lib.hid (HLc.out.below hbn)
    clear HON q0 q1
    have HKc := Lib.hid (HKc.out.below hbn HKc.out.lt)
    have HTc := Lib.hid (HTc.out.trans (hbn.mono HTc.out.size))
    have HXc := Lib.hid ((HX.out.below HTc.out (fun b h => h)).more (fun b h => Nat.lt_of_lt_of_le h HTc.out.size))
    clear hbn
    have h4 := H4.out
    go_upto_region 15 with fail
    clear h4
    refine Tillst.region (fun W => Below w8.heap.size w8 W) [] (by kernel_rfl) (Below.refl _ _).drew (fun hHeld => ?_)
    generalize w8.drew = v8 at *
    refine Tillst.take (i := 0) (oi := lr0) (v := ?_) rfl (by kernel_rfl) (by kernel_rfl) (by kernel_rfl) (by kernel_rfl) (fun _ _ _ h => h) (by rfl) ?_ hHeld ?_
    rotate_left
    · intro W hSW; (try dsimp only at hSW); unfold lr0; go_simp; with_reducible rfl
    simp only [lr0, Act.put, List.setIfInBounds_toArray, List.set_cons_zero, List.set_cons_succ]
    refine Tillst.take (i := 1) (oi := lr1) (v := ?_) rfl (by kernel_rfl) (by kernel_rfl) (by kernel_rfl) (by kernel_rfl) (fun _ _ _ h => h) (by rfl) ?_ hHeld ?_
    rotate_left
    · intro W hSW; (try dsimp only at hSW); unfold lr1; go_simp; with_reducible rfl
    simp only [lr1, Act.put, List.setIfInBounds_toArray, List.set_cons_zero, List.set_cons_succ]
    refine Tillst.take (i := 2) (oi := lr2) (v := ?_) rfl (by kernel_rfl) (by kernel_rfl) (by kernel_rfl) (by kernel_rfl) (fun _ _ _ h => h) (by rfl) ?_ hHeld ?_
    rotate_left
    · intro W hSW; (try dsimp only at hSW); unfold lr2; go_simp; with_reducible rfl
    simp only [lr2, Act.put, List.setIfInBounds_toArray, List.set_cons_zero, List.set_cons_succ]
    refine Tillst.take (i := 3) (oi := lr3) (v := ?_) rfl (by kernel_rfl) (by kernel_rfl) (by kernel_rfl) (by kernel_rfl) (fun _ _ _ h => h) (by rfl) ?_ hHeld ?_
    rotate_left
    · intro W hSW; (try dsimp only at hSW); unfold lr3; go_simp; with_reducible rfl
    simp only [lr3, Act.put, List.setIfInBounds_toArray, List.set_cons_zero, List.set_cons_succ]
    refine Tillst.take (i := 4) (oi := lr4) (v := ?_) rfl (by kernel_rfl) (by kernel_rfl) (by kernel_rfl) (by kernel_rfl) (fun _ _ _ h => h) (by rfl) ?_ hHeld ?_
    rotate_left
    · intro W hSW; (try dsimp only at hSW); unfold lr4; go_simp; with_reducible rfl
    simp only [lr4, Act.put, List.setIfInBounds_toArray, List.set_cons_zero, List.set_cons_succ]
    refine Tillst.take (i := 5) (oi := lr5) (v := ?_) rfl (by kernel_rfl) (by kernel_rfl) (by kernel_rfl) (by kernel_rfl) (fun _ _ _ h => h) (by rfl) ?_ hHeld ?_
    rotate_left
    · intro W hSW; (try dsimp only at hSW); unfold lr5; go_simp; with_reducible rfl
    simp only [lr5, Act.put, List.setIfInBounds_toArray, List.set_cons_zero, List.set_cons_succ]
    refine Tillst.take (i := 6) (oi := lr6) (v := ?_) rfl (by kernel_rfl) (by kernel_rfl) (by kernel_rfl) (by kernel_rfl) (fun _ _ _ h => h) (by rfl) ?_ hHeld ?_
    rotate_left
    · intro W hSW; (try dsimp only at hSW); unfold lr6; go_simp; with_reducible rfl
    simp only [lr6, Act.put, List.setIfInBounds_toArray, List.set_cons_zero, List.set_cons_succ]
    refine Tillst.take (i := 7) (oi := lr7) (v := ?_) rfl (by kernel_rfl) (by kernel_rfl) (by kernel_rfl) (by kernel_rfl) (fun _ _ _ h => h) (by rfl) ?_ hHeld ?_
    rotate_left
    · intro W hSW; (try dsimp only at hSW); unfold lr7; go_simp; with_reducible rfl
    simp only [lr7, Act.put, List.setIfInBounds_toArray, List.set_cons_zero, List.set_cons_succ]
    refine Tillst.take (i := 8) (oi := lr8) (v := ?_) rfl (by kernel_rfl) (by kernel_rfl) (by kernel_rfl) (by kernel_rfl) (fun _ _ _ h => h) (by rfl) ?_ hHeld ?_
    rotate_left
    · intro W hSW; (try dsimp only at hSW); unfold lr8; go_simp; with_reducible rfl
    simp only [lr8, Act.put, List.setIfInBounds_toArray, List.set_cons_zero, List.set_cons_succ]
    refine Tillst.take (i := 9) (oi := lr9) (v := ?_) rfl (by kernel_rfl) (by kernel_rfl) (by kernel_rfl) (by kernel_rfl) (fun _ _ _ h => h) (by rfl) ?_ hHeld ?_
    rotate_left
    · intro W hSW; (try dsimp only at hSW); unfold lr9; go_simp; with_reducible rfl
    simp only [lr9, Act.put, List.setIfInBounds_toArray, List.set_cons_zero, List.set_cons_succ]
    refine Tillst.take (i := 10) (oi := lr10) (v := ?_) rfl (by kernel_rfl) (by kernel_rfl) (by kernel_rfl) (by kernel_rfl) (fun _ _ _ h => h) (by rfl) ?_ hHeld ?_
    rotate_left
    · intro W hSW; (try dsimp only at hSW); unfold lr10; go_simp; with_reducible rfl
    simp only [lr10, Act.put, List.setIfInBounds_toArray, List.set_cons_zero, List.set_cons_succ]
    refine Tillst.take (i := 11) (oi := lr11) (v := ?_) rfl (by kernel_rfl) (by kernel_rfl) (by kernel_rfl) (by kernel_rfl) (fun _ _ _ h => h) (by rfl) ?_ hHeld ?_
    rotate_left
    · intro W hSW; (try dsimp only at hSW); unfold lr11; go_simp; with_reducible rfl
    simp only [lr11, Act.put, List.setIfInBounds_toArray, List.set_cons_zero, List.set_cons_succ]
    refine Tillst.take (i := 12) (oi := lr12) (v := ?_) rfl (by kernel_rfl) (by kernel_rfl) (by kernel_rfl) (by kernel_rfl) (fun _ _ _ h => h) (by rfl) ?_ hHeld ?_
    rotate_left
    · intro W hSW; (try dsimp only at hSW); unfold lr12; go_simp; with_reducible rfl
    simp only [lr12, Act.put, List.setIfInBounds_toArray, List.set_cons_zero, List.set_cons_succ]
    refine Tillst.take (i := 13) (oi := lr13) (v := ?_) rfl (by kernel_rfl) (by kernel_rfl) (by kernel_rfl) (by kernel_rfl) (fun _ _ _ h => h) (by rfl) ?_ hHeld ?_
    rotate_left
    · intro W hSW; (try dsimp only at hSW); unfold lr13; go_simp; with_reducible rfl
    simp only [lr13, Act.put, List.setIfInBounds_toArray, List.set_cons_zero, List.set_cons_succ]
    refine Tillst.take (i := 14) (oi := lr14) (v := ?_) rfl (by kernel_rfl) (by kernel_rfl) (by kernel_rfl) (by kernel_rfl) (fun _ _ _ h => h) (by rfl) ?_ hHeld ?_
    rotate_left
    · intro W hSW; (try dsimp only at hSW); unfold lr14; go_simp; with_reducible rfl
    simp only [lr14, Act.put, List.setIfInBounds_toArray, List.set_cons_zero, List.set_cons_succ]
    refine Tillst.take (i := 16) (oi := lr16) (v := .agg #[.int .i64 sec, .slice A n c]) rfl (by kernel_rfl) (by kernel_rfl) (by kernel_rfl) (by kernel_rfl) (fun _ _ _ h => h) (by rfl) ?_ hHeld ?_
    · intro W hSW; refine exec_load_row (.tmp 3) 35 ?_ w.heap.size 0 ?_ [.int .i64 sec, .slice A n c] _ Tryz.underlying35 rfl size_ring (ring_range (HKc.out.below hSW HKc.out.lt)) <;> rfl
    simp only [lr16, Act.put, List.setIfInBounds_toArray, List.set_cons_zero, List.set_cons_succ]
    refine Tillst.one (i := 15) (o := lr15) (by kernel_rfl) rfl ?_
    intro K hK
    refine step_call 29 #[.tmp 79] #[26] rfl rfl Tryz.func29 rfl rfl [.pointer (some ⟨l2, 0, none⟩)] rfl ((log_ring (HLc.out.below hHeld) HC6.out.2 HC6.out.1 (Nat.le_trans hn40.out (by decide))).mono ?_)
    rintro e wr ⟨⟨A8, c8, rfl, ho8⟩, hb8⟩
    refine ⟨_, rfl, ?_⟩
    have HB8 := Lib.hid (hHeld.trans (hb8.mono hHeld.size))
    have HO8 := Lib.hid ho8.row.now
    clear hHeld hb8 ho8
    simp only [lr15, Act.put, List.setIfInBounds_toArray, List.set_cons_zero, List.set_cons_succ]
    refine hK.out _ _ (fun _ => HB8.out) (fun _ => ?_)
    clear hK K
    have HT8 := Lib.hid (HTc.out.trans (HB8.out.mono HTc.out.size))
    refine Tillst.one (i := 17) (o := lr17) (by kernel_rfl) rfl ?_
    intro K hK
    refine step_call 28 #[.tmp 80, .tmp 81] #[35, 35] rfl rfl Tryz.func28 rfl rfl [ringV sec A8 n c8, ringV sec A n c] rfl ((ref_same HO8.out ((HX.out.below HT8.out (fun b h => h)).more (fun b h => Nat.lt_of_lt_of_le h HT8.out.size)) sec sec (Nat.le_trans hn40.out (by decide))).mono ?_)
    rintro e ws ⟨rfl, hb9⟩
    refine ⟨_, rfl, ?_⟩
    have hdd : decide (sec = sec ∧ xs = xs) = true := by simp
    rw [hdd]
    have hHeld := HB8.out.trans (hb9.mono HB8.out.size)
    clear hb9 hdd
    simp only [lr17, Act.put, List.setIfInBounds_toArray, List.set_cons_zero, List.set_cons_succ]
    refine hK.out _ _ (fun _ => hHeld) (fun _ => ?_)
    clear hK K
    refine Tillst.take (i := 18) (oi := lr18) (v := ?_) rfl (by kernel_rfl) (by kernel_rfl) (by kernel_rfl) (by kernel_rfl) (fun _ _ _ h => h) (by rfl) ?_ hHeld ?_
    rotate_left
    · intro W hSW; (try dsimp only at hSW); unfold lr18; go_simp; with_reducible rfl
    simp only [lr18, Act.put, List.setIfInBounds_toArray, List.set_cons_zero, List.set_cons_succ]
    refine Tillst.take (i := 19) (oi := lr19) (v := ?_) rfl (by kernel_rfl) (by kernel_rfl) (by kernel_rfl) (by kernel_rfl) (fun _ _ _ h => h) (by rfl) ?_ hHeld ?_
    rotate_left
    · intro W hSW; (try dsimp only at hSW); unfold lr19; go_simp; with_reducible rfl
    simp only [lr19, Act.put, List.setIfInBounds_toArray, List.set_cons_zero, List.set_cons_succ]
    refine Tillst.take (i := 20) (oi := lr20) (v := ?_) rfl (by kernel_rfl) (by kernel_rfl) (by kernel_rfl) (by kernel_rfl) (fun _ _ _ h => h) (by rfl) ?_ hHeld ?_
    rotate_left
    · intro W hSW; (try dsimp only at hSW); unfold lr20; go_simp; with_reducible rfl
    simp only [lr20, Act.put, List.setIfInBounds_toArray, List.set_cons_zero, List.set_cons_succ]
    refine Tillst.done (by kernel_rfl) ?_ _
    have HKc := Lib.hid (HKc.out.below hHeld HKc.out.lt)
    have HTc := Lib.hid (HTc.out.trans (hHeld.mono HTc.out.size))
    clear hHeld HB8 HO8 HT8 HLc HXc HC6
    obtain ⟨q0, q1⟩ := ring_cells HKc.out
    go_wp2_with fail
    refine (open_nil_l A n c sec _).mono ?_
    rintro e wt1 ⟨rfl, hbn⟩
    clear q0 q1 HKc
    have HTc := Lib.hid (HTc.out.trans (hbn.mono HTc.out.size))
    clear hbn
    go_wp2_with fail
    refine (append_nil _ _ _ _ _ _ _ _ _ _ _).mono ?_
    rintro e wt2 ⟨rfl, hbn⟩
    have HTc := Lib.hid (HTc.out.trans (hbn.mono HTc.out.size))
    clear hbn
    have HTc := Lib.hid (HTc.out.alloc HTc.out.size (.cells #[.int .i64 0, .int .u64 0, .int .i64 0] 46))
    go_wp2_with fail
    refine (read_nil_l _ _ _ _).mono ?_
    rintro e wt3 ⟨rfl, hbn⟩
    have HTc := Lib.hid (HTc.out.trans (hbn.mono HTc.out.size))
    clear hbn
    have HBN := Lib.hid (Blk.new wt3 44 zeroC)
    go_wp2_with (refine wpList_store_rowB (.tmp 17) (.tmp 101) 44 rfl rfl wt3.heap.size zeroC rfl rfl 44 _ HBN.out size_rec rfl one_zero ?_)
    have HTc := Lib.hid (below_setRow (HTc.out.alloc HTc.out.size (.cells zeroC 44)) HTc.out.size zeroC)
    refine (scan_nil9 0 _).mono ?_
    rintro e wt4 ⟨rfl, hbn⟩
    have HTc := Lib.hid (HTc.out.trans (hbn.mono HTc.out.size))
    clear hbn
    have HTc := Lib.hid (HTc.out.alloc HTc.out.size (.cells zeroS9 67))
    go_wp2_with fail
    refine (sync_nil_l _).mono ?_
    rintro e wt5 ⟨rfl, rfl⟩
    go_wp2_with fail
    refine (free_nil_l 0 _).mono ?_
    rintro e wt6 ⟨rfl, rfl⟩
    go_wp2_with fail
    refine (ring_nil_l _).mono ?_
    rintro e wt7 ⟨rfl, hbn⟩
    unfold ringV
    have hfld := run_field_segs wt7
    have HTc := Lib.hid (HTc.out.trans (hbn.mono HTc.out.size))
    clear hbn
    go_wp2_with fail
    refine (super_nil _).mono ?_
    rintro e wt8 ⟨rfl, rfl⟩
    go_wp2_with fail
    refine (broken_nil _).mono ?_
    rintro e wt9 ⟨rfl, rfl⟩
    go_wp2
    (first | go_ret | go_ret2)
    exact ⟨rfl, HTc.out⟩
  · obtain ⟨E, hE0, hwant, HOP⟩ : ∃ E : Int, E ≠ 0 ∧ wantO m s sec n xs E ∧ Hid (∀ (W : World) (A5 : Option Addr) (c5 : Nat), Below w3.heap.size w3 W → RowZ W (· < W.heap.size) A5 n xs →
        Calls Tryz.prog 33 #[.pointer (some ⟨p, 0, none⟩), ringV sec A5 n c5] W fun e w' => e = .returned (.tuple #[.pointer none, .int .i64 E]) ∧ Below W.heap.size W w') := by
      obtain ⟨Z, hZ, _⟩ := HST.out
      by_cases h1 : OkR sec xs
      · by_cases h2 : (n : Int) = m ∧ sec = s
        · exact ⟨181, by decide, .inr (.inr (.inl ⟨rfl, h1, h2.1, h2.2, by
            rcases Int.lt_or_le (opnR xs) 0 with h | h
            · exact absurd ⟨h1, h2.1, h2.2, h⟩ hok
            · exact h⟩)), Lib.hid fun W A5 c5 hW hr => open_log_state (StoreM.below hZ hW) hr sec h1 h2.1 h2.2 (by
            rcases Int.lt_or_le (opnR xs) 0 with h | h
            · exact absurd ⟨h1, h2.1, h2.2, h⟩ hok
            · exact h)⟩
        · exact ⟨2, by decide, .inr (.inl ⟨rfl, h1, h2⟩), Lib.hid fun W A5 c5 hW hr => open_log_arg (StoreM.below hZ hW) hr sec h1 h2⟩
      · exact ⟨180, by decide, .inl ⟨rfl, h1⟩, Lib.hid fun W A5 c5 hW hr => open_log_ring (StoreM.below hZ hW) hr sec h1⟩
    have HWT := Lib.hid hwant
    have HE0 := Lib.hid hE0
    clear hwant hE0 hok
    go_upto_region 7 with fail
    clear hnp
    refine Tillst.region (fun W => Below w3.heap.size w3 W) [] (by kernel_rfl) (Below.refl _ _).drew (fun hHeld => ?_)
    generalize w3.drew = v7 at *
    refine Tillst.take (i := 0) (oi := lq0) (v := ?_) rfl (by kernel_rfl) (by kernel_rfl) (by kernel_rfl) (by kernel_rfl) (fun _ _ _ h => h) (by rfl) ?_ hHeld ?_
    rotate_left
    · intro W hSW; (try dsimp only at hSW); unfold lq0; go_simp; with_reducible rfl
    simp only [lq0, Act.put, List.setIfInBounds_toArray, List.set_cons_zero, List.set_cons_succ]
    refine Tillst.take (i := 2) (oi := lq2) (v := .agg #[.int .i64 sec, .slice A n c]) rfl (by kernel_rfl) (by kernel_rfl) (by kernel_rfl) (by kernel_rfl) (fun _ _ _ h => h) (by rfl) ?_ hHeld ?_
    · intro W hSW; refine exec_load_row (.tmp 3) 35 ?_ w.heap.size 0 ?_ [.int .i64 sec, .slice A n c] _ Tryz.underlying35 rfl size_ring (ring_range (HK.out.below hSW HK.out.lt)) <;> rfl
    simp only [lq2, Act.put, List.setIfInBounds_toArray, List.set_cons_zero, List.set_cons_succ]
    refine Tillst.one (i := 1) (o := lq1) (by kernel_rfl) rfl ?_
    intro K hK
    refine step_call 23 #[.tmp 38] #[26] rfl rfl Tryz.func23 rfl rfl [.pointer (some ⟨l, 0, none⟩)] rfl ((log_super (HLG.out.below hHeld)).mono ?_)
    rintro e wq ⟨rfl, rfl⟩
    refine ⟨_, rfl, ?_⟩
    simp only [lq1, Act.put, List.setIfInBounds_toArray, List.set_cons_zero, List.set_cons_succ]
    refine hK.out _ _ (fun _ => hHeld) (fun _ => ?_)
    clear hK K
    have hT7 := HB3.out.trans (hHeld.mono HB3.out.size)
    refine Tillst.one (i := 3) (o := lq3) (by kernel_rfl) rfl ?_
    intro K hK
    refine step_call 34 #[.tmp 40] #[35] rfl rfl Tryz.func34 rfl rfl [.agg #[.int .i64 sec, .slice A n c]] rfl ((ref_copy_any ((HX.out.below hT7 (fun b h => h)).more (fun b h => Nat.lt_of_lt_of_le h hT7.size)) HNA.out sec HNB.out).mono ?_)
    rintro e w5 ⟨⟨A5, c5, rfl, hc5, hn5, ho5⟩, hb5⟩
    refine ⟨_, rfl, ?_⟩
    have hOZ := OwnZ.of HXL.out ⟨hc5, hn5, ho5⟩
    have HH5 := Lib.hid (hHeld.trans (hb5.mono hHeld.size))
    have HR5 := Lib.hid (hOZ.row.now)
    have HC5 := Lib.hid (And.intro hc5 hn5)
    clear hOZ ho5 hb5 hc5 hn5
    simp only [lq3, Act.put, List.setIfInBounds_toArray, List.set_cons_zero, List.set_cons_succ]
    refine hK.out _ _ (fun _ => HH5.out) (fun _ => ?_)
    clear hK K hHeld
    refine Tillst.one (i := 4) (o := lq4) (by kernel_rfl) rfl ?_
    intro K hK
    refine step_call 33 #[.tmp 39, .tmp 41] #[70, 35] rfl rfl Tryz.func33 rfl rfl [.pointer (some ⟨p, 0, none⟩), ringV sec A5 n c5] rfl ((HOP.out _ A5 c5 HH5.out HR5.out).mono ?_)
    rintro e w6 ⟨rfl, hb6⟩
    refine ⟨_, rfl, ?_⟩
    have HB6 := Lib.hid (HH5.out.trans (hb6.mono HH5.out.size))
    clear hb6 HOP HR5 HC5 HH5
    simp only [lq4, Act.put, List.setIfInBounds_toArray, List.set_cons_zero, List.set_cons_succ]
    refine hK.out _ _ (fun _ => HB6.out) (fun _ => ?_)
    clear hK K
    have hHeld := HB6.out
    refine Tillst.take (i := 5) (oi := lq5) (v := ?_) rfl (by kernel_rfl) (by kernel_rfl) (by kernel_rfl) (by kernel_rfl) (fun _ _ _ h => h) (by rfl) ?_ hHeld ?_
    rotate_left
    · intro W hSW; (try dsimp only at hSW); unfold lq5; go_simp; with_reducible rfl
    simp only [lq5, Act.put, List.setIfInBounds_toArray, List.set_cons_zero, List.set_cons_succ]
    refine Tillst.take (i := 6) (oi := lq6) (v := ?_) rfl (by kernel_rfl) (by kernel_rfl) (by kernel_rfl) (by kernel_rfl) (fun _ _ _ h => h) (by rfl) ?_ hHeld ?_
    rotate_left
    · intro W hSW; (try dsimp only at hSW); unfold lq6; go_simp; with_reducible rfl
    simp only [lq6, Act.put, List.setIfInBounds_toArray, List.set_cons_zero, List.set_cons_succ]
    refine Tillst.take (i := 7) (oi := lq7) (v := ?_) rfl (by kernel_rfl) (by kernel_rfl) (by kernel_rfl) (by kernel_rfl) (fun _ _ _ h => h) (by rfl) ?_ hHeld ?_
    rotate_left
    · intro W hSW; (try dsimp only at hSW); unfold lq7; go_simp; with_reducible rfl
    simp only [lq7, Act.put, List.setIfInBounds_toArray, List.set_cons_zero, List.set_cons_succ]
    refine Tillst.take (i := 8) (oi := lq8) (v := ?_) rfl (by kernel_rfl) (by kernel_rfl) (by kernel_rfl) (by kernel_rfl) (fun _ _ _ h => h) (by rfl) ?_ hHeld ?_
    rotate_left
    · intro W hSW; (try dsimp only at hSW); unfold lq8; go_simp; with_reducible rfl
    simp only [lq8, Act.put, List.setIfInBounds_toArray, List.set_cons_zero, List.set_cons_succ]
    refine Tillst.take (i := 9) (oi := lq9) (v := ?_) rfl (by kernel_rfl) (by kernel_rfl) (by kernel_rfl) (by kernel_rfl) (fun _ _ _ h => h) (by rfl) ?_ hHeld ?_
    rotate_left
    · intro W hSW; (try dsimp only at hSW); unfold lq9; go_simp; with_reducible rfl
    simp only [lq9, Act.put, List.setIfInBounds_toArray, List.set_cons_zero, List.set_cons_succ]
    refine Tillst.done (by kernel_rfl) ?_ _
    have HKc := Lib.hid (HK.out.below HB6.out HK.out.lt)
    have HTc := Lib.hid (HB3.out.trans (HB6.out.mono HB3.out.size))
    have HXc := Lib.hid ((HX.out.below HTc.out (fun b h => h)).more (fun b h => Nat.lt_of_lt_of_le h HTc.out.size))
    clear hHeld
    have HWT2 := HWT.out
    rcases HWT2 with ⟨rfl, h1⟩ | ⟨rfl, h1, h2⟩ | ⟨rfl, h1, h2, h3, h4⟩ | ⟨rfl, _⟩
    · have hdok := decide_eq_false h1
      obtain ⟨q0, q1⟩ := ring_cells HKc.out
      have HRT := Lib.hid (ref_right_any (cap := c) HXc.out sec HPOS.out)
      rw [hdok] at HRT
      go_wp2_with fail
      refine HRT.out.mono ?_
      rintro e w7 ⟨rfl, hbn⟩
      clear HRT q0 q1
      have HKc := Lib.hid (HKc.out.below hbn HKc.out.lt)
      have HTc := Lib.hid (HTc.out.trans (hbn.mono HTc.out.size))
      have HXc := Lib.hid ((HX.out.below HTc.out (fun b h => h)).more (fun b h => Nat.lt_of_lt_of_le h HTc.out.size))
      clear hbn
      obtain ⟨q0, q1⟩ := ring_cells HKc.out
      clear hdok q0 q1
      go_upto_region 15 with fail
      refine Tillst.region (fun W => True) [] (by kernel_rfl) trivial (fun hHeld => ?_)
      refine Tillst.take (i := 0) (oi := lr0) (v := ?_) rfl (by kernel_rfl) (by kernel_rfl) (by kernel_rfl) (by kernel_rfl) (fun _ _ _ h => h) (by rfl) ?_ hHeld ?_
      rotate_left
      · intro W hSW; (try dsimp only at hSW); unfold lr0; go_simp; with_reducible rfl
      simp only [lr0, Act.put, List.setIfInBounds_toArray, List.set_cons_zero, List.set_cons_succ]
      refine Tillst.take (i := 1) (oi := lr1) (v := ?_) rfl (by kernel_rfl) (by kernel_rfl) (by kernel_rfl) (by kernel_rfl) (fun _ _ _ h => h) (by rfl) ?_ hHeld ?_
      rotate_left
      · intro W hSW; (try dsimp only at hSW); unfold lr1; go_simp; with_reducible rfl
      simp only [lr1, Act.put, List.setIfInBounds_toArray, List.set_cons_zero, List.set_cons_succ]
      refine Tillst.take (i := 2) (oi := lr2) (v := ?_) rfl (by kernel_rfl) (by kernel_rfl) (by kernel_rfl) (by kernel_rfl) (fun _ _ _ h => h) (by rfl) ?_ hHeld ?_
      rotate_left
      · intro W hSW; (try dsimp only at hSW); unfold lr2; go_simp; with_reducible rfl
      simp only [lr2, Act.put, List.setIfInBounds_toArray, List.set_cons_zero, List.set_cons_succ]
      refine Tillst.take (i := 3) (oi := lr3) (v := ?_) rfl (by kernel_rfl) (by kernel_rfl) (by kernel_rfl) (by kernel_rfl) (fun _ _ _ h => h) (by rfl) ?_ hHeld ?_
      rotate_left
      · intro W hSW; (try dsimp only at hSW); unfold lr3; go_simp; with_reducible rfl
      simp only [lr3, Act.put, List.setIfInBounds_toArray, List.set_cons_zero, List.set_cons_succ]
      refine Tillst.take (i := 4) (oi := lr4) (v := ?_) rfl (by kernel_rfl) (by kernel_rfl) (by kernel_rfl) (by kernel_rfl) (fun _ _ _ h => h) (by rfl) ?_ hHeld ?_
      rotate_left
      · intro W hSW; (try dsimp only at hSW); unfold lr4; go_simp; with_reducible rfl
      simp only [lr4, Act.put, List.setIfInBounds_toArray, List.set_cons_zero, List.set_cons_succ]
      refine Tillst.take (i := 5) (oi := lr5) (v := ?_) rfl (by kernel_rfl) (by kernel_rfl) (by kernel_rfl) (by kernel_rfl) (fun _ _ _ h => h) (by rfl) ?_ hHeld ?_
      rotate_left
      · intro W hSW; (try dsimp only at hSW); unfold lr5; go_simp; with_reducible rfl
      simp only [lr5, Act.put, List.setIfInBounds_toArray, List.set_cons_zero, List.set_cons_succ]
      refine Tillst.take (i := 6) (oi := lr6) (v := ?_) rfl (by kernel_rfl) (by kernel_rfl) (by kernel_rfl) (by kernel_rfl) (fun _ _ _ h => h) (by rfl) ?_ hHeld ?_
      rotate_left
      · intro W hSW; (try dsimp only at hSW); unfold lr6; go_simp; with_reducible rfl
      simp only [lr6, Act.put, List.setIfInBounds_toArray, List.set_cons_zero, List.set_cons_succ]
      refine Tillst.take (i := 7) (oi := lr7) (v := ?_) rfl (by kernel_rfl) (by kernel_rfl) (by kernel_rfl) (by kernel_rfl) (fun _ _ _ h => h) (by rfl) ?_ hHeld ?_
      rotate_left
      · intro W hSW; (try dsimp only at hSW); unfold lr7; go_simp; with_reducible rfl
      simp only [lr7, Act.put, List.setIfInBounds_toArray, List.set_cons_zero, List.set_cons_succ]
      refine Tillst.take (i := 8) (oi := lr8) (v := ?_) rfl (by kernel_rfl) (by kernel_rfl) (by kernel_rfl) (by kernel_rfl) (fun _ _ _ h => h) (by rfl) ?_ hHeld ?_
      rotate_left
      · intro W hSW; (try dsimp only at hSW); unfold lr8; go_simp; with_reducible rfl
      simp only [lr8, Act.put, List.setIfInBounds_toArray, List.set_cons_zero, List.set_cons_succ]
      refine Tillst.take (i := 9) (oi := lr9) (v := ?_) rfl (by kernel_rfl) (by kernel_rfl) (by kernel_rfl) (by kernel_rfl) (fun _ _ _ h => h) (by rfl) ?_ hHeld ?_
      rotate_left
      · intro W hSW; (try dsimp only at hSW); unfold lr9; go_simp; with_reducible rfl
      simp only [lr9, Act.put, List.setIfInBounds_toArray, List.set_cons_zero, List.set_cons_succ]
      refine Tillst.take (i := 10) (oi := lr10) (v := ?_) rfl (by kernel_rfl) (by kernel_rfl) (by kernel_rfl) (by kernel_rfl) (fun _ _ _ h => h) (by rfl) ?_ hHeld ?_
      rotate_left
      · intro W hSW; (try dsimp only at hSW); unfold lr10; go_simp; with_reducible rfl
      simp only [lr10, Act.put, List.setIfInBounds_toArray, List.set_cons_zero, List.set_cons_succ]
      refine Tillst.take (i := 11) (oi := lr11) (v := ?_) rfl (by kernel_rfl) (by kernel_rfl) (by kernel_rfl) (by kernel_rfl) (fun _ _ _ h => h) (by rfl) ?_ hHeld ?_
      rotate_left
      · intro W hSW; (try dsimp only at hSW); unfold lr11; go_simp; with_reducible rfl
      simp only [lr11, Act.put, List.setIfInBounds_toArray, List.set_cons_zero, List.set_cons_succ]
      refine Tillst.take (i := 12) (oi := lr12) (v := ?_) rfl (by kernel_rfl) (by kernel_rfl) (by kernel_rfl) (by kernel_rfl) (fun _ _ _ h => h) (by rfl) ?_ hHeld ?_
      rotate_left
      · intro W hSW; (try dsimp only at hSW); unfold lr12; go_simp; with_reducible rfl
      simp only [lr12, Act.put, List.setIfInBounds_toArray, List.set_cons_zero, List.set_cons_succ]
      refine Tillst.take (i := 13) (oi := lr13) (v := ?_) rfl (by kernel_rfl) (by kernel_rfl) (by kernel_rfl) (by kernel_rfl) (fun _ _ _ h => h) (by rfl) ?_ hHeld ?_
      rotate_left
      · intro W hSW; (try dsimp only at hSW); unfold lr13; go_simp; with_reducible rfl
      simp only [lr13, Act.put, List.setIfInBounds_toArray, List.set_cons_zero, List.set_cons_succ]
      refine Tillst.skip (i := 14) (oi := lr14) rfl (by kernel_rfl) (by kernel_rfl) (by kernel_rfl) (by kernel_rfl) (fun _ _ _ h => h) (by rfl) hHeld ?_
      simp only [lr14, Act.put, List.setIfInBounds_toArray, List.set_cons_zero, List.set_cons_succ]
      refine Tillst.skip (i := 15) (oi := lr15) rfl (by kernel_rfl) (by kernel_rfl) (by kernel_rfl) (by kernel_rfl) (fun _ _ _ h => h) (by rfl) hHeld ?_
      simp only [lr15, Act.put, List.setIfInBounds_toArray, List.set_cons_zero, List.set_cons_succ]
      refine Tillst.skip (i := 16) (oi := lr16) rfl (by kernel_rfl) (by kernel_rfl) (by kernel_rfl) (by kernel_rfl) (fun _ _ _ h => h) (by rfl) hHeld ?_
      simp only [lr16, Act.put, List.setIfInBounds_toArray, List.set_cons_zero, List.set_cons_succ]
      refine Tillst.skip (i := 17) (oi := lr17) rfl (by kernel_rfl) (by kernel_rfl) (by kernel_rfl) (by kernel_rfl) (fun _ _ _ h => h) (by rfl) hHeld ?_
      simp only [lr17, Act.put, List.setIfInBounds_toArray, List.set_cons_zero, List.set_cons_succ]
      refine Tillst.skip (i := 18) (oi := lr18) rfl (by kernel_rfl) (by kernel_rfl) (by kernel_rfl) (by kernel_rfl) (fun _ _ _ h => h) (by rfl) hHeld ?_
      simp only [lr18, Act.put, List.setIfInBounds_toArray, List.set_cons_zero, List.set_cons_succ]
      refine Tillst.take (i := 19) (oi := lr19) (v := ?_) rfl (by kernel_rfl) (by kernel_rfl) (by kernel_rfl) (by kernel_rfl) (fun _ _ _ h => h) (by rfl) ?_ hHeld ?_
      rotate_left
      · intro W hSW; (try dsimp only at hSW); unfold lr19; go_simp; with_reducible rfl
      simp only [lr19, Act.put, List.setIfInBounds_toArray, List.set_cons_zero, List.set_cons_succ]
      refine Tillst.take (i := 20) (oi := lr20) (v := ?_) rfl (by kernel_rfl) (by kernel_rfl) (by kernel_rfl) (by kernel_rfl) (fun _ _ _ h => h) (by rfl) ?_ hHeld ?_
      rotate_left
      · intro W hSW; (try dsimp only at hSW); unfold lr20; go_simp; with_reducible rfl
      simp only [lr20, Act.put, List.setIfInBounds_toArray, List.set_cons_zero, List.set_cons_succ]
      refine Tillst.done (by kernel_rfl) ?_ _
      have HKc := Lib.hid (HKc.out.drew)
      have HTc := Lib.hid (HTc.out.drew)
      clear HXc hHeld
      generalize hwy : World.drew _ = wy at HKc HTc ⊢
      clear hwy
      obtain ⟨q0, q1⟩ := ring_cells HKc.out
      go_wp2_with fail
      refine (open_nil_l A n c sec _).mono ?_
      rintro e wt1 ⟨rfl, hbn⟩
      clear q0 q1 HKc
      have HTc := Lib.hid (HTc.out.trans (hbn.mono HTc.out.size))
      clear hbn
      go_wp2_with fail
      refine (append_nil _ _ _ _ _ _ _ _ _ _ _).mono ?_
      rintro e wt2 ⟨rfl, hbn⟩
      have HTc := Lib.hid (HTc.out.trans (hbn.mono HTc.out.size))
      clear hbn
      have HTc := Lib.hid (HTc.out.alloc HTc.out.size (.cells #[.int .i64 0, .int .u64 0, .int .i64 0] 46))
      go_wp2_with fail
      refine (read_nil_l _ _ _ _).mono ?_
      rintro e wt3 ⟨rfl, hbn⟩
      have HTc := Lib.hid (HTc.out.trans (hbn.mono HTc.out.size))
      clear hbn
      have HBN := Lib.hid (Blk.new wt3 44 zeroC)
      go_wp2_with (refine wpList_store_rowB (.tmp 17) (.tmp 101) 44 rfl rfl wt3.heap.size zeroC rfl rfl 44 _ HBN.out size_rec rfl one_zero ?_)
      have HTc := Lib.hid (below_setRow (HTc.out.alloc HTc.out.size (.cells zeroC 44)) HTc.out.size zeroC)
      refine (scan_nil9 0 _).mono ?_
      rintro e wt4 ⟨rfl, hbn⟩
      have HTc := Lib.hid (HTc.out.trans (hbn.mono HTc.out.size))
      clear hbn
      have HTc := Lib.hid (HTc.out.alloc HTc.out.size (.cells zeroS9 67))
      go_wp2_with fail
      refine (sync_nil_l _).mono ?_
      rintro e wt5 ⟨rfl, rfl⟩
      go_wp2_with fail
      refine (free_nil_l 0 _).mono ?_
      rintro e wt6 ⟨rfl, rfl⟩
      go_wp2_with fail
      refine (ring_nil_l _).mono ?_
      rintro e wt7 ⟨rfl, hbn⟩
      unfold ringV
      have hfld := run_field_segs wt7
      have HTc := Lib.hid (HTc.out.trans (hbn.mono HTc.out.size))
      clear hbn
      go_wp2_with fail
      refine (super_nil _).mono ?_
      rintro e wt8 ⟨rfl, rfl⟩
      go_wp2_with fail
      refine (broken_nil _).mono ?_
      rintro e wt9 ⟨rfl, rfl⟩
      go_wp2
      (first | go_ret | go_ret2)
      exact ⟨rfl, HTc.out⟩
    · have hdok := decide_eq_true h1
      clear h1
      by_cases hnm : n = m
      · subst hnm
        have hss : ¬ sec = s := fun e => h2 ⟨rfl, e⟩
        clear h2
        obtain ⟨q0, q1⟩ := ring_cells HKc.out
        have HRT := Lib.hid (ref_right_any (cap := c) HXc.out sec HPOS.out)
        rw [hdok] at HRT
        go_wp2_with fail
        refine HRT.out.mono ?_
        rintro e w7 ⟨rfl, hbn⟩
        clear HRT q0 q1
        have HKc := Lib.hid (HKc.out.below hbn HKc.out.lt)
        have HTc := Lib.hid (HTc.out.trans (hbn.mono HTc.out.size))
        have HXc := Lib.hid ((HX.out.below HTc.out (fun b h => h)).more (fun b h => Nat.lt_of_lt_of_le h HTc.out.size))
        clear hbn
        obtain ⟨q0, q1⟩ := ring_cells HKc.out
        clear hdok
        go_upto_region 15 with fail
        refine Tillst.region (fun W => True) [] (by kernel_rfl) trivial (fun hHeld => ?_)
        refine Tillst.take (i := 0) (oi := lr0) (v := ?_) rfl (by kernel_rfl) (by kernel_rfl) (by kernel_rfl) (by kernel_rfl) (fun _ _ _ h => h) (by rfl) ?_ hHeld ?_
        rotate_left
        · intro W hSW; (try dsimp only at hSW); unfold lr0; go_simp; with_reducible rfl
        simp only [lr0, Act.put, List.setIfInBounds_toArray, List.set_cons_zero, List.set_cons_succ]
        refine Tillst.take (i := 1) (oi := lr1) (v := ?_) rfl (by kernel_rfl) (by kernel_rfl) (by kernel_rfl) (by kernel_rfl) (fun _ _ _ h => h) (by rfl) ?_ hHeld ?_
        rotate_left
        · intro W hSW; (try dsimp only at hSW); unfold lr1; go_simp; with_reducible rfl
        simp only [lr1, Act.put, List.setIfInBounds_toArray, List.set_cons_zero, List.set_cons_succ]
        refine Tillst.take (i := 2) (oi := lr2) (v := ?_) rfl (by kernel_rfl) (by kernel_rfl) (by kernel_rfl) (by kernel_rfl) (fun _ _ _ h => h) (by rfl) ?_ hHeld ?_
        rotate_left
        · intro W hSW; (try dsimp only at hSW); unfold lr2; go_simp; with_reducible rfl
        simp only [lr2, Act.put, List.setIfInBounds_toArray, List.set_cons_zero, List.set_cons_succ]
        refine Tillst.take (i := 3) (oi := lr3) (v := ?_) rfl (by kernel_rfl) (by kernel_rfl) (by kernel_rfl) (by kernel_rfl) (fun _ _ _ h => h) (by rfl) ?_ hHeld ?_
        rotate_left
        · intro W hSW; (try dsimp only at hSW); unfold lr3; go_simp; with_reducible rfl
        simp only [lr3, Act.put, List.setIfInBounds_toArray, List.set_cons_zero, List.set_cons_succ]
        refine Tillst.take (i := 4) (oi := lr4) (v := ?_) rfl (by kernel_rfl) (by kernel_rfl) (by kernel_rfl) (by kernel_rfl) (fun _ _ _ h => h) (by rfl) ?_ hHeld ?_
        rotate_left
        · intro W hSW; (try dsimp only at hSW); unfold lr4; go_simp; with_reducible rfl
        simp only [lr4, Act.put, List.setIfInBounds_toArray, List.set_cons_zero, List.set_cons_succ]
        refine Tillst.take (i := 5) (oi := lr5) (v := ?_) rfl (by kernel_rfl) (by kernel_rfl) (by kernel_rfl) (by kernel_rfl) (fun _ _ _ h => h) (by rfl) ?_ hHeld ?_
        rotate_left
        · intro W hSW; (try dsimp only at hSW); unfold lr5; go_simp; with_reducible rfl
        simp only [lr5, Act.put, List.setIfInBounds_toArray, List.set_cons_zero, List.set_cons_succ]
        refine Tillst.take (i := 6) (oi := lr6) (v := ?_) rfl (by kernel_rfl) (by kernel_rfl) (by kernel_rfl) (by kernel_rfl) (fun _ _ _ h => h) (by rfl) ?_ hHeld ?_
        rotate_left
        · intro W hSW; (try dsimp only at hSW); unfold lr6; go_simp; with_reducible rfl
        simp only [lr6, Act.put, List.setIfInBounds_toArray, List.set_cons_zero, List.set_cons_succ]
        refine Tillst.take (i := 7) (oi := lr7) (v := ?_) rfl (by kernel_rfl) (by kernel_rfl) (by kernel_rfl) (by kernel_rfl) (fun _ _ _ h => h) (by rfl) ?_ hHeld ?_
        rotate_left
        · intro W hSW; (try dsimp only at hSW); unfold lr7; go_simp; with_reducible rfl
        simp only [lr7, Act.put, List.setIfInBounds_toArray, List.set_cons_zero, List.set_cons_succ]
        refine Tillst.take (i := 8) (oi := lr8) (v := ?_) rfl (by kernel_rfl) (by kernel_rfl) (by kernel_rfl) (by kernel_rfl) (fun _ _ _ h => h) (by rfl) ?_ hHeld ?_
        rotate_left
        · intro W hSW; (try dsimp only at hSW); unfold lr8; go_simp; with_reducible rfl
        simp only [lr8, Act.put, List.setIfInBounds_toArray, List.set_cons_zero, List.set_cons_succ]
        refine Tillst.take (i := 9) (oi := lr9) (v := ?_) rfl (by kernel_rfl) (by kernel_rfl) (by kernel_rfl) (by kernel_rfl) (fun _ _ _ h => h) (by rfl) ?_ hHeld ?_
        rotate_left
        · intro W hSW; (try dsimp only at hSW); unfold lr9; go_simp; with_reducible rfl
        simp only [lr9, Act.put, List.setIfInBounds_toArray, List.set_cons_zero, List.set_cons_succ]
        refine Tillst.take (i := 10) (oi := lr10) (v := ?_) rfl (by kernel_rfl) (by kernel_rfl) (by kernel_rfl) (by kernel_rfl) (fun _ _ _ h => h) (by rfl) ?_ hHeld ?_
        rotate_left
        · intro W hSW; (try dsimp only at hSW); unfold lr10; go_simp; with_reducible rfl
        simp only [lr10, Act.put, List.setIfInBounds_toArray, List.set_cons_zero, List.set_cons_succ]
        refine Tillst.take (i := 11) (oi := lr11) (v := ?_) rfl (by kernel_rfl) (by kernel_rfl) (by kernel_rfl) (by kernel_rfl) (fun _ _ _ h => h) (by rfl) ?_ hHeld ?_
        rotate_left
        · intro W hSW; (try dsimp only at hSW); unfold lr11; go_simp; with_reducible rfl
        simp only [lr11, Act.put, List.setIfInBounds_toArray, List.set_cons_zero, List.set_cons_succ]
        refine Tillst.take (i := 12) (oi := lr12) (v := ?_) rfl (by kernel_rfl) (by kernel_rfl) (by kernel_rfl) (by kernel_rfl) (fun _ _ _ h => h) (by rfl) ?_ hHeld ?_
        rotate_left
        · intro W hSW; (try dsimp only at hSW); unfold lr12; go_simp; with_reducible rfl
        simp only [lr12, Act.put, List.setIfInBounds_toArray, List.set_cons_zero, List.set_cons_succ]
        refine Tillst.take (i := 13) (oi := lr13) (v := ?_) rfl (by kernel_rfl) (by kernel_rfl) (by kernel_rfl) (by kernel_rfl) (fun _ _ _ h => h) (by rfl) ?_ hHeld ?_
        rotate_left
        · intro W hSW; (try dsimp only at hSW); unfold lr13; go_simp; with_reducible rfl
        simp only [lr13, Act.put, List.setIfInBounds_toArray, List.set_cons_zero, List.set_cons_succ]
        refine Tillst.skip (i := 14) (oi := lr14) rfl (by kernel_rfl) (by kernel_rfl) (by kernel_rfl) (by kernel_rfl) (fun _ _ _ h => h) (by rfl) hHeld ?_
        simp only [lr14, Act.put, List.setIfInBounds_toArray, List.set_cons_zero, List.set_cons_succ]
        refine Tillst.skip (i := 15) (oi := lr15) rfl (by kernel_rfl) (by kernel_rfl) (by kernel_rfl) (by kernel_rfl) (fun _ _ _ h => h) (by rfl) hHeld ?_
        simp only [lr15, Act.put, List.setIfInBounds_toArray, List.set_cons_zero, List.set_cons_succ]
        refine Tillst.skip (i := 16) (oi := lr16) rfl (by kernel_rfl) (by kernel_rfl) (by kernel_rfl) (by kernel_rfl) (fun _ _ _ h => h) (by rfl) hHeld ?_
        simp only [lr16, Act.put, List.setIfInBounds_toArray, List.set_cons_zero, List.set_cons_succ]
        refine Tillst.skip (i := 17) (oi := lr17) rfl (by kernel_rfl) (by kernel_rfl) (by kernel_rfl) (by kernel_rfl) (fun _ _ _ h => h) (by rfl) hHeld ?_
        simp only [lr17, Act.put, List.setIfInBounds_toArray, List.set_cons_zero, List.set_cons_succ]
        refine Tillst.skip (i := 18) (oi := lr18) rfl (by kernel_rfl) (by kernel_rfl) (by kernel_rfl) (by kernel_rfl) (fun _ _ _ h => h) (by rfl) hHeld ?_
        simp only [lr18, Act.put, List.setIfInBounds_toArray, List.set_cons_zero, List.set_cons_succ]
        refine Tillst.take (i := 19) (oi := lr19) (v := ?_) rfl (by kernel_rfl) (by kernel_rfl) (by kernel_rfl) (by kernel_rfl) (fun _ _ _ h => h) (by rfl) ?_ hHeld ?_
        rotate_left
        · intro W hSW; (try dsimp only at hSW); unfold lr19; go_simp; with_reducible rfl
        simp only [lr19, Act.put, List.setIfInBounds_toArray, List.set_cons_zero, List.set_cons_succ]
        refine Tillst.take (i := 20) (oi := lr20) (v := ?_) rfl (by kernel_rfl) (by kernel_rfl) (by kernel_rfl) (by kernel_rfl) (fun _ _ _ h => h) (by rfl) ?_ hHeld ?_
        rotate_left
        · intro W hSW; (try dsimp only at hSW); unfold lr20; go_simp; with_reducible rfl
        simp only [lr20, Act.put, List.setIfInBounds_toArray, List.set_cons_zero, List.set_cons_succ]
        refine Tillst.done (by kernel_rfl) ?_ _
        have HKc := Lib.hid (HKc.out.drew)
        have HTc := Lib.hid (HTc.out.drew)
        clear HXc hHeld
        generalize hwy : World.drew _ = wy at HKc HTc ⊢
        clear hwy
        obtain ⟨q0, q1⟩ := ring_cells HKc.out
        go_wp2_with fail
        refine (open_nil_l A n c sec _).mono ?_
        rintro e wt1 ⟨rfl, hbn⟩
        clear q0 q1 HKc
        have HTc := Lib.hid (HTc.out.trans (hbn.mono HTc.out.size))
        clear hbn
        go_wp2_with fail
        refine (append_nil _ _ _ _ _ _ _ _ _ _ _).mono ?_
        rintro e wt2 ⟨rfl, hbn⟩
        have HTc := Lib.hid (HTc.out.trans (hbn.mono HTc.out.size))
        clear hbn
        have HTc := Lib.hid (HTc.out.alloc HTc.out.size (.cells #[.int .i64 0, .int .u64 0, .int .i64 0] 46))
        go_wp2_with fail
        refine (read_nil_l _ _ _ _).mono ?_
        rintro e wt3 ⟨rfl, hbn⟩
        have HTc := Lib.hid (HTc.out.trans (hbn.mono HTc.out.size))
        clear hbn
        have HBN := Lib.hid (Blk.new wt3 44 zeroC)
        go_wp2_with (refine wpList_store_rowB (.tmp 17) (.tmp 101) 44 rfl rfl wt3.heap.size zeroC rfl rfl 44 _ HBN.out size_rec rfl one_zero ?_)
        have HTc := Lib.hid (below_setRow (HTc.out.alloc HTc.out.size (.cells zeroC 44)) HTc.out.size zeroC)
        refine (scan_nil9 0 _).mono ?_
        rintro e wt4 ⟨rfl, hbn⟩
        have HTc := Lib.hid (HTc.out.trans (hbn.mono HTc.out.size))
        clear hbn
        have HTc := Lib.hid (HTc.out.alloc HTc.out.size (.cells zeroS9 67))
        go_wp2_with fail
        refine (sync_nil_l _).mono ?_
        rintro e wt5 ⟨rfl, rfl⟩
        go_wp2_with fail
        refine (free_nil_l 0 _).mono ?_
        rintro e wt6 ⟨rfl, rfl⟩
        go_wp2_with fail
        refine (ring_nil_l _).mono ?_
        rintro e wt7 ⟨rfl, hbn⟩
        unfold ringV
        have hfld := run_field_segs wt7
        have HTc := Lib.hid (HTc.out.trans (hbn.mono HTc.out.size))
        clear hbn
        go_wp2_with fail
        refine (super_nil _).mono ?_
        rintro e wt8 ⟨rfl, rfl⟩
        go_wp2_with fail
        refine (broken_nil _).mono ?_
        rintro e wt9 ⟨rfl, rfl⟩
        go_wp2
        (first | go_ret | go_ret2)
        exact ⟨rfl, HTc.out⟩
      · have hnm2 : ¬ (n : Int) = m := by omega
        clear h2
        obtain ⟨q0, q1⟩ := ring_cells HKc.out
        have HRT := Lib.hid (ref_right_any (cap := c) HXc.out sec HPOS.out)
        rw [hdok] at HRT
        go_wp2_with fail
        refine HRT.out.mono ?_
        rintro e w7 ⟨rfl, hbn⟩
        clear HRT q0 q1
        have HKc := Lib.hid (HKc.out.below hbn HKc.out.lt)
        have HTc := Lib.hid (HTc.out.trans (hbn.mono HTc.out.size))
        have HXc := Lib.hid ((HX.out.below HTc.out (fun b h => h)).more (fun b h => Nat.lt_of_lt_of_le h HTc.out.size))
        clear hbn
        obtain ⟨q0, q1⟩ := ring_cells HKc.out
        clear hdok
        go_upto_region 15 with fail
        refine Tillst.region (fun W => True) [] (by kernel_rfl) trivial (fun hHeld => ?_)
        refine Tillst.take (i := 0) (oi := lr0) (v := ?_) rfl (by kernel_rfl) (by kernel_rfl) (by kernel_rfl) (by kernel_rfl) (fun _ _ _ h => h) (by rfl) ?_ hHeld ?_
        rotate_left
        · intro W hSW; (try dsimp only at hSW); unfold lr0; go_simp; with_reducible rfl
        simp only [lr0, Act.put, List.setIfInBounds_toArray, List.set_cons_zero, List.set_cons_succ]
        refine Tillst.take (i := 1) (oi := lr1) (v := ?_) rfl (by kernel_rfl) (by kernel_rfl) (by kernel_rfl) (by kernel_rfl) (fun _ _ _ h => h) (by rfl) ?_ hHeld ?_
        rotate_left
        · intro W hSW; (try dsimp only at hSW); unfold lr1; go_simp; with_reducible rfl
        simp only [lr1, Act.put, List.setIfInBounds_toArray, List.set_cons_zero, List.set_cons_succ]
        refine Tillst.take (i := 2) (oi := lr2) (v := ?_) rfl (by kernel_rfl) (by kernel_rfl) (by kernel_rfl) (by kernel_rfl) (fun _ _ _ h => h) (by rfl) ?_ hHeld ?_
        rotate_left
        · intro W hSW; (try dsimp only at hSW); unfold lr2; go_simp; with_reducible rfl
        simp only [lr2, Act.put, List.setIfInBounds_toArray, List.set_cons_zero, List.set_cons_succ]
        refine Tillst.take (i := 3) (oi := lr3) (v := ?_) rfl (by kernel_rfl) (by kernel_rfl) (by kernel_rfl) (by kernel_rfl) (fun _ _ _ h => h) (by rfl) ?_ hHeld ?_
        rotate_left
        · intro W hSW; (try dsimp only at hSW); unfold lr3; go_simp; with_reducible rfl
        simp only [lr3, Act.put, List.setIfInBounds_toArray, List.set_cons_zero, List.set_cons_succ]
        refine Tillst.take (i := 4) (oi := lr4) (v := ?_) rfl (by kernel_rfl) (by kernel_rfl) (by kernel_rfl) (by kernel_rfl) (fun _ _ _ h => h) (by rfl) ?_ hHeld ?_
        rotate_left
        · intro W hSW; (try dsimp only at hSW); unfold lr4; go_simp; with_reducible rfl
        simp only [lr4, Act.put, List.setIfInBounds_toArray, List.set_cons_zero, List.set_cons_succ]
        refine Tillst.take (i := 5) (oi := lr5) (v := ?_) rfl (by kernel_rfl) (by kernel_rfl) (by kernel_rfl) (by kernel_rfl) (fun _ _ _ h => h) (by rfl) ?_ hHeld ?_
        rotate_left
        · intro W hSW; (try dsimp only at hSW); unfold lr5; go_simp; with_reducible rfl
        simp only [lr5, Act.put, List.setIfInBounds_toArray, List.set_cons_zero, List.set_cons_succ]
        refine Tillst.take (i := 6) (oi := lr6) (v := ?_) rfl (by kernel_rfl) (by kernel_rfl) (by kernel_rfl) (by kernel_rfl) (fun _ _ _ h => h) (by rfl) ?_ hHeld ?_
        rotate_left
        · intro W hSW; (try dsimp only at hSW); unfold lr6; go_simp; with_reducible rfl
        simp only [lr6, Act.put, List.setIfInBounds_toArray, List.set_cons_zero, List.set_cons_succ]
        refine Tillst.take (i := 7) (oi := lr7) (v := ?_) rfl (by kernel_rfl) (by kernel_rfl) (by kernel_rfl) (by kernel_rfl) (fun _ _ _ h => h) (by rfl) ?_ hHeld ?_
        rotate_left
        · intro W hSW; (try dsimp only at hSW); unfold lr7; go_simp; with_reducible rfl
        simp only [lr7, Act.put, List.setIfInBounds_toArray, List.set_cons_zero, List.set_cons_succ]
        refine Tillst.take (i := 8) (oi := lr8) (v := ?_) rfl (by kernel_rfl) (by kernel_rfl) (by kernel_rfl) (by kernel_rfl) (fun _ _ _ h => h) (by rfl) ?_ hHeld ?_
        rotate_left
        · intro W hSW; (try dsimp only at hSW); unfold lr8; go_simp; with_reducible rfl
        simp only [lr8, Act.put, List.setIfInBounds_toArray, List.set_cons_zero, List.set_cons_succ]
        refine Tillst.take (i := 9) (oi := lr9) (v := ?_) rfl (by kernel_rfl) (by kernel_rfl) (by kernel_rfl) (by kernel_rfl) (fun _ _ _ h => h) (by rfl) ?_ hHeld ?_
        rotate_left
        · intro W hSW; (try dsimp only at hSW); unfold lr9; go_simp; with_reducible rfl
        simp only [lr9, Act.put, List.setIfInBounds_toArray, List.set_cons_zero, List.set_cons_succ]
        refine Tillst.take (i := 10) (oi := lr10) (v := ?_) rfl (by kernel_rfl) (by kernel_rfl) (by kernel_rfl) (by kernel_rfl) (fun _ _ _ h => h) (by rfl) ?_ hHeld ?_
        rotate_left
        · intro W hSW; (try dsimp only at hSW); unfold lr10; go_simp; with_reducible rfl
        simp only [lr10, Act.put, List.setIfInBounds_toArray, List.set_cons_zero, List.set_cons_succ]
        refine Tillst.take (i := 11) (oi := lr11) (v := ?_) rfl (by kernel_rfl) (by kernel_rfl) (by kernel_rfl) (by kernel_rfl) (fun _ _ _ h => h) (by rfl) ?_ hHeld ?_
        rotate_left
        · intro W hSW; (try dsimp only at hSW); unfold lr11; go_simp; with_reducible rfl
        simp only [lr11, Act.put, List.setIfInBounds_toArray, List.set_cons_zero, List.set_cons_succ]
        refine Tillst.take (i := 12) (oi := lr12) (v := ?_) rfl (by kernel_rfl) (by kernel_rfl) (by kernel_rfl) (by kernel_rfl) (fun _ _ _ h => h) (by rfl) ?_ hHeld ?_
        rotate_left
        · intro W hSW; (try dsimp only at hSW); unfold lr12; go_simp; with_reducible rfl
        simp only [lr12, Act.put, List.setIfInBounds_toArray, List.set_cons_zero, List.set_cons_succ]
        refine Tillst.take (i := 13) (oi := lr13) (v := ?_) rfl (by kernel_rfl) (by kernel_rfl) (by kernel_rfl) (by kernel_rfl) (fun _ _ _ h => h) (by rfl) ?_ hHeld ?_
        rotate_left
        · intro W hSW; (try dsimp only at hSW); unfold lr13; go_simp; with_reducible rfl
        simp only [lr13, Act.put, List.setIfInBounds_toArray, List.set_cons_zero, List.set_cons_succ]
        refine Tillst.skip (i := 14) (oi := lr14) rfl (by kernel_rfl) (by kernel_rfl) (by kernel_rfl) (by kernel_rfl) (fun _ _ _ h => h) (by rfl) hHeld ?_
        simp only [lr14, Act.put, List.setIfInBounds_toArray, List.set_cons_zero, List.set_cons_succ]
        refine Tillst.skip (i := 15) (oi := lr15) rfl (by kernel_rfl) (by kernel_rfl) (by kernel_rfl) (by kernel_rfl) (fun _ _ _ h => h) (by rfl) hHeld ?_
        simp only [lr15, Act.put, List.setIfInBounds_toArray, List.set_cons_zero, List.set_cons_succ]
        refine Tillst.skip (i := 16) (oi := lr16) rfl (by kernel_rfl) (by kernel_rfl) (by kernel_rfl) (by kernel_rfl) (fun _ _ _ h => h) (by rfl) hHeld ?_
        simp only [lr16, Act.put, List.setIfInBounds_toArray, List.set_cons_zero, List.set_cons_succ]
        refine Tillst.skip (i := 17) (oi := lr17) rfl (by kernel_rfl) (by kernel_rfl) (by kernel_rfl) (by kernel_rfl) (fun _ _ _ h => h) (by rfl) hHeld ?_
        simp only [lr17, Act.put, List.setIfInBounds_toArray, List.set_cons_zero, List.set_cons_succ]
        refine Tillst.skip (i := 18) (oi := lr18) rfl (by kernel_rfl) (by kernel_rfl) (by kernel_rfl) (by kernel_rfl) (fun _ _ _ h => h) (by rfl) hHeld ?_
        simp only [lr18, Act.put, List.setIfInBounds_toArray, List.set_cons_zero, List.set_cons_succ]
        refine Tillst.take (i := 19) (oi := lr19) (v := ?_) rfl (by kernel_rfl) (by kernel_rfl) (by kernel_rfl) (by kernel_rfl) (fun _ _ _ h => h) (by rfl) ?_ hHeld ?_
        rotate_left
        · intro W hSW; (try dsimp only at hSW); unfold lr19; go_simp; with_reducible rfl
        simp only [lr19, Act.put, List.setIfInBounds_toArray, List.set_cons_zero, List.set_cons_succ]
        refine Tillst.take (i := 20) (oi := lr20) (v := ?_) rfl (by kernel_rfl) (by kernel_rfl) (by kernel_rfl) (by kernel_rfl) (fun _ _ _ h => h) (by rfl) ?_ hHeld ?_
        rotate_left
        · intro W hSW; (try dsimp only at hSW); unfold lr20; go_simp; with_reducible rfl
        simp only [lr20, Act.put, List.setIfInBounds_toArray, List.set_cons_zero, List.set_cons_succ]
        refine Tillst.done (by kernel_rfl) ?_ _
        have HKc := Lib.hid (HKc.out.drew)
        have HTc := Lib.hid (HTc.out.drew)
        clear HXc hHeld
        generalize hwy : World.drew _ = wy at HKc HTc ⊢
        clear hwy
        obtain ⟨q0, q1⟩ := ring_cells HKc.out
        go_wp2_with fail
        refine (open_nil_l A n c sec _).mono ?_
        rintro e wt1 ⟨rfl, hbn⟩
        clear q0 q1 HKc
        have HTc := Lib.hid (HTc.out.trans (hbn.mono HTc.out.size))
        clear hbn
        go_wp2_with fail
        refine (append_nil _ _ _ _ _ _ _ _ _ _ _).mono ?_
        rintro e wt2 ⟨rfl, hbn⟩
        have HTc := Lib.hid (HTc.out.trans (hbn.mono HTc.out.size))
        clear hbn
        have HTc := Lib.hid (HTc.out.alloc HTc.out.size (.cells #[.int .i64 0, .int .u64 0, .int .i64 0] 46))
        go_wp2_with fail
        refine (read_nil_l _ _ _ _).mono ?_
        rintro e wt3 ⟨rfl, hbn⟩
        have HTc := Lib.hid (HTc.out.trans (hbn.mono HTc.out.size))
        clear hbn
        have HBN := Lib.hid (Blk.new wt3 44 zeroC)
        go_wp2_with (refine wpList_store_rowB (.tmp 17) (.tmp 101) 44 rfl rfl wt3.heap.size zeroC rfl rfl 44 _ HBN.out size_rec rfl one_zero ?_)
        have HTc := Lib.hid (below_setRow (HTc.out.alloc HTc.out.size (.cells zeroC 44)) HTc.out.size zeroC)
        refine (scan_nil9 0 _).mono ?_
        rintro e wt4 ⟨rfl, hbn⟩
        have HTc := Lib.hid (HTc.out.trans (hbn.mono HTc.out.size))
        clear hbn
        have HTc := Lib.hid (HTc.out.alloc HTc.out.size (.cells zeroS9 67))
        go_wp2_with fail
        refine (sync_nil_l _).mono ?_
        rintro e wt5 ⟨rfl, rfl⟩
        go_wp2_with fail
        refine (free_nil_l 0 _).mono ?_
        rintro e wt6 ⟨rfl, rfl⟩
        go_wp2_with fail
        refine (ring_nil_l _).mono ?_
        rintro e wt7 ⟨rfl, hbn⟩
        unfold ringV
        have hfld := run_field_segs wt7
        have HTc := Lib.hid (HTc.out.trans (hbn.mono HTc.out.size))
        clear hbn
        go_wp2_with fail
        refine (super_nil _).mono ?_
        rintro e wt8 ⟨rfl, rfl⟩
        go_wp2_with fail
        refine (broken_nil _).mono ?_
        rintro e wt9 ⟨rfl, rfl⟩
        go_wp2
        (first | go_ret | go_ret2)
        exact ⟨rfl, HTc.out⟩
    · obtain rfl : n = m := by omega
      subst h3
      have hdok := decide_eq_true h1
      have hn40 := Lib.hid (show n ≤ 40 by have := ok_n h1 HXL.out; omega)
      have H4 := Lib.hid h4
      clear h1 h2 h4
      obtain ⟨q0, q1⟩ := ring_cells HKc.out
      have HRT := Lib.hid (ref_right_any (cap := c) HXc.out sec HPOS.out)
      rw [hdok] at HRT
      go_wp2_with fail
      refine HRT.out.mono ?_
      rintro e w7 ⟨rfl, hbn⟩
      clear HRT q0 q1
      have HKc := Lib.hid (HKc.out.below hbn HKc.out.lt)
      have HTc := Lib.hid (HTc.out.trans (hbn.mono HTc.out.size))
      have HXc := Lib.hid ((HX.out.below HTc.out (fun b h => h)).more (fun b h => Nat.lt_of_lt_of_le h HTc.out.size))
      clear hbn
      obtain ⟨q0, q1⟩ := ring_cells HKc.out
      clear hdok
      have HON := Lib.hid (ref_opened (cap := c) HXc.out sec hn40.out)
      go_wp2_with fail
      refine HON.out.mono ?_
      rintro e w8 ⟨rfl, hbn⟩
      clear HON q0 q1
      have HKc := Lib.hid (HKc.out.below hbn HKc.out.lt)
      have HTc := Lib.hid (HTc.out.trans (hbn.mono HTc.out.size))
      have HXc := Lib.hid ((HX.out.below HTc.out (fun b h => h)).more (fun b h => Nat.lt_of_lt_of_le h HTc.out.size))
      clear hbn
      have h4 := H4.out
      go_upto_region 15 with fail
      refine Tillst.region (fun W => True) [] (by kernel_rfl) trivial (fun hHeld => ?_)
      refine Tillst.take (i := 0) (oi := lr0) (v := ?_) rfl (by kernel_rfl) (by kernel_rfl) (by kernel_rfl) (by kernel_rfl) (fun _ _ _ h => h) (by rfl) ?_ hHeld ?_
      rotate_left
      · intro W hSW; (try dsimp only at hSW); unfold lr0; go_simp; with_reducible rfl
      simp only [lr0, Act.put, List.setIfInBounds_toArray, List.set_cons_zero, List.set_cons_succ]
      refine Tillst.take (i := 1) (oi := lr1) (v := ?_) rfl (by kernel_rfl) (by kernel_rfl) (by kernel_rfl) (by kernel_rfl) (fun _ _ _ h => h) (by rfl) ?_ hHeld ?_
      rotate_left
      · intro W hSW; (try dsimp only at hSW); unfold lr1; go_simp; with_reducible rfl
      simp only [lr1, Act.put, List.setIfInBounds_toArray, List.set_cons_zero, List.set_cons_succ]
      refine Tillst.take (i := 2) (oi := lr2) (v := ?_) rfl (by kernel_rfl) (by kernel_rfl) (by kernel_rfl) (by kernel_rfl) (fun _ _ _ h => h) (by rfl) ?_ hHeld ?_
      rotate_left
      · intro W hSW; (try dsimp only at hSW); unfold lr2; go_simp; with_reducible rfl
      simp only [lr2, Act.put, List.setIfInBounds_toArray, List.set_cons_zero, List.set_cons_succ]
      refine Tillst.take (i := 3) (oi := lr3) (v := ?_) rfl (by kernel_rfl) (by kernel_rfl) (by kernel_rfl) (by kernel_rfl) (fun _ _ _ h => h) (by rfl) ?_ hHeld ?_
      rotate_left
      · intro W hSW; (try dsimp only at hSW); unfold lr3; go_simp; with_reducible rfl
      simp only [lr3, Act.put, List.setIfInBounds_toArray, List.set_cons_zero, List.set_cons_succ]
      refine Tillst.take (i := 4) (oi := lr4) (v := ?_) rfl (by kernel_rfl) (by kernel_rfl) (by kernel_rfl) (by kernel_rfl) (fun _ _ _ h => h) (by rfl) ?_ hHeld ?_
      rotate_left
      · intro W hSW; (try dsimp only at hSW); unfold lr4; go_simp; with_reducible rfl
      simp only [lr4, Act.put, List.setIfInBounds_toArray, List.set_cons_zero, List.set_cons_succ]
      refine Tillst.take (i := 5) (oi := lr5) (v := ?_) rfl (by kernel_rfl) (by kernel_rfl) (by kernel_rfl) (by kernel_rfl) (fun _ _ _ h => h) (by rfl) ?_ hHeld ?_
      rotate_left
      · intro W hSW; (try dsimp only at hSW); unfold lr5; go_simp; with_reducible rfl
      simp only [lr5, Act.put, List.setIfInBounds_toArray, List.set_cons_zero, List.set_cons_succ]
      refine Tillst.take (i := 6) (oi := lr6) (v := ?_) rfl (by kernel_rfl) (by kernel_rfl) (by kernel_rfl) (by kernel_rfl) (fun _ _ _ h => h) (by rfl) ?_ hHeld ?_
      rotate_left
      · intro W hSW; (try dsimp only at hSW); unfold lr6; go_simp; with_reducible rfl
      simp only [lr6, Act.put, List.setIfInBounds_toArray, List.set_cons_zero, List.set_cons_succ]
      refine Tillst.take (i := 7) (oi := lr7) (v := ?_) rfl (by kernel_rfl) (by kernel_rfl) (by kernel_rfl) (by kernel_rfl) (fun _ _ _ h => h) (by rfl) ?_ hHeld ?_
      rotate_left
      · intro W hSW; (try dsimp only at hSW); unfold lr7; go_simp; with_reducible rfl
      simp only [lr7, Act.put, List.setIfInBounds_toArray, List.set_cons_zero, List.set_cons_succ]
      refine Tillst.take (i := 8) (oi := lr8) (v := ?_) rfl (by kernel_rfl) (by kernel_rfl) (by kernel_rfl) (by kernel_rfl) (fun _ _ _ h => h) (by rfl) ?_ hHeld ?_
      rotate_left
      · intro W hSW; (try dsimp only at hSW); unfold lr8; go_simp; with_reducible rfl
      simp only [lr8, Act.put, List.setIfInBounds_toArray, List.set_cons_zero, List.set_cons_succ]
      refine Tillst.take (i := 9) (oi := lr9) (v := ?_) rfl (by kernel_rfl) (by kernel_rfl) (by kernel_rfl) (by kernel_rfl) (fun _ _ _ h => h) (by rfl) ?_ hHeld ?_
      rotate_left
      · intro W hSW; (try dsimp only at hSW); unfold lr9; go_simp; with_reducible rfl
      simp only [lr9, Act.put, List.setIfInBounds_toArray, List.set_cons_zero, List.set_cons_succ]
      refine Tillst.take (i := 10) (oi := lr10) (v := ?_) rfl (by kernel_rfl) (by kernel_rfl) (by kernel_rfl) (by kernel_rfl) (fun _ _ _ h => h) (by rfl) ?_ hHeld ?_
      rotate_left
      · intro W hSW; (try dsimp only at hSW); unfold lr10; go_simp; with_reducible rfl
      simp only [lr10, Act.put, List.setIfInBounds_toArray, List.set_cons_zero, List.set_cons_succ]
      refine Tillst.take (i := 11) (oi := lr11) (v := ?_) rfl (by kernel_rfl) (by kernel_rfl) (by kernel_rfl) (by kernel_rfl) (fun _ _ _ h => h) (by rfl) ?_ hHeld ?_
      rotate_left
      · intro W hSW; (try dsimp only at hSW); unfold lr11; go_simp; with_reducible rfl
      simp only [lr11, Act.put, List.setIfInBounds_toArray, List.set_cons_zero, List.set_cons_succ]
      refine Tillst.take (i := 12) (oi := lr12) (v := ?_) rfl (by kernel_rfl) (by kernel_rfl) (by kernel_rfl) (by kernel_rfl) (fun _ _ _ h => h) (by rfl) ?_ hHeld ?_
      rotate_left
      · intro W hSW; (try dsimp only at hSW); unfold lr12; go_simp; with_reducible rfl
      simp only [lr12, Act.put, List.setIfInBounds_toArray, List.set_cons_zero, List.set_cons_succ]
      refine Tillst.take (i := 13) (oi := lr13) (v := ?_) rfl (by kernel_rfl) (by kernel_rfl) (by kernel_rfl) (by kernel_rfl) (fun _ _ _ h => h) (by rfl) ?_ hHeld ?_
      rotate_left
      · intro W hSW; (try dsimp only at hSW); unfold lr13; go_simp; with_reducible rfl
      simp only [lr13, Act.put, List.setIfInBounds_toArray, List.set_cons_zero, List.set_cons_succ]
      refine Tillst.skip (i := 14) (oi := lr14) rfl (by kernel_rfl) (by kernel_rfl) (by kernel_rfl) (by kernel_rfl) (fun _ _ _ h => h) (by rfl) hHeld ?_
      simp only [lr14, Act.put, List.setIfInBounds_toArray, List.set_cons_zero, List.set_cons_succ]
      refine Tillst.skip (i := 15) (oi := lr15) rfl (by kernel_rfl) (by kernel_rfl) (by kernel_rfl) (by kernel_rfl) (fun _ _ _ h => h) (by rfl) hHeld ?_
      simp only [lr15, Act.put, List.setIfInBounds_toArray, List.set_cons_zero, List.set_cons_succ]
      refine Tillst.skip (i := 16) (oi := lr16) rfl (by kernel_rfl) (by kernel_rfl) (by kernel_rfl) (by kernel_rfl) (fun _ _ _ h => h) (by rfl) hHeld ?_
      simp only [lr16, Act.put, List.setIfInBounds_toArray, List.set_cons_zero, List.set_cons_succ]
      refine Tillst.skip (i := 17) (oi := lr17) rfl (by kernel_rfl) (by kernel_rfl) (by kernel_rfl) (by kernel_rfl) (fun _ _ _ h => h) (by rfl) hHeld ?_
      simp only [lr17, Act.put, List.setIfInBounds_toArray, List.set_cons_zero, List.set_cons_succ]
      refine Tillst.skip (i := 18) (oi := lr18) rfl (by kernel_rfl) (by kernel_rfl) (by kernel_rfl) (by kernel_rfl) (fun _ _ _ h => h) (by rfl) hHeld ?_
      simp only [lr18, Act.put, List.setIfInBounds_toArray, List.set_cons_zero, List.set_cons_succ]
      refine Tillst.take (i := 19) (oi := lr19) (v := ?_) rfl (by kernel_rfl) (by kernel_rfl) (by kernel_rfl) (by kernel_rfl) (fun _ _ _ h => h) (by rfl) ?_ hHeld ?_
      rotate_left
      · intro W hSW; (try dsimp only at hSW); unfold lr19; go_simp; with_reducible rfl
      simp only [lr19, Act.put, List.setIfInBounds_toArray, List.set_cons_zero, List.set_cons_succ]
      refine Tillst.take (i := 20) (oi := lr20) (v := ?_) rfl (by kernel_rfl) (by kernel_rfl) (by kernel_rfl) (by kernel_rfl) (fun _ _ _ h => h) (by rfl) ?_ hHeld ?_
      rotate_left
      · intro W hSW; (try dsimp only at hSW); unfold lr20; go_simp; with_reducible rfl
      simp only [lr20, Act.put, List.setIfInBounds_toArray, List.set_cons_zero, List.set_cons_succ]
      refine Tillst.done (by kernel_rfl) ?_ _
      have HKc := Lib.hid (HKc.out.drew)
      have HTc := Lib.hid (HTc.out.drew)
      clear HXc hHeld
      generalize hwy : World.drew _ = wy at HKc HTc ⊢
      clear hwy
      obtain ⟨q0, q1⟩ := ring_cells HKc.out
      go_wp2_with fail
      refine (open_nil_l A n c sec _).mono ?_
      rintro e wt1 ⟨rfl, hbn⟩
      clear q0 q1 HKc
      have HTc := Lib.hid (HTc.out.trans (hbn.mono HTc.out.size))
      clear hbn
      go_wp2_with fail
      refine (append_nil _ _ _ _ _ _ _ _ _ _ _).mono ?_
      rintro e wt2 ⟨rfl, hbn⟩
      have HTc := Lib.hid (HTc.out.trans (hbn.mono HTc.out.size))
      clear hbn
      have HTc := Lib.hid (HTc.out.alloc HTc.out.size (.cells #[.int .i64 0, .int .u64 0, .int .i64 0] 46))
      go_wp2_with fail
      refine (read_nil_l _ _ _ _).mono ?_
      rintro e wt3 ⟨rfl, hbn⟩
      have HTc := Lib.hid (HTc.out.trans (hbn.mono HTc.out.size))
      clear hbn
      have HBN := Lib.hid (Blk.new wt3 44 zeroC)
      go_wp2_with (refine wpList_store_rowB (.tmp 17) (.tmp 101) 44 rfl rfl wt3.heap.size zeroC rfl rfl 44 _ HBN.out size_rec rfl one_zero ?_)
      have HTc := Lib.hid (below_setRow (HTc.out.alloc HTc.out.size (.cells zeroC 44)) HTc.out.size zeroC)
      refine (scan_nil9 0 _).mono ?_
      rintro e wt4 ⟨rfl, hbn⟩
      have HTc := Lib.hid (HTc.out.trans (hbn.mono HTc.out.size))
      clear hbn
      have HTc := Lib.hid (HTc.out.alloc HTc.out.size (.cells zeroS9 67))
      go_wp2_with fail
      refine (sync_nil_l _).mono ?_
      rintro e wt5 ⟨rfl, rfl⟩
      go_wp2_with fail
      refine (free_nil_l 0 _).mono ?_
      rintro e wt6 ⟨rfl, rfl⟩
      go_wp2_with fail
      refine (ring_nil_l _).mono ?_
      rintro e wt7 ⟨rfl, hbn⟩
      unfold ringV
      have hfld := run_field_segs wt7
      have HTc := Lib.hid (HTc.out.trans (hbn.mono HTc.out.size))
      clear hbn
      go_wp2_with fail
      refine (super_nil _).mono ?_
      rintro e wt8 ⟨rfl, rfl⟩
      go_wp2_with fail
      refine (broken_nil _).mono ?_
      rintro e wt9 ⟨rfl, rfl⟩
      go_wp2
      (first | go_ret | go_ret2)
      exact ⟨rfl, HTc.out⟩
    · exact absurd rfl HE0.out
end Go.Proofs.YtodcohkblgjfeaaGreat
