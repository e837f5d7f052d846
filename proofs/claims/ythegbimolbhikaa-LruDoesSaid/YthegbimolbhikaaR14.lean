/- The document's lists: ahead. MADE by mkahead.py out of XR14.head. -/
import Derived.Test.YthegbimolbhikaaR13
import Derived.Test.YthegbimolbhikaaTill
namespace Go.Proofs.Ythegbimolbhikaa
open Go.RowKit
attribute [local go_sem] Oper.semAt_some
set_option linter.unusedVariables false
set_option linter.unusedSimpArgs false
set_option maxRecDepth 100000
abbrev aq0 : Oper := { dst := some 10, op := Go.Op.fieldAddr 31 (Go.Operand.tmp 3) 1, type := 0, pos := "ref.go:55", after := #[], guard := none }
abbrev aq1 : Oper := { dst := some 11, op := Go.Op.load 29 (Go.Operand.tmp 10), type := 29, pos := "ref.go:55", after := #[{ on := 0, ground := Go.Ground.data }], guard := none }
abbrev aq2 : Oper := { dst := some 12, op := Go.Op.move (Go.Operand.tmp 1), type := 3, pos := "ref.go:55", after := #[], guard := none }
abbrev aq3 : Oper := { dst := some 13, op := Go.Op.move (Go.Operand.tmp 2), type := 3, pos := "ref.go:55", after := #[], guard := none }
abbrev aq4 : Oper := { dst := some 14, op := Go.Op.buildSlice 56 1 #[(0, Go.Operand.tmp 13)], type := 56, pos := "ref.go:55", after := #[{ on := 3, ground := Go.Ground.data }], guard := none }
abbrev aq5 : Oper := { dst := some 15, op := Go.Op.fieldAddr 31 (Go.Operand.tmp 3) 1, type := 0, pos := "ref.go:55", after := #[], guard := none }
abbrev aq6 : Oper := { dst := some 16, op := Go.Op.load 29 (Go.Operand.tmp 15), type := 29, pos := "ref.go:55", after := #[{ on := 5, ground := Go.Ground.data }], guard := none }
abbrev aq7 : Oper := { dst := some 17, op := Go.Op.move (Go.Operand.tmp 1), type := 3, pos := "ref.go:55", after := #[], guard := none }
abbrev aq8 : Oper := { dst := some 18, op := Go.Op.indexAddr 29 (Go.Operand.tmp 16) (Go.Operand.tmp 17), type := 0, pos := "ref.go:55", after := #[{ on := 6, ground := Go.Ground.data }, { on := 7, ground := Go.Ground.data }], guard := none }
abbrev aq9 : Oper := { dst := some 19, op := Go.Op.load 56 (Go.Operand.tmp 18), type := 56, pos := "ref.go:55", after := #[{ on := 8, ground := Go.Ground.data }], guard := none }
abbrev aq10 : Oper := { dst := some 20, op := Go.Op.call { callee := Go.Callee.builtin Go.Builtin.append, args := #[Go.Operand.tmp 14, Go.Operand.tmp 19], argTypes := #[56, 56] }, type := 56, pos := "ref.go:55", after := #[{ on := 4, ground := Go.Ground.data }, { on := 9, ground := Go.Ground.data }], guard := none }
abbrev aq11 : Oper := { dst := some 21, op := Go.Op.indexAddr 29 (Go.Operand.tmp 11) (Go.Operand.tmp 12), type := 0, pos := "ref.go:55", after := #[{ on := 1, ground := Go.Ground.data }, { on := 2, ground := Go.Ground.data }, { on := 0, ground := Go.Ground.phase }, { on := 1, ground := Go.Ground.phase }, { on := 2, ground := Go.Ground.phase }, { on := 3, ground := Go.Ground.phase }, { on := 4, ground := Go.Ground.phase }, { on := 5, ground := Go.Ground.phase }, { on := 6, ground := Go.Ground.phase }, { on := 7, ground := Go.Ground.phase }, { on := 8, ground := Go.Ground.phase }, { on := 9, ground := Go.Ground.phase }, { on := 10, ground := Go.Ground.phase }], guard := none }
abbrev aq12 : Oper := { dst := none, op := Go.Op.store 56 (Go.Operand.tmp 21) (Go.Operand.tmp 20), type := 0, pos := "ref.go:55", after := #[{ on := 11, ground := Go.Ground.data }, { on := 10, ground := Go.Ground.data }, { on := 10, ground := Go.Ground.chain }, { on := 0, ground := Go.Ground.phase }, { on := 1, ground := Go.Ground.phase }, { on := 2, ground := Go.Ground.phase }, { on := 3, ground := Go.Ground.phase }, { on := 4, ground := Go.Ground.phase }, { on := 5, ground := Go.Ground.phase }, { on := 6, ground := Go.Ground.phase }, { on := 7, ground := Go.Ground.phase }, { on := 8, ground := Go.Ground.phase }, { on := 9, ground := Go.Ground.phase }, { on := 10, ground := Go.Ground.phase }], guard := none }

theorem own_set1 {w : World} {base n cap g i : Nat} {e : TypeId} {xs : List Value} (h : w.ownsRow base e 1 (.slice (some ⟨g, 0, none⟩) n cap) n xs) (u : Value) (hi : i < n) : (w.setCell ⟨g, i, none⟩ u).ownsRow base e 1 (.slice (some ⟨g, 0, none⟩) n cap) n (xs.set i u) := by
  obtain ⟨h1, h2⟩ := h
  rcases h2 with ⟨e0, _⟩ | ⟨g', cap', cur, e0, hb, hh, hnc, hm, hcs, htk⟩
  · cases e0
  · injection e0 with e1 _ e2
    injection e1 with e1
    injection e1 with e1
    subst e1 e2
    refine ⟨by simpa using h1, .inr ⟨g, cap, cur.setIfInBounds i u, rfl, hb, ?_, hnc, hm, by simpa using hcs, ?_⟩⟩
    · have hB : Blk w g e cur := hh
      exact hB.set_ i u
    · rw [← htk]
      apply List.ext_getElem?
      intro j
      simp only [Nat.mul_one, Array.toList_setIfInBounds, List.getElem?_take, List.getElem?_set, List.length_take, Array.length_toList]
      have hcl : cur.size = cap := by simpa using hcs
      by_cases hj : j < n
      · by_cases hij : i = j
        · subst hij
          have h2 : i < min n cur.size := by omega
          have h3 : i < cur.size := by omega
          simp [hj, h2, h3]
        · simp [hj, hij]
      · have hne : i ≠ j := by omega
        simp [hj, hne]
theorem RefO.set {B : Nat} {w : World} {g n c i : Nat} {ds : List RowD} {xs : List (List Nat)} {d : RowD} {x : List Nat} (h : RefO B w (.slice (some ⟨g, 0, none⟩) n c) ds xs) (hn : ds.length = n) (hi : i < n)
    (hr : RowK12 w (fun b => B ≤ b ∧ b < w.heap.size ∧ g ≠ b) d.1 d.2.1 x) (hd : d.1 = none → d.2.2 = 0) : RefO B (w.setCell ⟨g, i, none⟩ (mkD d)) (.slice (some ⟨g, 0, none⟩) n c) (ds.set i d) (xs.set i x) := by
  have hsz : (w.setCell ⟨g, i, none⟩ (mkD d)).heap.size = w.heap.size := by simp [World.setCell]
  have hk : ∀ p : Addr, g ≠ p.block → (w.setCell ⟨g, i, none⟩ (mkD d)).cell? p = w.cell? p := fun p hp => World.cell?_of_block (Below.heap_setCell w ⟨g, i, none⟩ (mkD d) p.block (fun e => hp e.symm))
  have hob : ∀ b, (Value.slice (some ⟨g, 0, none⟩) n c).ownBlock ≠ some b ↔ g ≠ b := fun b => by simp [Value.ownBlock]
  subst hn
  refine ⟨?_, by simp [h.len], fun j hj => ?_, fun j hj => ?_⟩
  · have := own_set1 h.own (mkD d) hi
    rw [show (ds.set i d).length = ds.length by simp, List.map_set]
    exact this
  · rw [List.length_set] at hj
    rw [hsz]
    by_cases e : j = i
    · subst e
      have e1 : (ds.set j d).getD j d0 = d := by simp [List.getD, hj]
      have e2 : (xs.set j x).getD j [] = x := by simp [List.getD, h.len, hj]
      rw [e1, e2]
      exact (hr.keep (fun p hp => hk p hp.2.2)).more fun b hb => ⟨hb.1, hb.2.1, (hob b).2 hb.2.2⟩
    · have e1 : (ds.set i d).getD j d0 = ds.getD j d0 := by simp [List.getD, List.getElem?_set, Ne.symm e]
      have e2 : (xs.set i x).getD j [] = xs.getD j [] := by simp [List.getD, List.getElem?_set, Ne.symm e]
      rw [e1, e2]
      exact (h.row j hj).keep fun p hp => hk p ((hob _).1 hp.2.2)
  · rw [List.length_set] at hj
    by_cases e : j = i
    · subst e
      have e1 : (ds.set j d).getD j d0 = d := by simp [List.getD, hj]
      rw [e1]
      exact hd
    · have e1 : (ds.set i d).getD j d0 = ds.getD j d0 := by simp [List.getD, List.getElem?_set, Ne.symm e]
      rw [e1]
      exact h.nil j hj
section
variable {w : World} {o : Oper} {a : Act} {Q : Exit → Act → World → Prop} {K : Act → World → Prop} {E : Prop} {ops : Array Oper}
/-- '[]int{x}' in a region that draws. -/
theorem step_lit12 (x : Operand) (ho : o.op = .buildSlice 56 1 #[(0, x)]) (hgd : Region.wanted o (yielded ops a.tmps) = true) (v : Nat) (hx : a.eval x = .int .i64 (v : Nat))
    (h : ∀ w', w'.ownsRow w.heap.size 3 1 (.slice (some ⟨w.heap.size, 0, none⟩) 1 1) 1 (valsK [v]) → w' = w.alloc (.cells #[mkK v] 3) → K (a.put o.dst (.slice (some ⟨w.heap.size, 0, none⟩) 1 1)) w') : if Region.wanted o (yielded ops a.tmps) = true then Oper.wp Try.prog o a w K Q else E := by
  obtain ⟨i0, hi, hz0, hz1, hz2⟩ := info_parts info_nums12
  rw [if_pos hgd]
  have hown : (w.alloc (.cells #[mkK v] 3)).ownsRow w.heap.size 3 1 (.slice (some ⟨w.heap.size, 0, none⟩) 1 1) 1 (valsK [v]) := Arr.owns (mk := mkK) (xs := [v]) (Blk.new w _ _) (Nat.le_refl _) rfl rfl (by unfold maxLen; omega)
  refine wp_buildSlice 56 3 1 #[(0, x)] ho #[mkK v] i0 _ Try.underlying56 hi hz0 (by rw [hz1]; decide) (by rw [hz1]; decide) ?_ (h _ hown rfl)
  rw [hz1]
  have e : (Array.map (fun (p : Nat × Operand) => (p.1, a.eval p.2)) #[(0, x)]).toList = [(0, mkK v)] := by simp [hx]
  refine (congrArg _ e).trans ?_
  kernel_rfl
end
theorem outX_row (xs : List (List Nat)) (k : Nat) (hm : ∀ i, (xs.getD i []).length ≤ 100000) (i : Nat) : ((outX xs k).getD i []).length ≤ 100000 := by
  rw [outX_getD]
  exact Nat.le_trans (List.length_filter_le _ _) (hm i)
set_option maxHeartbeats 8000000 in
theorem ahead_ref {A : Option Addr} {n c : Nat} {ds : List RowD} {xs : List (List Nat)} (numbers i k : Nat) {w : World} (h : RefX w (· < w.heap.size) A n ds xs) (hn : n ≤ 64) (hm : ∀ i, (xs.getD i []).length ≤ 100000) (hi : i < n) :
    Calls Try.prog 36 #[refV numbers A n c, .int .i64 (i : Nat), .int .i64 (k : Nat)] w fun e w' => WoT numbers (putX (outX xs k) i k) w e w' := by
  obtain ⟨w2, hw2⟩ : ∃ w2, w2 = (w.alloc (.cells #[.int .i64 (numbers : Nat), .slice A n c] 31)).alloc (.cells #[.int .i64 0, .slice none 0 0] 31) := ⟨_, rfl⟩
  have hb2 : Below w.heap.size w w2 := by rw [hw2]; exact ((Below.refl _ w).alloc (Nat.le_refl _) _).alloc (by simp) _
  have HB2 := Lib.hid hb2
  have HS2 := Lib.hid (show w2.heap.size = w.heap.size + 2 by rw [hw2]; simp)
  have HKA := Lib.hid (show Blk w2 w.heap.size 31 #[.int .i64 (numbers : Nat), .slice A n c] by rw [hw2]; exact (Blk.new w _ _).alloc _)
  have HKB := Lib.hid (show Blk w2 (w.heap.size + 1) 31 #[.int .i64 0, .slice none 0 0] by rw [hw2]; have h := Blk.new (w.alloc (.cells #[.int .i64 (numbers : Nat), .slice A n c] 31)) 31 #[.int .i64 0, .slice none 0 0]; simpa using h)
  have HWO := Lib.hid (without_any (c := c) numbers k (h.size hb2) hn hm)
  have HM := Lib.hid hm
  have hxl := h.len
  have HLEN := Lib.hid hxl
  have ca0 := HKA.out.cell 0
  have ca1 := HKA.out.cell 1
  clear h hm hb2 hxl
  obtain ⟨i0, hi0, hz0, hz1, hz2⟩ := info_parts info_nums12
  go_enter Try.func36, Try.ntmps36
  go_wp2_with fail
  rw [← hw2]
  clear hw2
  refine HWO.out.mono ?_
  rintro e w3 ⟨v, dz, rfl, hro, hb3⟩
  have hdl : dz.length = n := by rw [← hro.len, outX_len]; exact HLEN.out
  obtain ⟨g, hg⟩ : ∃ g c5, v = .slice (some ⟨g, 0, none⟩) n c5 := by
    rcases hro.own.2 with ⟨_, e⟩ | ⟨g, cap, cur, e, _⟩
    · omega
    · rw [hdl] at e
      exact ⟨g, cap, e⟩
  obtain ⟨c5, rfl⟩ := hg
  have hka := HKA.out.below hb3 HKA.out.lt
  have hkb := HKB.out.below hb3 HKB.out.lt
  have a0 := hka.cell 0
  have a1 := hka.cell 1
  have fa0 := hka.frozen 0
  have fa1 := hka.frozen 1
  have HRO := Lib.hid hro
  have HB3 := Lib.hid (HB2.out.trans (hb3.mono HB2.out.size))
  have HKA3 := Lib.hid hka
  have HKB3 := Lib.hid hkb
  have HDL := Lib.hid hdl
  clear hro hb3 hka hkb hdl ca0 ca1
  go_upto_region 2 with fail
  obtain ⟨wp, hwp⟩ : ∃ wp, wp = (w3.setCell ⟨w.heap.size, 0, none⟩ (.int .i64 (numbers : Nat))).setCell ⟨w.heap.size, 1, none⟩ (.slice (some ⟨g, 0, none⟩) n c5) := ⟨_, rfl⟩
  have hs2 := HS2.out
  have HK0 := Lib.hid (show Blk wp w.heap.size 31 #[.int .i64 (numbers : Nat), .slice (some ⟨g, 0, none⟩) n c5] by rw [hwp]; exact (HKA3.out.set_ 0 (.int .i64 (numbers : Nat))).set_ 1 (.slice (some ⟨g, 0, none⟩) n c5))
  have HKB4 := Lib.hid (show Blk wp (w.heap.size + 1) 31 #[.int .i64 0, .slice none 0 0] by rw [hwp]; exact (HKB3.out.far (p := ⟨w.heap.size, 0, none⟩) (by simp) _).far (p := ⟨w.heap.size, 1, none⟩) (by simp) _)
  have hro4 : RefO w2.heap.size wp (.slice (some ⟨g, 0, none⟩) n c5) dz (outX xs k) := by
    rw [hwp]
    exact HRO.out.same (by simp [World.setCell]) (fun j hj => (Below.heap_setCell _ ⟨w.heap.size, 1, none⟩ _ j (by show j ≠ w.heap.size; omega)).trans (Below.heap_setCell _ ⟨w.heap.size, 0, none⟩ _ j (by show j ≠ w.heap.size; omega)))
  have HBP := Lib.hid (show Below w.heap.size w wp by rw [hwp]; exact (HB3.out.setCell (p := ⟨w.heap.size, 0, none⟩) (by simp) _).setCell (p := ⟨w.heap.size, 1, none⟩) (by simp) _)
  obtain ⟨⟨Ai, mi, ci⟩, hdi⟩ : ∃ d, dz.getD i d0 = d := ⟨_, rfl⟩
  have hri := hro4.row i (by rw [HDL.out]; exact hi)
  have hni := hro4.nil i (by rw [HDL.out]; exact hi)
  rw [hdi] at hri hni
  obtain ⟨Y, hY⟩ : ∃ Y, (outX xs k).getD i [] = Y := ⟨_, rfl⟩
  have hYl : Y.length ≤ 100000 := by rw [← hY]; exact outX_row xs k HM.out i
  rw [hY] at hri
  have hmi : mi ≤ 100000 := by rw [← show Y.length = mi from hri.1]; exact hYl
  have HGB := Lib.hid (show g < wp.heap.size ∧ w2.heap.size ≤ g ∧ wp.frozen? ⟨g, i, none⟩ = false ∧ wp.cell? ⟨g, i, none⟩ = some (.slice Ai mi ci) from by
    have hlt := hro4.own.lt g rfl
    rcases hro4.own.2 with ⟨e, _⟩ | ⟨g', cap, cur, e, hb, hh, hnc, hm, hcs, htk⟩
    · cases e
    · injection e with e1 _ _
      injection e1 with e1
      injection e1 with e1
      subst e1
      have hB : Blk wp g 56 cur := hh
      refine ⟨hB.lt, hb, hB.frozen i, ?_⟩
      rw [hB.cell]
      have hg2 : (dz.map mkD)[i]? = some (mkD (Ai, mi, ci)) := by
        rw [List.getElem?_map, List.getElem?_eq_getElem (by rw [HDL.out]; exact hi)]
        simp only [Option.map_some]
        rw [← hdi]
        simp only [List.getD, List.getElem?_eq_getElem (show i < dz.length by rw [HDL.out]; exact hi), Option.getD_some]
      rw [← htk] at hg2
      rw [List.getElem?_take] at hg2
      split at hg2
      · rw [← hg2]; simp
      · cases hg2)
  have HCI := Lib.hid (show ∀ W, Below wp.heap.size wp W → W.cell? ⟨g, i, none⟩ = some (.slice Ai mi ci) from fun W hW => (hW.cell (p := ⟨g, i, none⟩) HGB.out.1).trans HGB.out.2.2.2)
  have HRI := Lib.hid (show RowK12 wp (fun b => w2.heap.size ≤ b ∧ b < wp.heap.size ∧ (Value.slice (some ⟨g, 0, none⟩) n c5).ownBlock ≠ some b) Ai mi Y from hri)
  have HNI := Lib.hid (show Ai = none → ci = 0 from hni)
  have HRO4 := Lib.hid hro4
  have HYY := Lib.hid hY
  rw [← hwp]
  have hi1 : i + 1 ≤ 1000000 := by omega
  clear hwp hri hni hro4 hdi hY a0 a1 fa0 fa1
  refine Tillst.region (fun W => Below wp.heap.size wp W) [12] (by kernel_rfl) (Below.refl _ _).drew (fun hHeld => ?_)
  have HDW := Lib.hid (show wp.drew.heap.size = wp.heap.size from rfl)
  generalize wp.drew = vd at *
  refine Tillst.take (i := 0) (oi := aq0) (v := ?_) rfl (by kernel_rfl) (by kernel_rfl) (by kernel_rfl) (by kernel_rfl) (fun _ _ _ h => h) (by rfl) ?_ hHeld ?_
  rotate_left
  · intro W hSW; have s0 := (HK0.out.below hSW HK0.out.lt).cell 0; have s1 := (HK0.out.below hSW HK0.out.lt).cell 1; have s2 := HCI.out W hSW; unfold aq0; go_simp; with_reducible rfl
  simp only [aq0, Act.put, List.setIfInBounds_toArray, List.set_cons_zero, List.set_cons_succ]
  refine Tillst.take (i := 1) (oi := aq1) (v := ?_) rfl (by kernel_rfl) (by kernel_rfl) (by kernel_rfl) (by kernel_rfl) (fun _ _ _ h => h) (by rfl) ?_ hHeld ?_
  rotate_left
  · intro W hSW; have s0 := (HK0.out.below hSW HK0.out.lt).cell 0; have s1 := (HK0.out.below hSW HK0.out.lt).cell 1; have s2 := HCI.out W hSW; unfold aq1; go_simp; with_reducible rfl
  simp only [aq1, Act.put, List.setIfInBounds_toArray, List.set_cons_zero, List.set_cons_succ]
  refine Tillst.take (i := 2) (oi := aq2) (v := ?_) rfl (by kernel_rfl) (by kernel_rfl) (by kernel_rfl) (by kernel_rfl) (fun _ _ _ h => h) (by rfl) ?_ hHeld ?_
  rotate_left
  · intro W hSW; have s0 := (HK0.out.below hSW HK0.out.lt).cell 0; have s1 := (HK0.out.below hSW HK0.out.lt).cell 1; have s2 := HCI.out W hSW; unfold aq2; go_simp; with_reducible rfl
  simp only [aq2, Act.put, List.setIfInBounds_toArray, List.set_cons_zero, List.set_cons_succ]
  refine Tillst.take (i := 3) (oi := aq3) (v := ?_) rfl (by kernel_rfl) (by kernel_rfl) (by kernel_rfl) (by kernel_rfl) (fun _ _ _ h => h) (by rfl) ?_ hHeld ?_
  rotate_left
  · intro W hSW; have s0 := (HK0.out.below hSW HK0.out.lt).cell 0; have s1 := (HK0.out.below hSW HK0.out.lt).cell 1; have s2 := HCI.out W hSW; unfold aq3; go_simp; with_reducible rfl
  simp only [aq3, Act.put, List.setIfInBounds_toArray, List.set_cons_zero, List.set_cons_succ]
  refine Tillst.take (i := 5) (oi := aq5) (v := ?_) rfl (by kernel_rfl) (by kernel_rfl) (by kernel_rfl) (by kernel_rfl) (fun _ _ _ h => h) (by rfl) ?_ hHeld ?_
  rotate_left
  · intro W hSW; have s0 := (HK0.out.below hSW HK0.out.lt).cell 0; have s1 := (HK0.out.below hSW HK0.out.lt).cell 1; have s2 := HCI.out W hSW; unfold aq5; go_simp; with_reducible rfl
  simp only [aq5, Act.put, List.setIfInBounds_toArray, List.set_cons_zero, List.set_cons_succ]
  refine Tillst.take (i := 6) (oi := aq6) (v := ?_) rfl (by kernel_rfl) (by kernel_rfl) (by kernel_rfl) (by kernel_rfl) (fun _ _ _ h => h) (by rfl) ?_ hHeld ?_
  rotate_left
  · intro W hSW; have s0 := (HK0.out.below hSW HK0.out.lt).cell 0; have s1 := (HK0.out.below hSW HK0.out.lt).cell 1; have s2 := HCI.out W hSW; unfold aq6; go_simp; with_reducible rfl
  simp only [aq6, Act.put, List.setIfInBounds_toArray, List.set_cons_zero, List.set_cons_succ]
  refine Tillst.take (i := 7) (oi := aq7) (v := ?_) rfl (by kernel_rfl) (by kernel_rfl) (by kernel_rfl) (by kernel_rfl) (fun _ _ _ h => h) (by rfl) ?_ hHeld ?_
  rotate_left
  · intro W hSW; have s0 := (HK0.out.below hSW HK0.out.lt).cell 0; have s1 := (HK0.out.below hSW HK0.out.lt).cell 1; have s2 := HCI.out W hSW; unfold aq7; go_simp; with_reducible rfl
  simp only [aq7, Act.put, List.setIfInBounds_toArray, List.set_cons_zero, List.set_cons_succ]
  refine Tillst.take (i := 8) (oi := aq8) (v := ?_) rfl (by kernel_rfl) (by kernel_rfl) (by kernel_rfl) (by kernel_rfl) (fun _ _ _ h => h) (by rfl) ?_ hHeld ?_
  rotate_left
  · intro W hSW; have s0 := (HK0.out.below hSW HK0.out.lt).cell 0; have s1 := (HK0.out.below hSW HK0.out.lt).cell 1; have s2 := HCI.out W hSW; unfold aq8; go_simp; with_reducible rfl
  simp only [aq8, Act.put, List.setIfInBounds_toArray, List.set_cons_zero, List.set_cons_succ]
  refine Tillst.take (i := 9) (oi := aq9) (v := ?_) rfl (by kernel_rfl) (by kernel_rfl) (by kernel_rfl) (by kernel_rfl) (fun _ _ _ h => h) (by rfl) ?_ hHeld ?_
  rotate_left
  · intro W hSW; have s0 := (HK0.out.below hSW HK0.out.lt).cell 0; have s1 := (HK0.out.below hSW HK0.out.lt).cell 1; have s2 := HCI.out W hSW; unfold aq9; go_simp; with_reducible rfl
  simp only [aq9, Act.put, List.setIfInBounds_toArray, List.set_cons_zero, List.set_cons_succ]
  refine Tillst.one (i := 4) (o := aq4) (by kernel_rfl) rfl ?_
  intro K hK
  refine step_lit12 (.tmp 13) rfl rfl k rfl ?_
  intro w4 hown hw4
  have hb4 : Below wp.heap.size wp w4 := by rw [hw4]; exact hHeld.alloc hHeld.size _
  have hb4v : w4.heap.size = vd.heap.size + 1 := by rw [hw4]; simp
  clear hw4
  simp only [aq4, Act.put, List.setIfInBounds_toArray, List.set_cons_zero, List.set_cons_succ]
  refine hK.out _ _ (fun _ => hb4) (fun hHeld2 => ?_)
  clear hHeld2 hK K
  refine Tillst.one (i := 10) (o := aq10) (by kernel_rfl) rfl ?_
  intro K hK
  have hsr := HRI.out.below hb4 (fun b hb => hb.2.1)
  refine step_append_rowG (mk := mkK) (d := (0 : Nat)) rfl (.tmp 14) (.tmp 19) 56 rfl vd.heap.size 3 i0 (.int .i64 0) 8 Try.underlying56 hi0 hz0 hz1 hz2 rfl (fun _ => rfl) _ 1 _ rfl hown _ Ai mi ci Y rfl hsr HNI.out (by unfold maxLen; omega) (by omega) (by omega) ?_
  intro v10 w10 hown10 hgrow _
  have hb10 := below_append hb4 hown (by have := HDW.out; omega) hb4.size hgrow
  have hs10 := hgrow.size
  replace hown10 : w10.ownsRow vd.heap.size 3 1 v10 (k :: Y).length (valsK (k :: Y)) := by have := HRI.out.1; rw [List.length_cons, this, Nat.add_comm]; simpa [valsK] using hown10
  clear hown hgrow hsr
  simp only [aq10, Act.put, List.setIfInBounds_toArray, List.set_cons_zero, List.set_cons_succ]
  refine hK.out _ _ (fun _ => hb10) (fun hHeld2 => ?_)
  clear hHeld2 hK K
  refine Tillst.one (i := 11) (o := aq11) (by kernel_rfl) rfl ?_
  intro K hK
  refine step_value (.pointer (some ⟨g, i, none⟩)) rfl ?_ ?_
  · unfold aq11; go_simp
  simp only [aq11, Act.put, List.setIfInBounds_toArray, List.set_cons_zero, List.set_cons_succ]
  refine hK.out _ _ (fun _ => hb10) (fun hHeld2 => ?_)
  clear hHeld2 hK K
  obtain ⟨A10, c10, e10, _, hn10, hr10⟩ := rowG_own (mk := mkK) 0 hown10
  subst e10
  have hlt10 := hown10.lt
  have f10 : w10.frozen? ⟨g, i, none⟩ = false := (hb10.frozen (p := ⟨g, i, none⟩) HGB.out.1).trans HGB.out.2.2.1
  have z10 := HCI.out w10 hb10
  refine Tillst.one (i := 12) (o := aq12) (by kernel_rfl) rfl ?_
  intro K hK
  refine step_store_cell (.tmp 21) (.tmp 20) 56 rfl rfl ⟨g, i, none⟩ (.slice A10 (k :: Y).length c10) rfl rfl ?_ ?_
  · go_simp
  simp only [aq12, Act.put]
  refine hK.out _ _ (fun h => absurd h (by decide)) (fun _ => ?_)
  clear hK K
  refine Tillst.done (by kernel_rfl) ?_ _
  have hbig : w2.heap.size ≤ vd.heap.size := by have := HGB.out; have := HDW.out; omega
  have HSET := Lib.hid ((HRO4.out.below hb10).set (d := (A10, (k :: Y).length, c10)) (x := k :: Y) HDL.out hi (hr10.more fun b hb => ⟨Nat.le_trans hbig hb.1, hb.2.1, by have := HGB.out.1; have := HDW.out; have := hb.1; omega⟩) hn10)
  have HPX := Lib.hid (show (outX xs k).set i (k :: Y) = putX (outX xs k) i k by unfold putX; rw [HYY.out])
  have hk0 := HK0.out.below hb10 HK0.out.lt
  have hkb := HKB4.out.below hb10 HKB4.out.lt
  have hne0 : w.heap.size ≠ g := by have := HGB.out.2.1; omega
  have hne1 : w.heap.size + 1 ≠ g := by have := HGB.out.2.1; omega
  have hk0' := hk0.far (p := ⟨g, i, none⟩) hne0 (.slice A10 (k :: Y).length c10)
  have hkb' := hkb.far (p := ⟨g, i, none⟩) hne1 (.slice A10 (k :: Y).length c10)
  have HB12 := Lib.hid ((HBP.out.trans (hb10.mono HBP.out.size)).setCell (p := ⟨g, i, none⟩) (by have := HGB.out.2.1; show w.heap.size ≤ g; omega) (.slice A10 (k :: Y).length c10))
  have y0 := hk0'.cell 0
  have y1 := hk0'.cell 1
  have y2 := hkb'.cell 0
  have y3 := hkb'.cell 1
  have g2 := hkb'.frozen 0
  have g3 := hkb'.frozen 1
  have HKB12 := Lib.hid hkb'
  clear hk0 hkb hk0' hkb' z10 f10 hr10 hown10
  generalize w10.setCell ⟨g, i, none⟩ (mkD (A10, (k :: Y).length, c10)) = W12 at *
  go_wp2
  refine bodyPost_ret (results_row1 rfl _ _ (w.heap.size + 1) 31 #[.int .i64 (numbers : Nat), .slice (some ⟨g, 0, none⟩) n c5] _ rfl (show Blk _ _ _ #[.int .i64 (numbers : Nat), .slice (some ⟨g, 0, none⟩) n c5] from (HKB12.out.set_ 0 (.int .i64 (numbers : Nat))).set_ 1 (.slice (some ⟨g, 0, none⟩) n c5)) Try.underlying31 rfl size_ref12) rfl ?_
  have hlow : ∀ j, w2.heap.size ≤ j → ((W12.setCell ⟨w.heap.size + 1, 0, none⟩ (.int .i64 (numbers : Nat))).setCell ⟨w.heap.size + 1, 1, none⟩ (.slice (some ⟨g, 0, none⟩) n c5)).heap[j]? = W12.heap[j]? := fun j hj =>
    (Below.heap_setCell _ ⟨w.heap.size + 1, 1, none⟩ _ j (by show j ≠ w.heap.size + 1; omega)).trans (Below.heap_setCell _ ⟨w.heap.size + 1, 0, none⟩ _ j (by show j ≠ w.heap.size + 1; omega))
  rw [← HPX.out]
  exact ⟨_, _, rfl, RefO.base (B := w2.heap.size) (HSET.out.same (by simp [World.setCell]) hlow) (by omega), (HB12.out.setCell (p := ⟨w.heap.size + 1, 0, none⟩) (by simp) _).setCell (p := ⟨w.heap.size + 1, 1, none⟩) (by simp) _⟩
end Go.Proofs.Ythegbimolbhikaa
