/- Package disk: what Write does where it is let. -/
import Derived.Test.YtkmbbfdjdmkjpaaDk1
import Derived.Test.YtkmbbfdjdmkjpaaBuildW
import Derived.Test.YtkmbbfdjdmkjpaaTill
import Derived.Deep.RegionHeld3
namespace Go.Proofs.Ytkmbbfdjdmkjpaa
open Go.RowKit
set_option linter.unusedVariables false
set_option linter.unusedSimpArgs false

section
variable {w : World} {ops : Array Oper} {rest : List Oper} {o : Oper} {a : Act} {Q : Exit → Act → World → Prop} {K : Act → World → Prop} {E : Prop}
theorem step_lit_write (x : Operand) (ho : o.op = .buildSlice 104 1 #[(0, x)]) (hgd : Region.wanted o (yielded ops a.tmps) = true) (cs : List Value) (hx : a.eval x = .agg cs.toArray) (hl : cs.length = 65)
    (h : K (a.put o.dst (.slice (some ⟨w.heap.size, 0, none⟩) 1 1)) (w.alloc (.cells cs.toArray 115))) : if Region.wanted o (yielded ops a.tmps) = true then Oper.wp Try.prog o a w K Q else E := by
  rw [if_pos hgd]
  obtain ⟨i0, hi, hz0, hz1, hz2⟩ := info_parts info_write
  refine wp_buildSlice 104 115 1 #[(0, x)] ho cs.toArray i0 _ Try.underlying104 hi hz0 (by rw [hz1]; decide) (by rw [hz1]; decide) ?_ h
  rw [hz1]
  have e : (Array.map (fun (p : Nat × Operand) => (p.1, a.eval p.2)) #[(0, x)]).toList = [(0, .agg cs.toArray)] := by simp [hx]
  exact (congrArg _ e).trans (fill_lit cs hl _ (by simp [Value.cells, cells8_size, noughts_length]))

/-- append(pending, write{..}). -/
theorem step_append_write (s x : Operand) (ho : o.op = .call { callee := .builtin .append, args := #[s, x], argTypes := #[104, 104] }) (hgd : Region.wanted o (yielded ops a.tmps) = true)
    (base : Nat) (v : Value) (m : Nat) (P : List Value) (hs : a.eval s = v) (hown : w.ownsRow base 115 65 v m P) (g : Nat) (cs : List Value) (hx : a.eval x = .slice (some ⟨g, 0, none⟩) 1 1) (hg : Blk w g 115 cs.toArray) (hl : cs.length = 65) (hone : ∀ v ∈ cs, v.oneCell' = true)
    (hm : m ≤ 1000000) (hbase : base ≤ w.heap.size)
    (h : ∀ v' w', w'.ownsRow base 115 65 v' (m + 1) (P ++ cs) → w.grownBy w' v.ownBlock → (v'.ownBlock = v.ownBlock ∨ v'.ownBlock = some w.heap.size) → K (a.put o.dst v') w') :
    if Region.wanted o (yielded ops a.tmps) = true then Oper.wp Try.prog o a w K Q else E := by
  obtain ⟨i0, hi, hz0, hz1, hz2⟩ := info_parts info_write
  obtain ⟨v', w', hrun, h2, h3, _, h4⟩ := run_append_own_at (P := Try.prog) w base 104 o.type 115 i0 _ 65 72 Try.underlying104 hi hz0 hz1 hz2 (by simp [Value.cells, cells8_size, noughts_length]) (by omega) v m P hown ⟨g, 0, none⟩ 1 1 cs (by rw [hl])
    (fun j u hu => by rw [add_plain, Nat.zero_add, hg.cell j]; simpa using hu) hone (by unfold maxLen; omega) (by omega) hbase
  rw [if_pos hgd]
  unfold Oper.wp execOp
  simp only [ho, resolve, invoke, builtin, Sem.run_bind, Sem.run_pure, Result.andThen_ok, List.map_toArray, List.map_cons, List.map_nil, hs, hx, hrun]
  exact h v' w' h2 h3 h4
end

theorem flat_set {L : List (List Int)} (h : Secs L) (k : Nat) (hk : k < L.length) (ys : List Int) (hy : ys.length = 64) : (flat L).take (k * 64) ++ ys ++ (flat L).drop (k * 64 + 64) = flat (L.set k ys) := by
  have hc := list_cut k hk
  have hl := flat_length (h.take k)
  have hg := h.get k hk
  rw [List.length_take, Nat.min_eq_left (by omega)] at hl
  have e : L.set k ys = L.take k ++ [ys] ++ L.drop (k + 1) := by
    rw [List.set_eq_take_append_cons_drop, if_pos hk, List.append_assoc, List.singleton_append]
  rw [e]
  conv => lhs; rw [hc]
  rw [flat_append, flat_append, flat_one, flat_append, flat_append, flat_one]
  generalize L.getD k [] = zs at *
  generalize flat (L.take k) = us at *
  generalize flat (L.drop (k + 1)) = vs at *
  rw [List.append_assoc us zs vs, List.take_append, List.take_of_length_le (by omega), List.drop_append, hl]
  simp [show k * 64 + 64 - k * 64 = 64 by omega, hl, hg, List.drop_append]
theorem Secs.set_ {L : List (List Int)} (h : Secs L) (k : Nat) {ys : List Int} (hy : ys.length = 64) : Secs (L.set k ys) := fun xs hx => by
  rcases List.mem_or_eq_of_mem_set hx with h1 | h1
  · exact h xs h1
  · rw [h1]; exact hy

/-- A sector laid into a row of sectors. -/
theorem sector_set {P : Program} {w : World} {g : Nat} {t : TypeId} {L : List (List Int)} (h : Arr (Value.int .u8) w g t (flat L)) (hs : Secs L) (k : Nat) (hk : k < L.length) {ys : List Int} (hy : ys.length = 64) :
    w.setCells g (k * 64) (ys.map (Value.int .u8)) = w.setRow g (cells8 (flat (L.set k ys))) := by
  have hf := flat_length hs
  have e := setCells_row (P := P) (w := w) (F := (flat L).map (Value.int .u8)) h (k * 64) (ys.map (Value.int .u8)) (ones8 ys) (by simp [hy, hf]; omega)
  rw [e, ← flat_set hs k hk ys hy]
  simp [cells8, hy, List.map_take, List.map_drop]

abbrev wr0 : Oper := { dst := some 10, op := Go.Op.load 39 (Go.Operand.tmp 1), type := 39, pos := "disk.go:75", after := #[], guard := none }
abbrev wr1 : Oper := { dst := some 11, op := Go.Op.load 39 (Go.Operand.tmp 1), type := 39, pos := "disk.go:75", after := #[], guard := none }
abbrev wr2 : Oper := { dst := some 12, op := Go.Op.nilCheck (Go.Operand.tmp 11), type := 0, pos := "disk.go:75", after := #[{ on := 1, ground := Go.Ground.data }], guard := none }
abbrev wr3 : Oper := { dst := some 13, op := Go.Op.fieldAddr 106 (Go.Operand.tmp 12) 2, type := 0, pos := "disk.go:75", after := #[{ on := 2, ground := Go.Ground.data }], guard := none }
abbrev wr4 : Oper := { dst := some 14, op := Go.Op.load 104 (Go.Operand.tmp 13), type := 104, pos := "disk.go:75", after := #[{ on := 3, ground := Go.Ground.data }], guard := none }
abbrev wr5 : Oper := { dst := some 15, op := Go.Op.load 3 (Go.Operand.tmp 2), type := 3, pos := "disk.go:75", after := #[], guard := none }
abbrev wr6 : Oper := { dst := some 16, op := Go.Op.load 26 (Go.Operand.tmp 0), type := 26, pos := "disk.go:75", after := #[], guard := none }
abbrev wr7 : Oper := { dst := some 17, op := Go.Op.build 115 #[(0, Go.Operand.tmp 15), (1, Go.Operand.tmp 16)], type := 115, pos := "disk.go:75", after := #[{ on := 5, ground := Go.Ground.data }, { on := 6, ground := Go.Ground.data }], guard := none }
abbrev wr8 : Oper := { dst := some 18, op := Go.Op.buildSlice 104 1 #[(0, Go.Operand.tmp 17)], type := 104, pos := "disk.go:75", after := #[{ on := 7, ground := Go.Ground.data }], guard := none }
abbrev wr9 : Oper := { dst := some 19, op := Go.Op.call { callee := Go.Callee.builtin Go.Builtin.append, args := #[Go.Operand.tmp 14, Go.Operand.tmp 18], argTypes := #[104, 104] }, type := 104, pos := "disk.go:75", after := #[{ on := 4, ground := Go.Ground.data }, { on := 8, ground := Go.Ground.data }], guard := none }
abbrev wr10 : Oper := { dst := some 20, op := Go.Op.nilCheck (Go.Operand.tmp 10), type := 0, pos := "disk.go:75", after := #[{ on := 0, ground := Go.Ground.data }, { on := 0, ground := Go.Ground.phase }, { on := 1, ground := Go.Ground.phase }, { on := 2, ground := Go.Ground.phase }, { on := 3, ground := Go.Ground.phase }, { on := 4, ground := Go.Ground.phase }, { on := 5, ground := Go.Ground.phase }, { on := 6, ground := Go.Ground.phase }, { on := 7, ground := Go.Ground.phase }, { on := 8, ground := Go.Ground.phase }, { on := 9, ground := Go.Ground.phase }], guard := none }
abbrev wr11 : Oper := { dst := some 21, op := Go.Op.fieldAddr 106 (Go.Operand.tmp 20) 2, type := 0, pos := "disk.go:75", after := #[{ on := 10, ground := Go.Ground.data }, { on := 0, ground := Go.Ground.phase }, { on := 1, ground := Go.Ground.phase }, { on := 2, ground := Go.Ground.phase }, { on := 3, ground := Go.Ground.phase }, { on := 4, ground := Go.Ground.phase }, { on := 5, ground := Go.Ground.phase }, { on := 6, ground := Go.Ground.phase }, { on := 7, ground := Go.Ground.phase }, { on := 8, ground := Go.Ground.phase }, { on := 9, ground := Go.Ground.phase }], guard := none }
abbrev wr12 : Oper := { dst := none, op := Go.Op.store 104 (Go.Operand.tmp 21) (Go.Operand.tmp 19), type := 0, pos := "disk.go:75", after := #[{ on := 11, ground := Go.Ground.data }, { on := 9, ground := Go.Ground.data }, { on := 9, ground := Go.Ground.chain }, { on := 0, ground := Go.Ground.phase }, { on := 1, ground := Go.Ground.phase }, { on := 2, ground := Go.Ground.phase }, { on := 3, ground := Go.Ground.phase }, { on := 4, ground := Go.Ground.phase }, { on := 5, ground := Go.Ground.phase }, { on := 6, ground := Go.Ground.phase }, { on := 7, ground := Go.Ground.phase }, { on := 8, ground := Go.Ground.phase }, { on := 9, ground := Go.Ground.phase }], guard := none }

section
variable {w : World} {d H S n : Nat} {v : Value} {m : Nat} {held safe : List Int} {P : List Value} {armed fails : Int} {dead : Bool} {ops : Int}

def WroteTo (w : World) (d H S n : Nat) (v : Value) (m : Nat) (held safe : List Int) (P : List Value) (armed fails : Int) (dead : Bool) (ops : Int) (w' : World) : Prop :=
  ∃ v', Dm w' d H S n v' m held safe P armed fails dead ops ∧ (∀ g, v'.ownBlock = some g → v.ownBlock = some g ∨ w.heap.size ≤ g) ∧ Kept (fun b => b < w.heap.size ∧ b ≠ d ∧ b ≠ H ∧ v.ownBlock ≠ some b) w w'

set_option maxHeartbeats 1000000 in
set_option maxRecDepth 100000 in
theorem write1_any (h : Dm w d H S n v m held safe P armed fails dead ops) (xss : List (List Int)) (hs : Secs xss) (hh : held = flat xss) (hn : xss.length = n) (hn2 : n ≤ 2048) (i : Nat) (hi : i < n) (gd gi gb : Nat) (ys : List Int) (hy : ys.length = 64)
    (hgd : Blk w gd 39 #[.pointer (some ⟨d, 0, none⟩)]) (hgi : Blk w gi 3 #[.int .i64 i]) (hgb : ArrB w gb ys) (hne : gb ≠ H) (hm : m ≤ 1000000) :
    Calls Try.prog 107 #[.pointer (some ⟨gb, 0, none⟩), .pointer (some ⟨gd, 0, none⟩), .pointer (some ⟨gi, 0, none⟩)] w fun e w' => e = .returned (.tuple #[]) ∧
      WroteTo w d H S n v (m + 1) (flat (xss.set i ys)) safe (P ++ wcells (i, ys)) armed fails dead ops w' := by
  subst hh
  have c0 := h.cell.1
  have cd := hgd.cell 0
  have ci := hgi.cell 0
  simp only [List.getElem?_toArray, List.getElem?_cons_zero] at cd ci
  have hu := Try.underlying26
  have hr := hgb.range
  have hsz : (Try.prog.info? 26).map (·.size) = some (ys.map (Value.int .u8)).length := by rw [size_blk, List.length_map, hy]
  have hi0 : (0 : Int) ≤ (i : Int) := by omega
  have hi1 : (i : Int) < (n : Int) := by omega
  have n1 : gd ≠ H := hgd.ne_ h.hh (by decide)
  have n2 : gi ≠ H := hgi.ne_ h.hh (by decide)
  have n3 : d ≠ H := h.dH
  have kd := fun cs => far_cells (w := w.drew) (g := H) (o := i * 64) cs cd n1
  have ki := fun cs => far_cells (w := w.drew) (g := H) (o := i * 64) cs ci n2
  have k0 := fun cs => far_cells (w := w.drew) (g := H) (o := i * 64) cs c0 n3
  have kr := fun cs => far_cells_range (w := w.drew) (g := H) (o := i * 64) (cs := cs) hr hne
  have hone := ones8 ys
  have hfl := flat_length hs
  have hth : w.drew.there H (i * 64) (ys.map (Value.int .u8)).length := Blk.there (w := w.drew) h.hh (by simp [hfl, hy]; omega)
  have hrow := sector_set (P := Try.prog) (w := w.drew) (L := xss) h.hh hs i (by omega) hy
  have HROW := Lib.hid hrow
  have HM := Lib.hid h
  have HGD := Lib.hid hgd
  have HGI := Lib.hid hgi
  have HGB := Lib.hid hgb
  have HY := Lib.hid hy
  have HNE := Lib.hid hne
  clear h hgd hgi hgb hrow hfl hne
  go_enter Try.func107, Try.ntmps107
  go_wp2
  go_region_held3 (fun W => W.cell? ⟨gd, 0, none⟩ = some (.pointer (some ⟨d, 0, none⟩)) ∧ W.cell? ⟨gi, 0, none⟩ = some (.int .i64 i) ∧ W.cell? ⟨d, 0, none⟩ = some (.slice (some ⟨H, 0, none⟩) n n) ∧ W.rangeAt gb 0 (ys.map (Value.int .u8)))
    (first | exact ⟨cd, ci, c0, hr⟩ | exact ⟨kd _, ki _, k0 _, kr _⟩)
    (fail)
  clear kd ki k0 kr c0 cd ci hr hth
  rw [HROW.out]
  have hk1 : Kept (fun b => b ≠ H) w (w.drew.setRow H (cells8 (flat (xss.set i ys)))) := (Kept.refl _ w).drew.setRow (fun h => h rfl) _
  have HM1 := Lib.hid (HM.out.drew.held_ (flat (xss.set i ys)))
  generalize hw1 : w.drew.setRow H (cells8 (flat (xss.set i ys))) = w1 at *
  have hgd1 := HGD.out.kept hk1 n1
  have hgi1 := HGI.out.kept hk1 n2
  have hgb1 := Arr.kept HGB.out hk1 HNE.out
  have HS1 := Lib.hid (show w.heap.size = w1.heap.size by rw [← hw1]; simp [World.setRow])
  clear hw1
  have c2 := HM1.out.cell.2.2.1
  have cd := hgd1.cell 0
  have ci := hgi1.cell 0
  simp only [List.getElem?_toArray, List.getElem?_cons_zero] at cd ci
  have hr := hgb1.range
  have hf2 := HM1.out.frozen 2
  have HB := Lib.hid (built_write (i, ys) HY.out)
  go_wp2
  refine wp_region_noPanic ?_
  refine Tillst.region (fun W => W.cell? ⟨gd, 0, none⟩ = some (.pointer (some ⟨d, 0, none⟩)) ∧ W.cell? ⟨gi, 0, none⟩ = some (.int .i64 i) ∧ W.cell? ⟨d, 2, none⟩ = some v ∧ W.rangeAt gb 0 (ys.map (Value.int .u8))) [12] (by kernel_rfl) ⟨cd, ci, c2, hr⟩ (fun hHeld => ?_)
  have HMd := Lib.hid HM1.out.drew
  have HSd := Lib.hid (show w.heap.size = w1.drew.heap.size from HS1.out)
  have hkd : Kept (fun b => b ≠ H) w w1.drew := hk1.drew
  have HKD := Lib.hid hkd
  generalize w1.drew = u at *
  refine Tillst.take (i := 0) (oi := wr0) (v := ?_) rfl (by kernel_rfl) (by kernel_rfl) (by kernel_rfl) (by kernel_rfl) (fun _ _ _ h => h) (by rfl) ?_ hHeld ?_
  rotate_left
  · intro W hSW; (try dsimp only at hSW); unfold wr0; go_simp; with_reducible rfl
  simp only [wr0, Act.put, List.setIfInBounds_toArray, List.set_cons_zero, List.set_cons_succ]
  refine Tillst.take (i := 1) (oi := wr1) (v := ?_) rfl (by kernel_rfl) (by kernel_rfl) (by kernel_rfl) (by kernel_rfl) (fun _ _ _ h => h) (by rfl) ?_ hHeld ?_
  rotate_left
  · intro W hSW; (try dsimp only at hSW); unfold wr1; go_simp; with_reducible rfl
  simp only [wr1, Act.put, List.setIfInBounds_toArray, List.set_cons_zero, List.set_cons_succ]
  refine Tillst.take (i := 2) (oi := wr2) (v := ?_) rfl (by kernel_rfl) (by kernel_rfl) (by kernel_rfl) (by kernel_rfl) (fun _ _ _ h => h) (by rfl) ?_ hHeld ?_
  rotate_left
  · intro W hSW; (try dsimp only at hSW); unfold wr2; go_simp; with_reducible rfl
  simp only [wr2, Act.put, List.setIfInBounds_toArray, List.set_cons_zero, List.set_cons_succ]
  refine Tillst.take (i := 3) (oi := wr3) (v := ?_) rfl (by kernel_rfl) (by kernel_rfl) (by kernel_rfl) (by kernel_rfl) (fun _ _ _ h => h) (by rfl) ?_ hHeld ?_
  rotate_left
  · intro W hSW; (try dsimp only at hSW); unfold wr3; go_simp; with_reducible rfl
  simp only [wr3, Act.put, List.setIfInBounds_toArray, List.set_cons_zero, List.set_cons_succ]
  refine Tillst.take (i := 4) (oi := wr4) (v := ?_) rfl (by kernel_rfl) (by kernel_rfl) (by kernel_rfl) (by kernel_rfl) (fun _ _ _ h => h) (by rfl) ?_ hHeld ?_
  rotate_left
  · intro W hSW; (try dsimp only at hSW); unfold wr4; go_simp; with_reducible rfl
  simp only [wr4, Act.put, List.setIfInBounds_toArray, List.set_cons_zero, List.set_cons_succ]
  refine Tillst.take (i := 5) (oi := wr5) (v := ?_) rfl (by kernel_rfl) (by kernel_rfl) (by kernel_rfl) (by kernel_rfl) (fun _ _ _ h => h) (by rfl) ?_ hHeld ?_
  rotate_left
  · intro W hSW; (try dsimp only at hSW); unfold wr5; go_simp; with_reducible rfl
  simp only [wr5, Act.put, List.setIfInBounds_toArray, List.set_cons_zero, List.set_cons_succ]
  refine Tillst.take (i := 6) (oi := wr6) (v := ?_) rfl (by kernel_rfl) (by kernel_rfl) (by kernel_rfl) (by kernel_rfl) (fun _ _ _ h => h) (by rfl) ?_ hHeld ?_
  rotate_left
  · intro W hSW; refine exec_load_row (.tmp 0) 26 ?_ gb 0 ?_ (ys.map (Value.int .u8)) _ hu rfl hsz hSW.2.2.2 <;> rfl
  simp only [wr6, Act.put, List.setIfInBounds_toArray, List.set_cons_zero, List.set_cons_succ]
  refine Tillst.take (i := 7) (oi := wr7) (v := ?_) rfl (by kernel_rfl) (by kernel_rfl) (by kernel_rfl) (by kernel_rfl) (fun _ _ _ h => h) (by rfl) ?_ hHeld ?_
  rotate_left
  · intro W hSW; refine exec_build 115 #[(0, .tmp 15), (1, .tmp 16)] ?_ [(0, .int .i64 i), (1, .agg (ys.map (Value.int .u8)).toArray)] ?_ _ HB.out <;> first | rfl | simp [Act.eval]
  simp only [wr7, Act.put, List.setIfInBounds_toArray, List.set_cons_zero, List.set_cons_succ]
  refine Tillst.one (i := 8) (o := wr8) (by kernel_rfl) rfl ?_
  intro K hK
  refine step_lit_write (.tmp 17) rfl rfl (wcells (i, ys)) rfl (wcells_length _ HY.out) ?_
  simp only [wr8, Act.put, List.setIfInBounds_toArray, List.set_cons_zero, List.set_cons_succ]
  have HMe := Lib.hid (HMd.out.alloc (.cells (wcells (i, ys)).toArray 115))
  have HNB := Lib.hid (Blk.new u 115 (wcells (i, ys)).toArray)
  have hHeld1 : (u.alloc (.cells (wcells (i, ys)).toArray 115)).cell? ⟨gd, 0, none⟩ = some (.pointer (some ⟨d, 0, none⟩)) ∧ (u.alloc (.cells (wcells (i, ys)).toArray 115)).cell? ⟨gi, 0, none⟩ = some (.int .i64 i) ∧
      (u.alloc (.cells (wcells (i, ys)).toArray 115)).cell? ⟨d, 2, none⟩ = some v ∧ (u.alloc (.cells (wcells (i, ys)).toArray 115)).rangeAt gb 0 (ys.map (Value.int .u8)) :=
    ⟨cell_alloc _ hHeld.1, cell_alloc _ hHeld.2.1, cell_alloc _ hHeld.2.2.1, range_alloc _ hHeld.2.2.2⟩
  have HSe := Lib.hid (show w.heap.size + 1 = (u.alloc (.cells (wcells (i, ys)).toArray 115)).heap.size by have := HSd.out; simp; omega)
  have HKE := Lib.hid (show Kept (fun b => b < w.heap.size ∧ b ≠ H) w (u.alloc (.cells (wcells (i, ys)).toArray 115)) from Kept.alloc (HKD.out.mono (S := fun b => b < w.heap.size ∧ b ≠ H) (fun b h => h.2)) (fun b h => by have := HSd.out; have := h.1; omega) _)
  have HGDe := Lib.hid (Blk.alloc (HGD.out.kept HKD.out n1) (.cells (wcells (i, ys)).toArray 115))
  have HGIe := Lib.hid (Blk.alloc (HGI.out.kept HKD.out n2) (.cells (wcells (i, ys)).toArray 115))
  have HGBe := Lib.hid (Blk.alloc (Arr.kept HGB.out HKD.out HNE.out) (.cells (wcells (i, ys)).toArray 115))
  have HZ := Lib.hid (show u.heap.size = w.heap.size from HSd.out.symm)
  generalize hu1 : u.alloc (.cells (wcells (i, ys)).toArray 115) = u1 at *
  refine hK.out _ _ (fun _ => hHeld1) (fun hHeld => ?_)
  replace hHeld := hHeld (by decide)
  clear hK K hHeld1 hu1
  refine Tillst.one (i := 9) (o := wr9) (by kernel_rfl) rfl ?_
  intro K hK
  refine step_append_write (.tmp 14) (.tmp 18) rfl rfl 0 v m P rfl HMe.out.own u.heap.size (wcells (i, ys)) rfl HNB.out (wcells_length _ HY.out) (wcells_one _) hm (Nat.zero_le _) ?_
  intro v' u2 hown hgrow hblk
  simp only [wr9, Act.put, List.setIfInBounds_toArray, List.set_cons_zero, List.set_cons_succ]
  have HMF := Lib.hid (HMe.out.regrow hgrow hown)
  have hHeld2 := And.intro (cell_grown hgrow hHeld.1 (own_blk_ne HMe.out.own HGDe.out (by decide))) (And.intro (cell_grown hgrow hHeld.2.1 (own_blk_ne HMe.out.own HGIe.out (by decide))) (And.intro (cell_grown hgrow hHeld.2.2.1 HMe.out.vd) (range_grown hgrow hHeld.2.2.2 (own_blk_ne HMe.out.own HGBe.out (by decide)))))
  have hfz := (HMe.out.blk.grown hgrow (fun e => HMe.out.vd e.symm)).frozen 2
  have hvb : ∀ g, v'.ownBlock = some g → v.ownBlock = some g ∨ w.heap.size ≤ g := by
    intro g hg
    rcases hblk with e | e
    · exact .inl (by rw [← e]; exact hg)
    · rw [e] at hg
      injection hg with hg
      have := HSe.out
      exact .inr (by omega)
  have HVB := Lib.hid hvb
  have HKF := Lib.hid (show Kept (fun b => b < w.heap.size ∧ b ≠ d ∧ b ≠ H ∧ v.ownBlock ≠ some b) w (u2.setCell ⟨d, 2, none⟩ v') from
    ((HKE.out.mono (S := fun b => b < w.heap.size ∧ b ≠ d ∧ b ≠ H ∧ v.ownBlock ≠ some b) (fun b h => ⟨h.1, h.2.2.1⟩)).grown hgrow (fun b h => by have := HSe.out; omega) (fun g hg h => h.2.2.2 hg)).setCell (fun h => h.2.1 rfl) _)
  obtain ⟨g', cap', rfl, _, _, _⟩ : ∃ g cap, v' = .slice (some ⟨g, 0, none⟩) (m + 1) cap ∧ 0 ≤ g ∧ g < u2.heap.size ∧ m + 1 ≤ cap := by
    have hlt := hown.lt
    rcases hown.2 with ⟨_, h0⟩ | ⟨g, cap, cur, rfl, hg, hh, hnc, hc⟩
    · omega
    · exact ⟨g, cap, rfl, hg, (hlt g rfl).2, hnc⟩
  refine hK.out _ _ (fun _ => hHeld2) (fun hHeld => ?_)
  replace hHeld := hHeld (by decide)
  clear hK K hHeld2 hown hgrow hblk hvb
  refine Tillst.one (i := 10) (o := wr10) (by kernel_rfl) rfl ?_
  intro K hK
  refine step_value ?_ rfl ?_ ?_
  rotate_left
  · unfold wr10; go_simp; with_reducible rfl
  simp only [wr10, Act.put, List.setIfInBounds_toArray, List.set_cons_zero, List.set_cons_succ]
  refine hK.out _ _ (fun _ => hHeld) (fun hHeld => ?_)
  replace hHeld := hHeld (by decide)
  clear hK K
  refine Tillst.one (i := 11) (o := wr11) (by kernel_rfl) rfl ?_
  intro K hK
  refine step_value ?_ rfl ?_ ?_
  rotate_left
  · unfold wr11; go_simp; with_reducible rfl
  simp only [wr11, Act.put, List.setIfInBounds_toArray, List.set_cons_zero, List.set_cons_succ]
  refine hK.out _ _ (fun _ => hHeld) (fun hHeld => ?_)
  replace hHeld := hHeld (by decide)
  clear hK K
  refine Tillst.one (i := 12) (o := wr12) (by kernel_rfl) rfl ?_
  intro K hK
  have hst : (Instr.storeAt 104 (.pointer (some ⟨d, 2, none⟩)) (.slice (some ⟨g', 0, none⟩) (m + 1) cap')).run Try.prog u2 = .ok () (u2.setCell ⟨d, 2, none⟩ (.slice (some ⟨g', 0, none⟩) (m + 1) cap')) := by
    have hc := hHeld.2.2.1
    go_simp
  refine step_store_cell (.tmp 21) (.tmp 19) 104 rfl rfl ⟨d, 2, none⟩ _ rfl rfl hst ?_
  simp only [wr12, Act.put, List.setIfInBounds_toArray, List.set_cons_zero, List.set_cons_succ]
  refine hK.out _ _ (fun h => by cases h) (fun _ => Tillst.done (by kernel_rfl) ?_ _)
  refine NoPanic.normal ?_
  go_wp2
  go_end0
  exact ⟨rfl, _, HMF.out, HVB.out, HKF.out⟩
end

end Go.Proofs.Ytkmbbfdjdmkjpaa
