/- A disk in memory: its struct, what its sectors hold, what is safe, the pending writes. Words, and how they stand where a cell or a row is laid. -/
import Derived.Test.YtkmbbfdjdmkjpaaBks
namespace Go.Proofs.Ytkmbbfdjdmkjpaa
open Go.RowKit
set_option linter.unusedVariables false
set_option linter.unusedSimpArgs false

/-! Many cells laid into a block that is known whole. -/

theorem run_store_part {P : Program} {w : World} {g off n : Nat} {t ty : TypeId} (hsz : ∀ w, (sizeOf ty).run P w = .ok n w) (F cs : List Value) (hg : Blk w g t F.toArray) (hl : cs.length = n) (hone : ∀ v ∈ cs, v.oneCell' = true) (hfit : off + n ≤ F.length) :
    (Instr.storeAt ty (.pointer (some ⟨g, off, none⟩)) (.agg cs.toArray)).run P w = .ok () (w.setRow g (F.take off ++ cs ++ F.drop (off + n)).toArray) := by
  have hs := run_storeCells_at P g off t cs 0 F.toArray w hg (by simp [hl]; omega) hone
  have he : (List.take (off + 0) F.toArray.toList ++ cs ++ List.drop (off + 0 + cs.length) F.toArray.toList).toArray = (F.take off ++ cs ++ F.drop (off + n)).toArray := by simp [hl]
  rw [he] at hs
  simp only [Instr.storeAt, Instr.sureAddr, Sem.run_bind, Sem.run_pure, Result.andThen_ok, storeVar, hsz, Value.cells]
  simpa [hl] using hs

section
variable {P : Program} {w : World} {ops : Array Oper} {rest : List Oper} {o : Oper} {a : Act} {Q : Exit → Act → World → Prop} {K : Act → World → Prop} {E : Prop}
theorem wpList_store_part (x y : Operand) (ty : TypeId) (ho : o.op = .store ty x y) (hgd : Region.wanted o (yielded ops a.tmps) = true) {n : Nat} (hsz : ∀ w, (sizeOf ty).run P w = .ok n w) (g off : Nat) (cs : List Value)
    (hx : a.eval x = .pointer (some ⟨g, off, none⟩)) (hy : a.eval y = .agg cs.toArray) (t : TypeId) (F : List Value) (hg : Blk w g t F.toArray) (hl : cs.length = n) (hone : ∀ v ∈ cs, v.oneCell' = true) (hfit : off + n ≤ F.length)
    (h : wpList P ops Q rest (a.put o.dst undef) (w.setRow g (F.take off ++ cs ++ F.drop (off + n)).toArray)) : wpList P ops Q (o :: rest) a w := by
  refine wpList_step fun K hK => ?_
  rw [if_pos hgd]
  unfold Oper.wp execOp
  simp only [ho, hx, hy, run_store_part hsz F cs hg hl hone hfit, Sem.run_bind, Result.andThen_ok]
  exact hK _ _ h
theorem step_store_part (x y : Operand) (ty : TypeId) (ho : o.op = .store ty x y) (hgd : Region.wanted o (yielded ops a.tmps) = true) {n : Nat} (hsz : ∀ w, (sizeOf ty).run P w = .ok n w) (g off : Nat) (cs : List Value)
    (hx : a.eval x = .pointer (some ⟨g, off, none⟩)) (hy : a.eval y = .agg cs.toArray) (t : TypeId) (F : List Value) (hg : Blk w g t F.toArray) (hl : cs.length = n) (hone : ∀ v ∈ cs, v.oneCell' = true) (hfit : off + n ≤ F.length)
    (h : K (a.put o.dst undef) (w.setRow g (F.take off ++ cs ++ F.drop (off + n)).toArray)) : if Region.wanted o (yielded ops a.tmps) = true then Oper.wp P o a w K Q else E := by
  rw [if_pos hgd]
  unfold Oper.wp execOp
  simp only [ho, hx, hy, run_store_part hsz F cs hg hl hone hfit, Sem.run_bind, Result.andThen_ok]
  exact h
end

theorem far_row {w : World} {g : Nat} (cs : Array Value) {b off : Nat} {v : Value} (hc : w.cell? ⟨b, off, none⟩ = some v) (h : b ≠ g) : (w.setRow g cs).cell? ⟨b, off, none⟩ = some v :=
  (((Kept.refl (fun b => b ≠ g) w).setRow (fun h => h rfl) cs).cell (p := ⟨b, off, none⟩) h).trans hc
theorem far_range {w : World} {g b off : Nat} {cs : Array Value} {xs : List Value} (hr : w.rangeAt b off xs) (h : b ≠ g) : (w.setRow g cs).rangeAt b off xs :=
  fun j v hv => far_row cs (hr j v hv) h

theorem far_cells {w : World} {g o : Nat} (cs : List Value) {b off : Nat} {v : Value} (hc : w.cell? ⟨b, off, none⟩ = some v) (h : b ≠ g) : (w.setCells g o cs).cell? ⟨b, off, none⟩ = some v :=
  (World.cell?_setCells_out g cs o w ⟨b, off, none⟩ (fun e _ => absurd e h)).trans hc
theorem far_cells_range {w : World} {g o b off : Nat} {cs : List Value} {xs : List Value} (hr : w.rangeAt b off xs) (h : b ≠ g) : (w.setCells g o cs).rangeAt b off xs :=
  fun j v hv => far_cells cs (hr j v hv) h
theorem Blk.there {w : World} {g : Nat} {t : TypeId} {F : List Value} (h : Blk w g t F.toArray) {o n : Nat} (hn : o + n ≤ F.length) : w.there g o n := fun j hj => by
  refine ⟨?_, h.frozen _⟩
  rw [h.cell (o + j)]
  simp [List.getElem?_eq_getElem (show o + j < F.length by omega)]
/-- The same world, said by the whole block. -/
theorem setCells_row {P : Program} {w : World} {g : Nat} {t : TypeId} {F : List Value} (h : Blk w g t F.toArray) (o : Nat) (cs : List Value) (hone : ∀ v ∈ cs, v.oneCell' = true) (hfit : o + cs.length ≤ F.length) :
    w.setCells g o cs = w.setRow g (F.take o ++ cs ++ F.drop (o + cs.length)).toArray := by
  have h1 := run_storeCells_cells (P := P) g o cs 0 w (fun j hj => (h.there hfit j hj).1) (fun j hj => (h.there hfit j hj).2) hone
  have h2 := run_storeCells_at P g o t cs 0 F.toArray w h (by simpa using hfit) hone
  have he : (List.take (o + 0) F.toArray.toList ++ cs ++ List.drop (o + 0 + cs.length) F.toArray.toList).toArray = (F.take o ++ cs ++ F.drop (o + cs.length)).toArray := by simp
  rw [he] at h2
  rw [h1] at h2
  injection h2
theorem ones8 (xs : List Int) : ∀ v ∈ xs.map (Value.int .u8), v.oneCell' = true := by
  intro v hv
  obtain ⟨x, _, rfl⟩ := List.mem_map.1 hv
  rfl

/-! A disk. -/

/-- A pending write's cells; all of them. -/
def wcells (p : Nat × List Int) : List Value := .int .i64 p.1 :: p.2.map (Value.int .u8)
def flatP (l : List (Nat × List Int)) : List Value := l.flatMap wcells
theorem flatP_append (l m : List (Nat × List Int)) : flatP (l ++ m) = flatP l ++ flatP m := by simp [flatP]
theorem flatP_one (p : Nat × List Int) : flatP [p] = wcells p := by simp [flatP]
theorem wcells_length (p : Nat × List Int) (h : p.2.length = 64) : (wcells p).length = 65 := by simp [wcells, h]
theorem flatP_length {l : List (Nat × List Int)} (h : ∀ p ∈ l, p.2.length = 64) : (flatP l).length = l.length * 65 := by
  induction l with
  | nil => rfl
  | cons p r ih =>
    have h1 := wcells_length p (h p (List.mem_cons_self ..))
    have h2 := ih (fun q hq => h q (List.mem_cons_of_mem _ hq))
    simp only [flatP, List.flatMap_cons, List.length_append, List.length_cons] at *
    omega
theorem flatP_part {l : List (Nat × List Int)} (h : ∀ p ∈ l, p.2.length = 64) (i : Nat) (hi : i < l.length) (j : Nat) (hj : j < 65) : (flatP l)[i * 65 + j]? = (wcells l[i])[j]? := by
  have hc : l = l.take i ++ (l[i] :: l.drop (i + 1)) := by rw [← List.drop_eq_getElem_cons hi, List.take_append_drop]
  have hw := wcells_length l[i] (h _ (List.getElem_mem hi))
  have ht := flatP_length (l := l.take i) (fun p hp => h p (List.mem_of_mem_take hp))
  rw [List.length_take, Nat.min_eq_left (by omega)] at ht
  have e : flatP l = flatP (l.take i) ++ (wcells l[i] ++ flatP (l.drop (i + 1))) := by
    conv => lhs; rw [hc]
    rw [flatP_append]
    congr 1
  rw [e, List.getElem?_append_right (by omega), List.getElem?_append_left (by omega), ht]
  congr 1
  omega
theorem wcells_one (p : Nat × List Int) : ∀ v ∈ wcells p, v.oneCell' = true := by
  intro v hv
  rcases List.mem_cons.1 hv with rfl | hv
  · rfl
  · obtain ⟨x, _, rfl⟩ := List.mem_map.1 hv
    rfl

/-- A disk of n sectors lies at d: H holds the sectors, S what is safe, v is the slice of m pending writes, whose cells are P. -/
structure Dm (w : World) (d H S n : Nat) (v : Value) (m : Nat) (held safe : List Int) (P : List Value) (armed fails : Int) (dead : Bool) (ops : Int) : Prop where
  blk : Blk w d 106 #[.slice (some ⟨H, 0, none⟩) n n, .slice (some ⟨S, 0, none⟩) n n, v, .int .i64 armed, .int .i64 fails, .bool dead, .int .i64 ops]
  hh : ArrB w H held
  ss : ArrB w S safe
  own : w.ownsRow 0 115 65 v m P
  ne : H ≠ S

theorem own_set {w : World} {base size n : Nat} {e : TypeId} {v : Value} {xs : List Value} (h : w.ownsRow base e size v n xs) {g : Nat} (hg : v.ownBlock ≠ some g) (i : Nat) (u : Value) :
    (w.setCell ⟨g, i, none⟩ u).ownsRow base e size v n xs :=
  h.kept (row := some g) ⟨rfl, rfl, rfl, by simp [World.setCell], fun k _ hne => Below.heap_setCell _ _ _ _ (fun e => hne (by rw [e]))⟩ (.inr hg)
theorem own_kept {w w' : World} {base size n : Nat} {e : TypeId} {v : Value} {xs : List Value} (h : w.ownsRow base e size v n xs) {X : Nat → Prop} (hk : Kept X w w') (hv : ∀ g, v.ownBlock = some g → X g) : w'.ownsRow base e size v n xs := by
  refine ⟨h.1, ?_⟩
  rcases h.2 with h0 | ⟨g, cap, cur, rfl, h2, h3, h4⟩
  · exact .inl h0
  · exact .inr ⟨g, cap, cur, rfl, h2, (hk.block g (hv g (by simp [Value.ownBlock]))).trans h3, h4⟩
theorem own_more {w : World} {base base' size n : Nat} {e : TypeId} {v : Value} {xs : List Value} (h : w.ownsRow base e size v n xs) (hb : ∀ g, v.ownBlock = some g → base' ≤ g) : w.ownsRow base' e size v n xs := by
  refine ⟨h.1, ?_⟩
  rcases h.2 with h0 | ⟨g, cap, cur, rfl, h2, h3⟩
  · exact .inl h0
  · exact .inr ⟨g, cap, cur, rfl, hb g (by simp [Value.ownBlock]), h3⟩

section
variable {w w' : World} {d H S n : Nat} {v : Value} {m : Nat} {held safe : List Int} {P : List Value} {armed fails : Int} {dead : Bool} {ops : Int}
theorem Dm.cell (h : Dm w d H S n v m held safe P armed fails dead ops) : w.cell? ⟨d, 0, none⟩ = some (.slice (some ⟨H, 0, none⟩) n n) ∧ w.cell? ⟨d, 1, none⟩ = some (.slice (some ⟨S, 0, none⟩) n n) ∧ w.cell? ⟨d, 2, none⟩ = some v ∧
    w.cell? ⟨d, 3, none⟩ = some (.int .i64 armed) ∧ w.cell? ⟨d, 4, none⟩ = some (.int .i64 fails) ∧ w.cell? ⟨d, 5, none⟩ = some (.bool dead) ∧ w.cell? ⟨d, 6, none⟩ = some (.int .i64 ops) :=
  ⟨h.blk.cell 0, h.blk.cell 1, h.blk.cell 2, h.blk.cell 3, h.blk.cell 4, h.blk.cell 5, h.blk.cell 6⟩
theorem Dm.frozen (h : Dm w d H S n v m held safe P armed fails dead ops) (i : Nat) : w.frozen? ⟨d, i, none⟩ = false := h.blk.frozen i
theorem Dm.dH (h : Dm w d H S n v m held safe P armed fails dead ops) : d ≠ H := h.blk.ne_ h.hh (by decide)
theorem Dm.dS (h : Dm w d H S n v m held safe P armed fails dead ops) : d ≠ S := h.blk.ne_ h.ss (by decide)
theorem Dm.vd (h : Dm w d H S n v m held safe P armed fails dead ops) : v.ownBlock ≠ some d := own_blk_ne h.own h.blk (by decide)
theorem Dm.vH (h : Dm w d H S n v m held safe P armed fails dead ops) : v.ownBlock ≠ some H := own_blk_ne h.own h.hh (by decide)
theorem Dm.vS (h : Dm w d H S n v m held safe P armed fails dead ops) : v.ownBlock ≠ some S := own_blk_ne h.own h.ss (by decide)
theorem Dm.vlt (h : Dm w d H S n v m held safe P armed fails dead ops) : ∀ g, v.ownBlock = some g → g < w.heap.size := fun g hg => (h.own.lt g hg).2
/-- All its blocks are kept. -/
theorem Dm.kept (h : Dm w d H S n v m held safe P armed fails dead ops) {X : Nat → Prop} (hk : Kept X w w') (hd : X d) (hH : X H) (hS : X S) (hv : ∀ g, v.ownBlock = some g → X g) : Dm w' d H S n v m held safe P armed fails dead ops :=
  ⟨h.blk.kept hk hd, Arr.kept h.hh hk hH, Arr.kept h.ss hk hS, own_kept h.own hk hv, h.ne⟩
theorem Dm.below (h : Dm w d H S n v m held safe P armed fails dead ops) (hk : Below w.heap.size w w') : Dm w' d H S n v m held safe P armed fails dead ops :=
  ⟨h.blk.below hk h.blk.lt, Arr.below h.hh hk h.hh.lt, Arr.below h.ss hk h.ss.lt, own_below h.own hk, h.ne⟩
theorem Dm.drew (h : Dm w d H S n v m held safe P armed fails dead ops) : Dm w.drew d H S n v m held safe P armed fails dead ops := ⟨h.blk, h.hh, h.ss, h.own, h.ne⟩
theorem Dm.drewN (h : Dm w d H S n v m held safe P armed fails dead ops) (k : Nat) : Dm (w.drewN k) d H S n v m held safe P armed fails dead ops := ⟨h.blk, h.hh, h.ss, h.own, h.ne⟩
theorem Dm.alloc (h : Dm w d H S n v m held safe P armed fails dead ops) (o : Obj) : Dm (w.alloc o) d H S n v m held safe P armed fails dead ops := h.below ((Below.refl _ _).alloc (Nat.le_refl _) o)
theorem Dm.armed_ (h : Dm w d H S n v m held safe P armed fails dead ops) (x : Int) : Dm (w.setCell ⟨d, 3, none⟩ (.int .i64 x)) d H S n v m held safe P x fails dead ops :=
  ⟨h.blk.set_ 3 _, Blk.far h.hh (p := ⟨d, 3, none⟩) h.dH.symm _, Blk.far h.ss (p := ⟨d, 3, none⟩) h.dS.symm _, own_set h.own h.vd _ _, h.ne⟩
theorem Dm.fails_ (h : Dm w d H S n v m held safe P armed fails dead ops) (x : Int) : Dm (w.setCell ⟨d, 4, none⟩ (.int .i64 x)) d H S n v m held safe P armed x dead ops :=
  ⟨h.blk.set_ 4 _, Blk.far h.hh (p := ⟨d, 4, none⟩) h.dH.symm _, Blk.far h.ss (p := ⟨d, 4, none⟩) h.dS.symm _, own_set h.own h.vd _ _, h.ne⟩
theorem Dm.dead_ (h : Dm w d H S n v m held safe P armed fails dead ops) (x : Bool) : Dm (w.setCell ⟨d, 5, none⟩ (.bool x)) d H S n v m held safe P armed fails x ops :=
  ⟨h.blk.set_ 5 _, Blk.far h.hh (p := ⟨d, 5, none⟩) h.dH.symm _, Blk.far h.ss (p := ⟨d, 5, none⟩) h.dS.symm _, own_set h.own h.vd _ _, h.ne⟩
theorem Dm.ops_ (h : Dm w d H S n v m held safe P armed fails dead ops) (x : Int) : Dm (w.setCell ⟨d, 6, none⟩ (.int .i64 x)) d H S n v m held safe P armed fails dead x :=
  ⟨h.blk.set_ 6 _, Blk.far h.hh (p := ⟨d, 6, none⟩) h.dH.symm _, Blk.far h.ss (p := ⟨d, 6, none⟩) h.dS.symm _, own_set h.own h.vd _ _, h.ne⟩
theorem Dm.held_ (h : Dm w d H S n v m held safe P armed fails dead ops) (F : List Int) : Dm (w.setRow H (cells8 F)) d H S n v m F safe P armed fails dead ops := by
  have hk : Kept (fun b => b ≠ H) w (w.setRow H (cells8 F)) := (Kept.refl _ w).setRow (fun h => h rfl) _
  exact ⟨h.blk.kept hk h.dH, h.hh.setRow F, Arr.kept h.ss hk h.ne.symm, own_kept h.own hk (fun g hg e => h.vH (by rw [hg, e])), h.ne⟩
theorem Dm.safe_ (h : Dm w d H S n v m held safe P armed fails dead ops) (F : List Int) : Dm (w.setRow S (cells8 F)) d H S n v m held F P armed fails dead ops := by
  have hk : Kept (fun b => b ≠ S) w (w.setRow S (cells8 F)) := (Kept.refl _ w).setRow (fun h => h rfl) _
  exact ⟨h.blk.kept hk h.dS, Arr.kept h.hh hk h.ne, h.ss.setRow F, own_kept h.own hk (fun g hg e => h.vS (by rw [hg, e])), h.ne⟩
/-- The slice of the pending writes is laid anew. -/
theorem Dm.pend_ (h : Dm w d H S n v m held safe P armed fails dead ops) {v' : Value} {m' : Nat} {P' : List Value} (ho : w.ownsRow 0 115 65 v' m' P') : Dm (w.setCell ⟨d, 2, none⟩ v') d H S n v' m' held safe P' armed fails dead ops :=
  ⟨h.blk.set_ 2 _, Blk.far h.hh (p := ⟨d, 2, none⟩) h.dH.symm _, Blk.far h.ss (p := ⟨d, 2, none⟩) h.dS.symm _, own_set ho (own_blk_ne ho h.blk (by decide)) _ _, h.ne⟩
/-- The slice of the pending writes has grown, and is laid. -/
theorem Dm.regrow (h : Dm w d H S n v m held safe P armed fails dead ops) {v' : Value} {m' : Nat} {P' : List Value} (hg : w.grownBy w' v.ownBlock) (ho : w'.ownsRow 0 115 65 v' m' P') : Dm (w'.setCell ⟨d, 2, none⟩ v') d H S n v' m' held safe P' armed fails dead ops := by
  have h1 := h.blk.grown hg (fun e => h.vd e.symm)
  have h2 := Blk.grown h.hh hg (fun e => h.vH e.symm)
  have h3 := Blk.grown h.ss hg (fun e => h.vS e.symm)
  exact ⟨h1.set_ 2 _, Blk.far h2 (p := ⟨d, 2, none⟩) h.dH.symm _, Blk.far h3 (p := ⟨d, 2, none⟩) h.dS.symm _, own_set ho (own_blk_ne ho h1 (by decide)) _ _, h.ne⟩
end

theorem cell_same {w w' : World} {b off : Nat} (h : w'.heap[b]? = w.heap[b]?) : w'.cell? ⟨b, off, none⟩ = w.cell? ⟨b, off, none⟩ := by
  unfold World.cell?
  rw [h]
theorem cell_blk_lt {w : World} {b off : Nat} {v : Value} (h : w.cell? ⟨b, off, none⟩ = some v) : b < w.heap.size := by
  rcases Nat.lt_or_ge b w.heap.size with hlt | hge
  · exact hlt
  · simp [World.cell?, Array.getElem?_eq_none hge] at h
theorem cell_alloc {w : World} (o : Obj) {b off : Nat} {v : Value} (h : w.cell? ⟨b, off, none⟩ = some v) : (w.alloc o).cell? ⟨b, off, none⟩ = some v :=
  (World.cell?_alloc_lt w o ⟨b, off, none⟩ (cell_blk_lt h)).trans h
theorem range_alloc {w : World} (o : Obj) {b off : Nat} {cs : List Value} (h : w.rangeAt b off cs) : (w.alloc o).rangeAt b off cs := fun j v hv => cell_alloc o (h j v hv)
theorem cell_grown {w w' : World} {row : Option Nat} (hg : w.grownBy w' row) {b off : Nat} {v : Value} (h : w.cell? ⟨b, off, none⟩ = some v) (hr : row ≠ some b) : w'.cell? ⟨b, off, none⟩ = some v :=
  (cell_same (hg.block b (cell_blk_lt h) (fun e => hr e.symm))).trans h
theorem range_grown {w w' : World} {row : Option Nat} (hg : w.grownBy w' row) {b off : Nat} {cs : List Value} (h : w.rangeAt b off cs) (hr : row ≠ some b) : w'.rangeAt b off cs := fun j v hv => cell_grown hg (h j v hv) hr
end Go.Proofs.Ytkmbbfdjdmkjpaa
