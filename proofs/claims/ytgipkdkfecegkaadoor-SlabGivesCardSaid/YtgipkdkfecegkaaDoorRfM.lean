/- The document's arena in memory: rows of 32 numbers. -/
import Derived.Test.YtgipkdkfecegkaaDoorClassW
import Derived.Test.YtgipkdkfecegkaaDoorAgM
import Derived.Test.YtgipkdkfecegkaaDoorAppend
import Derived.Test.YtgipkdkfecegkaaDoorOwn10
import Derived.Great.BuildSlice
namespace Go.Proofs.YtgipkdkfecegkaaDoor
open Go.RowKit Go.Shelf PgM
attribute [local go_sem] Oper.semAt_some
set_option linter.unusedVariables false
set_option linter.unusedSimpArgs false
abbrev mkR (b : Nat) : Value := .slice (some ⟨b, 0, none⟩) 32 32
abbrev arV (A : Option Addr) (n c : Nat) : Value := .agg #[.slice A n c]
def rowA (f : Nat → Int) : Array Value := ((List.range 32).map (fun k => Value.int .i64 (f k))).toArray
theorem rowA_get (f : Nat → Int) {k : Nat} (hk : k < 32) : (rowA f)[k]? = some (.int .i64 (f k)) := by
  unfold rowA
  rw [List.getElem?_toArray, List.getElem?_map, List.getElem?_range hk]
  rfl
theorem rowA_set (f : Nat → Int) (k : Nat) (x : Int) : (rowA f).setIfInBounds k (.int .i64 x) = rowA (fun j => if j = k then x else f j) := by
  apply Array.ext_getElem?
  intro i
  by_cases hi : i < 32
  · rw [rowA_get _ hi]
    by_cases e : k = i
    · subst e
      rw [Array.getElem?_setIfInBounds_self_of_lt (by simpa [rowA] using hi)]
      simp
    · rw [Array.getElem?_setIfInBounds_ne e, rowA_get _ hi, if_neg (fun h => e h.symm)]
  · rw [Array.getElem?_eq_none (by simp [rowA]; omega), Array.getElem?_eq_none (by simp [rowA]; omega)]
/-- An arena of the call's own. -/
structure RefO (B : Nat) (w : World) (v : Value) (rows : List Nat) (F : Nat → Nat → Int) : Prop where
  own : w.ownsRow B 49 1 v rows.length (rows.map mkR)
  row : ∀ i, i < rows.length → Blk w (rows.getD i 0) 3 (rowA (F i))
  nd : ∀ i j, i < rows.length → j < rows.length → rows.getD i 0 = rows.getD j 0 → i = j
  low : ∀ i, i < rows.length → B ≤ rows.getD i 0
/-- An arena that is read. -/
structure RefM (w : World) (S : Nat → Prop) (A : Option Addr) (n : Nat) (rows : List Nat) (F : Nat → Nat → Int) : Prop where
  out : RowG mkR 0 w S A n rows
  row : ∀ i, i < n → ∀ k, k < 32 → w.cell? ⟨rows.getD i 0, k, none⟩ = some (.int .i64 (F i k))
  inS : ∀ i, i < n → S (rows.getD i 0)
theorem RefM.keep {w w' : World} {S : Nat → Prop} {A : Option Addr} {n : Nat} {rows : List Nat} {F : Nat → Nat → Int} (h : RefM w S A n rows F) (hk : ∀ p : Addr, S p.block → w'.cell? p = w.cell? p) : RefM w' S A n rows F :=
  ⟨h.out.keep hk, fun i hi k hk2 => (hk _ (h.inS i hi)).trans (h.row i hi k hk2), h.inS⟩
theorem RefM.more {w : World} {S T : Nat → Prop} {A : Option Addr} {n : Nat} {rows : List Nat} {F : Nat → Nat → Int} (h : RefM w S A n rows F) (hs : ∀ b, S b → T b) : RefM w T A n rows F :=
  ⟨h.out.more hs, h.row, fun i hi => hs _ (h.inS i hi)⟩
theorem RefM.below {w w' : World} {B : Nat} {S : Nat → Prop} {A : Option Addr} {n : Nat} {rows : List Nat} {F : Nat → Nat → Int} (h : RefM w S A n rows F) (hb : Below B w w') (hs : ∀ b, S b → b < B) : RefM w' S A n rows F := h.keep fun p hp => hb.cell (hs _ hp)
theorem RefM.kept {w w' : World} {S T : Nat → Prop} {A : Option Addr} {n : Nat} {rows : List Nat} {F : Nat → Nat → Int} (h : RefM w S A n rows F) (hb : Kept T w w') (hs : ∀ b, S b → T b) : RefM w' S A n rows F := h.keep fun p hp => hb.cell (hs _ hp)
theorem RefM.congr {w : World} {S : Nat → Prop} {A : Option Addr} {n : Nat} {rows : List Nat} {F G : Nat → Nat → Int} (h : RefM w S A n rows F) (he : ∀ i, i < n → ∀ k, k < 32 → G i k = F i k) : RefM w S A n rows G :=
  ⟨h.out, fun i hi k hk => by rw [he i hi k hk]; exact h.row i hi k hk, h.inS⟩
/-- The cells behind a place. -/
theorem RefM.at {w : World} {S : Nat → Prop} {A : Option Addr} {n : Nat} {rows : List Nat} {F : Nat → Nat → Int} (h : RefM w S A n rows F) {i : Nat} (hi : i < n) : ∃ b off r, A = some ⟨b, off, none⟩ ∧ w.cell? ⟨b, off + i, none⟩ = some (.slice (some ⟨r, 0, none⟩) 32 32) ∧ ∀ k, k < 32 → w.cell? ⟨r, k, none⟩ = some (.int .i64 (F i k)) := by
  obtain ⟨b, off, e, _, hc⟩ := h.out.2 (by omega)
  exact ⟨b, off, rows.getD i 0, e, hc i hi, h.row i hi⟩
theorem RefO.toM {B : Nat} {w : World} {v : Value} {rows : List Nat} {F : Nat → Nat → Int} (h : RefO B w v rows F) : ∃ A cap, v = .slice A rows.length cap ∧ RefM w (fun b => B ≤ b ∧ b < w.heap.size) A rows.length rows F := by
  obtain ⟨A, cap, e, _, _, hr⟩ := rowG_own (mk := mkR) 0 h.own
  exact ⟨A, cap, e, hr.more (fun b hb => ⟨hb.1, hb.2.1⟩), fun i hi k hk => by rw [(h.row i hi).cell, rowA_get _ hk], fun i hi => ⟨h.low i hi, (h.row i hi).lt⟩⟩
theorem RefO.set {B : Nat} {w : World} {v : Value} {rows : List Nat} {F : Nat → Nat → Int} (h : RefO B w v rows F) {i k : Nat} (hi : i < rows.length) (x : Int) : RefO B (w.setCell ⟨rows.getD i 0, k, none⟩ (.int .i64 x)) v rows (fun a c => if a = i ∧ c = k then x else F a c) := by
  refine ⟨own_past h.own (h.row i hi) (by decide) k _, fun j hj => ?_, h.nd, h.low⟩
  by_cases e : j = i
  · subst e
    have h1 := (h.row j hj).set_ k (.int .i64 x)
    rw [rowA_set] at h1
    simpa using h1
  · have hne : rows.getD j 0 ≠ rows.getD i 0 := fun h2 => e (h.nd j i hj hi h2)
    have h1 := (h.row j hj).far (p := ⟨rows.getD i 0, k, none⟩) hne (.int .i64 x)
    simpa [e] using h1
theorem RefO.congr {B : Nat} {w : World} {v : Value} {rows : List Nat} {F G : Nat → Nat → Int} (h : RefO B w v rows F) (he : ∀ i, i < rows.length → ∀ k, k < 32 → G i k = F i k) : RefO B w v rows G :=
  ⟨h.own, fun i hi => by
    have e : rowA (G i) = rowA (F i) := by
      unfold rowA
      congr 1
      apply List.map_congr_left
      intro k hk
      rw [he i hi k (by simpa using hk)]
    rw [e]; exact h.row i hi, h.nd, h.low⟩
theorem RefO.drew {B : Nat} {w : World} {v : Value} {rows : List Nat} {F : Nat → Nat → Int} (h : RefO B w v rows F) : RefO B w.drew v rows F := ⟨h.own, fun i hi => (h.row i hi).drew, h.nd, h.low⟩
theorem grown_alloc11 (w : World) (o : Obj) : w.grownBy (w.alloc o) none :=
  ⟨rfl, rfl, rfl, by rw [World.size_alloc]; exact Nat.le_succ _, fun k hk _ => ((Below.refl w.heap.size w).alloc (Nat.le_refl _) o).block k hk⟩
theorem own_alloc {w : World} {base size n : Nat} {e : TypeId} {v : Value} {xs : List Value} (h : w.ownsRow base e size v n xs) (o : Obj) : (w.alloc o).ownsRow base e size v n xs :=
  ownsRow_grown h (grown_alloc11 w o) (fun g _ e => by cases e)
theorem own_drew {w : World} {base size n : Nat} {e : TypeId} {v : Value} {xs : List Value} (h : w.ownsRow base e size v n xs) : w.drew.ownsRow base e size v n xs := h
theorem ownsRow_slice' {w : World} {base size n : Nat} {e : TypeId} {v : Value} {xs : List Value} (h : w.ownsRow base e size v n xs) : ∃ A cap, v = .slice A n cap := by
  rcases h.2 with ⟨rfl, rfl⟩ | ⟨g', cap, cur, rfl, _⟩
  · exact ⟨_, _, rfl⟩
  · exact ⟨_, _, rfl⟩
theorem info_row32 : (Tryd.prog.info? 49).map (fun i => (i.zero, i.size, i.bytes)) = some (some (.slice none 0 0), 1, 24) := by kernel_rfl
theorem info_int1 : (Tryd.prog.info? 3).map (fun i => (i.zero, i.size, i.bytes)) = some (some (.int .i64 0), 1, 8) := by kernel_rfl
theorem made32 : madeCells #[.int .i64 0] 32 = rowA (fun _ => 0) := by kernel_rfl
theorem run_make32 (w : World) : (Instr.makeSlice 49 (.int .i64 32) (.int .i64 32)).run Tryd.prog w = .ok (mkR w.heap.size) (w.alloc (.cells (rowA (fun _ => 0)) 3)) := by
  obtain ⟨i0, hi, hz0, hz1, hz2⟩ := info_parts info_int1
  have hr := run_make (P := Tryd.prog) w 49 3 i0 (.int .i64 0) Tryd.underlying49 hi hz0 .i64 .i64 32 32 (by decide) (by decide) (by rw [hz2]; decide) (by decide)
  simp only [hz1, Value.cells] at hr
  rw [← made32]
  exact hr
section
variable {w : World} {o : Oper} {a : Act} {Q : Exit → Act → World → Prop} {K : Act → World → Prop} {E : Prop} {ops : Array Oper}
theorem step_make32 (ho : o.op = .makeSlice 49 (.const (.int .i64 32)) (.const (.int .i64 32))) (hgd : Region.wanted o (yielded ops a.tmps) = true)
    (h : K (a.put o.dst (mkR w.heap.size)) (w.alloc (.cells (rowA (fun _ => 0)) 3))) : if Region.wanted o (yielded ops a.tmps) = true then Oper.wp Tryd.prog o a w K Q else E := by
  rw [if_pos hgd]
  have hr := run_make32 w
  unfold Oper.wp
  simp [execOp, ho, Act.eval, hr, Result.andThen]
  exact h
/-- '[][]int{r}'. -/
theorem step_lit32 (x : Operand) (ho : o.op = .buildSlice 33 1 #[(0, x)]) (hgd : Region.wanted o (yielded ops a.tmps) = true) (r : Nat) (hx : a.eval x = mkR r)
    (h : ∀ w', RowG mkR 0 w' (fun b => b = w.heap.size) (some ⟨w.heap.size, 0, none⟩) 1 [r] → w' = w.alloc (.cells #[mkR r] 49) → K (a.put o.dst (.slice (some ⟨w.heap.size, 0, none⟩) 1 1)) w') :
    if Region.wanted o (yielded ops a.tmps) = true then Oper.wp Tryd.prog o a w K Q else E := by
  have hrow : RowG mkR 0 (w.alloc (.cells #[mkR r] 49)) (fun b => b = w.heap.size) (some ⟨w.heap.size, 0, none⟩) 1 [r] := ⟨rfl, fun _ => ⟨w.heap.size, 0, rfl, rfl, fun j hj => by
    obtain rfl : j = 0 := by omega
    exact (Blk.new w 49 #[mkR r]).cell 0⟩⟩
  rw [if_pos hgd]
  obtain ⟨i0, hi, hz0, hz1, hz2⟩ := info_parts info_row32
  refine wp_buildSlice 33 49 1 #[(0, x)] ho #[mkR r] i0 _ Tryd.underlying33 hi hz0 (by rw [hz1]; decide) (by rw [hz1]; decide) ?_ (h _ hrow rfl)
  rw [hz1]
  have e : (Array.map (fun (p : Nat × Operand) => (p.1, a.eval p.2)) #[(0, x)]).toList = [(0, mkR r)] := by simp [hx]
  refine (congrArg _ e).trans ?_
  kernel_rfl
end
end Go.Proofs.YtgipkdkfecegkaaDoor
