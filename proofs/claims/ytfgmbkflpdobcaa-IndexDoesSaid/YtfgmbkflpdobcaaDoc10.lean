/- The law's two indexes: the document's behind a pointer. -/
import Derived.Test.YtfgmbkflpdobcaaRefAdd
import Derived.Test.YtfgmbkflpdobcaaKind
import Derived.Test.YtfgmbkflpdobcaaWakes10
import Derived.Test.YtfgmbkflpdobcaaComesP
namespace Go.Proofs.Ytfgmbkflpdobcaa
open Go.RowKit
attribute [local go_sem] Oper.semAt_some
set_option linter.unusedVariables false
set_option linter.unusedSimpArgs false
open EntM (RowE entV ent0)
section
variable {P : Program} {w : World} {o : Oper} {a : Act} {Q : Exit → Act → World → Prop} {K : Act → World → Prop} {E : Prop} {ops : Array Oper}
theorem step_store_whole (x y : Operand) (ty : TypeId) (ho : o.op = .store ty x y) (hgd : Region.wanted o (yielded ops a.tmps) = true) (g : Nat) (cs old : Array Value) (t : TypeId) (hx : a.eval x = .pointer (some ⟨g, 0, none⟩)) (hy : a.eval y = .agg cs)
    (hg : Blk w g t old) (hsz : ∀ w, (sizeOf ty).run P w = .ok cs.size w) (hl : old.size = cs.size) (hone : ∀ v ∈ cs.toList, v.oneCell' = true) (h : K (a.put o.dst undef) (w.setRow g cs)) : if Region.wanted o (yielded ops a.tmps) = true then Oper.wp P o a w K Q else E := by
  have hs := run_storeCells_at P g 0 t cs.toList 0 old w hg (by simp; omega) hone
  have he : (List.take (0 + 0) old.toList ++ cs.toList ++ List.drop (0 + 0 + cs.toList.length) old.toList).toArray = cs := by
    rw [List.drop_eq_nil_of_le (by simp; omega)]; simp
  rw [he] at hs
  have hrun : (Instr.storeAt ty (.pointer (some ⟨g, 0, none⟩)) (.agg cs)).run P w = .ok () (w.setRow g cs) := by
    simp only [Instr.storeAt, Instr.sureAddr, Sem.run_bind, Sem.run_pure, Result.andThen_ok, storeVar, hsz, Value.cells]
    simpa using hs
  rw [if_pos hgd]
  unfold Oper.wp execOp
  simp only [ho, hx, hy, hrun, Sem.run_bind, Result.andThen_ok]
  exact h
end
/-- The document's index with these entries stands behind the pointer p; its row is no block of x's. -/
def YS (x p slots : Nat) (es : List Ent) (V : World) : Prop :=
  ∃ A n cap, Blk V p 31 #[.int .i64 slots, .slice A n cap] ∧ RowE V (fun b => b < V.heap.size ∧ b ≠ x ∧ b ≠ p) A n es ∧ (A = none → cap = 0)
section
variable {x p slots : Nat} {es es' : List Ent} {V V' : World}
theorem YS.below (h : YS x p slots es V) (hb : Below V.heap.size V V') : YS x p slots es V' := by
  obtain ⟨A, n, cap, h1, h2, h3⟩ := h
  exact ⟨A, n, cap, h1.below hb h1.lt, (h2.below hb (fun b h => h.1)).more (fun b h => ⟨Nat.lt_of_lt_of_le h.1 hb.size, h.2⟩), h3⟩
theorem YS.keptX (h : YS x p slots es V) (hk : Kept (fun b => b < V.heap.size ∧ b ≠ x) V V') (hp : p ≠ x) : YS x p slots es V' := by
  obtain ⟨A, n, cap, h1, h2, h3⟩ := h
  exact ⟨A, n, cap, h1.kept hk ⟨h1.lt, hp⟩, (h2.kept hk (fun b h => ⟨h.1, h.2.1⟩)).more (fun b h => ⟨Nat.lt_of_lt_of_le h.1 hk.size, h.2⟩), h3⟩
theorem YS.lt (h : YS x p slots es V) : p < V.heap.size := by
  obtain ⟨A, n, cap, h1, h2, h3⟩ := h
  exact h1.lt
theorem YS.store {A0 A : Option Addr} {n0 n cap0 cap : Nat} (h1 : Blk V p 31 #[.int .i64 slots, .slice A0 n0 cap0]) (hr : RowE V (fun b => b < V.heap.size ∧ b ≠ x ∧ b ≠ p) A n es) (hA : A = none → cap = 0) :
    YS x p slots es (V.setRow p #[.int .i64 slots, .slice A n cap]) := by
  have hsz : (V.setRow p #[.int .i64 slots, .slice A n cap]).heap.size = V.heap.size := by simp [World.setRow]
  refine ⟨A, n, cap, setRow_heap V p _ _ _ _ h1, ?_, hA⟩
  rw [hsz]
  exact hr.keep (fun q hq => World.cell?_of_block (setRow_other V p q.block _ hq.2.2))
theorem YS.storeC {A0 A : Option Addr} {n0 n cap0 cap : Nat} (h1 : Blk V p 31 #[.int .i64 slots, .slice A0 n0 cap0]) (hr : RowE V (fun b => b < V.heap.size ∧ b ≠ x ∧ b ≠ p) A n es) (hA : A = none → cap = 0) :
    YS x p slots es ((V.setCell ⟨p, 0, none⟩ (.int .i64 slots)).setCell ⟨p, 1, none⟩ (.slice A n cap)) := by
  have hsz : ((V.setCell ⟨p, 0, none⟩ (.int .i64 slots)).setCell ⟨p, 1, none⟩ (.slice A n cap)).heap.size = V.heap.size := by simp [World.setCell]
  refine ⟨A, n, cap, (h1.set_ 0 (.int .i64 slots)).set_ 1 (.slice A n cap), ?_, hA⟩
  rw [hsz]
  exact hr.keep (fun q hq => World.cell?_of_block ((Below.heap_setCell _ _ _ q.block hq.2.2).trans (Below.heap_setCell _ _ _ q.block hq.2.2)))
theorem addR_eq (h : es.length ≤ slots) (e : Ent) : addR slots es e = addE slots es e := by
  unfold addR addE
  by_cases h1 : e ∈ es
  · rw [if_pos h1, if_pos h1]
  · rw [if_neg h1, if_neg h1]
    by_cases h2 : es.length = slots
    · rw [if_pos (by omega), if_pos h2]
    · rw [if_neg (by omega), if_neg h2]
end
end Go.Proofs.Ytfgmbkflpdobcaa
