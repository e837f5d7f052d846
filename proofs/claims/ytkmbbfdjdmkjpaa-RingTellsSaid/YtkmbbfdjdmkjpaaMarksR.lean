/- The marks that ranges over functions leave in a loop: many, each of a block of its own; a function leaves over all of them. -/
import Derived.Test.YtkmbbfdjdmkjpaaOldR
namespace Go.Proofs.Ytkmbbfdjdmkjpaa
open Go.RowKit
set_option linter.unusedVariables false
set_option linter.unusedSimpArgs false

def markR (D : Nat) : Deferred := { target := .collected D, args := #[] }
/-- Marks, from block m on, whose blocks hand over nothing. -/
def MarksR (m : Nat) (Ds : List Nat) (W : World) : Prop := Ds.Nodup ∧ ∀ D, D ∈ Ds → m ≤ D ∧ D < W.heap.size ∧ W.heap[D]? = some (.deferred (some []))
theorem MarksR.nil (m : Nat) (W : World) : MarksR m [] W := ⟨List.nodup_nil, fun D h => by cases h⟩
theorem MarksR.below {m : Nat} {Ds : List Nat} {W W' : World} (h : MarksR m Ds W) (hb : Below W.heap.size W W') : MarksR m Ds W' :=
  ⟨h.1, fun D hD => by obtain ⟨h1, h2, h3⟩ := h.2 D hD; exact ⟨h1, Nat.lt_of_lt_of_le h2 hb.size, by rw [hb.block D h2]; exact h3⟩⟩
/-- .. what is done to one block of cells leaves them. -/
theorem MarksR.setCell {m : Nat} {Ds : List Nat} {W : World} (h : MarksR m Ds W) {g : Nat} {t : TypeId} {cs : Array Value} (hg : Blk W g t cs) (i : Nat) (v : Value) : MarksR m Ds (W.setCell ⟨g, i, none⟩ v) :=
  ⟨h.1, fun D hD => by
    obtain ⟨h1, h2, h3⟩ := h.2 D hD
    have hne : D ≠ g := fun e => by
      have h4 : W.heap[g]? = some (.cells cs t) := hg
      rw [e, h4] at h3
      cases h3

    exact ⟨h1, Nat.lt_of_lt_of_le h2 (KeepsWalks.setCell W _ v).size, by rw [Below.heap_setCell _ _ _ D (show D ≠ g from hne)]; exact h3⟩⟩
theorem MarksR.cons {m D : Nat} {Ds : List Nat} {W W' : World} (h : MarksR m Ds W) (hb : Below W.heap.size W W') (hD : W.heap.size ≤ D) (hm : m ≤ D) (hk : W'.heap[D]? = some (.deferred (some []))) : MarksR m (D :: Ds) W' := by
  have h2 := h.below hb
  refine ⟨List.nodup_cons.2 ⟨fun hin => ?_, h.1⟩, fun D' hD' => ?_⟩
  · have := (h.2 D hin).2.1
    omega
  · rcases List.mem_cons.1 hD' with rfl | h3
    · exact ⟨hm, (Array.getElem?_eq_some_iff.1 hk).1, hk⟩
    · exact h2.2 D' h3
theorem leaves_marks {F : Fence} {n : Nat} {P : Program} {fn : Func} {tmps : Array Value} {R : Ending → World → Prop} {w : World} : ∀ (Ds : List Nat) (W : World), MarksR w.heap.size Ds W →
    (∀ W', Below w.heap.size W W' → LeavesIn F n P fn tmps R [] .returning W') → LeavesInM F n P fn tmps R (Ds.map markR) .returning W
  | [], W, _, h => h W (Below.refl _ _)
  | D :: Ds, W, hm, h => by
    obtain ⟨h1, h2, h3⟩ := hm.2 D (List.mem_cons_self ..)
    have hb := belowK_b (w := w) (Nat.le_refl _) W D _ (.deferred none) h1 h3 rfl rfl
    refine ⟨by simp, .inl ⟨D, W.putObj D (.deferred none), rfl, run_takeDeferred h3, leaves_marks Ds _ ⟨(List.nodup_cons.1 hm.1).2, fun D' hD' => ?_⟩ (fun W' hW' => h W' (hb.trans hW'))⟩⟩
    obtain ⟨k1, k2, k3⟩ := hm.2 D' (List.mem_cons_of_mem _ hD')
    have hne : D' ≠ D := fun e => (List.nodup_cons.1 hm.1).1 (by rw [← e]; exact hD')
    exact ⟨k1, Nat.lt_of_lt_of_le k2 hb.size, by rw [World.putObj_heap_other hne]; exact k3⟩
end Go.Proofs.Ytkmbbfdjdmkjpaa
