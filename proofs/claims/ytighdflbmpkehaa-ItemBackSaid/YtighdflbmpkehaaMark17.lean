/- '[]byte("..")' of a constant: a row that was just laid gets the run-time's mark behind its end; it reads as before. Append onto a slice that has no room. -/
import Derived.Test.YtighdflbmpkehaaJoin17
namespace Go.Proofs.Ytighdflbmpkehaa
open Go.RowKit

/-- The world with a marked row more. -/
def markW (w : World) (C : Array Value) : World := w.alloc (.cells C 5 (C.size, C.size + 1))

theorem run_mark (w : World) (C : Array Value) (n c : Nat) :
    (convert 27 27 (.slice (some ⟨w.heap.size, 0, none⟩) n c)).run Try.prog (w.alloc (.cells C 5)) = .ok (.slice (some ⟨w.heap.size, 0, none⟩) n c) (markW w C) := by
  have hsh : (w.alloc (.cells C 5)).shape? w.heap.size = some (5, C.size) := by
    have : (w.alloc (.cells C 5)).heap[w.heap.size]? = some (.cells C 5) := heap_alloc_new w _
    unfold World.shape?
    rw [this]
  have hfr : (w.alloc (.cells C 5)).freeze ⟨w.heap.size, C.size, none⟩ 1 = markW w C := by
    have hm : ∀ (a : Array Obj) (x : Obj) (f : Obj → Obj), (a.push x).modify a.size f = a.push (f x) := by
      intro a x f
      apply Array.ext
      · simp
      · intro i h1 h2
        simp only [Array.getElem_modify, Array.getElem_push]
        by_cases h : a.size = i
        · subst h
          simp
        · have hi : i < a.size := by simp at h1; omega
          simp [h, hi]
    unfold World.freeze
    rw [if_neg (by decide)]
    show ({ w.alloc (.cells C 5) with heap := (w.heap.push (.cells C 5)).modify w.heap.size _ } : World) = _
    rw [hm]
    rfl
  simp [convert, run_underlying Try.underlying27, run_underlying Try.underlying5, markStringish, hsh, hfr]
theorem mark_size (w : World) (C : Array Value) : (markW w C).heap.size = w.heap.size + 1 := by simp [markW]
theorem mark_below {B : Nat} {a w : World} (h : Below B a w) (hB : B ≤ w.heap.size) (C : Array Value) : Below B a (markW w C) := h.alloc hB _
theorem mark_row (w : World) (xs : List Int) : RowI .u8 (markW w (xs.map (Value.int .u8)).toArray) (· = w.heap.size) (some ⟨w.heap.size, 0, none⟩) xs.length xs := by
  refine ⟨rfl, fun _ => ⟨_, 0, rfl, rfl, fun j hj => ?_⟩⟩
  rw [Nat.zero_add]
  unfold markW
  rw [World.cell?_alloc_mark]
  simp [List.getD, hj]

theorem row_holds {w : World} {S : Nat → Prop} {a : Addr} {n : Nat} {xs : List Int} (h : RowI .u8 w S (some a) n xs) : ∀ (j : Nat) (u : Value), (xs.map (Value.int .u8))[j]? = some u → w.cell? (a.add j) = some u := by
  intro j u hu
  have hj : j < xs.length := by simpa using (List.getElem?_eq_some_iff.1 hu).1
  obtain ⟨b, off, e1, _, hc⟩ := h.2 (by rw [← h.1]; omega)
  injection e1 with e1
  subst e1
  have h2 := hc j (by rw [← h.1]; exact hj)
  rw [List.getElem?_map, List.getElem?_eq_getElem hj] at hu
  rw [add_plain, h2]
  simpa [List.getD, hj] using hu

/-- append onto a slice that has no room. -/
theorem app_full (w : World) {S T : Nat → Prop} {a b : Addr} {k m c : Nat} {xs ys : List Int} (hx : RowI .u8 w S (some a) k xs) (hy : RowI .u8 w T (some b) m ys) (h0 : 0 < m) (hkm : k + m ≤ 1024) :
    ∃ cap w', (Builtin.append_ #[27, 27] 27 #[.slice (some a) k k, .slice (some b) m c]).run Try.prog w = .ok (.slice (some ⟨w.heap.size, 0, none⟩) (k + m) cap) w' ∧
      w'.ownsRow w.heap.size 5 1 (.slice (some ⟨w.heap.size, 0, none⟩) (k + m) cap) (k + m) ((xs ++ ys).map (Value.int .u8)) ∧ Below w.heap.size w w' := by
  obtain ⟨i0, hi, hz0, hz1, hz2⟩ := info_parts info_u8
  have hlx := hx.1
  have hly := hy.1
  have h := run_append_grow (P := Try.prog) (w := w) 27 27 5 i0 (.int .u8 0) Try.underlying27 hi hz0 a k k (xs.map (Value.int .u8)) (by simp [hlx, hz1]) (row_holds hx) b m c (ys.map (Value.int .u8)) (by simp [hly, hz1]) (row_holds hy) (by omega) (by omega)
    (by rw [hz2]; have := nextslicecap_le (need := k + m) (old := k) (by omega); omega)
  refine ⟨_, _, h, ⟨by simp [hlx, hly], .inr ⟨w.heap.size, grownCap w (k + m) k 5, _, rfl, Nat.le_refl _, heap_alloc_new w.drew _, grownCap_ge w (k + m) k _, grownCap_le_maxLen w (k + m) k _ (by unfold maxLen; omega), ?_, ?_⟩⟩, ((Below.refl _ w).drew).alloc (Nat.le_refl _) _⟩
  · have hge := grownCap_ge w (k + m) k 5
    have e1 : (Value.int IntKind.u8 0).cells.size = 1 := rfl
    simp only [Array.size_append, List.size_toArray, List.length_map, size_zeroCells, e1]
    omega
  · have e1 : ((xs.map (Value.int .u8)).toArray ++ (ys.map (Value.int .u8)).toArray).toList = (xs ++ ys).map (Value.int .u8) := by simp
    rw [Array.toList_append, e1]
    exact take_len17 _ _ _ (by simp [hlx, hly])
where
  take_len17 {α : Type} (A B : List α) (n : Nat) (h : A.length = n) : (A ++ B).take n = A := by
    subst h
    simp
end Go.Proofs.Ytighdflbmpkehaa
