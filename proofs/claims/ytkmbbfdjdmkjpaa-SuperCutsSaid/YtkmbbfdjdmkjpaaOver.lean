/- Pending writes over sectors, in plain lists: what sectors hold, what lives on. -/
import Derived.Test.YtkmbbfdjdmkjpaaWrite1
namespace Go.Proofs.Ytkmbbfdjdmkjpaa
open Go.RowKit
set_option linter.unusedVariables false
set_option linter.unusedSimpArgs false

/-- The writes laid over the sectors, in order. -/
def over (s : List (List Int)) (l : List (Nat × List Int)) : List (List Int) := l.foldl (fun s p => s.set p.1 p.2) s
theorem over_snoc (s : List (List Int)) (l : List (Nat × List Int)) (p : Nat × List Int) : over s (l ++ [p]) = (over s l).set p.1 p.2 := by simp [over]
theorem over_nil (s : List (List Int)) : over s [] = s := rfl
theorem over_length (s : List (List Int)) (l : List (Nat × List Int)) : (over s l).length = s.length := by
  induction l generalizing s with
  | nil => rfl
  | cons p r ih => simp only [over, List.foldl_cons] at *; rw [ih]; simp

/-- What lives on of the first k writes. -/
def lived (L : Nat → Bool) (l : List (Nat × List Int)) : Nat → List (Nat × List Int)
  | 0 => []
  | k + 1 => if L k then lived L l k ++ (l.drop k).take 1 else lived L l k
theorem lived_all (l : List (Nat × List Int)) : ∀ k, lived (fun _ => true) l k = l.take k
  | 0 => by simp [lived]
  | k + 1 => by
    simp only [lived, if_true, lived_all l k]
    rw [List.take_add]
theorem lived_none (l : List (Nat × List Int)) : ∀ k, lived (fun _ => false) l k = []
  | 0 => rfl
  | k + 1 => by simp [lived, lived_none l k]
theorem lived_mem {L : Nat → Bool} {l : List (Nat × List Int)} : ∀ {k : Nat} {p : Nat × List Int}, p ∈ lived L l k → p ∈ l
  | 0, p, h => by simp [lived] at h
  | k + 1, p, h => by
    unfold lived at h
    split at h
    · rcases List.mem_append.1 h with h | h
      · exact lived_mem h
      · exact List.mem_of_mem_drop (List.mem_of_mem_take h)
    · exact lived_mem h
theorem lived_step (L : Nat → Bool) (l : List (Nat × List Int)) (k : Nat) (hk : k < l.length) (hL : L k = true) : lived L l (k + 1) = lived L l k ++ [l[k]] := by
  rw [lived, if_pos hL, List.drop_eq_getElem_cons hk]
  rfl
theorem lived_skip (L : Nat → Bool) (l : List (Nat × List Int)) (k : Nat) (hL : L k = false) : lived L l (k + 1) = lived L l k := by
  rw [lived, hL]
  rfl

/-- The sectors of the first k writes hold what is safe. -/
def back (s h : List (List Int)) (l : List (Nat × List Int)) : List (List Int) := l.foldl (fun h p => h.set p.1 (s.getD p.1 [])) h
theorem back_snoc (s h : List (List Int)) (l : List (Nat × List Int)) (p : Nat × List Int) : back s h (l ++ [p]) = (back s h l).set p.1 (s.getD p.1 []) := by simp [back]
theorem back_length (s h : List (List Int)) (l : List (Nat × List Int)) : (back s h l).length = h.length := by
  induction l generalizing h with
  | nil => rfl
  | cons p r ih => simp only [back, List.foldl_cons] at *; rw [ih]; simp
theorem set_get_same (xs : List (List Int)) (i j : Nat) (y : List Int) : (xs.set i y)[j]? = if i = j ∧ j < xs.length then some y else xs[j]? := by
  rw [List.getElem?_set]
  by_cases h : i = j
  · subst h
    by_cases h2 : i < xs.length <;> simp [h2]
  · simp [h]
theorem over_get (s : List (List Int)) (l : List (Nat × List Int)) (j : Nat) (hj : ∀ p ∈ l, p.1 ≠ j) : (over s l)[j]? = s[j]? := by
  induction l generalizing s with
  | nil => rfl
  | cons p r ih =>
    have h1 := ih (s.set p.1 p.2) (fun q hq => hj q (List.mem_cons_of_mem _ hq))
    have h2 := hj p (List.mem_cons_self ..)
    simp only [over, List.foldl_cons] at *
    rw [h1, set_get_same, if_neg (by omega)]
theorem back_get (s h : List (List Int)) (hl : s.length = h.length) (l : List (Nat × List Int)) (j : Nat) : (back s h l)[j]? = if (∃ p ∈ l, p.1 = j) then s[j]? else h[j]? := by
  induction l generalizing h with
  | nil => simp [back]
  | cons p r ih =>
    have h1 := ih (h.set p.1 (s.getD p.1 [])) (by simpa using hl)
    simp only [back, List.foldl_cons] at *
    rw [h1, set_get_same]
    by_cases hp : p.1 = j
    · rw [if_pos (show ∃ q ∈ p :: r, q.1 = j from ⟨p, List.mem_cons_self .., hp⟩)]
      split
      · rfl
      · by_cases hlt : j < h.length
        · rw [if_pos ⟨hp, hlt⟩, hp]
          simp [List.getD, List.getElem?_eq_getElem (show j < s.length by omega)]
        · rw [if_neg (by omega), List.getElem?_eq_none (by omega), List.getElem?_eq_none (by omega)]
    · rw [if_neg (show ¬ (p.1 = j ∧ j < h.length) from fun h => hp h.1)]
      by_cases hr : ∃ q ∈ r, q.1 = j
      · obtain ⟨q, hq, e⟩ := hr
        rw [if_pos ⟨q, hq, e⟩, if_pos ⟨q, List.mem_cons_of_mem _ hq, e⟩]
      · rw [if_neg hr, if_neg]
        rintro ⟨q, hq, e⟩
        rcases List.mem_cons.1 hq with rfl | hq
        · exact hp e
        · exact hr ⟨q, hq, e⟩
/-- What all sectors hold behind it: what is safe. -/
theorem back_over (s : List (List Int)) (l : List (Nat × List Int)) (L : Nat → Bool) (k : Nat) : back (over s (lived L l k)) (over s l) l = over s (lived L l k) := by
  apply List.ext_getElem?
  intro j
  rw [back_get _ _ (by rw [over_length, over_length])]
  split
  · rfl
  · rename_i hno
    rw [over_get s l j (fun p hp e => hno ⟨p, hp, e⟩), over_get s _ j (fun p hp e => hno ⟨p, lived_mem hp, e⟩)]

/-- Writes that are right for n sectors. -/
def Fits (n : Nat) (l : List (Nat × List Int)) : Prop := ∀ p ∈ l, p.1 < n ∧ p.2.length = 64 ∧ Bytes p.2
theorem over_secs {s : List (List Int)} {l : List (Nat × List Int)} (hs : Secs s) (hl : ∀ p ∈ l, p.2.length = 64) : Secs (over s l) := by
  induction l generalizing s with
  | nil => exact hs
  | cons p r ih => exact ih (hs.set_ p.1 (hl p (List.mem_cons_self ..))) (fun q hq => hl q (List.mem_cons_of_mem _ hq))
theorem back_secs {s h : List (List Int)} {l : List (Nat × List Int)} (hs : Secs s) (hh : Secs h) (hl : ∀ p ∈ l, p.1 < s.length) : Secs (back s h l) := by
  induction l generalizing h with
  | nil => exact hh
  | cons p r ih => exact ih (hh.set_ p.1 (hs.get p.1 (hl p (List.mem_cons_self ..)))) (fun q hq => hl q (List.mem_cons_of_mem _ hq))

theorem wpList_alloc_row {P : Program} {w : World} {ops : Array Oper} {rest : List Oper} {o : Oper} {a : Act} {Q : Exit → Act → World → Prop} (ty : TypeId) (ho : o.op = .alloc ty) (hgd : o.guard = none) (zs : Array Value) (hz : ∀ w, (zeroValue ty).run P w = .ok (.agg zs) w)
    (h : wpList P ops Q rest (a.put o.dst (.pointer (some ⟨w.heap.size, 0, none⟩))) (w.alloc (.cells zs ty))) : wpList P ops Q (o :: rest) a w := by
  refine wpList_plain hgd fun K hK => ?_
  unfold Oper.wp execOp
  simp only [ho, Instr.alloc, Sem.run_bind, hz, Result.andThen_ok]
  exact hK _ _ h
theorem wpList_store_fresh {P : Program} {w : World} {ops : Array Oper} {rest : List Oper} {o : Oper} {a : Act} {Q : Exit → Act → World → Prop} (x y : Operand) (ty : TypeId) (ho : o.op = .store ty x y) (hgd : o.guard = none) (w0 : World) (zs cs : Array Value)
    (hx : a.eval x = .pointer (some ⟨w0.heap.size, 0, none⟩)) (hy : a.eval y = .agg cs) (t : TypeId) (hw : w = w0.alloc (.cells zs t)) (hi : (P.info? ty).map (·.size) = some cs.size) (hl : zs.size = cs.size) (hone : cs.all (·.oneCell') = true)
    (h : wpList P ops Q rest (a.put o.dst undef) (w0.alloc (.cells cs t))) : wpList P ops Q (o :: rest) a w := by
  subst hw
  refine wpList_store_row hgd ty x y ho w0.heap.size cs hx hy t zs (heap_alloc_last w0 _) hi hl hone ?_
  rw [World.setRow_alloc_new]
  exact h

/-- A pending write's cells, out of the slice of them. -/
theorem own_slice {w : World} {base m : Nat} {v : Value} {l : List (Nat × List Int)} (h : w.ownsRow base 115 65 v m (flatP l)) :
    ∃ A cap, v = .slice A m cap ∧ m ≤ cap ∧ (0 < m → ∃ g, A = some ⟨g, 0, none⟩) := by
  rcases h.2 with ⟨rfl, rfl⟩ | ⟨g, cap, cur, rfl, hg, hh, hnc, hc⟩
  · exact ⟨none, 0, rfl, by omega, fun h => absurd h (by omega)⟩
  · exact ⟨_, cap, rfl, hnc, fun _ => ⟨g, rfl⟩⟩
theorem own_write {w : World} {base m g cap : Nat} {l : List (Nat × List Int)} (h : w.ownsRow base 115 65 (.slice (some ⟨g, 0, none⟩) m cap) m (flatP l)) (hl : ∀ p ∈ l, p.2.length = 64) (k : Nat) (hk : k < l.length) : w.rangeAt g (k * 65) (wcells l[k]) := by
  intro j v hv
  have hj : j < 65 := by
    rcases Nat.lt_or_ge j 65 with h0 | h0
    · exact h0
    · rw [List.getElem?_eq_none (by rw [wcells_length _ (hl _ (List.getElem_mem hk))]; omega)] at hv
      cases hv
  have h1 := h.cells (g := g) rfl (k * 65 + j) v (by rw [flatP_part hl k hk j hj]; exact hv)
  rw [add_plain, Nat.zero_add] at h1
  exact h1
theorem own_len {w : World} {base m : Nat} {v : Value} {l : List (Nat × List Int)} (h : w.ownsRow base 115 65 v m (flatP l)) (hl : ∀ p ∈ l, p.2.length = 64) : l.length = m := by
  have := h.1
  rw [flatP_length hl] at this
  omega

end Go.Proofs.Ytkmbbfdjdmkjpaa
