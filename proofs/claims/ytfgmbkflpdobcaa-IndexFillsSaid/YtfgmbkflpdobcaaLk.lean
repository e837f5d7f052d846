/- Chains of numbers: nodes linked by cells. Nothing of the program is spoken of here. -/
import Derived.Test.YtfgmbkflpdobcaaIx
namespace Go.Proofs.Ytfgmbkflpdobcaa
set_option linter.unusedVariables false
set_option linter.unusedSimpArgs false

/-- From the number s on the nodes l stand, each told by its forerunner's cell (that of node k is b + k); 0 ends. -/
def Lk (b : Nat) (c : Nat → Int) : Int → List Nat → Prop
  | s, [] => s = 0
  | s, k :: l => s = k ∧ 1 ≤ k ∧ k < 1025 ∧ Lk b c (c (b + k)) l
theorem Lk.zero {b : Nat} {c : Nat → Int} {l : List Nat} (h : Lk b c 0 l) : l = [] := by
  cases l with
  | nil => rfl
  | cons k l => exact absurd h.1 (by have := h.2.1; omega)
theorem Lk.one {b : Nat} {c : Nat → Int} : ∀ {l l' : List Nat} {s : Int}, Lk b c s l → Lk b c s l' → l = l'
  | [], l', s, h, h' => by obtain rfl : s = 0 := h; exact h'.zero.symm
  | k :: l, [], s, h, h' => by obtain rfl : s = 0 := h'; exact h.zero
  | k :: l, k' :: l', s, h, h' => by
    have e : k = k' := by have h1 := h.1; have h2 := h'.1; omega
    subst e
    rw [Lk.one h.2.2.2 h'.2.2.2]
theorem Lk.next {b : Nat} {c : Nat → Int} {s : Int} {l : List Nat} (h : Lk b c s l) (hs : s ≠ 0) : ∃ k m, l = k :: m ∧ s = k ∧ 1 ≤ k ∧ k < 1025 ∧ Lk b c (c (b + k)) m := by
  cases l with
  | nil => exact absurd h hs
  | cons k m => exact ⟨k, m, rfl, h⟩
theorem Lk.mem {b : Nat} {c : Nat → Int} : ∀ {l : List Nat} {s : Int}, Lk b c s l → ∀ k ∈ l, 1 ≤ k ∧ k < 1025
  | k :: l, s, h, j, hj => by
    rcases List.mem_cons.1 hj with rfl | hj
    · exact ⟨h.2.1, h.2.2.1⟩
    · exact h.2.2.2.mem j hj
theorem Lk.congr {b : Nat} {c c' : Nat → Int} : ∀ {l : List Nat} {s : Int}, Lk b c s l → (∀ k ∈ l, c' (b + k) = c (b + k)) → Lk b c' s l
  | [], s, h, _ => h
  | k :: l, s, h, he => ⟨h.1, h.2.1, h.2.2.1, by
      rw [he k (List.mem_cons_self ..)]
      exact h.2.2.2.congr fun j hj => he j (List.mem_cons_of_mem _ hj)⟩
open Classical in
/-- How many nodes stand from a number on: for a loop's measure. -/
noncomputable def lenK (b : Nat) (c : Nat → Int) (s : Int) : Nat := if h : ∃ l, Lk b c s l then h.choose.length else 0
theorem Lk.len {b : Nat} {c : Nat → Int} {s : Int} {l : List Nat} (h : Lk b c s l) : lenK b c s = l.length := by
  have hx : ∃ l, Lk b c s l := ⟨l, h⟩
  unfold lenK
  rw [dif_pos hx, Lk.one hx.choose_spec h]

/-- The cell that tells of what stands behind 'pre', in the chain that is told by cell p. -/
def endC (b p : Nat) : List Nat → Nat
  | [] => p
  | k :: l => endC b (b + k) l
theorem endC_snoc (b p k : Nat) : ∀ (l : List Nat), endC b p (l ++ [k]) = b + k := by
  intro l
  induction l generalizing p with
  | nil => rfl
  | cons j l ih => exact ih (b + j)
theorem endC_mem (b p : Nat) : ∀ (l : List Nat), endC b p l = p ∨ ∃ k ∈ l, endC b p l = b + k := by
  intro l
  induction l generalizing p with
  | nil => exact .inl rfl
  | cons j l ih =>
    rcases ih (b + j) with h | ⟨k, hk, h⟩
    · exact .inr ⟨j, List.mem_cons_self .., h⟩
    · exact .inr ⟨k, List.mem_cons_of_mem _ hk, h⟩
/-- What stands behind 'pre'. -/
theorem Lk.behind {b : Nat} {c : Nat → Int} : ∀ {pre m : List Nat} {p : Nat}, Lk b c (c p) (pre ++ m) → Lk b c (c (endC b p pre)) m
  | [], m, p, h => h
  | k :: pre, m, p, h => Lk.behind (p := b + k) (pre := pre) h.2.2.2
/-- A node is taken out. -/
theorem Lk.cut {b : Nat} {c : Nat → Int} : ∀ {pre m : List Nat} {k p : Nat}, Lk b c (c p) (pre ++ k :: m) → (pre ++ k :: m).Nodup → (∀ j ∈ pre ++ k :: m, p ≠ b + j) →
    Lk b (upd c (endC b p pre) (c (b + k))) (upd c (endC b p pre) (c (b + k)) p) (pre ++ m)
  | [], m, k, p, h, hd, hp => by
    show Lk b (upd c p (c (b + k))) (upd c p (c (b + k)) p) m
    rw [upd_same]
    exact h.2.2.2.congr fun j hj => upd_far c _ (fun e => hp j (List.mem_cons_of_mem _ hj) e.symm)
  | i :: pre, m, k, p, h, hd, hp => by
    have ih := Lk.cut (pre := pre) (m := m) (k := k) (p := b + i) h.2.2.2 (List.nodup_cons.1 hd).2 (fun j hj e => (List.nodup_cons.1 hd).1 ((show i = j by omega).symm ▸ hj))
    have hne : p ≠ endC b (b + i) pre := by
      rcases endC_mem b (b + i) pre with h1 | ⟨j, hj, h1⟩
      · rw [h1]; exact hp i (List.mem_cons_self ..)
      · rw [h1]; exact hp j (List.mem_cons_of_mem _ (List.mem_append.2 (.inl hj)))
    show Lk b (upd c (endC b (b + i) pre) (c (b + k))) (upd c (endC b (b + i) pre) (c (b + k)) p) (i :: (pre ++ m))
    rw [upd_far c _ hne]
    exact ⟨h.1, h.2.1, h.2.2.1, ih⟩
/-- A node is put at the end. -/
theorem Lk.put {b : Nat} {c : Nat → Int} : ∀ {l : List Nat} {k p : Nat}, Lk b c (c p) l → l.Nodup → k ∉ l → 1 ≤ k → k < 1025 → (∀ j ∈ l, p ≠ b + j) → p ≠ b + k →
    Lk b (upd (upd c (b + k) 0) (endC b p l) k) (upd (upd c (b + k) 0) (endC b p l) k p) (l ++ [k])
  | [], k, p, h, hd, hk, h1, h2, hp, hpk => by
    show Lk b (upd (upd c (b + k) 0) p k) (upd (upd c (b + k) 0) p k p) [k]
    rw [upd_same]
    refine ⟨rfl, h1, h2, ?_⟩
    show upd (upd c (b + k) 0) p k (b + k) = 0
    rw [upd_far _ _ hpk.symm, upd_same]
  | i :: l, k, p, h, hd, hk, h1, h2, hp, hpk => by
    have ih := Lk.put (l := l) (k := k) (p := b + i) h.2.2.2 (List.nodup_cons.1 hd).2 (fun hm => hk (List.mem_cons_of_mem _ hm)) h1 h2
      (fun j hj e => (List.nodup_cons.1 hd).1 ((show i = j by omega).symm ▸ hj)) (fun e => hk ((show i = k by omega) ▸ List.mem_cons_self ..))
    have hne : p ≠ endC b (b + i) l := by
      rcases endC_mem b (b + i) l with h1 | ⟨j, hj, h1⟩
      · rw [h1]; exact hp i (List.mem_cons_self ..)
      · rw [h1]; exact hp j (List.mem_cons_of_mem _ hj)
    show Lk b (upd (upd c (b + k) 0) (endC b (b + i) l) k) (upd (upd c (b + k) 0) (endC b (b + i) l) k p) (i :: (l ++ [k]))
    rw [upd_far _ _ hne, upd_far _ _ hpk]
    exact ⟨h.1, h.2.1, h.2.2.1, ih⟩
/-- A node is put at the beginning. -/
theorem Lk.push {b : Nat} {c : Nat → Int} {l : List Nat} {k p : Nat} (h : Lk b c (c p) l) (hk : k ∉ l) (h1 : 1 ≤ k) (h2 : k < 1025) (hp : ∀ j ∈ l, p ≠ b + j) (hpk : p ≠ b + k) :
    Lk b (upd (upd c (b + k) (c p)) p k) (upd (upd c (b + k) (c p)) p k p) (k :: l) := by
  rw [upd_same]
  refine ⟨rfl, h1, h2, ?_⟩
  rw [upd_far _ _ hpk.symm, upd_same]
  exact h.congr fun j hj => by
    have e1 : b + j ≠ p := fun e => hp j hj e.symm
    have e2 : b + j ≠ b + k := fun e => hk ((show j = k by omega) ▸ hj)
    rw [upd_far _ _ e1, upd_far _ _ e2]
end Go.Proofs.Ytfgmbkflpdobcaa
