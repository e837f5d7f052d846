/- Rows of sectors where one is replaced, two change places, one is left out: their cells, lengths and bytes. -/
import Derived.Test.YtikeiloeeklkeaaMiss
namespace Go.Proofs.Ytikeiloeeklkeaa
open Go.RowKit
set_option linter.unusedVariables false

theorem flat_set {L : List (List Int)} (h : Secs L) (k : Nat) (hk : k < L.length) (ys : List Int) (hy : ys.length = 64) : (flat L).take (k * 64) ++ ys ++ (flat L).drop (k * 64 + 64) = flat (L.set k ys) := by
  have hc := list_cut k hk
  have hl := flat_length (h.take k)
  have hg := h.get k hk
  rw [List.length_take, Nat.min_eq_left (by omega)] at hl
  have e : L.set k ys = L.take k ++ [ys] ++ L.drop (k + 1) := by
    rw [List.set_eq_take_append_cons_drop, if_pos hk, List.append_assoc, List.singleton_append]
  rw [e]
  conv => lhs; rw [hc]
  rw [flat_append, flat_append, flat_one, flat_append, flat_append, flat_one]
  generalize L.getD k [] = zs at *
  generalize flat (L.take k) = us at *
  generalize flat (L.drop (k + 1)) = vs at *
  rw [List.append_assoc us zs vs, List.take_append, List.take_of_length_le (by omega), List.drop_append, hl]
  simp [show k * 64 + 64 - k * 64 = 64 by omega, hl, hg, List.drop_append]

theorem Secs.set_ {L : List (List Int)} (h : Secs L) (k : Nat) {ys : List Int} (hy : ys.length = 64) : Secs (L.set k ys) := fun xs hx => by
  rcases List.mem_or_eq_of_mem_set hx with h1 | h1
  · exact h xs h1
  · rw [h1]; exact hy

theorem bytes_nil : Bytes [] := fun j => by simp
theorem bytes_set_ {L : List (List Int)} (h : ∀ i, Bytes (L.getD i [])) (k : Nat) {ys : List Int} (hy : Bytes ys) (i : Nat) : Bytes ((L.set k ys).getD i []) := by
  have h1 := h i
  simp only [List.getD, List.getElem?_set] at *
  by_cases e : k = i
  · rw [if_pos e]
    by_cases e2 : k < L.length
    · rw [if_pos e2]; exact hy
    · rw [if_neg e2]; exact bytes_nil
  · rw [if_neg e]; exact h1

theorem swapped_secs {L : List (List Int)} (h : Secs L) (k : Nat) (hk : k + 1 < L.length) : Secs (swapped L k) := (h.set_ k (h.get (k + 1) hk)).set_ (k + 1) (h.get k (by omega))
theorem swapped_bytes {L : List (List Int)} (h : ∀ i, Bytes (L.getD i [])) (k : Nat) (i : Nat) : Bytes ((swapped L k).getD i []) := bytes_set_ (bytes_set_ h k (h (k + 1))) (k + 1) (h k) i
theorem swapped_length (L : List (List Int)) (k : Nat) : (swapped L k).length = L.length := by simp [swapped]
theorem swapped_flat {L : List (List Int)} (h : Secs L) (k : Nat) (hk : k + 1 < L.length) :
    ((flat L).take (k * 64) ++ L.getD (k + 1) [] ++ (flat L).drop (k * 64 + 64)).take ((k + 1) * 64) ++ L.getD k [] ++ ((flat L).take (k * 64) ++ L.getD (k + 1) [] ++ (flat L).drop (k * 64 + 64)).drop ((k + 1) * 64 + 64) = flat (swapped L k) := by
  rw [flat_set h k (by omega) _ (h.get (k + 1) hk), flat_set (h.set_ k (h.get (k + 1) hk)) (k + 1) (by simpa using hk) _ (h.get k (by omega))]
  rfl

theorem lacking_secs {L : List (List Int)} (h : Secs L) (k : Nat) : Secs (lacking L k) := (h.take k).append (h.drop (k + 1))
theorem lacking_bytes {L : List (List Int)} (h : ∀ i, Bytes (L.getD i [])) (k : Nat) (i : Nat) : Bytes ((lacking L k).getD i []) := by
  by_cases e : i < k ∧ i < L.length
  · have : (lacking L k).getD i [] = L.getD i [] := by
      simp only [lacking, List.getD]
      rw [List.getElem?_append_left (by simp; omega), List.getElem?_take, if_pos (by omega)]
    rw [this]; exact h i
  · by_cases e3 : i < L.length
    · have : (lacking L k).getD i [] = L.getD (i + 1) [] := by
        have hm : min k L.length = k := by omega
        simp only [lacking, List.getD]
        rw [List.getElem?_append_right (by simp; omega)]
        simp [hm, show k + 1 + (i - k) = i + 1 by omega]
      rw [this]; exact h (i + 1)
    · have : (lacking L k).getD i [] = [] := by
        simp only [lacking, List.getD]
        rw [List.getElem?_eq_none (by simp; omega)]
        rfl
      rw [this]; exact bytes_nil
theorem lacking_flat (L : List (List Int)) (k : Nat) : flat (L.take k) ++ flat (L.drop (k + 1)) = flat (lacking L k) := by rw [lacking, flat_append]

/-- A row of the call's own that isn't empty has a block. -/
theorem own_block {w : World} {base size n : Nat} {e : TypeId} {v : Value} {xs : List Value} (h : w.ownsRow base e size v n xs) (hn : 0 < n) : ∃ g cap, v = .slice (some ⟨g, 0, none⟩) n cap ∧ base ≤ g ∧ g < w.heap.size ∧ n ≤ cap := by
  have hlt := h.lt
  rcases h.2 with ⟨rfl, rfl⟩ | ⟨g, cap, cur, rfl, hg, hh, hnc, hc⟩
  · exact absurd hn (by omega)
  · exact ⟨g, cap, rfl, hg, (hlt g rfl).2, hnc⟩
theorem own_range {w : World} {base g n cap : Nat} {L : List (List Int)} (h : w.ownsRow base 27 64 (.slice (some ⟨g, 0, none⟩) n cap) n ((flat L).map (Value.int .u8))) (hs : Secs L) (k : Nat) (hk : k < n) : w.rangeAt g (k * 64) ((L.getD k []).map (Value.int .u8)) := by
  obtain ⟨A, cap', e, _, _, hr⟩ := rowK_own h hs
  injection e with e1 _ _
  subst e1
  obtain ⟨b, off, e, _, hc⟩ := hr.2 (by omega)
  injection e with e
  injection e with e1 e2 _
  subst e1 e2
  have := hc k hk
  rwa [Nat.zero_add] at this
theorem run_tail_bytes (b off n cap : Nat) (h : 48 < n) (hc : n ≤ cap) (W : World) :
    (Instr.slice 24 (.slice (some ⟨b, off, none⟩) n cap) (some (.int .i64 48)) none none).run Try.prog W = .ok (.slice (some ⟨b, off + 48, none⟩) (n - 48) (cap - 48)) W := by
  have hu : Try.prog.underlying 24 = some (.slice (Try.prog.elem 24)) := by kernel_rfl
  have he : Try.prog.elem 24 = 5 := by kernel_rfl
  rw [run_slice_l (P := Try.prog) W 24 (some ⟨b, off, none⟩) n cap hu .i64 48 (by omega) (by omega), he, Try.sizeOf5]
  have hne : ¬ cap = 48 := by omega
  simp [Result.andThen, sliced, hne, add_plain]
theorem rowI_drop {w : World} {S : Nat → Prop} {b off n : Nat} {xs : List Int} (h : RowI .u8 w S (some ⟨b, off, none⟩) n xs) (k : Nat) (hk : k < n) : RowI .u8 w S (some ⟨b, off + k, none⟩) (n - k) (xs.drop k) := by
  have hl := h.1
  refine ⟨by simp; omega, fun h0 => ?_⟩
  obtain ⟨b', off', e, hb, hc⟩ := h.2 (by omega)
  injection e with e
  injection e with e1 e2 _
  subst e1 e2
  refine ⟨b, off + k, rfl, hb, fun i hi => ?_⟩
  have : (xs.drop k).getD i 0 = xs.getD (k + i) 0 := by simp [List.getD, List.getElem?_drop]
  rw [this, show off + k + i = off + (k + i) by omega]
  exact hc (k + i) (by omega)
theorem bytes_drop {xs : List Int} (hb : Bytes xs) (k : Nat) : Bytes (xs.drop k) := fun j => by have := hb (k + j); simpa [List.getD, List.getElem?_drop] using this
section
variable {w : World} {ops : Array Oper} {o : Oper} {a : Act} {Q : Exit → Act → World → Prop} {K : Act → World → Prop} {E : Prop}
theorem step_load_blk (x : Operand) (ho : o.op = .load 27 x) (hgd : o.guard = none) (b off : Nat) (hx : a.eval x = .pointer (some ⟨b, off, none⟩)) (xs : List Int) (hl : xs.length = 64) (hc : w.rangeAt b off (xs.map (Value.int .u8)))
    (h : K (a.put o.dst (.agg (cells8 xs))) w) : if Region.wanted o (yielded ops a.tmps) = true then Oper.wp Try.prog o a w K Q else E := by
  have hw : Region.wanted o (yielded ops a.tmps) = true := by simp [Region.wanted, hgd]
  rw [if_pos hw]
  exact wp_load_mid 27 x ho b off hx _ _ hc Try.underlying27 rfl (by rw [size_blk]; simp [hl]) h
theorem step_store_own (x y : Operand) (ho : o.op = .store 27 x y) (hgd : o.guard = none) (g off : Nat) (ys : List Int) (hx : a.eval x = .pointer (some ⟨g, off, none⟩)) (hy : a.eval y = .agg (cells8 ys))
    (base n cap : Nat) (L : List Int) (hown : w.ownsRow base 27 64 (.slice (some ⟨g, 0, none⟩) n cap) n (L.map (Value.int .u8))) (hl : ys.length = 64) (hfit : off + 64 ≤ L.length)
    (h : ∀ w', w'.ownsRow base 27 64 (.slice (some ⟨g, 0, none⟩) n cap) n ((L.take off ++ ys ++ L.drop (off + 64)).map (Value.int .u8)) → Kept (fun b => b ≠ g) w w' → K (a.put o.dst undef) w') :
    if Region.wanted o (yielded ops a.tmps) = true then Oper.wp Try.prog o a w K Q else E := by
  have hw : Region.wanted o (yielded ops a.tmps) = true := by simp [Region.wanted, hgd]
  rw [if_pos hw]
  exact wp_store_own x y ho g off ys hx hy base n cap L hown hl hfit h
end
theorem own_drew {w : World} {base size n : Nat} {e : TypeId} {v : Value} {xs : List Value} (h : w.ownsRow base e size v n xs) : w.drew.ownsRow base e size v n xs := h
end Go.Proofs.Ytikeiloeeklkeaa
