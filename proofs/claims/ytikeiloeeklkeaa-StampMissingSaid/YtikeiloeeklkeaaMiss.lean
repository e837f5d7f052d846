/- What StampMissing asks in plain lists: a sector left out, two that change places, one of another generation; and the cuts of a slice of sectors. -/
import Derived.Test.YtikeiloeeklkeaaSplitM
namespace Go.Proofs.Ytikeiloeeklkeaa
open Go.RowKit
set_option linter.unusedVariables false

/-- Cuts of a slice that is a whole block. -/
theorem run_head_secs (g c k : Nat) (hk : k ≤ c) (hc : 0 < c) (W : World) :
    (Instr.slice 41 (.slice (some ⟨g, 0, none⟩) c c) none (some (.int .i64 (k : Int))) none).run Try.prog W = .ok (.slice (some ⟨g, 0, none⟩) k c) W := by
  have hu : Try.prog.underlying 41 = some (.slice (Try.prog.elem 41)) := by kernel_rfl
  have he : Try.prog.elem 41 = 27 := by kernel_rfl
  rw [run_slice_h (P := Try.prog) W 41 (some ⟨g, 0, none⟩) c c hu .i64 k (by omega) (by omega), he, Try.sizeOf27]
  have hne : ¬ c = 0 := by omega
  simp [Result.andThen, sliced, hne, add_plain]
theorem run_tail_secs (g c k : Nat) (hk : k < c) (W : World) :
    (Instr.slice 41 (.slice (some ⟨g, 0, none⟩) c c) (some (.int .i64 (k : Int))) none none).run Try.prog W = .ok (.slice (some ⟨g, k * 64, none⟩) (c - k) (c - k)) W := by
  have hu : Try.prog.underlying 41 = some (.slice (Try.prog.elem 41)) := by kernel_rfl
  have he : Try.prog.elem 41 = 27 := by kernel_rfl
  rw [run_slice_l (P := Try.prog) W 41 (some ⟨g, 0, none⟩) c c hu .i64 k (by omega) (by omega), he, Try.sizeOf27]
  have hne : ¬ c = k := by omega
  simp [Result.andThen, sliced, hne, add_plain]

theorem RowK.head {w : World} {S : Nat → Prop} {A : Option Addr} {n : Nat} {xss : List (List Int)} (h : RowK w S A n xss) (k : Nat) (hk : k ≤ n) : RowK w S A k (xss.take k) := by
  have hl := h.1
  refine ⟨by simp; omega, fun h0 => ?_⟩
  obtain ⟨b, off, e, hb, hc⟩ := h.2 (by omega)
  refine ⟨b, off, e, hb, fun i hi => ?_⟩
  have : (xss.take k).getD i [] = xss.getD i [] := by simp [List.getD, List.getElem?_take, hi]
  rw [this]
  exact hc i (by omega)
theorem RowK.tail {w : World} {S : Nat → Prop} {g n : Nat} {xss : List (List Int)} (h : RowK w S (some ⟨g, 0, none⟩) n xss) (k : Nat) (hk : k < n) : RowK w S (some ⟨g, k * 64, none⟩) (n - k) (xss.drop k) := by
  have hl := h.1
  refine ⟨by simp; omega, fun h0 => ?_⟩
  obtain ⟨b, off, e, hb, hc⟩ := h.2 (by omega)
  injection e with e
  injection e with e1 e2 _
  subst e1 e2
  refine ⟨g, k * 64, rfl, hb, fun i hi => ?_⟩
  have : (xss.drop k).getD i [] = xss.getD (k + i) [] := by simp [List.getD, List.getElem?_drop]
  rw [this, show k * 64 + i * 64 = 0 + (k + i) * 64 by omega]
  exact hc (k + i) (by omega)

section
variable {gen : Int} {xs : List Int}

/-- What the k-th sector of Split(gen, 7, xs) says, as far as the chain asks it. -/
theorem miss_said (hg : 1 ≤ gen) (hg2 : gen ≤ 18446744073709551615) (hn : xs.length ≤ 16384) (k : Nat) (hk : k < cntOf xs.length) :
    genOf ((splitL gen 7 xs).getD k []) = gen ∧ posOf ((splitL gen 7 xs).getD k []) = 7 + k ∧ meantOf ((splitL gen 7 xs).getD k []) = partOf xs k := by
  have hc := cnt_bounds xs.length hn
  have := split_said (pos := 7) (xs := xs) hg hg2 (by omega) k hk (by omega)
  exact ⟨this.1, this.2.1, this.2.2.2.1⟩

/-- Two that changed places. -/
def swapped (L : List (List Int)) (k : Nat) : List (List Int) := (L.set k (L.getD (k + 1) [])).set (k + 1) (L.getD k [])
theorem swapped_no (hg : 1 ≤ gen) (hg2 : gen ≤ 18446744073709551615) (hn : xs.length ≤ 16384) (k : Nat) (hk : k + 1 < cntOf xs.length) : ¬ Chain (swapped (splitL gen 7 xs) k) := by
  intro h
  have hl := split_length gen 7 xs
  have h1 := (h (k + 1) (by simp [swapped, hl]; omega)).2 (by omega)
  have a := miss_said hg hg2 hn k (by omega)
  have b := miss_said hg hg2 hn (k + 1) hk
  have e1 : (swapped (splitL gen 7 xs) k).getD (k + 1) [] = (splitL gen 7 xs).getD k [] := by simp [swapped, List.getD, hl, hk]
  have e2 : (swapped (splitL gen 7 xs) k).getD k [] = (splitL gen 7 xs).getD (k + 1) [] := by
    have : ¬ k + 1 = k := by omega
    simp [swapped, List.getD, List.getElem?_set, hl, this, show k < cntOf xs.length by omega]
  rw [Nat.add_sub_cancel, e1, e2] at h1
  simp only [linkB, folB, decide_eq_true_eq] at h1
  have := h1.2.2.1
  omega

/-- One of another generation. -/
def othered (L : List (List Int)) (k : Nat) (ys : List Int) : List (List Int) := L.set k ys
theorem othered_no (hg : 1 ≤ gen) (hg2 : gen ≤ 18446744073709551614) (hn : xs.length ≤ 16384) (k : Nat) (hk : k + 1 < cntOf xs.length) : ¬ Chain (othered (splitL gen 7 xs) k (packL (gen + 1) (7 + k) (partOf xs k))) := by
  intro h
  have hl := split_length gen 7 xs
  have hc := cnt_bounds xs.length hn
  have h1 := (h (k + 1) (by simp [othered, hl]; omega)).2 (by omega)
  have b := miss_said hg (by omega) hn (k + 1) hk
  have e1 : (othered (splitL gen 7 xs) k (packL (gen + 1) (7 + k) (partOf xs k))).getD (k + 1) [] = (splitL gen 7 xs).getD (k + 1) [] := by
    have : ¬ k = k + 1 := by omega
    simp [othered, List.getD, List.getElem?_set, this]
  have e2 : (othered (splitL gen 7 xs) k (packL (gen + 1) (7 + k) (partOf xs k))).getD k [] = packL (gen + 1) (7 + k) (partOf xs k) := by
    simp [othered, List.getD, List.getElem?_set, hl, show k < cntOf xs.length by omega]
  rw [Nat.add_sub_cancel, e1, e2] at h1
  have p := pack_said (gen + 1) (7 + k) (partOf xs k) (by omega) (by omega) (by omega) (by omega) (part_le xs k)
  simp only [linkB, folB, decide_eq_true_eq] at h1
  have := h1.2.1
  rw [p.1, b.1] at this
  omega

/-- One left out. -/
def lacking (L : List (List Int)) (k : Nat) : List (List Int) := L.take k ++ L.drop (k + 1)
theorem lacking_length (L : List (List Int)) (k : Nat) (hk : k < L.length) : (lacking L k).length = L.length - 1 := by simp [lacking]; omega
theorem lacking_no (hg : 1 ≤ gen) (hg2 : gen ≤ 18446744073709551615) (hn : xs.length ≤ 16384) (k : Nat) (hk0 : 0 < k) (hk : k + 1 < cntOf xs.length) : ¬ Chain (lacking (splitL gen 7 xs) k) := by
  intro h
  have hl := split_length gen 7 xs
  have h1 := (h k (by rw [lacking_length _ _ (by omega), hl]; omega)).2 hk0
  have a := miss_said hg hg2 hn (k - 1) (by omega)
  have b := miss_said hg hg2 hn (k + 1) hk
  have e1 : (lacking (splitL gen 7 xs) k).getD k [] = (splitL gen 7 xs).getD (k + 1) [] := by
    have hm : min k (splitL gen 7 xs).length = k := by omega
    simp only [lacking, List.getD]
    rw [List.getElem?_append_right (by simp; omega)]
    simp [hm]
  have e2 : (lacking (splitL gen 7 xs) k).getD (k - 1) [] = (splitL gen 7 xs).getD (k - 1) [] := by
    simp only [lacking, List.getD]
    rw [List.getElem?_append_left (by simp; omega), List.getElem?_take, if_pos (by omega)]
  rw [e1, e2] at h1
  simp only [linkB, folB, decide_eq_true_eq] at h1
  have := h1.2.2.1
  rw [a.2.1, b.2.1] at this
  omega
theorem rest_chain (hg : 1 ≤ gen) (hg2 : gen ≤ 18446744073709551615) (hn : xs.length ≤ 16384) (h2 : 2 ≤ cntOf xs.length) : Chain (lacking (splitL gen 7 xs) 0) := by
  have hc := cnt_bounds xs.length hn
  have hch := split_chain (pos := 7) (xs := xs) hg hg2 (by omega) (by omega)
  have hl := split_length gen 7 xs
  have hg' : ∀ i, (lacking (splitL gen 7 xs) 0).getD i [] = (splitL gen 7 xs).getD (i + 1) [] := by
    intro i
    simp only [lacking, List.getD, List.take_zero, List.nil_append, List.getElem?_drop]
    rw [show 0 + 1 + i = i + 1 by omega]
  intro i hi
  rw [lacking_length _ _ (by omega), hl] at hi
  have h1 := hch (i + 1) (by omega)
  refine ⟨by rw [hg']; exact h1.1, fun h0 => ?_⟩
  rw [hg', hg', show i - 1 + 1 = i + 1 - 1 by omega]
  exact h1.2 (by omega)
theorem rest_meants (hg : 1 ≤ gen) (hg2 : gen ≤ 18446744073709551615) (hn : xs.length ≤ 16384) (h2 : 2 ≤ cntOf xs.length) : meants (lacking (splitL gen 7 xs) 0) = xs.drop 48 := by
  have hc := cnt_bounds xs.length hn
  have hl := split_length gen 7 xs
  have hm := split_meants (pos := 7) (xs := xs) hg hg2 (by omega) (by omega)
  have h0 := miss_said hg hg2 hn 0 (by omega)
  have hcut := list_cut (xss := splitL gen 7 xs) 0 (by omega)
  have e : meants (splitL gen 7 xs) = meantOf ((splitL gen 7 xs).getD 0 []) ++ meants (lacking (splitL gen 7 xs) 0) := by
    conv => lhs; rw [hcut]
    simp [meants, lacking]
  rw [hm, h0.2.2] at e
  have e2 : xs = partOf xs 0 ++ xs.drop 48 := by
    unfold partOf
    simp
  have e3 : partOf xs 0 ++ meants (lacking (splitL gen 7 xs) 0) = partOf xs 0 ++ xs.drop 48 := e.symm.trans e2
  exact List.append_cancel_left e3
end

end Go.Proofs.Ytikeiloeeklkeaa
