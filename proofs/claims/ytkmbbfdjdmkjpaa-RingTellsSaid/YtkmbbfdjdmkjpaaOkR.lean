/- Which rings may be: what Check finds, said of the segments themselves. -/
import Derived.Test.YtkmbbfdjdmkjpaaCheck
import Derived.Test.YtkmbbfdjdmkjpaaPureR
namespace Go.Proofs.Ytkmbbfdjdmkjpaa
open Go.RowKit Go.Shelf
attribute [local go_sem] Oper.semAt_some
set_option linter.unusedVariables false

theorem flow_at : ∀ (L : List Num) (a : Seg), flow a L = true ↔ ∀ k, k < L.length → (if k = 0 then a else (L.getD (k - 1) num0).2).1 ≠ 1 ∧ (if k = 0 then a else (L.getD (k - 1) num0).2).2.1 ≠ (L.getD k num0).2.2.1
  | [], a => ⟨fun _ k h => absurd h (by simp), fun _ => rfl⟩
  | x :: r, a => by
    have ih := flow_at r x.2
    simp only [flow, Bool.and_eq_true, ih, Bool.not_eq_true', Bool.or_eq_false_iff, beq_eq_false_iff_ne]
    constructor
    · rintro ⟨h1, h2⟩ k hk
      match k with
      | 0 => exact h1
      | 1 => exact h2 0 (by simpa using hk)
      | k + 2 => exact h2 (k + 1) (by simp at hk; omega)
    · intro h
      refine ⟨h 0 (by simp), fun k hk => ?_⟩
      match k with
      | 0 => exact h 1 (by simpa using hk)
      | k + 1 => exact h (k + 2) (by simp; omega)

theorem liveTo_fst (xs : List Seg) : ∀ j, ((liveTo xs j).map (·.1)).Nodup
  | 0 => List.nodup_nil
  | j + 1 => by
    unfold liveTo
    split
    · simpa using liveTo_fst xs j
    · rw [List.map_append, List.nodup_append]
      refine ⟨liveTo_fst xs j, by simp, ?_⟩
      intro a ha b hb
      simp only [List.map_cons, List.map_nil, List.mem_singleton] at hb
      obtain ⟨x, hx, rfl⟩ := List.mem_map.1 ha
      have := ((mem_liveTo xs x j).1 hx).1
      omega
theorem seg_mem {xs : List Seg} {i : Nat} (h : i < xs.length) : xs.getD i seg0 ∈ xs := by
  simp [List.getD, h]
theorem getD_mem {L : List Num} {k : Nat} (h : k < L.length) : L.getD k num0 ∈ L := by
  simp [List.getD, h]
theorem mem_getD {L : List Num} {x : Num} (h : x ∈ L) : ∃ k, k < L.length ∧ L.getD k num0 = x := by
  obtain ⟨k, hk, rfl⟩ := List.getElem_of_mem h
  exact ⟨k, hk, by simp [List.getD, hk]⟩
section
variable {xs : List Seg} {L : List Num} (hp : L.Perm (live xs)) (hr : Rises L)
include hp
theorem live_at {k : Nat} (hk : k < L.length) : (L.getD k num0).1 < xs.length ∧ (L.getD k num0).2 = xs.getD (L.getD k num0).1 seg0 ∧ (L.getD k num0).2.1 ≠ 0 := mem_live.1 (hp.mem_iff.1 (getD_mem hk))
theorem at_live {i : Nat} (hi : i < xs.length) (h0 : (xs.getD i seg0).1 ≠ 0) : ∃ k, k < L.length ∧ L.getD k num0 = (i, xs.getD i seg0) := mem_getD (hp.mem_iff.2 (mem_live.2 ⟨hi, rfl, h0⟩))
theorem fst_apart {p q : Nat} (hlt : p < q) (hq : q < L.length) : (L.getD p num0).1 ≠ (L.getD q num0).1 := by
  have hn : (L.map (·.1)).Nodup := (hp.map (·.1)).nodup_iff.2 (liveTo_fst xs xs.length)
  rw [List.nodup_iff_pairwise_ne, List.pairwise_iff_getElem] at hn
  have h := hn p q (by simp; omega) (by simpa using hq) hlt
  simpa [List.getD, hq, show p < L.length by omega] using h
theorem flow_apart (hr : Rises L) {sec : Int} (hall : ∀ s ∈ xs, MayG s sec) : flow seg0 L = true ↔ Apart xs := by
  have gpos : ∀ k, k < L.length → 0 < (L.getD k num0).2.2.1 := fun k hk => by
    obtain ⟨h1, h2, h3⟩ := live_at hp hk
    have hm := hall (xs.getD (L.getD k num0).1 seg0) (seg_mem h1)
    rw [← h2] at hm
    unfold MayG at hm
    rw [if_neg h3] at hm
    exact hm.2.1
  rw [flow_at]
  constructor
  · intro h
    have strict : ∀ d p, p + d + 1 < L.length → (L.getD p num0).2.2.1 < (L.getD (p + d + 1) num0).2.2.1 := fun d p hq => by
      have h1 := h (p + d + 1) hq
      simp only [Nat.add_sub_cancel, show ¬ (p + d + 1 = 0) by omega, if_false] at h1
      have h2 := hr (p + d) (p + d + 1) (by omega) hq
      have h3 : (L.getD p num0).2.2.1 ≤ (L.getD (p + d) num0).2.2.1 := by
        rcases Nat.eq_zero_or_pos d with rfl | hd
        · exact Int.le_refl _
        · exact hr p (p + d) (by omega) (by omega)
      have := h1.2
      omega
    have noopen : ∀ p, p + 1 < L.length → (L.getD p num0).2.1 ≠ 1 := fun p hp1 => by
      have h1 := h (p + 1) hp1
      simp only [Nat.add_sub_cancel, show ¬ (p + 1 = 0) by omega, if_false] at h1
      exact h1.1
    intro i hi j hj hij li lj
    obtain ⟨p, hp1, ep⟩ := at_live hp hi li
    obtain ⟨q, hq1, eq⟩ := at_live hp hj lj
    have hpq : p ≠ q := by
      rintro rfl
      rw [ep] at eq
      exact hij (by injection eq)
    rcases Nat.lt_or_gt_of_ne hpq with hlt | hgt
    · obtain ⟨d, rfl⟩ : ∃ d, q = p + d + 1 := ⟨q - p - 1, by omega⟩
      have h1 := strict d p hq1
      have h2 := noopen p (by omega)
      rw [ep] at h1 h2
      rw [eq] at h1
      exact ⟨by simp only [] at h1; omega, fun ho => absurd ho h2⟩
    · obtain ⟨d, rfl⟩ : ∃ d, p = q + d + 1 := ⟨p - q - 1, by omega⟩
      have h1 := strict d q hp1
      rw [ep, eq] at h1
      exact ⟨by simp only [] at h1; omega, fun _ => h1⟩
  · intro h k hk
    by_cases h0 : k = 0
    · subst h0
      have := gpos 0 hk
      simp only [if_true]
      exact ⟨by simp, by show (0 : Int) ≠ _; omega⟩
    · simp only [h0, if_false]
      have hk1 : k - 1 < L.length := by omega
      obtain ⟨a1, a2, a3⟩ := live_at hp hk1
      obtain ⟨b1, b2, b3⟩ := live_at hp hk
      have hne := fst_apart hp (show k - 1 < k by omega) hk
      have h1 := h _ a1 _ b1 hne (by rw [← a2]; exact a3) (by rw [← b2]; exact b3)
      rw [← a2, ← b2] at h1
      have h2 := hr (k - 1) k (by omega) hk
      exact ⟨fun ho => by have := h1.2 ho; omega, h1.1⟩
end

set_option maxRecDepth 100000 in
set_option maxHeartbeats 2000000 in
theorem check_bad {w : World} {A : Option Addr} {n cap : Nat} (sec : Int) (hsz : ¬ SizedR n sec) :
    Calls Try.prog 44 #[.agg #[.int .i64 sec, .slice A n cap]] w fun e w' => e = .returned (.int .i64 180) ∧ Below w.heap.size w w' := by
  have hd : decide (SizedR (n : Int) sec) = false := decide_eq_false hsz
  have HSI := Lib.hid (fun (W : World) => by have h := sized_any n sec W; rw [hd] at h; exact h)
  have HB := Lib.hid (((Below.refl w.heap.size w).alloc (Nat.le_refl _) (.cells #[.int .i64 sec, .slice A n cap] 66)).alloc (by simp) (.cells #[.int .i64 0] 28))
  have HE := Lib.hid (blk_new2 w (.cells #[.int .i64 sec, .slice A n cap] 66) 28 #[.int .i64 0])
  clear hsz hd
  refine (callsIn_wide (n := 5)).1 ?_
  refine callsIn_of_wp_marks Try.func44 rfl trivial ?_ rfl
  simp only [Try.ntmps44, List.size_toArray, List.length_cons, List.length_nil, Nat.reduceAdd, Nat.reduceSub, Array.replicate_succ, Array.replicate_zero, List.push_toArray, List.append_toArray, List.nil_append, List.cons_append]
  gi_wp2_with (refine ⟨trivial, ?_⟩; gi_at_call 88; refine (callsIn_wide.2 (HSI.out _)).mono ?_; rintro e w' ⟨rfl, rfl⟩)
  refine ⟨.int .i64 180, ?_, rfl, ((Below.refl w.heap.size w).alloc (Nat.le_refl _) _).alloc (by simp) _⟩
  have hc : ((w.alloc (.cells #[.int .i64 sec, .slice A n cap] 66)).alloc (.cells #[.int .i64 180] 28)).cell? ⟨w.heap.size + 1, 0, none⟩ = some (.int .i64 180) := (blk_new2 w (.cells #[.int .i64 sec, .slice A n cap] 66) 28 #[.int .i64 180]).cell 0
  simp [results, Try.f44, go_sem, hc]

theorem check_any {w : World} {A : Option Addr} {n cap : Nat} {xs : List Seg} (h : RowZ w (· < w.heap.size) A n xs) (sec : Int) :
    Calls Try.prog 44 #[.agg #[.int .i64 sec, .slice A n cap]] w fun e w' => e = .returned (.int .i64 (if OkR sec xs then 0 else 180)) ∧ Below w.heap.size w w' := by
  by_cases hs : SizedR n sec
  · refine (check_walk h sec hs).mono ?_
    rintro e w' ⟨⟨⟨s, hs1, hs2⟩, rfl⟩ | ⟨hall, L, hp, hr, rfl⟩, hb⟩
    · rw [if_neg (fun hk => hs2 (hk.2.1 s hs1))]
      exact ⟨rfl, hb⟩
    · refine ⟨?_, hb⟩
      have e : flow seg0 L = true ↔ OkR sec xs := by
        rw [flow_apart hp hr hall]
        exact ⟨fun ha => ⟨by rw [h.1]; exact hs, hall, ha⟩, fun h => h.2.2⟩
      by_cases ho : OkR sec xs
      · rw [if_pos ho, if_pos (e.2 ho)]
      · rw [if_neg ho, if_neg (fun h => ho (e.1 h))]
  · refine (check_bad sec hs).mono ?_
    rintro e w' ⟨rfl, hb⟩
    rw [if_neg (fun hk => hs (by have := hk.1; rw [h.1] at this; exact this))]
    exact ⟨rfl, hb⟩

end Go.Proofs.Ytkmbbfdjdmkjpaa
