/- What is found of a disk behind a cut Set: as lists. -/
import Derived.Test.YtkmbbfdjdmkjpaaOpen
import Derived.Test.YtkmbbfdjdmkjpaaDk3
import Derived.Test.YtkmbbfdjdmkjpaaFlip
namespace Go.Proofs.Ytkmbbfdjdmkjpaa
open Go.RowKit
set_option linter.unusedVariables false
set_option linter.unusedSimpArgs false

theorem read_L {s : Sup} (hm : s.May) (hi : s.In) (t : Int) (ht : 0 ≤ t ∧ t ≤ 18446744073709551615) (u : World) :
    Calls Try.prog 69 #[.agg (cells8 (s.L t))] u fun e w' => e = .returned (.tuple #[.agg (turC s.a s.b s.g s.r s.v s.f t), .int .i64 0]) ∧ Below u.heap.size u w' := by
  have h := read_ok (s.L t) u (supL_length ..) (supL_bytes s.a s.b s.g s.r s.v s.f t) (right_sup _ _ _ _ _ _ _ hm hi ht)
  have hm2 : MayS s.a s.b s.g s.r := hm
  obtain ⟨e0, e1, e2, e3, e4, e5, e6⟩ := sup_nums s.a s.b s.g s.r s.v s.f t hi (by have := hm2.1; have := hm2.2.1; omega) (by have := hm2.2.2.1; have := hm2.2.2.2.1; omega) ht
  unfold Sup.L at *
  rw [e0, e1, e2, e3, e4, e5, e6] at h
  exact h
theorem right_none : rightS (noughts 64) = false := by
  unfold rightS
  have h : ¬ MayS (numAt (noughts 64) 16 2) (numAt (noughts 64) 18 2) (numAt (noughts 64) 20 8) (numAt (noughts 64) 28 8) := by
    intro h
    have h1 := h.1
    revert h1
    decide +kernel
  rw [decide_eq_false h]
  rfl

/-- Of two superblocks the one that counts says s. -/
def Cnt (A B : List Int) (s : Sup) : Prop := ∃ t, ∀ u, Calls Try.prog 81 #[.agg (cells8 A), .agg (cells8 B)] u fun e w' => e = .returned (.tuple #[.agg (turC s.a s.b s.g s.r s.v s.f t), .int .i64 0]) ∧ Below u.heap.size u w'
theorem cnt_none {s : Sup} (hm : s.May) (hi : s.In) (t : Int) (ht : 0 ≤ t ∧ t ≤ 18446744073709551615) : Cnt (s.L t) (noughts 64) s :=
  ⟨t, fun u => by
    have h := count_of (s.L t) (noughts 64) u (supL_length ..) (noughts_length 64) s.a s.b s.g s.r s.v s.f t 0 0 0 0 0 0 0 170 true (by rw [decide_eq_true ht.1]) (.inr ⟨by decide, rfl⟩) (fun u => read_L hm hi t ht u) (fun u => read_any_s _ u (noughts_length 64) (noughts_bytes 64) right_none)
    exact h⟩
theorem cnt_first {s x : Sup} (hm : s.May) (hi : s.In) (hm' : x.May) (hi' : x.In) (t t' : Int) (ht : 0 ≤ t ∧ t ≤ 18446744073709551615) (ht' : 0 ≤ t' ∧ t' ≤ 18446744073709551615) (h : t' ≤ t) : Cnt (s.L t) (x.L t') s :=
  ⟨t, fun u => by
    have h := count_of (s.L t) (x.L t') u (supL_length ..) (supL_length ..) s.a s.b s.g s.r s.v s.f t x.a x.b x.g x.r x.v x.f t' 0 true (by rw [decide_eq_true h]) (.inl rfl) (fun u => read_L hm hi t ht u) (fun u => read_L hm' hi' t' ht' u)
    exact h⟩
theorem cnt_second {s x : Sup} (hm : s.May) (hi : s.In) (hm' : x.May) (hi' : x.In) (t t' : Int) (ht : 0 ≤ t ∧ t ≤ 18446744073709551615) (ht' : 0 ≤ t' ∧ t' ≤ 18446744073709551615) (h : t < t') : Cnt (s.L t) (x.L t') x :=
  ⟨t', fun u => by
    have h := count_of (s.L t) (x.L t') u (supL_length ..) (supL_length ..) s.a s.b s.g s.r s.v s.f t x.a x.b x.g x.r x.v x.f t' 0 false (by rw [decide_eq_false (by omega)]) (.inl rfl) (fun u => read_L hm hi t ht u) (fun u => read_L hm' hi' t' ht' u)
    exact h⟩

/-- What lies on the disk while o is known at turn t: the two sectors; what they say; what they say with the next thing set. -/
structure Ready (k : Dk) (o : Sup) (t : Int) : Prop where
  tidy : Tidy k
  len : k.safe.length = 98
  cnt : Cnt (k.safe.getD 0 []) (k.safe.getD 1 []) o
  nx : ∀ x : Sup, x.In → x.May → Cnt ((k.safe.set (secOf t) (x.L (nxt t))).getD 0 []) ((k.safe.set (secOf t) (x.L (nxt t))).getD 1 []) x
theorem Tidy.held {k : Dk} (h : Tidy k) : k.held = k.safe := by
  unfold Dk.held
  rw [h.2]
  rfl
theorem set_get0 (l : List (List Int)) (a : List Int) (h : 1 < l.length) : (l.set 0 a).getD 0 [] = a ∧ (l.set 0 a).getD 1 [] = l.getD 1 [] := by
  have h0 : 0 < l.length := by omega
  constructor <;> simp [List.getD, List.getElem?_set, h0, h]
theorem set_get1 (l : List (List Int)) (a : List Int) (h : 1 < l.length) : (l.set 1 a).getD 1 [] = a ∧ (l.set 1 a).getD 0 [] = l.getD 0 [] := by
  have h0 : 0 < l.length := by omega
  constructor <;> simp [List.getD, List.getElem?_set, h0, h]
def fmt0 : Sup := ⟨4, 24, 0, 0, 0, 0⟩
theorem fmt_may : fmt0.May := by unfold Sup.May MayS fmt0; simp
theorem fmt_in : fmt0.In := by unfold Sup.In InS fmt0; simp
theorem ready_format : Ready ((((Dk.fresh 98).wr (Dk.put 0 (fmt0.L 0))).wr (Dk.put 1 (noughts 64))).wr Dk.sync) fmt0 0 := by
  have g0 := Good.fresh 98
  have g1 := g0.put 0 (fmt0.L 0)
  have g2 := g1.put 1 (noughts 64)
  have hl : (Dk.fresh 98).held.length = 98 := by simp [Dk.fresh, Dk.held, over, sec0]
  have hs : ((((Dk.fresh 98).wr (Dk.put 0 (fmt0.L 0))).wr (Dk.put 1 (noughts 64))).wr Dk.sync).safe = ((Dk.fresh 98).held.set 0 (fmt0.L 0)).set 1 (noughts 64) := by
    rw [g2.safe_sync, g1.held_put, g0.held_put]
  have h1 := set_get1 ((Dk.fresh 98).held.set 0 (fmt0.L 0)) (noughts 64) (by rw [List.length_set, hl]; omega)
  have h0 := set_get0 (Dk.fresh 98).held (fmt0.L 0) (by rw [hl]; omega)
  have hl2 : (((Dk.fresh 98).held.set 0 (fmt0.L 0)).set 1 (noughts 64)).length = 98 := by rw [List.length_set, List.length_set, hl]
  refine ⟨tidy_format 98 _, by rw [hs]; exact hl2, ?_, fun x hi hm => ?_⟩
  · rw [hs, h1.1, h1.2, h0.1]
    exact cnt_none fmt_may fmt_in 0 ⟨by omega, by omega⟩
  · rw [hs]
    have e : secOf 0 = 1 := by decide
    have e2 : nxt 0 = 1 := by decide
    have h3 := set_get1 (((Dk.fresh 98).held.set 0 (fmt0.L 0)).set 1 (noughts 64)) (x.L 1) (by rw [hl2]; omega)
    rw [e, e2, h3.1, h3.2, h1.2, h0.1]
    exact cnt_second fmt_may fmt_in hm hi 0 1 ⟨by omega, by omega⟩ ⟨by omega, by omega⟩ (by omega)
theorem ready_set {x : Sup} (hi : x.In) (hm : x.May) : Ready (((((((Dk.fresh 98).wr (Dk.put 0 (fmt0.L 0))).wr (Dk.put 1 (noughts 64))).wr Dk.sync).wr (Dk.put (secOf 0) (x.L (nxt 0))))).wr Dk.sync) x 1 := by
  have hr := ready_format
  have h0' := ready_format.cnt
  generalize hk : (((Dk.fresh 98).wr (Dk.put 0 (fmt0.L 0))).wr (Dk.put 1 (noughts 64))).wr Dk.sync = k at *
  have hf0 : k.safe.getD 0 [] = fmt0.L 0 := by
    have g0 := Good.fresh 98
    have g1 := g0.put 0 (fmt0.L 0)
    have g2 := g1.put 1 (noughts 64)
    have hl : (Dk.fresh 98).held.length = 98 := by simp [Dk.fresh, Dk.held, over, sec0]
    rw [← hk, g2.safe_sync, g1.held_put, g0.held_put, (set_get1 _ _ (by rw [List.length_set, hl]; omega)).2, (set_get0 _ _ (by rw [hl]; omega)).1]
  have e : secOf 0 = 1 := by decide
  have e2 : nxt 0 = 1 := by decide
  have g1 := hr.tidy.1.put (secOf 0) (x.L (nxt 0))
  have hs : ((k.wr (Dk.put (secOf 0) (x.L (nxt 0)))).wr Dk.sync).safe = k.safe.set 1 (x.L 1) := by
    rw [g1.safe_sync, hr.tidy.1.held_put, hr.tidy.held, e, e2]
  have h1 := set_get1 k.safe (x.L 1) (by rw [hr.len]; omega)
  refine ⟨tidy_set hr.tidy _ _, by rw [hs, List.length_set]; exact hr.len, ?_, fun y hi' hm' => ?_⟩
  · rw [hs, h1.1, h1.2, hf0]
    exact cnt_second fmt_may fmt_in hm hi 0 1 ⟨by omega, by omega⟩ ⟨by omega, by omega⟩ (by omega)
  · have e3 : secOf 1 = 0 := by decide
    have e4 : nxt 1 = 2 := by decide
    have h3 := set_get0 (k.safe.set 1 (x.L 1)) (y.L 2) (by rw [List.length_set, hr.len]; omega)
    rw [hs, e3, e4, h3.1, h3.2, h1.1]
    exact cnt_first hm' hi' hm hi 2 1 ⟨by omega, by omega⟩ ⟨by omega, by omega⟩ (by omega)

end Go.Proofs.Ytkmbbfdjdmkjpaa
