/- LruDrains, the pure side: when each number was used last; a list that is drained. -/
import Derived.Test.YthegbimolbhikaaLrD
import Derived.Maps.OwnSet
import Derived.Maps.OwnOps
namespace Go.Proofs.Ythegbimolbhikaa
open Go.RowKit Go.Maps
set_option linter.unusedVariables false
set_option linter.unusedSimpArgs false
theorem keyed12 : Keyed Try.prog 3 := int_keyed Try.underlying3
noncomputable abbrev elemN : Value → Option (DataW Unit × List MemPlace) := plainElem Try.prog 3
theorem zero_int12 (w : World) : (zeroValue 3).run Try.prog w = .ok (.int .i64 0) w := by kernel_rfl
abbrev keyN (k : Nat) : Lit := .int .i64 (k : Nat)
abbrev dN (v : Nat) : DataW Unit := .lit (.int .i64 (v : Nat))
theorem isKeyN (k : Nat) : WideAt.IsKeyLit (keyN k) := by unfold WideAt.IsKeyLit; trivial
/-- The map tells of each number when it was used last; in each list they stand by that. -/
structure UsI (D : DataW Unit) (u : Nat → Nat) (t : Nat) (xs : List (List Nat)) : Prop where
  m : IsMap D
  at_ : ∀ k, D.atKey (keyN k) (dN 0) = dN (u k)
  ord : ∀ i, (xs.getD i []).Pairwise (fun a b => u b < u a)
  bnd : ∀ i x, x ∈ xs.getD i [] → 1 ≤ u x ∧ u x ≤ t
theorem UsI.start (n : Nat) : UsI (.map []) (fun _ => 0) 0 (List.replicate n []) := by
  have hg : ∀ i, (List.replicate n ([] : List Nat)).getD i [] = [] := fun i => by
    simp only [List.getD, List.getElem?_replicate]
    split <;> rfl
  refine ⟨isMap_empty, fun k => WideAt.atKey_none _ (by simp), fun i => by rw [hg]; exact List.Pairwise.nil, fun i x hx => by rw [hg] at hx; cases hx⟩
section
variable {D : DataW Unit} {u : Nat → Nat} {t : Nat} {xs : List (List Nat)}
theorem UsI.stay (h : UsI D u t xs) : UsI D u (t + 1) xs := ⟨h.m, h.at_, h.ord, fun i x hx => by have := h.bnd i x hx; omega⟩
theorem UsI.out (h : UsI D u t xs) (k : Nat) : UsI D u (t + 1) (outX xs k) :=
  ⟨h.m, h.at_, fun i => by rw [outX_getD]; exact (h.ord i).filter _, fun i x hx => by
    rw [outX_getD] at hx
    have := h.bnd i x (List.mem_filter.1 hx).1
    omega⟩
theorem UsI.use (h : UsI D u t xs) (i k : Nat) (hi : i < xs.length) : UsI (D.put (keyN k) (dN (t + 1))) (updN u k (t + 1)) (t + 1) (putX (outX xs k) i k) := by
  have hout : ∀ j x, x ∈ (outX xs k).getD j [] → x ∈ xs.getD j [] ∧ x ≠ k := fun j x hx => by
    rw [outX_getD] at hx
    have := List.mem_filter.1 hx
    exact ⟨this.1, by simpa using this.2⟩
  have hord : ∀ j, ((outX xs k).getD j []).Pairwise (fun a b => updN u k (t + 1) b < updN u k (t + 1) a) := fun j => by
    have h1 : ((outX xs k).getD j []).Pairwise (fun a b => u b < u a) := by rw [outX_getD]; exact (h.ord j).filter _
    refine List.Pairwise.imp_of_mem (fun {a b} ha hb hab => ?_) h1
    rw [updN_far _ _ (hout j a ha).2, updN_far _ _ (hout j b hb).2]
    exact hab
  refine ⟨h.m.put _ _, fun q => ?_, fun j => ?_, fun j x hx => ?_⟩
  · by_cases e : q = k
    · subst e
      rw [atKey_put_same h.m (isKeyN q), updN_same]
    · rw [atKey_put_other (fun e2 => e (by injection e2 with _ e2; omega)), updN_far _ _ e]
      exact h.at_ q
  · by_cases e : j = i
    · subst e
      rw [putX_same _ _ (by rw [outX_len]; exact hi)]
      refine List.pairwise_cons.2 ⟨fun b hb => ?_, hord j⟩
      rw [updN_same, updN_far _ _ (hout j b hb).2]
      have := h.bnd j b (hout j b hb).1
      omega
    · rw [putX_far _ _ e]
      exact hord j
  · have key : ∀ y, y ∈ (outX xs k).getD j [] → 1 ≤ updN u k (t + 1) y ∧ updN u k (t + 1) y ≤ t + 1 := fun y hy => by
      rw [updN_far _ _ (hout j y hy).2]
      have := h.bnd j y (hout j y hy).1
      omega
    by_cases e : j = i
    · subst e
      rw [putX_same _ _ (by rw [outX_len]; exact hi)] at hx
      rcases List.mem_cons.1 hx with rfl | hx
      · rw [updN_same]; omega
      · exact key x hx
    · rw [putX_far _ _ e] at hx
      exact key x hx
end
/-- What push and touch do, if they do it. -/
theorem push_put {n : Nat} {xs : List (List Nat)} {i k : Int} (h : pushE n xs i k = 0) : ∃ (i' k' : Nat), i = i' ∧ k = k' ∧ i' < xs.length ∧ k' < n ∧ pushX n xs i k = putX (outX xs k') i' k' := by
  have h0 := h
  unfold pushE at h
  split at h
  · cases h
  · rename_i hn
    rw [not_or] at hn
    have h1 := Decidable.not_not.1 hn.1
    have h2 := Decidable.not_not.1 hn.2
    refine ⟨i.toNat, k.toNat, by have := h1.1; omega, by have := h2.1; omega, by have := h1.1; have := h1.2; omega, by have := h2.1; have := h2.2; omega, ?_⟩
    unfold pushX
    rw [if_pos h0]
theorem touch_put {n : Nat} {xs : List (List Nat)} {k : Int} (h : outE n xs k = 0) : ∃ (i' k' : Nat), k = k' ∧ i' < xs.length ∧ k' < n ∧ touchX n xs k = putX (outX xs k') i' k' := by
  obtain ⟨m, i, rfl, hm, hi⟩ := ofE h
  have h1 := (whX_some (xs := xs) (x := m) (by omega)).1
  refine ⟨i, m, rfl, by omega, hm, ?_⟩
  unfold touchX
  rw [if_pos h]
  simp [hi]
theorem push_no {n : Nat} {xs : List (List Nat)} {i k : Int} (h : pushE n xs i k ≠ 0) : pushX n xs i k = xs := if_neg h
theorem touch_no {n : Nat} {xs : List (List Nat)} {k : Int} (h : outE n xs k ≠ 0) : touchX n xs k = xs := if_neg h
theorem rem_out {n : Nat} {xs : List (List Nat)} {k : Int} : remX n xs k = xs ∨ ∃ m : Nat, remX n xs k = outX xs m := by
  unfold remX
  split
  · exact .inr ⟨_, rfl⟩
  · exact .inl rfl
theorem UsI.rem {D : DataW Unit} {u : Nat → Nat} {t n : Nat} {xs : List (List Nat)} (h : UsI D u t xs) (k : Int) : UsI D u (t + 1) (remX n xs k) := by
  rcases rem_out (n := n) (xs := xs) (k := k) with e | ⟨m, e⟩
  · rw [e]; exact h.stay
  · rw [e]; exact h.out m

/-- A list from which the oldest j were taken. -/
structure DrI (xs0 : List (List Nat)) (u : Nat → Nat) (li j last : Nat) (xs : List (List Nat)) : Prop where
  len : xs.length = xs0.length
  here : xs.getD li [] = (xs0.getD li []).take ((xs0.getD li []).length - j)
  far : ∀ i, i ≠ li → xs.getD i [] = xs0.getD i []
  lo : ∀ x ∈ xs.getD li [], last < u x
theorem DrI.start {D : DataW Unit} {u : Nat → Nat} {t : Nat} {xs : List (List Nat)} (h : UsI D u t xs) (li : Nat) : DrI xs u li 0 0 xs :=
  ⟨rfl, by rw [Nat.sub_zero, List.take_length], fun _ _ => rfl, fun x hx => by have := h.bnd li x hx; omega⟩
theorem DrI.step {w : World} {x p n : Nat} {D : DataW Unit} {u : Nat → Nat} {t li j last : Nat} {xs0 xs : List (List Nat)} (h0 : UsI D u t xs0) (h : DrI xs0 u li j last xs) (hl : LrV w x p n xs) (hli : li < xs0.length) (hj : j < (xs0.getD li []).length) :
    ∃ k : Nat, someE xs (li : Int) = 0 ∧ oldV xs (li : Int) = (k : Int) ∧ outE n xs (k : Int) = 0 ∧ whV n xs (k : Int) = (li : Int) ∧ last < u k ∧ remX n xs (k : Int) = outX xs k ∧ outE n (outX xs k) (k : Int) = 4 ∧ DrI xs0 u li (j + 1) (u k) (outX xs k) := by
  have hnd := hl.nd li
  have hord := h0.ord li
  have hlo := h.lo
  have hh := h.here
  obtain ⟨m, hm⟩ : ∃ m, (xs0.getD li []).length - j = m + 1 := ⟨(xs0.getD li []).length - j - 1, by omega⟩
  rw [hm] at hh
  obtain ⟨k, hk⟩ : ∃ k, (xs0.getD li [])[m]? = some k := by
    rw [List.getElem?_eq_getElem (by omega)]
    exact ⟨_, rfl⟩
  rw [List.take_add_one, hk] at hh
  have hh2 : xs.getD li [] = (xs0.getD li []).take m ++ [k] := hh
  have hki : k ∈ xs.getD li [] := by rw [hh2]; simp
  have hkn := hl.small hki
  have hll : li < xs.length := by rw [h.len]; exact hli
  have hhl : hasL xs (li : Int) := ⟨by omega, by omega⟩
  have hw : whX xs k = li + 1 := by
    have h1 : whX xs k ≠ 0 := fun e => whX_zero.1 e li hki
    have := hl.apart (whX_some h1).2 hki
    omega
  have e1 : someE xs (li : Int) = 0 := by
    unfold someE
    rw [if_neg (by simpa using hhl), if_neg]
    rw [Int.toNat_natCast, hh2]
    simp
  have e2 : oldV xs (li : Int) = (k : Int) := by
    unfold oldV
    rw [if_pos e1, Int.toNat_natCast, hh2]
    simp
  have e3 : outE n xs (k : Int) = 0 := by
    unfold outE
    rw [if_neg (by unfold hasN; simp; omega), Int.toNat_natCast, hw, if_neg (by omega)]
  have e4 : whV n xs (k : Int) = (li : Int) := by
    unfold whV
    rw [if_pos e3, Int.toNat_natCast, hw]
    omega
  have e5 : remX n xs (k : Int) = outX xs k := by
    unfold remX
    rw [if_pos e3, Int.toNat_natCast]
  have e6 : outE n (outX xs k) (k : Int) = 4 := by
    unfold outE
    rw [if_neg (by unfold hasN; simp; omega), Int.toNat_natCast, whX_out, if_pos rfl]
  have hout : (outX xs k).getD li [] = (xs0.getD li []).take m := by
    rw [outX_getD, hh2]
    rw [hh2] at hnd
    have := filter_mid (a := (xs0.getD li []).take m) (b := []) (x := k) hnd
    simpa using this
  refine ⟨k, e1, e2, e3, e4, hlo k hki, e5, e6, ⟨by rw [outX_len]; exact h.len, ?_, fun i hi => ?_, fun y hy => ?_⟩⟩
  · rw [hout, show (xs0.getD li []).length - (j + 1) = m by omega]
  · rw [outX_getD, h.far i hi, filter_none]
    intro hm2
    exact hi (hl.apart (by rw [h.far i hi]; exact hm2) hki)
  · rw [hout] at hy
    have hp : ((xs0.getD li []).take m ++ [k]).Pairwise (fun a b => u b < u a) := by
      rw [← hh2, hh, ← hk, ← List.take_add_one]
      exact hord.sublist (List.take_sublist _ _)
    exact (List.pairwise_append.1 hp).2.2 y hy k (by simp)
theorem DrI.done {u : Nat → Nat} {li last : Nat} {xs0 xs : List (List Nat)} (h : DrI xs0 u li (xs0.getD li []).length last xs) (hli : li < xs0.length) : someE xs (li : Int) = 4 ∧ oldV xs (li : Int) = 0 ∧ (ofX xs (li : Int)).length = 0 := by
  have hh := h.here
  rw [Nat.sub_self, List.take_zero] at hh
  have hhl : hasL xs (li : Int) := ⟨by omega, by rw [h.len]; omega⟩
  have e : someE xs (li : Int) = 4 := by
    unfold someE
    rw [if_neg (by simpa using hhl), if_pos (by rw [Int.toNat_natCast]; exact hh)]
  refine ⟨e, by unfold oldV; rw [e]; rfl, ?_⟩
  unfold ofX
  rw [if_pos hhl, Int.toNat_natCast, hh]
  rfl
theorem DrI.other {u : Nat → Nat} {li j last : Nat} {xs0 xs : List (List Nat)} (h : DrI xs0 u li j last xs) {i : Nat} (hi : i ≠ li) : ofX xs (i : Int) = ofX xs0 (i : Int) := by
  have := h.far i hi
  unfold ofX
  by_cases hh : hasL xs0 (i : Int)
  · rw [if_pos hh, if_pos (show hasL xs (i : Int) from ⟨hh.1, by rw [h.len]; exact hh.2⟩), Int.toNat_natCast, this]
  · rw [if_neg hh, if_neg (fun h2 : hasL xs (i : Int) => hh ⟨h2.1, by rw [← h.len]; exact h2.2⟩)]
section
variable {w : World} {ops : Array Oper} {rest : List Oper} {o : Oper} {a : Act} {Q : Exit → Act → World → Prop}
/-- 'm[k]' of a map of numbers, behind '||' too. -/
theorem wpList_lookup_n (hgd : Region.wanted o (yielded ops a.tmps) = true) (m x : Operand) (hop : o.op = Op.lookup 52 m x false) (b n : Nat) (D : DataW Unit) (hm : a.eval m = .map (some b)) (hown : w.ownsMap Try.prog 3 elemN b n D) (k v : Nat) (hx : a.eval x = .int .i64 (k : Nat))
    (hw : (Lit.int .i64 (k : Nat)).wf = true) (hat : D.atKey (keyN k) (dN 0) = dN v) (hK : wpList Try.prog ops Q rest (a.put o.dst (.int .i64 (v : Nat))) w) : wpList Try.prog ops Q (o :: rest) a w := by
  refine wpList_step fun K' hK' => ?_
  rw [if_pos hgd]
  obtain ⟨c, hrun, hc, _⟩ := hown.lookup_int keyed12 Try.underlying52 Try.underlying3 (zero_int12 w) (keyOf_int_mk Try.underlying3 hw)
  rw [show (DataW.lit (.int .i64 0) : DataW Unit) = dN 0 from rfl, hat] at hc
  have e : (v : Int) = c := by injection hc with hc; injection hc
  subst e
  unfold Oper.wp
  simp [execOp, hop, hm, hx, hrun, Result.andThen]
  exact hK' _ _ hK
end
theorem map_ne12 {w : World} {b n g : Nat} {D : DataW Unit} {t : TypeId} {cs : Array Value} (h : w.ownsMap Try.prog 3 elemN b n D) (hb : Blk w g t cs) : g ≠ b := by
  rintro rfl
  obtain ⟨es, clock, hm, _⟩ := h
  rw [show w.heap[g]? = _ from hb] at hm
  cases hm
theorem LrV.grown {w w' : World} {x p n : Nat} {xs : List (List Nat)} {row : Option Nat} (h : LrV w x p n xs) (hg : w.grownBy w' row) (hx : some x ≠ row) (hp : some p ≠ row) : LrV w' x p n xs := by
  obtain ⟨A, B, C, len, h1, h2⟩ := h
  exact ⟨A, B, C, len, ⟨h1.n1, h1.n2, h1.l1, h1.l2, h1.hd.grown hg hx, h1.pc.grown hg hp⟩, h2⟩
theorem LrV.blks {w : World} {x p n : Nat} {xs : List (List Nat)} (h : LrV w x p n xs) : (∃ cs, Blk w x 64 cs) ∧ ∃ cs, Blk w p 75 cs := by
  obtain ⟨A, B, C, len, h1, h2⟩ := h
  exact ⟨⟨_, h1.hd⟩, _, h1.pc⟩
end Go.Proofs.Ythegbimolbhikaa
