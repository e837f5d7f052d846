/- Take. -/
import Derived.Test.YtgipkdkfecegkaaDoorFnd
namespace Go.Proofs.YtgipkdkfecegkaaDoor
open Go.RowKit Go.Shelf PgM
attribute [local go_sem] Oper.semAt_some
set_option linter.unusedVariables false
set_option linter.unusedSimpArgs false
theorem flat_setX (L : List Pg) (X : List Value) (i : Nat) (s : Pg) (h : i < L.length) : List.take (i * 2) (flatG L ++ X) ++ pgC s ++ List.drop (i * 2 + 2) (flatG L ++ X) = flatG (L.set i s) ++ X := by
  have hl := flatG_length L
  rw [flatG_set L i s h, List.take_append_of_le_length (by omega), List.drop_append_of_le_length (by omega)]
  simp
section
variable {w : World} {ops : Array Oper} {rest : List Oper} {o : Oper} {a : Act} {Q : Exit → Act → World → Prop}
theorem wpList_store_pg (x y : Operand) (ho : o.op = .store 60 x y) (hgd : o.guard = none) (g i : Nat) (s : Pg) (hx : a.eval x = .pointer (some ⟨g, i * 2, none⟩)) (hy : a.eval y = .agg (pgC s).toArray)
    (L : List Pg) (X : List Value) (hg : Blk w g 60 (flatG L ++ X).toArray) (hi : i < L.length) (h : wpList Tryd.prog ops Q rest (a.put o.dst undef) (w.setRow g (flatG (L.set i s) ++ X).toArray)) : wpList Tryd.prog ops Q (o :: rest) a w := by
  refine wpList_plain hgd fun K hK => ?_
  have hs := run_storeCells_at Tryd.prog g (i * 2) 60 (pgC s) 0 (flatG L ++ X).toArray w hg (by simp [flatG_length]; omega) (ones_ent s)
  have he : (List.take (i * 2 + 0) (flatG L ++ X).toArray.toList ++ pgC s ++ List.drop (i * 2 + 0 + (pgC s).length) (flatG L ++ X).toArray.toList).toArray = (flatG (L.set i s) ++ X).toArray := by
    rw [← flat_setX L X i s hi]; rfl
  rw [he] at hs
  have hsz : ∀ w, (sizeOf 60).run Tryd.prog w = .ok 2 w := Tryd.sizeOf60
  have hrun : (Instr.storeAt 60 (.pointer (some ⟨g, i * 2, none⟩)) (.agg (pgC s).toArray)).run Tryd.prog w = .ok () (w.setRow g (flatG (L.set i s) ++ X).toArray) := by
    simp only [Instr.storeAt, Instr.sureAddr, Sem.run_bind, Sem.run_pure, Result.andThen_ok, storeVar, hsz, Value.cells]
    simpa using hs
  unfold Oper.wp execOp
  simp only [ho, hx, hy, hrun, Sem.run_bind, Result.andThen_ok]
  exact hK _ _ h
end
/-- The given bits of a page are stored. -/
theorem flat_setB {ps : List Pg} {X : List Value} {w : World} {g : Nat} {t : TypeId} (h : Blk w g t (flatG ps ++ X).toArray) {i : Nat} (hi : i < ps.length) (b : Nat) :
    Blk (w.setCell ⟨g, i * 2 + 1, none⟩ (.int .u32 (b : Nat))) g t (flatG (ps.set i ((ps.getD i pg0).1, b)) ++ X).toArray := by
  have h1 := flat_set2 h hi (ps.getD i pg0).1 b
  obtain ⟨d0, -⟩ := flat_cell h hi
  have e : (w.setCell ⟨g, i * 2, none⟩ (.int .i64 ((ps.getD i pg0).1 : Nat))) = w := by
    have hb : w.heap[g]? = some (.cells (flatG ps ++ X).toArray t (0, 0)) := h
    have hc : (flatG ps ++ X).toArray[i * 2]? = some (.int .i64 ((ps.getD i pg0).1 : Nat)) := by rw [← h.cell]; exact d0
    have hlt := (Array.getElem?_eq_some_iff.1 hc).1
    have hs : (flatG ps ++ X).toArray.setIfInBounds (i * 2) (.int .i64 ((ps.getD i pg0).1 : Nat)) = (flatG ps ++ X).toArray := by
      apply Array.ext
      · simp
      · intro j h1 h2
        by_cases e : i * 2 = j
        · subst e
          rw [Array.getElem_setIfInBounds_self]
          exact ((Array.getElem?_eq_some_iff.1 hc).2).symm
        · rw [Array.getElem_setIfInBounds_ne _ e]
    unfold World.setCell
    congr 1
    apply Array.ext_getElem?
    intro j
    rw [Array.getElem?_modify]
    by_cases e : g = j
    · subst e
      rw [if_pos rfl, hb]
      have h9 := congrArg Array.toList hs
      simpa using h9
    · rw [if_neg e]
  rw [e] at h1
  exact h1
set_option maxHeartbeats 2000000 in
theorem take_any {w : World} {x g : Nat} {ps : List Pg} (h : ArM w x g ps) (c : Int) (hc63 : wrap64 (c / 32) = c / 32) :
    Calls Tryd.prog 19 #[.pointer (some ⟨x, 0, none⟩), .int .i64 c] w fun e w' => e = .returned (.int .i64 (findE ps c : Nat)) ∧ ArM w' x g (takeX ps c) ∧ Kept (fun b => b < w.heap.size ∧ b ≠ g) w w' := by
  have hf := find_any h c hc63
  have HA := Lib.hid h
  by_cases he : findE ps c = 0
  · obtain ⟨a, p, hc, hp, ha, hb, e1, e2, e3⟩ := find_ok he
    have e4 : takeX ps c = ps.set a (clrP (ps.getD a pg0) p) := by unfold takeX; rw [if_pos he, e1, e2]
    unfold findV at hf
    rw [he, e1, e3] at hf
    simp only [if_true] at hf
    rw [he, e4]
    have hne := h.ne
    have hlt := h.lt
    have hln := h.2.2.1
    obtain ⟨⟨cap, X, hx, hg⟩, h3, h4, h5, h6, h7, h8⟩ := h
    have hok := (h5.get a).clr hp hb
    have hu := (h5.get a).u32
    have HFS := Lib.hid (fun b => flat_setB hg ha b)
    obtain ⟨d0, d1⟩ := flat_cell hg ha
    have hx' := xor_tb (ps.getD a pg0).2 p
    obtain ⟨⟨qc, qg⟩, hq⟩ : ∃ q, ps.getD a pg0 = q := ⟨_, rfl⟩
    rw [hq] at d0 d1 hu hb hok HFS ⊢
    have hand := andNot_u32 qg (2 ^ p) hu (by have : 2 ^ p ≤ 2 ^ 31 := Nat.pow_le_pow_right (by decide) (by omega); omega)
    rw [clr_eq hu hp hb] at hand
    have hand2 : bits .andNot .u32 (qg : Int) (2 ^ p % 4294967296) = ((qg ^^^ 2 ^ p : Nat) : Int) := by
      rw [← hand]
      congr 1
      have h1 : 2 ^ p ≤ 2 ^ 31 := Nat.pow_le_pow_right (by decide) (by omega)
      have h2 : (2 : Int) ^ p = ((2 ^ p : Nat) : Int) := by simp
      rw [h2]
      generalize 2 ^ p = P at h1
      omega
    obtain ⟨B, hB⟩ : ∃ B, qg ^^^ 2 ^ p = B := ⟨_, rfl⟩
    unfold clrP at hok ⊢
    simp only [hB] at hok hand2 ⊢
    have HOK := Lib.hid hok
    have HS1 := Lib.hid (HFS.out B)
    have f1 := hg.frozen (a * 2 + 1)
    have hfr := free_any qc B
    have HFR := Lib.hid hfr
    have HAL := Lib.hid ha
    have hkg := ((Kept.refl (fun b => b < w.heap.size ∧ b ≠ g) w).setCell (p := ⟨g, a * 2 + 1, none⟩) (fun h => h.2 rfl) (.int .u32 (B : Nat))).drew
    have HKG := Lib.hid hkg
    have HX := Lib.hid hx
    have H6 := Lib.hid h6
    have H5 := Lib.hid h5
    obtain ⟨w1, hw1⟩ : ∃ w1, w1 = (w.setCell ⟨g, a * 2 + 1, none⟩ (.int .u32 (B : Nat))).drew := ⟨_, rfl⟩
    have HS2 := Lib.hid (show Blk w1 g 60 (flatG (ps.set a (qc, B)) ++ X).toArray by rw [hw1]; exact HS1.out.drew)
    rw [← hw1] at HKG
    obtain ⟨g0, g1⟩ := flat_cell HS2.out (i := a) (by simp; exact ha)
    simp only [List.getD, List.getElem?_set_self ha, Option.getD_some] at g0 g1
    have HAX := Lib.hid (show ∀ (W : World), Kept (fun b => b < w.heap.size ∧ b ≠ g) w W → ∀ (qs : List Pg), qs.length = ps.length → InvP qs → Blk W g 60 (flatG qs ++ X).toArray → ArM W x g qs from fun W hk qs hqs hi hb2 => ⟨⟨cap, X, by rw [hqs]; exact HX.out.kept hk ⟨hlt.1, hne⟩, hb2⟩, by omega, by omega, hi, H6.out.kept hk ⟨by omega, by omega⟩, h7, h8⟩)
    clear hx hg he e1 e2 e3 e4 hc hb hq hc63 hx' hand hB hok hfr ha hkg HFS
    go_enter Tryd.func19, Tryd.ntmps19
    go_wp2_with fail
    refine hf.mono ?_
    rintro e w2 ⟨rfl, rfl⟩
    go_wp2_with fail
    go_region
    rw [← hw1]
    clear d0 d1 f1 hw1
    go_wp2_with fail
    refine (HFR.out _).mono ?_
    rintro e w3 ⟨rfl, hb3⟩
    have HK3 := Lib.hid (HKG.out.below hb3 (fun b h => Nat.lt_of_lt_of_le h.1 HKG.out.size))
    have HS3 := Lib.hid (HS2.out.below hb3 HS2.out.lt)
    clear hb3 g0 g1 hand2
    by_cases hB0 : B = 0
    · subst hB0
      simp only [if_true] at HOK ⊢
      go_wp2_with (refine wpList_store_pg (.tmp 33) (.tmp 32) rfl rfl g a pg0 rfl rfl _ X HS3.out (by simp; exact HAL.out) ?_)
      go_ret
      have hk4 := HK3.out.setRow (g := g) (fun h => h.2 rfl) (flatG (ps.set a pg0) ++ X).toArray
      exact ⟨rfl, HAX.out _ hk4 _ (by simp) (H5.out.set HOK.out) (setRow_heap _ g _ _ _ _ HS3.out), hk4⟩
    · simp only [hB0, if_false] at HOK ⊢
      go_wp2
      go_ret
      exact ⟨rfl, HAX.out _ HK3.out _ (by simp) (H5.out.set HOK.out) HS3.out, HK3.out⟩
  · have e4 : takeX ps c = ps := by unfold takeX; rw [if_neg he]
    rw [e4]
    unfold findV at hf
    obtain ⟨E, hE⟩ : ∃ E, findE ps c = E := ⟨_, rfl⟩
    rw [hE] at hf he ⊢
    simp only [he, if_false] at hf
    have hne : ((E : Int) != 0) = true := by simp; omega
    clear h hE hc63
    go_enter Tryd.func19, Tryd.ntmps19
    go_wp2_with fail
    refine hf.mono ?_
    rintro e w2 ⟨rfl, rfl⟩
    go_wp2
    go_ret
    exact ⟨rfl, HA.out, Kept.refl _ _⟩
end Go.Proofs.YtgipkdkfecegkaaDoor
