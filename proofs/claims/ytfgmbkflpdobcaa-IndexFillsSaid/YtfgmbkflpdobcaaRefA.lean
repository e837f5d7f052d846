/- The document's index: has, Find. -/
import Derived.Test.YtfgmbkflpdobcaaEntMem
import Derived.Test.YtfgmbkflpdobcaaAdrMem
import Derived.Test.YtfgmbkflpdobcaaRem
namespace Go.Proofs.Ytfgmbkflpdobcaa
open Go.RowKit
attribute [local go_sem] Oper.semAt_some
set_option linter.unusedVariables false
set_option linter.unusedSimpArgs false
open EntM (RowE entV ent0)
theorem eql_ent (f a b c f' a' b' c' : Int) (w : World) : (binOp .eql 49 (.agg #[.int .u32 f, .int .i64 a, .int .u64 b, .int .i64 c]) (.agg #[.int .u32 f', .int .i64 a', .int .u64 b', .int .i64 c'])).run Try.prog w = .ok (.bool (decide (((f, a, b, c) : Ent) = (f', a', b', c')))) w := by
  by_cases hf : f = f'
  case neg =>
    have e0 : (f == f') = false := by simpa using hf
    rw [show decide (((f, a, b, c) : Ent) = (f', a', b', c')) = false from decide_eq_false (fun h => hf (by simp only [Prod.mk.injEq] at h; exact h.1))]
    go_simp
  subst hf
  by_cases h0 : a = a'
  case neg =>
    have e0 : (a == a') = false := by simpa using h0
    rw [show decide (((f, a, b, c) : Ent) = (f, a', b', c')) = false from decide_eq_false (fun h => h0 (by simp only [Prod.mk.injEq] at h; first | exact h.2.1 | exact h.1))]
    go_simp
  subst h0
  by_cases h1 : b = b'
  case neg =>
    have e1 : (b == b') = false := by simpa using h1
    rw [show decide (((f, a, b, c) : Ent) = (f, a, b', c')) = false from decide_eq_false (fun h => h1 (by simp only [Prod.mk.injEq] at h; first | exact h.2.2.1 | exact h.2.1 | exact h.1))]
    go_simp
  subst h1
  by_cases h2 : c = c'
  case neg =>
    have e2 : (c == c') = false := by simpa using h2
    rw [show decide (((f, a, b, c) : Ent) = (f, a, b, c')) = false from decide_eq_false (fun h => h2 (by simp only [Prod.mk.injEq] at h; first | exact h.2.2.2 | exact h.2.2 | exact h.2 | exact h))]
    go_simp
  subst h2
  rw [show decide (((f, a, b, c) : Ent) = (f, a, b, c)) = true from decide_eq_true rfl]
  go_simp
abbrev refV (s : Int) (A : Option Addr) (n c : Nat) : Value := .agg #[.int .i64 s, .slice A n c]
theorem rowE_cells {w : World} {S : Nat → Prop} {A : Option Addr} {n : Nat} {xs : List Ent} (h : RowE w S A n xs) {j : Nat} (hj : j < n) :
    ∃ b off, A = some ⟨b, off, none⟩ ∧ S b ∧ w.cell? ⟨b, off + j * 4, none⟩ = some (.int .u32 (xs.getD j ent0).1) ∧ w.cell? ⟨b, off + j * 4 + 1, none⟩ = some (.int .i64 (xs.getD j ent0).2.1) ∧ w.cell? ⟨b, off + j * 4 + 2, none⟩ = some (.int .u64 (xs.getD j ent0).2.2.1) ∧ w.cell? ⟨b, off + j * 4 + 3, none⟩ = some (.int .i64 (xs.getD j ent0).2.2.2) := by
  obtain ⟨b, off, e, hS, hc⟩ := h.2 (by omega)
  exact ⟨b, off, e, hS, hc j hj 0 _ rfl, hc j hj 1 _ rfl, hc j hj 2 _ rfl, hc j hj 3 _ rfl⟩
set_option maxRecDepth 100000 in
set_option maxHeartbeats 4000000 in
theorem ref_has {w : World} {A : Option Addr} {n cap : Nat} {es : List Ent} (h : RowE w (· < w.heap.size) A n es) (s : Int) (e : Ent) (hn : n ≤ 1024) :
    Calls Try.prog 35 #[refV s A n cap, .agg #[.int .u32 e.1, .int .i64 e.2.1, .int .u64 e.2.2.1, .int .i64 e.2.2.2]] w fun r w' => r = .returned (.bool (decide (e ∈ es))) ∧ Below w.heap.size w w' := by
  obtain ⟨e0, e1, e2, e3⟩ := e
  have HX := Lib.hid h
  have hl := h.1
  clear h
  obtain ⟨w2, hw2⟩ : ∃ w2, w2 = (w.alloc (.cells #[.int .i64 s, .slice A n cap] 31)).alloc (.cells #[.int .u32 e0, .int .i64 e1, .int .u64 e2, .int .i64 e3] 49) := ⟨_, rfl⟩
  have HB2 := Lib.hid (show Below w.heap.size w w2 by rw [hw2]; exact ((Below.refl _ w).alloc (Nat.le_refl _) _).alloc (by simp) _)
  have HK2 := Lib.hid (show Blk w2 (w.heap.size + 1) 49 #[.int .u32 e0, .int .i64 e1, .int .u64 e2, .int .i64 e3] by rw [hw2]; have h := Blk.new (w.alloc (.cells #[.int .i64 s, .slice A n cap] 31)) 49 #[.int .u32 e0, .int .i64 e1, .int .u64 e2, .int .i64 e3]; simpa using h)
  go_enter Try.func35, Try.ntmps35
  go_wp2
  go_loopw [10] (fun i wr => ∃ j : Nat, i = .int .i64 j ∧ j ≤ n ∧ (e0, e1, e2, e3) ∉ es.take j ∧ Below w.heap.size w wr ∧ Blk wr (w.heap.size + 1) 49 #[.int .u32 e0, .int .i64 e1, .int .u64 e2, .int .i64 e3]) (fun i _ => n - (intOf i).toNat)
  case atStart => exact ⟨0, rfl, Nat.zero_le _, by simp, by rw [← hw2]; exact HB2.out, by rw [← hw2]; exact HK2.out⟩
  case round =>
    obtain ⟨j, rfl, hj, hnot, hB, hK⟩ := hrel
    have HNOT := Lib.hid hnot
    have HB := Lib.hid hB
    have hbs := hB.size
    have HK := Lib.hid hK
    clear hnot hB hK hw2
    by_cases hjn : j < n
    · obtain ⟨b, off, rfl, hbl, a0, a1, a2, a3⟩ := rowE_cells (HX.out.below HB.out (fun _ h => h)) hjn
      have htk : es.take (j + 1) = es.take j ++ [es.getD j ent0] := by
        rw [List.take_add_one]
        simp [List.getD, List.getElem?_eq_getElem (show j < es.length by omega)]
      have hmem : es.getD j ent0 ∈ es := by simp only [List.getD, List.getElem?_eq_getElem (show j < es.length by omega), Option.getD_some]; exact List.getElem_mem _
      obtain ⟨⟨x0, x1, x2, x3⟩, hs⟩ : ∃ s, es.getD j ent0 = s := ⟨_, rfl⟩
      rw [hs] at a0 a1 a2 a3 htk hmem
      have HTK := Lib.hid htk
      have HMEM := Lib.hid hmem
      have hka := HK.out.alloc (.cells #[.int .u32 x0, .int .i64 x1, .int .u64 x2, .int .i64 x3] 49)
      have k0 := hka.cell 0
      have k1 := hka.cell 1
      have k2 := hka.cell 2
      have k3 := hka.cell 3
      have hq := eql_ent x0 x1 x2 x3 e0 e1 e2 e3
      obtain ⟨t, ht⟩ : ∃ t, decide (((x0, x1, x2, x3) : Ent) = (e0, e1, e2, e3)) = t := ⟨_, rfl⟩
      rw [ht] at hq
      have HT := Lib.hid ht
      have ha := Lib.hid ((Below.refl wr.heap.size wr).alloc (Nat.le_refl _) (.cells #[.int .u32 x0, .int .i64 x1, .int .u64 x2, .int .i64 x3] 49))
      clear hs htk hmem ht hka
      cases t
      · go_wp2
        go_roundw
        case rel =>
          refine ⟨j + 1, by simp, by omega, ?_, HB.out.trans (ha.out.mono hbs), HK.out.below ha.out HK.out.lt⟩
          rw [HTK.out]
          intro hm
          rcases List.mem_append.1 hm with hm | hm
          · exact HNOT.out hm
          · exact of_decide_eq_false HT.out (List.mem_singleton.1 hm).symm
        case measure => show n - (Int.toNat ((j : Int) + 1)) < n - (Int.toNat (j : Int)); omega
      · go_wp2
        go_ret
        refine ⟨?_, HB.out.trans (ha.out.mono hbs)⟩
        rw [show decide ((e0, e1, e2, e3) ∈ es) = true from decide_eq_true (by rw [← of_decide_eq_true HT.out]; exact HMEM.out)]
        rfl
    · obtain rfl : j = n := by omega
      go_wp2
      go_ret
      refine ⟨?_, HB.out⟩
      have := HNOT.out
      rw [List.take_of_length_le (by omega)] at this
      rw [show decide ((e0, e1, e2, e3) ∈ es) = false from decide_eq_false this]
      rfl
end Go.Proofs.Ytfgmbkflpdobcaa
