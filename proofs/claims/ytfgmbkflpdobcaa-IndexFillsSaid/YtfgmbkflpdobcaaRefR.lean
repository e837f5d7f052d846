/- The document's index: Remove. -/
import Derived.Test.YtfgmbkflpdobcaaRefD
namespace Go.Proofs.Ytfgmbkflpdobcaa
open Go.RowKit
attribute [local go_sem] Oper.semAt_some
set_option linter.unusedVariables false
set_option linter.unusedSimpArgs false
open EntM (RowE entV ent0)
theorem neq_ent (f a b c f' a' b' c' : Int) (w : World) : (binOp .neq 49 (.agg #[.int .u32 f, .int .i64 a, .int .u64 b, .int .i64 c]) (.agg #[.int .u32 f', .int .i64 a', .int .u64 b', .int .i64 c'])).run Try.prog w = .ok (.bool (!decide (((f, a, b, c) : Ent) = (f', a', b', c')))) w := by
  by_cases hf : f = f'
  case neg =>
    have e0 : (f == f') = false := by simpa using hf
    rw [show decide (((f, a, b, c) : Ent) = (f', a', b', c')) = false from decide_eq_false (fun h => hf (by simp only [Prod.mk.injEq] at h; exact h.1))]
    go_simp
  subst hf
  by_cases h0 : a = a'
  case neg =>
    have e0 : (a == a') = false := by simpa using h0
    rw [show decide (((f, a, b, c) : Ent) = (f, a', b', c')) = false from decide_eq_false (fun h => h0 (by simp only [Prod.mk.injEq] at h; first | exact h.2.1 | exact h.1))]
    go_simp
  subst h0
  by_cases h1 : b = b'
  case neg =>
    have e1 : (b == b') = false := by simpa using h1
    rw [show decide (((f, a, b, c) : Ent) = (f, a, b', c')) = false from decide_eq_false (fun h => h1 (by simp only [Prod.mk.injEq] at h; first | exact h.2.2.1 | exact h.2.1 | exact h.1))]
    go_simp
  subst h1
  by_cases h2 : c = c'
  case neg =>
    have e2 : (c == c') = false := by simpa using h2
    rw [show decide (((f, a, b, c) : Ent) = (f, a, b, c')) = false from decide_eq_false (fun h => h2 (by simp only [Prod.mk.injEq] at h; first | exact h.2.2.2 | exact h.2.2 | exact h.2 | exact h))]
    go_simp
  subst h2
  rw [show decide (((f, a, b, c) : Ent) = (f, a, b, c)) = true from decide_eq_true rfl]
  go_simp
def delE (l : List Ent) (e : Ent) : List Ent := l.filter (fun x => !decide (x = e))
theorem delE_snoc (l : List Ent) (x e : Ent) : delE (l ++ [x]) e = delE l e ++ (if x = e then [] else [x]) := by
  unfold delE
  by_cases h : x = e
  · simp [h]
  · simp [h]
theorem delE_le (l : List Ent) (e : Ent) : (delE l e).length ≤ l.length := List.length_filter_le _ _
theorem rem_mem {es : List Ent} {e : Ent} (h : e ∈ es) : remE es e = (delE es e, 0) := by
  unfold remE delE
  rw [if_pos h]
  congr 1
  exact List.filter_congr fun x _ => by by_cases h : x = e <;> simp [h]
theorem own_least {w : World} {base size n k : Nat} {e : TypeId} {v : Value} {xs : List Value} (h : w.ownsRow base e size v n xs) (hk : v.ownBlock = some k) : base ≤ k := by
  obtain ⟨_, _, h1⟩ := ownsRow_block h hk
  exact h1
set_option maxRecDepth 100000 in
set_option maxHeartbeats 8000000 in
theorem ref_remove {w : World} {S : Nat → Prop} {A : Option Addr} {n cap : Nat} {es : List Ent} (h : RowE w S A n es) (hS : ∀ b, S b → b < w.heap.size) (hA : A = none → cap = 0) (s : Int) (f a0 a1 a2 : Int) (hn : n ≤ 1024) :
    Calls Try.prog 25 #[refV s A n cap, .int .u32 f, .agg #[.int .i64 a0, .int .u64 a1, .int .i64 a2]] w fun r w' =>
      (∃ A' n' cap', r = .returned (.tuple #[refV s A' n' cap', .int .i64 (remE es (f, a0, a1, a2)).2]) ∧ RowE w' (fun b => S b ∨ (w.heap.size ≤ b ∧ b < w'.heap.size)) A' n' (remE es (f, a0, a1, a2)).1 ∧ (A' = none → cap' = 0)) ∧ Below w.heap.size w w' := by
  have HX := Lib.hid h
  have HXX := Lib.hid (h.more hS)
  have hl := h.1
  have hfl : ∀ m, (delE (es.take m) (f, a0, a1, a2)).length ≤ 1024 := fun m => by
    have h1 := delE_le (es.take m) (f, a0, a1, a2)
    rw [List.length_take] at h1
    omega
  have HFL := Lib.hid hfl
  clear h hfl
  obtain ⟨w4, hw4⟩ : ∃ w4, w4 = (((w.alloc (.cells #[.int .i64 s, .slice A n cap] 31)).alloc (.cells #[.int .i64 a0, .int .u64 a1, .int .i64 a2] 36)).alloc (.cells #[.int .i64 0, .slice none 0 0] 31)).alloc (.cells #[.int .u32 f, .int .i64 a0, .int .u64 a1, .int .i64 a2] 49) := ⟨_, rfl⟩
  have HW4 := Lib.hid hw4
  have hs4 : w4.heap.size = w.heap.size + 4 := by rw [hw4]; simp
  have HB4 := Lib.hid (show Below w.heap.size w w4 by rw [hw4]; exact ((((Below.refl _ w).alloc (Nat.le_refl _) _).alloc (by simp) _).alloc (by simp; omega) _).alloc (by simp; omega) _)
  have HK1 := Lib.hid (show Blk w4 w.heap.size 31 #[.int .i64 s, .slice A n cap] by rw [hw4]; exact (((Blk.new w _ _).alloc _).alloc _).alloc _)
  have HK2 := Lib.hid (show Blk w4 (w.heap.size + 1 + 1) 31 #[.int .i64 0, .slice none 0 0] by rw [hw4]; have h := (Blk.new ((w.alloc (.cells #[.int .i64 s, .slice A n cap] 31)).alloc (.cells #[.int .i64 a0, .int .u64 a1, .int .i64 a2] 36)) 31 #[.int .i64 0, .slice none 0 0]).alloc (.cells #[.int .u32 f, .int .i64 a0, .int .u64 a1, .int .i64 a2] 49); simpa using h)
  have HK3 := Lib.hid (show Blk w4 (w.heap.size + 1 + 1 + 1) 49 #[.int .u32 f, .int .i64 a0, .int .u64 a1, .int .i64 a2] by rw [hw4]; have h := Blk.new (((w.alloc (.cells #[.int .i64 s, .slice A n cap] 31)).alloc (.cells #[.int .i64 a0, .int .u64 a1, .int .i64 a2] 36)).alloc (.cells #[.int .i64 0, .slice none 0 0] 31)) 49 #[.int .u32 f, .int .i64 a0, .int .u64 a1, .int .i64 a2]; simpa using h)
  have HH := Lib.hid (ref_has (HXX.out.below HB4.out (fun _ h => h) |>.more (fun b h => Nat.lt_of_lt_of_le h HB4.out.size)) s (f, a0, a1, a2) hn (cap := cap))
  rw [hw4] at HH
  clear hw4
  go_enter Try.func25, Try.ntmps25
  go_wp2_with fail
  refine HH.out.mono ?_
  rintro r w5 ⟨rfl, hb5⟩
  rw [← HW4.out] at hb5
  have hrow5 := hb5
  have HB5 := Lib.hid (HB4.out.trans (hb5.mono HB4.out.size))
  have HL1 := Lib.hid (HK1.out.below hb5 HK1.out.lt)
  have HL2 := Lib.hid (HK2.out.below hb5 HK2.out.lt)
  have HL3 := Lib.hid (HK3.out.below hb5 HK3.out.lt)
  have hs5 := hb5.size
  clear hb5 HH
  have k0 := HL1.out.cell 0
  have k1 := HL1.out.cell 1
  have y0 := HL2.out.cell 0
  have y1 := HL2.out.cell 1
  have z0 := HL2.out.frozen 0
  have z1 := HL2.out.frozen 1
  by_cases hmem : (f, a0, a1, a2) ∈ es
  case neg =>
    have HRM := Lib.hid (show remE es (f, a0, a1, a2) = (es, 4) from if_neg hmem)
    have hd : decide ((f, a0, a1, a2) ∈ es) = false := decide_eq_false hmem
    simp only [hd]
    clear hd hmem
    go_wp2_with (with_reducible refine halt_end ?_)
    have hst := (HL2.out.set_ 0 (.int .i64 s)).set_ 1 (.slice A n cap)
    have hbel := (HB5.out.setCell (p := ⟨w.heap.size + 1 + 1, 0, none⟩) (by simp only []; omega) (.int .i64 s)).setCell (p := ⟨w.heap.size + 1 + 1, 1, none⟩) (by simp only []; omega) (.slice A n cap)
    refine Halt.ret (results_row2 rfl _ _ (w.heap.size + 1 + 1) 31 #[.int .i64 s, .slice A n cap] _ rfl hst Try.underlying31 rfl size_ref) rfl ⟨⟨A, n, cap, by rw [HRM.out]; rfl, ?_⟩, hbel⟩
    rw [HRM.out]
    exact ⟨(HX.out.below hbel hS).more (fun b h => .inl h), hA⟩
  case pos =>
    have HRM := Lib.hid (rem_mem hmem)
    have hd : decide ((f, a0, a1, a2) ∈ es) = true := decide_eq_true hmem
    simp only [hd]
    clear hd hmem
    go_wp2
    go_loopw [9, 23] (fun v i wr => ∃ j : Nat, i = .int .i64 j ∧ j ≤ n ∧ wr.ownsRow (w.heap.size + 4) 49 4 v (delE (es.take j) (f, a0, a1, a2)).length (EntM.flatG (delE (es.take j) (f, a0, a1, a2))) ∧ Below w.heap.size w wr ∧ Blk wr w.heap.size 31 #[.int .i64 s, .slice A n cap] ∧ Blk wr (w.heap.size + 1 + 1) 31 #[.int .i64 0, .slice none 0 0] ∧ Blk wr (w.heap.size + 1 + 1 + 1) 49 #[.int .u32 f, .int .i64 a0, .int .u64 a1, .int .i64 a2] ∧ w.heap.size + 4 ≤ wr.heap.size) (fun _ i _ => n - (intOf i).toNat)
    case atStart => exact ⟨0, rfl, Nat.zero_le _, World.ownsRow_nil _ _ _ _, HB5.out, HL1.out, HL2.out, HL3.out, by omega⟩
    case round =>
      obtain ⟨j, rfl, hj, hown, hB, hK, hK2, hK3, hS4⟩ := hrel
      have hbs := hB.size
      have hb4 := hS4
      have HO := Lib.hid hown
      have HB := Lib.hid hB
      have HK := Lib.hid hK
      have HKK := Lib.hid hK2
      have HKE := Lib.hid hK3
      clear hown hB hK hK2 hK3 k0 k1 y0 y1 z0 z1
      by_cases hjn : j < n
      · obtain ⟨b, off, rfl, hbl, x0', x1', x2', x3'⟩ := rowE_cells (HXX.out.below HB.out (fun _ h => h)) hjn
        have htk := take_at (d := ent0) (show j < es.length by omega)
        obtain ⟨⟨x0, x1, x2, x3⟩, hs⟩ : ∃ s, es.getD j ent0 = s := ⟨_, rfl⟩
        rw [hs] at x0' x1' x2' x3' htk
        have hds := delE_snoc (es.take j) (x0, x1, x2, x3) (f, a0, a1, a2)
        rw [← htk] at hds
        have HDS := Lib.hid hds
        have hba := Blk.new wr 49 #[.int .u32 x0, .int .i64 x1, .int .u64 x2, .int .i64 x3]
        have d0 := hba.cell 0
        have d1 := hba.cell 1
        have d2 := hba.cell 2
        have d3 := hba.cell 3
        have hke := HKE.out.alloc (.cells #[.int .u32 x0, .int .i64 x1, .int .u64 x2, .int .i64 x3] 49)
        have q0 := hke.cell 0
        have q1 := hke.cell 1
        have q2 := hke.cell 2
        have q3 := hke.cell 3
        have HOA := Lib.hid (own_alloc HO.out (.cells #[.int .u32 x0, .int .i64 x1, .int .u64 x2, .int .i64 x3] 49))
        have HBB := Lib.hid (HB.out.alloc hbs (.cells #[.int .u32 x0, .int .i64 x1, .int .u64 x2, .int .i64 x3] 49))
        have HKA := Lib.hid (HK.out.alloc (.cells #[.int .u32 x0, .int .i64 x1, .int .u64 x2, .int .i64 x3] 49))
        have HKB := Lib.hid (HKK.out.alloc (.cells #[.int .u32 x0, .int .i64 x1, .int .u64 x2, .int .i64 x3] 49))
        have HKC := Lib.hid hke
        have hq := neq_ent x0 x1 x2 x3 f a0 a1 a2
        obtain ⟨t, ht⟩ : ∃ t, decide (((x0, x1, x2, x3) : Ent) = (f, a0, a1, a2)) = t := ⟨_, rfl⟩
        rw [ht] at hq
        have HT := Lib.hid ht
        clear hs htk hds hba hke ht
        cases t
        · have hcnt := HFL.out j
          have hbs2 := HBB.out.size
          simp only [Bool.not_false] at hq
          go_wp2_with (first
            | (refine wpList_litE (.tmp 31) rfl rfl (x0, x1, x2, x3) rfl ?_; intro w7 hlit hw7; have HLIT := Lib.hid hlit; have HO7 := Lib.hid (show w7.ownsRow (w.heap.size + 4) 49 4 u9 (delE (es.take j) (f, a0, a1, a2)).length (EntM.flatG (delE (es.take j) (f, a0, a1, a2))) by rw [hw7]; exact own_alloc HOA.out _); have HK7 := Lib.hid (show Blk w7 w.heap.size 31 #[.int .i64 s, .slice (some ⟨b, off, none⟩) n cap] by rw [hw7]; exact HKA.out.alloc _); have HL7 := Lib.hid (show Blk w7 (w.heap.size + 1 + 1) 31 #[.int .i64 0, .slice none 0 0] by rw [hw7]; exact HKB.out.alloc _); have HE7a := (show Below (wr.heap.size + 1) (wr.alloc (.cells #[.int .u32 x0, .int .i64 x1, .int .u64 x2, .int .i64 x3] 49)) w7 by rw [hw7]; exact (Below.refl _ _).alloc (by simp) _); have HE7 := Lib.hid (HKC.out.below HE7a (by omega)); have HB7 := Lib.hid (show Below w.heap.size w w7 by rw [hw7]; exact HBB.out.alloc hbs2 _); have hs7 : w.heap.size + 4 ≤ w7.heap.size := (by have := HE7a.size; simp only [World.size_alloc] at this; omega); clear hlit hw7 HE7a)
            | (at_builtin; refine EntM.wpList_append_rowZ (.tmp 30) (.tmp 32) rfl rfl (w.heap.size + 4) u9 (delE (es.take j) (f, a0, a1, a2)).length _ rfl HO7.out _ _ 1 1 [(x0, x1, x2, x3)] rfl HLIT.out (fun h => by cases h) (by omega) hs7 ?_; intro v8 w8 hown hgrow _; have HO8 := Lib.hid hown; have HK8 := Lib.hid (blk_past HK7.out HO7.out (by decide) hgrow); have HL8 := Lib.hid (blk_past HL7.out HO7.out (by decide) hgrow); have HE8g := hgrow; have HB8 := Lib.hid (below_append HB7.out HO7.out (by omega) (by omega) hgrow); have HS8 := Lib.hid (Nat.le_trans hs7 HE8g.size); have HE8 := Lib.hid (HE7.out.grown HE8g (fun h => by have := own_least HO7.out h.symm; omega)); clear hown hgrow HE8g))
          go_roundw
          case rel =>
            refine ⟨j + 1, by simp, by omega, ?_, HB8.out, HK8.out, HL8.out, HE8.out, by have := HS8.out; omega⟩
            rw [HDS.out, if_neg (of_decide_eq_false HT.out), List.length_append, EntM.flatG_append]
            exact HO8.out
          case measure => show n - (Int.toNat ((j : Int) + 1)) < n - (Int.toNat (j : Int)); omega
        · simp only [Bool.not_true] at hq
          go_wp2
          go_roundw
          case rel =>
            refine ⟨j + 1, by simp, by omega, ?_, HBB.out, HKA.out, HKB.out, HKC.out, by rw [World.size_alloc]; omega⟩
            rw [HDS.out, if_pos (of_decide_eq_true HT.out), List.append_nil]
            exact HOA.out
          case measure => show n - (Int.toNat ((j : Int) + 1)) < n - (Int.toNat (j : Int)); omega
      · obtain rfl : j = n := by omega
        have hall : es.take j = es := List.take_of_length_le (by omega)
        rw [hall] at HO
        obtain ⟨A', cap', hv⟩ := ownsRow_slice HO.out
        subst hv
        have hk0 := HK.out.cell 0
        have hk1 := HK.out.cell 1
        have hf1 := HK.out.frozen 1
        have y0 := HKK.out.cell 0
        have y1 := HKK.out.cell 1
        have hz0 := HKK.out.frozen 0
        have hz1 := HKK.out.frozen 1
        have hne : w.heap.size + 1 + 1 ≠ w.heap.size := by omega
        obtain ⟨p, hp⟩ : ∃ p, (delE es (f, a0, a1, a2)).length = p := ⟨_, rfl⟩
        have HP := Lib.hid hp
        rw [hp] at HO ⊢
        clear hp
        go_wp2_with (with_reducible refine halt_end ?_)
        have hst := ((HKK.out.far (p := ⟨w.heap.size, 1, none⟩) hne (.slice A' p cap')).set_ 0 (.int .i64 s)).set_ 1 (.slice A' p cap')
        have ho1 := own_past HO.out HK.out (by decide) 1 (.slice A' p cap')
        have hb1 := HKK.out.far (p := ⟨w.heap.size, 1, none⟩) hne (.slice A' p cap')
        have ho2 := own_past ho1 hb1 (by decide) 0 (.int .i64 s)
        have ho3 := own_past ho2 (hb1.set_ 0 (.int .i64 s)) (by decide) 1 (.slice A' p cap')
        have hbel := ((HB.out.setCell (p := ⟨w.heap.size, 1, none⟩) (Nat.le_refl _) (.slice A' p cap')).setCell (p := ⟨w.heap.size + 1 + 1, 0, none⟩) (by simp only []; omega) (.int .i64 s)).setCell (p := ⟨w.heap.size + 1 + 1, 1, none⟩) (by simp only []; omega) (.slice A' p cap')
        obtain ⟨A2, cap2, e2, _, hA2, hrow⟩ := EntM.rowZ_own ho3 rfl HP.out
        injection e2 with e2 _ e2c
        subst e2 e2c
        refine Halt.ret (results_row2 rfl _ _ (w.heap.size + 1 + 1) 31 #[.int .i64 s, .slice A' p cap'] _ rfl hst Try.underlying31 rfl size_ref) rfl ⟨⟨A', p, cap', by rw [HRM.out]; rfl, ?_⟩, hbel⟩
        rw [HRM.out]
        exact ⟨hrow.more (fun b h => .inr ⟨by omega, h.2⟩), hA2⟩
end Go.Proofs.Ytfgmbkflpdobcaa
