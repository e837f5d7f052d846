/- The document's Copy and with. -/
import Derived.Test.YtkmbbfdjdmkjpaaNewR
namespace Go.Proofs.Ytkmbbfdjdmkjpaa
open Go.RowKit
set_option linter.unusedVariables false
set_option linter.unusedSimpArgs false

theorem own_empty3 (w : World) : (w.alloc (.cells #[] 78)).ownsRow w.heap.size 78 3 (.slice (some ⟨w.heap.size, 0, none⟩) 0 0) 0 [] :=
  ⟨rfl, .inr ⟨w.heap.size, 0, #[], rfl, Nat.le_refl _, heap_alloc_new w _, Nat.le_refl _, by simp, by simp, rfl⟩⟩

set_option maxRecDepth 100000 in
set_option maxHeartbeats 1000000 in
theorem ref_copy {w : World} {A : Option Addr} {n cap : Nat} {xs : List Seg} (h : RowZ w (· < w.heap.size) A n xs) (hnil : A = none → cap = 0) (sec : Int) (hn : n ≤ 1000) :
    Calls Try.prog 35 #[ringV sec A n cap] w fun e w' => (∃ A' cap', e = .returned (ringV sec A' n cap') ∧ n ≤ cap' ∧ (A' = none → cap' = 0) ∧ w'.ownsRow w.heap.size 78 3 (.slice A' n cap') n (flatG xs)) ∧ Below w.heap.size w w' := by
  have HO := Lib.hid (show (((w.alloc (.cells #[.int .i64 sec, .slice A n cap] 66)).alloc (.cells #[.int .i64 0, .slice none 0 0] 66)).alloc (.cells #[] 78)).ownsRow (w.heap.size + 1 + 1) 78 3 (.slice (some ⟨w.heap.size + 1 + 1, 0, none⟩) 0 0) 0 [] by
    have h := own_empty3 ((w.alloc (.cells #[.int .i64 sec, .slice A n cap] 66)).alloc (.cells #[.int .i64 0, .slice none 0 0] 66))
    have e : ((w.alloc (.cells #[.int .i64 sec, .slice A n cap] 66)).alloc (.cells #[.int .i64 0, .slice none 0 0] 66)).heap.size = w.heap.size + 1 + 1 := by simp
    rwa [e] at h)
  have HB := Lib.hid ((((Below.refl w.heap.size w).alloc (Nat.le_refl _) (.cells #[.int .i64 sec, .slice A n cap] 66)).alloc (by simp) (.cells #[.int .i64 0, .slice none 0 0] 66)).alloc (by simp; omega) (.cells #[] 78))
  have HX := Lib.hid (row_now h HB.out)
  have HK0 := Lib.hid (((Blk.new w 66 #[.int .i64 sec, .slice A n cap]).alloc (.cells #[.int .i64 0, .slice none 0 0] 66)).alloc (.cells #[] 78))
  have HK1 := Lib.hid ((blk_new2 w (.cells #[.int .i64 sec, .slice A n cap] 66) 66 #[.int .i64 0, .slice none 0 0]).alloc (.cells #[] 78))
  have HN0 := Lib.hid (show (some w.heap.size : Option Nat) ≠ (Value.slice (some ⟨w.heap.size + 1 + 1, 0, none⟩) 0 0).ownBlock from fun e => by have e2 : (some w.heap.size : Option Nat) = some (w.heap.size + 1 + 1) := e; injection e2 with e2; omega)
  have HN1 := Lib.hid (show (some (w.heap.size + 1) : Option Nat) ≠ (Value.slice (some ⟨w.heap.size + 1 + 1, 0, none⟩) 0 0).ownBlock from fun e => by have e2 : (some (w.heap.size + 1) : Option Nat) = some (w.heap.size + 1 + 1) := e; injection e2 with e2; omega)
  have HNIL := Lib.hid hnil
  have HL := Lib.hid h.1
  have h1000 : (0 : Nat) + n ≤ 1000000 := by omega
  clear h hnil
  go_enter Try.func35, Try.ntmps35
  go_wp2_with (first
    | (at_builtin; refine wpList_append_rowZ (.tmp 3) (.tmp 5) rfl rfl (w.heap.size + 1 + 1) _ 0 [] rfl HO.out _ A n cap xs rfl HX.out HNIL.out h1000 (by simp) ?_; rintro v' w4 ho hg _; have HB4 := Lib.hid (HB.out.grown hg HB.out.size (fun k e => Nat.le_trans (by omega) (own_least HO.out e))); have HK4 := Lib.hid (HK0.out.grown hg HN0.out); have HK5 := Lib.hid (HK1.out.grown hg HN1.out); obtain ⟨A', cap', rfl, hc, hn', hrow⟩ := rowZ_own ho (xs := xs) (by simp) (by rw [HL.out, Nat.zero_add]); rw [Nat.zero_add] at hc hrow; simp only [Nat.zero_add]; have HROW := Lib.hid ho; have HC := Lib.hid hc; have HN := Lib.hid hn'; obtain ⟨q0, q1⟩ := ring_cells HK4.out; obtain ⟨p0, p1⟩ := ring_cells HK5.out; have f0 := HK4.out.frozen 1; obtain ⟨g0, g1⟩ := And.intro (HK5.out.frozen 0) (HK5.out.frozen 1); clear ho hg hc hn' hrow)
    | (with_reducible refine halt_end ?_))
  have hne : w.heap.size + 1 ≠ w.heap.size := by omega
  have hst := ((HK5.out.far (p := ⟨w.heap.size, 1, none⟩) hne (.slice A' n cap')).set_ 0 (.int .i64 sec)).set_ 1 (.slice A' n cap')
  have hown := ownsRow_setCell_other (ownsRow_setCell_other (ownsRow_setCell_other HROW.out (a := ⟨w.heap.size, 1, none⟩) (fun e => by have := own_least HROW.out e; simp only [] at this; omega) (.slice A' n cap')) (a := ⟨w.heap.size + 1, 0, none⟩) (fun e => by have := own_least HROW.out e; simp only [] at this; omega) (.int .i64 sec)) (a := ⟨w.heap.size + 1, 1, none⟩) (fun e => by have := own_least HROW.out e; simp only [] at this; omega) (.slice A' n cap')
  rw [Nat.zero_add, List.nil_append] at hown
  have hbel := ((HB4.out.setCell (p := ⟨w.heap.size, 1, none⟩) (Nat.le_refl _) (.slice A' n cap')).setCell (p := ⟨w.heap.size + 1, 0, none⟩) (by simp) (.int .i64 sec)).setCell (p := ⟨w.heap.size + 1, 1, none⟩) (by simp) (.slice A' n cap')
  exact Halt.ret (results_row1 rfl _ _ (w.heap.size + 1) 66 #[.int .i64 sec, .slice A' n cap'] _ rfl hst Try.underlying66 rfl size_ring) rfl ⟨⟨A', cap', rfl, HC.out, HN.out, own_base hown (by omega)⟩, hbel⟩

/-- A segment laid into a row of the call's own. -/
theorem run_store_ownZ {w : World} {base n cap g i : Nat} {L : List Seg} (s : Seg) (hown : w.ownsRow base 78 3 (.slice (some ⟨g, 0, none⟩) n cap) n (flatG L)) (hi : i < L.length) :
    ∃ w', (Instr.storeAt 78 (.pointer (some ⟨g, i * 3, none⟩)) (.agg (segC s).toArray)).run Try.prog w = .ok () w' ∧
      w'.ownsRow base 78 3 (.slice (some ⟨g, 0, none⟩) n cap) n (flatG (L.set i s)) ∧ Kept (fun b => b ≠ g) w w' := by
  have hlen : (flatG L).length = n * 3 := hown.1
  have hln : L.length = n := by rw [flatG_length] at hlen; omega
  rcases hown.2 with ⟨h, _⟩ | ⟨g', cap', cur, h, hb, hg, hnc, hcm, hcs, htake⟩
  · cases h
  · injection h with h1 _ h2
    injection h1 with h1
    injection h1 with h1 _ _
    subst h1 h2
    have hsz : ∀ w, (sizeOf 78).run Try.prog w = .ok 3 w := Try.sizeOf78
    have hcur : n * 3 ≤ cur.size := by rw [hcs]; exact Nat.mul_le_mul_right _ hnc
    have hs := run_storeCells_at Try.prog g (i * 3) 78 (segC s) 0 cur w hg (by simp; omega) (ones_seg s)
    obtain ⟨C, hC⟩ : ∃ C : Array Value, C = (cur.toList.take (i * 3) ++ segC s ++ cur.toList.drop (i * 3 + 3)).toArray := ⟨_, rfl⟩
    have hs' : (storeCells ⟨g, i * 3, none⟩ (segC s) 0).run Try.prog w = .ok () (w.setRow g C) := by
      rw [hC, hs]
      simp
    have hCs : C.size = cur.size := by rw [hC]; simp; omega
    refine ⟨w.setRow g C, ?_, ⟨by rw [flatG_length, List.length_set, hln], .inr ⟨g, cap, C, rfl, hb, setRow_heap w g cur C 78 _ hg, hnc, hcm, by rw [hCs, hcs], ?_⟩⟩, (Kept.refl _ w).setRow (fun h => h rfl) C⟩
    · simp only [Instr.storeAt, Instr.sureAddr, Sem.run_bind, Sem.run_pure, Result.andThen_ok, storeVar, hsz, Value.cells]
      simpa using hs'
    · rw [flatG_set L i s hi, hC, ← htake]
      simp only [List.append_assoc]
      rw [List.take_take, Nat.min_eq_left (by omega)]
      have e1 : (cur.toList.take (i * 3)).length = i * 3 := by simp; omega
      rw [List.take_append, e1, List.take_of_length_le (by rw [e1]; omega)]
      congr 1
      rw [List.take_append, List.take_of_length_le (by simp; omega)]
      try congr 1
      try rw [List.drop_take]
      try congr 1
      try simp
section
variable {w : World} {ops : Array Oper} {rest : List Oper} {o : Oper} {a : Act} {Q : Exit → Act → World → Prop}
theorem wpList_store_ownZ (x y : Operand) (ho : o.op = .store 78 x y) (hgd : o.guard = none) (g i : Nat) (s : Seg) (hx : a.eval x = .pointer (some ⟨g, i * 3, none⟩)) (hy : a.eval y = .agg (segC s).toArray)
    (base n cap : Nat) (L : List Seg) (hown : w.ownsRow base 78 3 (.slice (some ⟨g, 0, none⟩) n cap) n (flatG L)) (hi : i < L.length)
    (h : ∀ w', w'.ownsRow base 78 3 (.slice (some ⟨g, 0, none⟩) n cap) n (flatG (L.set i s)) → Kept (fun b => b ≠ g) w w' → wpList Try.prog ops Q rest (a.put o.dst undef) w') :
    wpList Try.prog ops Q (o :: rest) a w := by
  obtain ⟨w', hrun, h1, h2⟩ := run_store_ownZ s hown hi
  refine wpList_plain hgd fun K hK => ?_
  unfold Oper.wp execOp
  simp only [ho, hx, hy, hrun, Sem.run_bind, Result.andThen_ok]
  exact hK _ _ (h w' h1 h2)
end
theorem own_some {w : World} {base n cap : Nat} {A : Option Addr} {P : List Value} (h : w.ownsRow base 78 3 (.slice A n cap) n P) (hn : 0 < n) : ∃ g, A = some ⟨g, 0, none⟩ ∧ base ≤ g ∧ g < w.heap.size ∧ n ≤ cap := by
  rcases h.2 with ⟨h1, h2⟩ | ⟨g, cap', cur, h1, hb, hg, hnc, _⟩
  · injection h1 with _ h3 _
    omega
  · injection h1 with h1 _ h2
    subst h1 h2
    exact ⟨g, rfl, hb, (Array.getElem?_eq_some_iff.1 hg).1, hnc⟩

set_option maxRecDepth 100000 in
set_option maxHeartbeats 1000000 in
theorem ref_with {w : World} {A : Option Addr} {n cap : Nat} {xs : List Seg} (h : RowZ w (· < w.heap.size) A n xs) (hnil : A = none → cap = 0) (sec : Int) (hn : n ≤ 1000) (i : Nat) (hi : i < n) (s : Seg) :
    Calls Try.prog 93 #[ringV sec A n cap, .int .i64 i, .agg (segC s).toArray] w fun e w' => (∃ A' cap', e = .returned (ringV sec A' n cap') ∧ n ≤ cap' ∧ (A' = none → cap' = 0) ∧ w'.ownsRow w.heap.size 78 3 (.slice A' n cap') n (flatG (xs.set i s))) ∧ Below w.heap.size w w' := by
  obtain ⟨st, g, u⟩ := s
  have HB := Lib.hid ((((Below.refl w.heap.size w).alloc (Nat.le_refl _) (.cells #[.int .i64 sec, .slice A n cap] 66)).alloc (by simp) (.cells #[.int .i64 st, .int .u64 g, .int .i64 u] 78)).alloc (by simp; omega) (.cells #[.int .i64 0, .slice none 0 0] 66))
  have HC := Lib.hid (ref_copy (row_now h HB.out) hnil sec hn)
  have HK0 := Lib.hid (((Blk.new w 66 #[.int .i64 sec, .slice A n cap]).alloc (.cells #[.int .i64 st, .int .u64 g, .int .i64 u] 78)).alloc (.cells #[.int .i64 0, .slice none 0 0] 66))
  have HK1 := Lib.hid ((blk_new2 w (.cells #[.int .i64 sec, .slice A n cap] 66) 78 #[.int .i64 st, .int .u64 g, .int .i64 u]).alloc (.cells #[.int .i64 0, .slice none 0 0] 66))
  have HK2 := Lib.hid (blk_new3 w (.cells #[.int .i64 sec, .slice A n cap] 66) (.cells #[.int .i64 st, .int .u64 g, .int .i64 u] 78) 66 #[.int .i64 0, .slice none 0 0])
  have hlx : i < xs.length := by rw [h.1]; exact hi
  have HLX := Lib.hid hlx
  have h0n : 0 < n := by omega
  clear h
  go_enter Try.func93, Try.ntmps93
  go_wp2_with (first
    | (go_at_call 35; refine HC.out.mono ?_; rintro e w4 ⟨⟨A', cap', rfl, hc, hn', hown⟩, hb⟩; obtain ⟨gg, rfl, hgg, hgl, hcc⟩ := own_some hown h0n; have HF := Lib.hid (show w.heap.size + 1 + 1 < gg by simp at hgg; omega)
       have hk3 := HK0.out.below hb HK0.out.lt
       have hk4 := HK1.out.below hb HK1.out.lt
       have hk5 := HK2.out.below hb HK2.out.lt
       obtain ⟨q0, q1⟩ := ring_cells hk3
       obtain ⟨f0, f1⟩ := And.intro (hk3.frozen 0) (hk3.frozen 1)
       have hne : ∀ k, k ≤ w.heap.size → (Value.slice (some ⟨gg, 0, none⟩) n cap').ownBlock ≠ some k := fun k hk e => absurd (show gg = k by simpa [Value.ownBlock] using e) (Nat.ne_of_gt (Nat.lt_of_le_of_lt (Nat.le_trans hk (by omega : w.heap.size ≤ w.heap.size + 1 + 1)) HF.out))
       have HB4 := Lib.hid (((HB.out.trans (hb.mono HB.out.size)).setCell (p := ⟨w.heap.size, 0, none⟩) (Nat.le_refl _) (.int .i64 sec)).setCell (p := ⟨w.heap.size, 1, none⟩) (Nat.le_refl _) (.slice (some ⟨gg, 0, none⟩) n cap'))
       have HOWN := Lib.hid (ownsRow_setCell_other (ownsRow_setCell_other hown (a := ⟨w.heap.size, 0, none⟩) (hne _ (Nat.le_refl _)) (.int .i64 sec)) (a := ⟨w.heap.size, 1, none⟩) (hne _ (Nat.le_refl _)) (.slice (some ⟨gg, 0, none⟩) n cap'))
       have HK3 := Lib.hid ((hk3.set_ 0 (.int .i64 sec)).set_ 1 (.slice (some ⟨gg, 0, none⟩) n cap'))
       have n1 : w.heap.size + 1 ≠ w.heap.size := by omega
       have n2 : w.heap.size + 1 + 1 ≠ w.heap.size := by omega
       have HK4 := Lib.hid ((hk4.far (p := ⟨w.heap.size, 0, none⟩) n1 (.int .i64 sec)).far (p := ⟨w.heap.size, 1, none⟩) n1 (.slice (some ⟨gg, 0, none⟩) n cap'))
       have HK5 := Lib.hid ((hk5.far (p := ⟨w.heap.size, 0, none⟩) n2 (.int .i64 sec)).far (p := ⟨w.heap.size, 1, none⟩) n2 (.slice (some ⟨gg, 0, none⟩) n cap'))
       have s0 : ((w4.setCell ⟨w.heap.size, 0, none⟩ (.int .i64 sec)).setCell ⟨w.heap.size, 1, none⟩ (.slice (some ⟨gg, 0, none⟩) n cap')).cell? ⟨w.heap.size + 1, 0, none⟩ = some (.int .i64 st) := HK4.out.cell 0
       have s1 : ((w4.setCell ⟨w.heap.size, 0, none⟩ (.int .i64 sec)).setCell ⟨w.heap.size, 1, none⟩ (.slice (some ⟨gg, 0, none⟩) n cap')).cell? ⟨w.heap.size + 1, 1, none⟩ = some (.int .u64 g) := HK4.out.cell 1
       have s2 : ((w4.setCell ⟨w.heap.size, 0, none⟩ (.int .i64 sec)).setCell ⟨w.heap.size, 1, none⟩ (.slice (some ⟨gg, 0, none⟩) n cap')).cell? ⟨w.heap.size + 1, 2, none⟩ = some (.int .i64 u) := HK4.out.cell 2
       have HN := Lib.hid hn'
       clear hown hb hgg hgl hn' hk3 hk4 hk5 hne n1 n2)
    | (refine wpList_store_ownZ (.tmp 13) (.tmp 12) rfl rfl gg i (st, g, u) rfl rfl _ n cap' xs HOWN.out HLX.out ?_; intro w5 ho5 hk5
       have HO5 := Lib.hid ho5
       have HK6 := Lib.hid (HK3.out.kept hk5 (by have := HF.out; omega))
       have HK7 := Lib.hid (HK5.out.kept hk5 (by have := HF.out; omega))
       have HB5 := Lib.hid (HB4.out.trans (hk5.to_below (B := w.heap.size) (fun b h => by have := HF.out; omega)))
       obtain ⟨q0, q1⟩ := ring_cells HK6.out
       obtain ⟨p0, p1⟩ := ring_cells HK7.out
       obtain ⟨g0, g1⟩ := And.intro (HK7.out.frozen 0) (HK7.out.frozen 1)
       clear ho5 hk5)
    | (with_reducible refine halt_end ?_))
  have hst := (HK7.out.set_ 0 (.int .i64 sec)).set_ 1 (.slice (some ⟨gg, 0, none⟩) n cap')
  have hne : ∀ k, k ≤ w.heap.size + 1 + 1 → (Value.slice (some ⟨gg, 0, none⟩) n cap').ownBlock ≠ some k := fun k hk e => absurd (show gg = k by simpa [Value.ownBlock] using e) (Nat.ne_of_gt (Nat.lt_of_le_of_lt hk HF.out))
  have hown := ownsRow_setCell_other (ownsRow_setCell_other HO5.out (a := ⟨w.heap.size + 1 + 1, 0, none⟩) (hne _ (Nat.le_refl _)) (.int .i64 sec)) (a := ⟨w.heap.size + 1 + 1, 1, none⟩) (hne _ (Nat.le_refl _)) (.slice (some ⟨gg, 0, none⟩) n cap')
  have hbel := (HB5.out.setCell (p := ⟨w.heap.size + 1 + 1, 0, none⟩) (by simp; omega) (.int .i64 sec)).setCell (p := ⟨w.heap.size + 1 + 1, 1, none⟩) (by simp; omega) (.slice (some ⟨gg, 0, none⟩) n cap')
  exact Halt.ret (results_row1 rfl _ _ (w.heap.size + 1 + 1) 66 #[.int .i64 sec, .slice (some ⟨gg, 0, none⟩) n cap'] _ rfl hst Try.underlying66 rfl size_ring) rfl ⟨⟨_, cap', rfl, hcc, HN.out, own_base hown (by simp; omega)⟩, hbel⟩

end Go.Proofs.Ytkmbbfdjdmkjpaa
