/- The document's index: Find; one more address, one more entry, laid behind a row of one's own. -/
import Derived.Test.YtfgmbkflpdobcaaRefA
namespace Go.Proofs.Ytfgmbkflpdobcaa
open Go.RowKit
attribute [local go_sem] Oper.semAt_some
set_option linter.unusedVariables false
set_option linter.unusedSimpArgs false
open EntM (RowE entV ent0)
section
variable {w : World} {o : Oper} {a : Act} {Q : Exit → Act → World → Prop} {K : Act → World → Prop} {E : Prop} {ops : Array Oper} {rest : List Oper}
theorem wpList_litA (x : Operand) (ho : o.op = .buildSlice 43 1 #[(0, x)]) (hgd : Region.wanted o (yielded ops a.tmps) = true) (s : Seg) (hx : a.eval x = .agg (segC s).toArray)
    (h : ∀ w', RowZ w' (fun b => b = w.heap.size) (some ⟨w.heap.size, 0, none⟩) 1 [s] → w' = w.alloc (.cells (Adr.flatG [s]).toArray 36) → wpList Try.prog ops Q rest (a.put o.dst (.slice (some ⟨w.heap.size, 0, none⟩) 1 1)) w') :
    wpList Try.prog ops Q (o :: rest) a w :=
  wpList_step fun K hK => step_litA x ho hgd s hx (fun w' h1 h2 => hK _ _ (h w' h1 h2))
/-- '[]Entry{x}' in a region that draws. -/
theorem step_litE (x : Operand) (ho : o.op = .buildSlice 29 1 #[(0, x)]) (hgd : Region.wanted o (yielded ops a.tmps) = true) (s : Ent) (hx : a.eval x = .agg (entV s).toArray)
    (h : ∀ w', RowE w' (fun b => b = w.heap.size) (some ⟨w.heap.size, 0, none⟩) 1 [s] → w' = w.alloc (.cells (EntM.flatG [s]).toArray 49) → K (a.put o.dst (.slice (some ⟨w.heap.size, 0, none⟩) 1 1)) w') :
    if Region.wanted o (yielded ops a.tmps) = true then Oper.wp Try.prog o a w K Q else E := by
  have hrow : RowE (w.alloc (.cells (EntM.flatG [s]).toArray 49)) (fun b => b = w.heap.size) (some ⟨w.heap.size, 0, none⟩) 1 [s] := EntM.ArrS.row (S := fun b => b = w.heap.size) (L := [s]) (Blk.new w _ _) rfl rfl
  rw [if_pos hgd]
  obtain ⟨i0, hi, hz0, hz1, hz2⟩ := info_parts EntM.info_seg
  refine wp_buildSlice 29 49 1 #[(0, x)] ho (EntM.flatG [s]).toArray i0 _ Try.underlying29 hi hz0 (by rw [hz1]; decide) (by rw [hz1]; decide) ?_ (h _ hrow rfl)
  rw [hz1]
  have e : (Array.map (fun (p : Nat × Operand) => (p.1, a.eval p.2)) #[(0, x)]).toList = [(0, .agg (entV s).toArray)] := by simp [hx]
  refine (congrArg _ e).trans ?_
  kernel_rfl
theorem wpList_litE (x : Operand) (ho : o.op = .buildSlice 29 1 #[(0, x)]) (hgd : Region.wanted o (yielded ops a.tmps) = true) (s : Ent) (hx : a.eval x = .agg (entV s).toArray)
    (h : ∀ w', RowE w' (fun b => b = w.heap.size) (some ⟨w.heap.size, 0, none⟩) 1 [s] → w' = w.alloc (.cells (EntM.flatG [s]).toArray 49) → wpList Try.prog ops Q rest (a.put o.dst (.slice (some ⟨w.heap.size, 0, none⟩) 1 1)) w') :
    wpList Try.prog ops Q (o :: rest) a w :=
  wpList_step fun K hK => step_litE x ho hgd s hx (fun w' h1 h2 => hK _ _ (h w' h1 h2))
end
theorem grown_alloc (w : World) (o : Obj) : w.grownBy (w.alloc o) none :=
  ⟨rfl, rfl, rfl, by rw [World.size_alloc]; exact Nat.le_succ _, fun k hk _ => ((Below.refl w.heap.size w).alloc (Nat.le_refl _) o).block k hk⟩
theorem own_alloc {w : World} {base size n : Nat} {e : TypeId} {v : Value} {xs : List Value} (h : w.ownsRow base e size v n xs) (o : Obj) : (w.alloc o).ownsRow base e size v n xs :=
  ownsRow_grown h (grown_alloc w o) (fun g _ e => by cases e)
theorem findE_cons (e : Ent) (l : List Ent) (f : Int) : findE (e :: l) f = findE l f ++ (if e.1 = f then [e.2] else []) := by
  unfold findE
  by_cases h : e.1 = f
  · simp [h]
  · simp [h]
theorem drop_at {α : Type} {l : List α} {d : α} {k : Nat} (h : k < l.length) : l.drop k = l.getD k d :: l.drop (k + 1) := by
  rw [List.drop_eq_getElem_cons h]
  simp [List.getD, List.getElem?_eq_getElem h]
set_option maxRecDepth 100000 in
set_option maxHeartbeats 4000000 in
theorem ref_find {w : World} {A : Option Addr} {n cap : Nat} {es : List Ent} (h : RowE w (· < w.heap.size) A n es) (s : Int) (f : Nat) (hn : n ≤ 1024) :
    Calls Try.prog 15 #[refV s A n cap, .int .u32 f] w fun r w' =>
      (∃ v, r = .returned v ∧ w'.ownsRow w.heap.size 36 3 v (findE es f).length (Adr.flatG (findE es f))) ∧ Below w.heap.size w w' := by
  have HX := Lib.hid h
  have hl := h.1
  have hfl : ∀ m, (findE (es.drop m) f).length ≤ 1024 := fun m => by
    unfold findE
    rw [List.length_map, List.length_reverse]
    have h1 := List.length_filter_le (fun e : Ent => decide (e.1 = (f : Int))) (es.drop m)
    rw [List.length_drop] at h1
    omega
  have HFL := Lib.hid hfl
  clear h hfl
  have HB1 := Lib.hid (show Below w.heap.size w (w.alloc (.cells #[.int .i64 s, .slice A n cap] 31)) from (Below.refl _ w).alloc (Nat.le_refl _) _)
  have HK1 := Lib.hid (Blk.new w 31 #[.int .i64 s, .slice A n cap])
  have HO1 := Lib.hid (World.ownsRow_nil (w.alloc (.cells #[.int .i64 s, .slice A n cap] 31)) w.heap.size 36 3)
  go_enter Try.func15, Try.ntmps15
  go_wp2
  go_loopw [5, 6] (fun v i wr => ∃ m : Nat, i = .int .i64 ((m : Int) - 1) ∧ m ≤ n ∧ wr.ownsRow w.heap.size 36 3 v (findE (es.drop m) f).length (Adr.flatG (findE (es.drop m) f)) ∧ Below w.heap.size w wr ∧ Blk wr w.heap.size 31 #[.int .i64 s, .slice A n cap]) (fun _ i _ => (intOf i + 1).toNat)
  case atStart =>
    refine ⟨n, rfl, Nat.le_refl _, ?_, HB1.out, HK1.out⟩
    rw [List.drop_of_length_le (by omega)]
    exact HO1.out
  case round =>
    obtain ⟨m, rfl, hm, hown, hB, hK⟩ := hrel
    have hbs := hB.size
    have HO := Lib.hid hown
    have HB := Lib.hid hB
    have HK := Lib.hid hK
    clear hown hB hK
    cases m with
    | zero =>
      go_wp2
      go_ret
      exact ⟨⟨_, rfl, HO.out⟩, HB.out⟩
    | succ k =>
      have ek : (((k + 1 : Nat) : Int) - 1) = (k : Int) := by omega
      rw [ek]
      have hkn : k < n := by omega
      obtain ⟨b, off, rfl, hbl, a0, a1, a2, a3⟩ := rowE_cells (HX.out.below HB.out (fun _ h => h)) hkn
      have hdr := drop_at (d := ent0) (show k < es.length by omega)
      obtain ⟨⟨x0, x1, x2, x3⟩, hs⟩ : ∃ s, es.getD k ent0 = s := ⟨_, rfl⟩
      rw [hs] at a0 a1 a2 a3 hdr
      have hfc := findE_cons (x0, x1, x2, x3) (es.drop (k + 1)) f
      rw [← hdr] at hfc
      have HFC := Lib.hid hfc
      have k1 := HK.out.cell 1
      clear hs hdr hfc
      by_cases hq : x0 = (f : Int)
      · have hq2 : (x0 == (f : Int)) = true := by simpa using hq
        have hcnt := HFL.out (k + 1)
        go_wp2_with (first
          | (refine wpList_litA (.tmp 29) rfl rfl (x1, x2, x3) rfl ?_; intro w7 hlit hw7; have HLIT := Lib.hid hlit; have HO7 := Lib.hid (show w7.ownsRow w.heap.size 36 3 u5 (findE (es.drop (k + 1)) f).length (Adr.flatG (findE (es.drop (k + 1)) f)) by rw [hw7]; exact own_alloc HO.out _); have HK7 := Lib.hid (show Blk w7 w.heap.size 31 #[.int .i64 s, .slice (some ⟨b, off, none⟩) n cap] by rw [hw7]; exact HK.out.alloc _); have HB7 := Lib.hid (show Below w.heap.size w w7 by rw [hw7]; exact HB.out.alloc hbs _); have hs7 : w.heap.size ≤ w7.heap.size := HB7.out.size; clear hlit hw7)
          | (at_builtin; refine Adr.wpList_append_rowZ (.tmp 23) (.tmp 30) rfl rfl w.heap.size u5 (findE (es.drop (k + 1)) f).length _ rfl HO7.out _ _ 1 1 [(x1, x2, x3)] rfl HLIT.out (fun h => by cases h) (by omega) hs7 ?_; intro v8 w8 hown hgrow _; have HO8 := Lib.hid hown; have HK8 := Lib.hid (blk_past HK7.out HO7.out (by decide) hgrow); have HB8 := Lib.hid (below_append HB7.out HO7.out (Nat.le_refl _) hs7 hgrow); clear hown hgrow))
        go_roundw
        case rel =>
          refine ⟨k, rfl, by omega, ?_, HB8.out, HK8.out⟩
          rw [HFC.out, if_pos hq, List.length_append, Adr.flatG_append]
          exact HO8.out
        case measure => show Int.toNat ((k : Int) - 1 + 1) < Int.toNat ((k : Int) + 1); omega
      · have hq2 : (x0 == (f : Int)) = false := by simpa using hq
        go_wp2
        go_roundw
        case rel =>
          refine ⟨k, rfl, by omega, ?_, HB.out, HK.out⟩
          rw [HFC.out, if_neg hq, List.append_nil]
          exact HO.out
        case measure => show Int.toNat ((k : Int) - 1 + 1) < Int.toNat ((k : Int) + 1); omega
end Go.Proofs.Ytfgmbkflpdobcaa
