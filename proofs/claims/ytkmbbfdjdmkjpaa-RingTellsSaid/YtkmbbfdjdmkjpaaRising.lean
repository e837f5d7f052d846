/- Package ring: rising: the segments that are not free, sorted by their generations, in memory of its own. -/
import Derived.Test.YtkmbbfdjdmkjpaaCmp
import Derived.Test.YtkmbbfdjdmkjpaaSortNone
import Derived.Great.BuildSlice
import Derived.RangeFuncBox
import Derived.OneCell
import Derived.Deep.DeepCutAuto
namespace Go.Proofs.Ytkmbbfdjdmkjpaa
open Go.RowKit Go.Shelf Go.Lib Go.Sort
set_option linter.unusedVariables false

theorem built_num (i : Int) (s : Seg) : Try.prog.built 139 [(0, .int .i64 i), (1, .agg (segC s).toArray)] = some #[.int .i64 i, .int .i64 s.1, .int .u64 s.2.1, .int .i64 s.2.2] := by kernel_rfl
theorem info_num : (Try.prog.info? 139).map (fun i => (i.zero, i.size, i.bytes)) = some (some (.agg (numC num0).toArray), 4, 32) := by kernel_rfl
section
variable {w : World} {ops : Array Oper} {rest : List Oper} {o : Oper} {a : Act} {Q : Exit → Act → World → Prop}
theorem wpList_lit_num (x : Operand) (ho : o.op = .buildSlice 137 1 #[(0, x)]) (hgd : o.guard = none) (y : Num) (hx : a.eval x = .agg (numC y).toArray)
    (h : wpList Try.prog ops Q rest (a.put o.dst (.slice (some ⟨w.heap.size, 0, none⟩) 1 1)) (w.alloc (.cells (numC y).toArray 139))) : wpList Try.prog ops Q (o :: rest) a w := by
  obtain ⟨i0, hi, hz0, hz1, hz2⟩ := info_parts info_num
  refine wpList_buildSlice hgd 137 139 1 #[(0, x)] ho (numC y).toArray i0 _ Try.underlying137 hi hz0 (by rw [hz1]; decide) (by rw [hz1]; decide) ?_ h
  rw [hz1]
  have e : (Array.map (fun (p : Nat × Operand) => (p.1, a.eval p.2)) #[(0, x)]).toList = [(0, .agg (numC y).toArray)] := by simp [hx]
  refine (congrArg _ e).trans ?_
  obtain ⟨i, st, g, u⟩ := y
  kernel_rfl
theorem wpList_append_num (s x : Operand) (ho : o.op = .call { callee := .builtin .append, args := #[s, x], argTypes := #[137, 137] }) (hgd : o.guard = none)
    (base : Nat) (v : Value) (m : Nat) (P : List Value) (hs : a.eval s = v) (hown : w.ownsRow base 139 4 v m P) (g : Nat) (y : Num) (hx : a.eval x = .slice (some ⟨g, 0, none⟩) 1 1) (hg : Blk w g 139 (numC y).toArray)
    (hm : m ≤ 1000000) (hbase : base ≤ w.heap.size)
    (h : ∀ v' w', w'.ownsRow base 139 4 v' (m + 1) (P ++ numC y) → w.grownBy w' v.ownBlock → (v'.ownBlock = v.ownBlock ∨ v'.ownBlock = some w.heap.size) → wpList Try.prog ops Q rest (a.put o.dst v') w') :
    wpList Try.prog ops Q (o :: rest) a w := by
  obtain ⟨i0, hi, hz0, hz1, hz2⟩ := info_parts info_num
  obtain ⟨v', w', hrun, h2, h3, _, h4⟩ := run_append_own_at (P := Try.prog) w base 137 o.type 139 i0 _ 4 32 Try.underlying137 hi hz0 hz1 hz2 (by simp [Value.cells]) (by omega) v m P hown ⟨g, 0, none⟩ 1 1 (numC y) (by simp)
    (fun j u hu => by rw [add_plain, Nat.zero_add, hg.cell j]; simpa using hu) (ones_num y) (by unfold maxLen; omega) (by omega) hbase
  refine wpList_plain hgd fun K hK => ?_
  unfold Oper.wp execOp
  simp only [ho, resolve, invoke, builtin, Sem.run_bind, Sem.run_pure, Result.andThen_ok, List.map_toArray, List.map_cons, List.map_nil, hs, hx, hrun]
  exact hK _ _ (h v' w' h2 h3 h4)
end

theorem own_least {w : World} {base size n k : Nat} {e : TypeId} {v : Value} {xs : List Value} (h : w.ownsRow base e size v n xs) (hk : v.ownBlock = some k) : base ≤ k := by
  rcases h.2 with ⟨rfl, _⟩ | ⟨g, cap, cur, rfl, hb, _⟩
  · simp [Value.ownBlock] at hk
  · have : g = k := by simpa [Value.ownBlock] using hk
    omega
theorem flat_num : ∀ (L : List Num) (t : Nat), t < L.length * 4 → (L.flatMap numC)[t]? = (numC (L.getD (t / 4) num0))[t % 4]?
  | [], t, h => by simp at h
  | y :: L, t, h => by
    rw [List.flatMap_cons]
    by_cases h4 : t < 4
    · rw [List.getElem?_append_left (by simpa using h4)]
      rw [show t / 4 = 0 by omega, show t % 4 = t by omega]
      rfl
    · have e : t - (numC y).length = t - 4 := by simp
      rw [List.getElem?_append_right (by simp; omega), e, flat_num L (t - 4) (by simp at h; omega)]
      rw [show t / 4 = (t - 4) / 4 + 1 by omega, show t % 4 = (t - 4) % 4 by omega]
      rfl
theorem flat_len (L : List Num) : (L.flatMap numC).length = L.length * 4 := by
  induction L with
  | nil => rfl
  | cons y L ih => rw [List.flatMap_cons, List.length_append, ih]; simp; omega

/-- What a slice of one's own of segments holds. -/
theorem holds_own {w : World} {base m : Nat} {v : Value} {L : List Num} (h : w.ownsRow base 139 4 v m (L.flatMap numC)) (hm : m = L.length) :
    (v = .slice none 0 0 ∧ L = []) ∨ ∃ g cap, v = .slice (some ⟨g, 0, none⟩) L.length cap ∧ base ≤ g ∧ g < w.heap.size ∧ HoldsK numC 4 w g 0 L.toArray := by
  subst hm
  rcases h.2 with ⟨rfl, hn⟩ | ⟨g, cap, cur, rfl, hb, hh, h1, h2, h3, h4⟩
  · exact .inl ⟨rfl, List.length_eq_zero_iff.1 hn⟩
  · refine .inr ⟨g, cap, rfl, hb, (Array.getElem?_eq_some_iff.1 hh).1, ?_⟩
    intro t ht
    have ht' : t < L.length * 4 := by simpa using ht
    refine ⟨?_, by simp [World.frozen?, hh]⟩
    rw [get_flatK numC 4 L.toArray t (by simpa using ht')]
    have e1 : cur.toList[t]? = (L.flatMap numC)[t]? := by
      rw [← h4, List.getElem?_take_of_lt ht']
    rw [flat_num L t ht'] at e1
    simp only [World.cell?, hh, Nat.zero_add]
    simp only [Option.isSome_none, Bool.false_eq_true, if_false]
    rw [← Array.getElem?_toList, e1]
    have hlt : t / 4 < L.length := by omega
    have e2 : L.toArray[t / 4]! = L.getD (t / 4) num0 := by simp [List.getD, hlt]
    rw [e2]
    have h5 : t % 4 < (numC (L.getD (t / 4) num0)).length := by simp; omega
    rw [List.getElem?_eq_getElem h5, getElem!_pos (numC (L.getD (t / 4) num0)) (t % 4) h5]
    rfl
theorem row_holds {w : World} {g : Nat} {d : Array Num} (h : HoldsK numC 4 w g 0 d) {S : Nat → Prop} (hS : S g) : RowN w S (some ⟨g, 0, none⟩) d.size d.toList := by
  refine ⟨by simp, fun _ => ⟨g, 0, rfl, hS, fun i hi j v hv => ?_⟩⟩
  have hj : j < 4 := by
    have := (List.getElem?_eq_some_iff.1 hv).1
    simpa using this
  have hc := (HoldsK.cell h hi hj).1
  have e : d.toList.getD i num0 = d[i]! := by simp [List.getD, hi]
  rw [e] at hv
  have h5 : j < (numC d[i]!).length := by simpa using hj
  rw [List.getElem?_eq_getElem h5] at hv
  rw [hc, ← hv, getElem!_pos (numC d[i]!) j h5]

/-- At B lies a list of segments with their numbers, in memory from n₀ on. -/
def SeqM (w : World) (n₀ B : Nat) (L : List Num) : Prop :=
  n₀ ≤ B ∧ B < w.heap.size ∧ ∃ A cap, w.cell? ⟨B, 0, none⟩ = some (.slice A L.length cap) ∧ RowN w (fun b => n₀ ≤ b ∧ b < w.heap.size) A L.length L
/-- By rising generations. -/
def Rises (L : List Num) : Prop := ∀ i j, i < j → j < L.length → (L.getD i num0).2.2.1 ≤ (L.getD j num0).2.2.1

/-- What holds between two rounds of rising. -/
def RisI (w : World) (xs : List Seg) (n : Nat) (wr : World) (i : Value) : Prop :=
  ∃ (j : Nat) (v : Value), j ≤ n ∧ i = .int .i64 j ∧ Blk wr w.heap.size 137 #[v] ∧ wr.ownsRow w.heap.size 139 4 v (liveTo xs j).length ((liveTo xs j).flatMap numC) ∧ Below w.heap.size w wr

set_option maxHeartbeats 1000000 in
set_option maxRecDepth 100000 in
theorem rising_any {w : World} {A : Option Addr} {n cap : Nat} {xs : List Seg} (h : RowZ w (· < w.heap.size) A n xs) (hn : n ≤ 16) :
    Calls Try.prog 86 #[.slice A n cap] w fun e w' => ∃ B L, e = .returned (.func (.func 114) #[] #[.pointer (some ⟨B, 0, none⟩)]) ∧ SeqM w' w.heap.size B L ∧ L.Perm (live xs) ∧ Rises L ∧ Below w.heap.size w w' := by
  have HX := Lib.hid h
  have HN := Lib.hid hn
  clear h hn
  go_enter Try.func86, Try.ntmps86
  go_wp2_with fail
  go_loopw [8] (fun i wr => RisI w xs n wr i) (fun i _ => n - (intOf i).toNat)
  case atStart => exact ⟨0, .slice none 0 0, Nat.zero_le _, rfl, Blk.new w _ _, ⟨rfl, .inl ⟨rfl, rfl⟩⟩, (Below.refl _ _).alloc (Nat.le_refl _) _⟩
  case round =>
    obtain ⟨j, v, hj, rfl, hb, ho, hbel⟩ := hrel
    have HB := Lib.hid hb
    have HO := Lib.hid ho
    have HBEL := Lib.hid hbel
    have hn16 := HN.out
    clear hb ho hbel
    by_cases hlt : j < n
    · obtain ⟨b, off, rfl, hbb, hcc⟩ := (HX.out.below HBEL.out (fun b h => h)).2 (by omega)
      have HR := Lib.hid (hcc j hlt)
      obtain ⟨w6, hw6⟩ : ∃ w6, w6 = wr.alloc (.cells (segC (xs.getD j seg0)).toArray 78) := ⟨_, rfl⟩
      have HW6 := Lib.hid hw6
      have HX6 := Lib.hid (show Blk w6 wr.heap.size 78 (segC (xs.getD j seg0)).toArray by rw [hw6]; exact Blk.new wr _ _)
      have HB6 := Lib.hid (show Blk w6 w.heap.size 137 #[v] by rw [hw6]; exact HB.out.alloc _)
      have HO6 := Lib.hid (show w6.ownsRow w.heap.size 139 4 v (liveTo xs j).length ((liveTo xs j).flatMap numC) by rw [hw6]; exact HO.out.alloc _)
      have HBE6 := Lib.hid (show Below w.heap.size w w6 by rw [hw6]; exact HBEL.out.alloc HBEL.out.size _)
      clear hcc hbb hw6
      obtain ⟨st, g, u, hx⟩ : ∃ st g u, xs.getD j seg0 = (st, g, u) := ⟨_, _, _, rfl⟩
      have HXJ := Lib.hid hx
      rw [hx] at HR HW6 HX6
      clear hx
      obtain ⟨c0, c1, c2⟩ : _ ∧ _ ∧ _ := ⟨HX6.out.cell 0, HX6.out.cell 1, HX6.out.cell 2⟩
      have cB := HB6.out.cell 0
      simp only [segC, List.getElem?_toArray, List.getElem?_cons_zero, List.getElem?_cons_succ] at c0 c1 c2 cB
      by_cases h0 : st = 0
      · subst h0
        go_wp2_with (first
          | (refine wpList_load_part (.tmp 11) 78 rfl rfl b (off + j * 3) rfl (segC (0, g, u)) _ Try.underlying78 rfl size_seg HR.out ?_)
          | (refine wpList_alloc_row 78 rfl rfl (segC seg0).toArray zero_seg ?_)
          | (refine wpList_store_fresh (.tmp 5) (.tmp 12) 78 rfl rfl wr (segC seg0).toArray (segC (0, g, u)).toArray rfl rfl 78 rfl size_seg rfl (one_seg _) ?_; rw [← HW6.out]))
        go_roundw
        case rel =>
          have e : liveTo xs (j + 1) = liveTo xs j := by
            conv => lhs; unfold liveTo
            rw [HXJ.out, if_pos rfl, List.append_nil]
          refine ⟨j + 1, v, by omega, by simp, HB6.out, ?_, HBE6.out⟩
          rw [e]
          exact HO6.out
        case measure => simp [intOf]; omega
      · have hne : (st != 0) = true := by simpa using h0
        have hlive := liveTo_length xs j
        have HO7 := Lib.hid (HO6.out.alloc (.cells (numC (j, st, g, u)).toArray 139))
        have HB7 := Lib.hid (HB6.out.alloc (.cells (numC (j, st, g, u)).toArray 139))
        have HBE7 := Lib.hid (HBE6.out.alloc HBE6.out.size (.cells (numC (j, st, g, u)).toArray 139))
        have hmil : (liveTo xs j).length ≤ 1000000 := by omega
        have HNE := Lib.hid (own_blk_ne HO7.out HB7.out (by decide))
        have HBS := Lib.hid HBE7.out.size
        go_wp2_with (first
          | (refine wpList_load_part (.tmp 11) 78 rfl rfl b (off + j * 3) rfl (segC (st, g, u)) _ Try.underlying78 rfl size_seg HR.out ?_)
          | (refine wpList_load_rowB (.tmp 5) 78 rfl rfl wr.heap.size rfl 78 (segC (st, g, u)) _ Try.underlying78 rfl size_seg HX6.out ?_)
          | (refine wpList_alloc_row 78 rfl rfl (segC seg0).toArray zero_seg ?_)
          | (refine wpList_store_fresh (.tmp 5) (.tmp 12) 78 rfl rfl wr (segC seg0).toArray (segC (st, g, u)).toArray rfl rfl 78 rfl size_seg rfl (one_seg _) ?_; rw [← HW6.out])
          | (refine wpList_lit_num (.tmp 19) rfl rfl (j, st, g, u) rfl ?_)
          | (refine wpList_append_num (.tmp 16) (.tmp 20) rfl rfl w.heap.size v (liveTo xs j).length ((liveTo xs j).flatMap numC) rfl HO7.out w6.heap.size (j, st, g, u) rfl (Blk.new w6 _ _) hmil HBS.out ?_; rintro v' w8 ho8 hg8 _; obtain ⟨g', cap', rfl⟩ := ownsRow_succ ho8; have HO8 := Lib.hid ho8; have HB8 := Lib.hid (HB7.out.grown hg8 (fun e => HNE.out e.symm)); have HBE8 := Lib.hid (HBE7.out.grown hg8 HBS.out (fun k e => own_least HO7.out e)); have c8 := HB8.out.cell 0; have f8 := HB8.out.frozen 0; simp only [List.getElem?_toArray, List.getElem?_cons_zero] at c8; clear ho8 hg8))
        go_roundw
        case rel =>
          have e : liveTo xs (j + 1) = liveTo xs j ++ [(j, st, g, u)] := by
            conv => lhs; unfold liveTo
            rw [HXJ.out, if_neg h0]
          refine ⟨j + 1, _, by omega, by simp, HB8.out.set_ 0 _, ?_, HBE8.out.setCell (p := ⟨w.heap.size, 0, none⟩) (Nat.le_refl _) _⟩
          rw [e, List.length_append, List.flatMap_append, List.flatMap_singleton]
          exact ownsRow_setCell_other HO8.out (a := ⟨w.heap.size, 0, none⟩) (fun e => own_blk_ne HO8.out HB8.out (by decide) e) _
        case measure => simp [intOf]; omega
    · obtain rfl : j = n := by omega
      have hl : live xs = liveTo xs j := by unfold live; rw [HX.out.1]
      have HLV := Lib.hid hl
      have hlen := liveTo_length xs j
      clear hl
      rcases holds_own HO.out rfl with ⟨rfl, hnil⟩ | ⟨g, cap', rfl, hg1, hg2, hH⟩
      · have HNIL := Lib.hid hnil
        clear hnil
        have cB := HB.out.cell 0
        simp only [List.getElem?_toArray, List.getElem?_cons_zero] at cB
        go_wp2_with (go_at_call 111; refine (sort_none _ _ _ _).mono ?_; rintro e w' ⟨rfl, rfl⟩)
        go_ret
        exact ⟨w.heap.size, [], rfl, ⟨Nat.le_refl _, HB.out.lt, none, 0, cB, RowQ.nil _ _ _ _ _ _⟩, (by rw [HLV.out, HNIL.out]), fun i j _ h => absurd h (by simp), HBEL.out⟩
      · have hsort := sort_num g 0 cap' (liveTo xs j).toArray wr hH hg2 (by simp; omega)
        simp only [List.size_toArray] at hsort
        have HSORT := Lib.hid hsort
        have hne : g ≠ w.heap.size := fun e => own_blk_ne HO.out HB.out (by decide) (by rw [e]; rfl)
        have cB := HB.out.cell 0
        simp only [List.getElem?_toArray, List.getElem?_cons_zero] at cB
        clear hsort hH
        go_wp2_with (go_at_call 111; refine HSORT.out.mono ?_; rintro e w9 ⟨rfl, d', hs9, hp9, hr9, hh9, hg9⟩; have HS9 := Lib.hid hs9; have HP9 := Lib.hid hp9; have HR9 := Lib.hid hr9; have HH9 := Lib.hid hh9; have HG9 := Lib.hid hg9; clear hs9 hp9 hr9 hh9 hg9)
        go_ret
        have hB9 := HB.out.grown HG9.out (fun e => by injection e with e; exact hne e.symm)
        have cB9 := hB9.cell 0
        simp only [List.getElem?_toArray, List.getElem?_cons_zero] at cB9
        refine ⟨w.heap.size, d'.toList, rfl, ⟨Nat.le_refl _, hB9.lt, some ⟨g, 0, none⟩, cap', ?_, ?_⟩, (by rw [HLV.out]; exact HP9.out), ?_, HBEL.out.grown HG9.out HBEL.out.size (fun k e => by injection e with e; omega)⟩
        · rw [cB9]
          have e : d'.toList.length = (liveTo xs j).length := HS9.out
          rw [e]
        · rw [Array.length_toList]
          exact row_holds HH9.out ⟨hg1, Nat.lt_of_lt_of_le hg2 HG9.out.size⟩
        · intro i k hik hk
          have hk' : k < d'.size := by simpa using hk
          have h1 := HR9.out i k hik (by rw [← HS9.out]; exact hk')
          have e : ∀ q, q < d'.size → d'.toList.getD q num0 = d'[q]! := fun q hq => by simp [List.getD, hq]
          rw [e i (by omega), e k hk']
          exact h1

end Go.Proofs.Ytkmbbfdjdmkjpaa
