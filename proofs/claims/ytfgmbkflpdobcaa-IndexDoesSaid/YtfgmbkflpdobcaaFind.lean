/- Find: the addresses of a finger. Made by mkfind.py (the region's operations are printed from the seat). -/
import Derived.Test.YtfgmbkflpdobcaaPlace
import Derived.Test.YtfgmbkflpdobcaaAdrMem
namespace Go.Proofs.Ytfgmbkflpdobcaa
open Go.RowKit Go.Shelf
attribute [local go_sem] Oper.semAt_some
set_option linter.unusedVariables false
set_option linter.unusedSimpArgs false

section
variable {w : World} {o : Oper} {a : Act} {Q : Exit → Act → World → Prop} {K : Act → World → Prop} {E : Prop} {ops : Array Oper}
/-- '[]api.Address{x}' in a region that draws. -/
theorem step_litA (x : Operand) (ho : o.op = .buildSlice 43 1 #[(0, x)]) (hgd : Region.wanted o (yielded ops a.tmps) = true) (s : Seg) (hx : a.eval x = .agg (segC s).toArray)
    (h : ∀ w', RowZ w' (fun b => b = w.heap.size) (some ⟨w.heap.size, 0, none⟩) 1 [s] → w' = w.alloc (.cells (Adr.flatG [s]).toArray 36) → K (a.put o.dst (.slice (some ⟨w.heap.size, 0, none⟩) 1 1)) w') :
    if Region.wanted o (yielded ops a.tmps) = true then Oper.wp Try.prog o a w K Q else E := by
  have hrow : RowZ (w.alloc (.cells (Adr.flatG [s]).toArray 36)) (fun b => b = w.heap.size) (some ⟨w.heap.size, 0, none⟩) 1 [s] := Adr.ArrS.row (S := fun b => b = w.heap.size) (L := [s]) (Blk.new w _ _) rfl rfl
  rw [if_pos hgd]
  obtain ⟨i0, hi, hz0, hz1, hz2⟩ := info_parts Adr.info_seg
  refine wp_buildSlice 43 36 1 #[(0, x)] ho (Adr.flatG [s]).toArray i0 _ Try.underlying43 hi hz0 (by rw [hz1]; decide) (by rw [hz1]; decide) ?_ (h _ hrow rfl)
  rw [hz1]
  have e : (Array.map (fun (p : Nat × Operand) => (p.1, a.eval p.2)) #[(0, x)]).toList = [(0, .agg (segC s).toArray)] := by simp [hx]
  refine (congrArg _ e).trans ?_
  kernel_rfl
end
def segOf (c : Nat → Int) (k : Nat) : Seg := (c (1027 + k * 3), c (1027 + k * 3 + 1), c (1027 + k * 3 + 2))
abbrev fi0 : Oper := { dst := some 11, op := Go.Op.load 43 (Go.Operand.tmp 5), type := 43, pos := "index.go:66", after := #[], guard := none }
abbrev fi1 : Oper := { dst := some 12, op := Go.Op.load 25 (Go.Operand.tmp 2), type := 25, pos := "index.go:66", after := #[], guard := none }
abbrev fi2 : Oper := { dst := some 13, op := Go.Op.move (Go.Operand.tmp 6), type := 3, pos := "index.go:66", after := #[], guard := none }
abbrev fi3 : Oper := { dst := some 14, op := Go.Op.nilCheck (Go.Operand.tmp 12), type := 0, pos := "index.go:66", after := #[{ on := 1, ground := Go.Ground.data }], guard := none }
abbrev fi4 : Oper := { dst := some 15, op := Go.Op.fieldAddr 62 (Go.Operand.tmp 14) 3, type := 0, pos := "index.go:66", after := #[{ on := 3, ground := Go.Ground.data }], guard := none }
abbrev fi5 : Oper := { dst := some 16, op := Go.Op.indexAddr 58 (Go.Operand.tmp 15) (Go.Operand.tmp 13), type := 0, pos := "index.go:66", after := #[{ on := 4, ground := Go.Ground.data }, { on := 2, ground := Go.Ground.data }], guard := none }
abbrev fi6 : Oper := { dst := some 17, op := Go.Op.load 36 (Go.Operand.tmp 16), type := 36, pos := "index.go:66", after := #[{ on := 5, ground := Go.Ground.data }], guard := none }
abbrev fi7 : Oper := { dst := some 18, op := Go.Op.buildSlice 43 1 #[(0, Go.Operand.tmp 17)], type := 43, pos := "index.go:66", after := #[{ on := 6, ground := Go.Ground.data }], guard := none }
abbrev fi8 : Oper := { dst := some 19, op := Go.Op.call { callee := Go.Callee.builtin Go.Builtin.append, args := #[Go.Operand.tmp 11, Go.Operand.tmp 18], argTypes := #[43, 43] }, type := 43, pos := "index.go:66", after := #[{ on := 0, ground := Go.Ground.data }, { on := 7, ground := Go.Ground.data }], guard := none }
abbrev fi9 : Oper := { dst := none, op := Go.Op.store 43 (Go.Operand.tmp 5) (Go.Operand.tmp 19), type := 0, pos := "index.go:66", after := #[{ on := 8, ground := Go.Ground.data }, { on := 8, ground := Go.Ground.chain }, { on := 0, ground := Go.Ground.phase }, { on := 1, ground := Go.Ground.phase }, { on := 2, ground := Go.Ground.phase }, { on := 3, ground := Go.Ground.phase }, { on := 4, ground := Go.Ground.phase }, { on := 5, ground := Go.Ground.phase }, { on := 6, ground := Go.Ground.phase }, { on := 7, ground := Go.Ground.phase }, { on := 8, ground := Go.Ground.phase }], guard := none }

set_option maxRecDepth 100000 in
set_option maxHeartbeats 4000000 in
theorem find_any {w : World} {x f g : Nat} {c : Nat → Int} {C T : List Nat} (h : IxM w x c) (hg : f % 1024 = g) (hC : Lk 4102 c (c (5127 + g)) C) (hT : T = C.filter (fun k => c (2 + k) = (f : Int))) (hTl : T.length ≤ 1024) :
    Calls Try.prog 14 #[.pointer (some ⟨x, 0, none⟩), .int .u32 f] w fun e w' =>
      (∃ v, e = .returned v ∧ w'.ownsRow w.heap.size 36 3 v T.length (Adr.flatG (T.map (segOf c)))) ∧ Below w.heap.size w w' := by
  have hxl := h.lt
  have HX := Lib.hid h
  have HC := Lib.hid hC
  have HT := Lib.hid hT
  have HG := Lib.hid hg
  have hTm : ∀ i, i < T.length → 1 ≤ T.getD i 0 ∧ T.getD i 0 < 1025 := fun i hi => by
    have hm : T.getD i 0 ∈ T := by simp [List.getD, List.getElem?_eq_getElem hi]
    have h2 : T.getD i 0 ∈ C := by
      have h3 : ∀ k, k ∈ T → k ∈ C := fun k hk => by rw [hT] at hk; exact (List.mem_filter.1 hk).1
      exact h3 _ hm
    exact hC.mem _ h2
  have HTM := Lib.hid hTm
  clear h hC hT hg hTm
  obtain ⟨w3, hw3⟩ : ∃ w3, w3 = (w.alloc (.cells #[.pointer (some ⟨x, 0, none⟩)] 25)).alloc (.cells #[.slice none 0 0] 43) := ⟨_, rfl⟩
  have HW3 := Lib.hid hw3
  have HB3 := Lib.hid (show Below w.heap.size w w3 by rw [hw3]; exact ((Below.refl _ w).alloc (Nat.le_refl _) _).alloc (by simp) _)
  have HS3 := Lib.hid (show w3.heap.size = w.heap.size + 2 by rw [hw3]; simp)
  have HK0 := Lib.hid (show Blk w3 w.heap.size 25 #[.pointer (some ⟨x, 0, none⟩)] by rw [hw3]; exact (Blk.new w _ _).alloc _)
  have HK1 := Lib.hid (show Blk w3 (w.heap.size + 1) 43 #[.slice none 0 0] by rw [hw3]; have h := Blk.new (w.alloc (.cells #[.pointer (some ⟨x, 0, none⟩)] 25)) 43 #[.slice none 0 0]; simpa using h)
  have HH := Lib.hid (having_any (some ⟨x, 0, none⟩) f w3)
  rw [hw3] at HH
  clear hw3
  refine (callsIn_wide (n := 5)).1 ?_
  refine callsIn_of_wp_marks Try.func14 rfl trivial ?_ rfl
  simp only [Try.ntmps14, List.size_toArray, List.length_cons, List.length_nil, Nat.reduceAdd, Nat.reduceSub, Array.replicate_succ, Array.replicate_zero, List.push_toArray, List.append_toArray, List.nil_append, List.cons_append]
  gi_wp2_with (refine ⟨trivial, ?_⟩; gi_at_call 27; refine (callsIn_wide.2 HH.out).mono ?_; rintro e w5 ⟨gx, gf, hgg, rfl, bx, bf, hb5⟩)
  rw [← HW3.out] at hgg hb5
  obtain ⟨hg1, hg2, hg3, hg4⟩ := hgg
  have hs3 := HS3.out
  have hs5 := hb5.size
  have hk0 := HK0.out.below hb5 HK0.out.lt
  have hk1 := HK1.out.below hb5 HK1.out.lt
  have HB5 := Lib.hid (HB3.out.trans (hb5.mono (by omega)))
  refine range_by rfl (by omega) (gf := 36) (lb := #[.pointer (some ⟨gx, 0, none⟩), .pointer (some ⟨gf, 0, none⟩)]) rfl trivial (enters_of Try.func36 (by kernel_rfl) rfl)
    (encs := fun i => #[.int .i64 (T.getD i 0 : Nat)]) (N := T.length) (M := fun _ V => IxM V x c ∧ Blk V gx 25 #[.pointer (some ⟨x, 0, none⟩)] ∧ Blk V gf 33 #[.int .u32 f])
    (having_seq 4 gx gf x f g c C T HG.out HC.out HT.out _ (fun i V hV => ⟨hV.1, hV.2.1.cell 0, hV.2.2.cell 0⟩)) (fun _ => rfl)
    (fun i V => (Blk V w.heap.size 25 #[.pointer (some ⟨x, 0, none⟩)] ∧ ∃ v, VarO (w.heap.size + 1) 43 36 3 w.heap.size v i (Adr.flatG ((T.map (segOf c)).take i)) V) ∧ (Blk V gx 25 #[.pointer (some ⟨x, 0, none⟩)] ∧ Blk V gf 33 #[.int .u32 f]) ∧ Below w.heap.size w V)
    (fun cd i V => False)
    (OwnFrom.and (OwnFrom.and (Own.from (blk_own _ _ _) _) (Own.from (own_varO _ _ _ _ _ (fun i => i) (fun i => Adr.flatG ((T.map (segOf c)).take i))) _)) (OwnFrom.and (OwnFrom.and (Own.from (blk_own _ _ _) _) (Own.from (blk_own _ _ _) _)) (ownFrom_below (Nat.le_refl _) HB5.out.size)))
    (fun cd => own_pure _)
    ⟨⟨hk0, .slice none 0 0, hk1, by rw [List.take_zero]; exact World.ownsRow_nil _ _ _ _⟩, ⟨bx, bf⟩, HB5.out⟩
    (fun i V hV => ⟨HX.out.below hV.2.2 hxl, hV.2.1.1, hV.2.1.2⟩)
    (fun i a' W => a' = { tmps := #[.pointer (some ⟨x, 0, none⟩), .int .u32 f, .pointer (some ⟨w.heap.size, 0, none⟩), undef, .slice none 0 0, .pointer (some ⟨w.heap.size + 1, 0, none⟩), .int .i64 (T.getD i 0 : Nat), .pointer (some ⟨x, 0, none⟩), .int .u32 f, .func (.func 36) #[] #[.pointer (some ⟨gx, 0, none⟩), .pointer (some ⟨gf, 0, none⟩)], .int .i64 (T.getD i 0 : Nat), undef, undef, undef, undef, undef, undef, undef, undef, undef, undef], defers := [] })
    (fun i a' _ X Y row hs hg hr => hs)
    ?assign ?body ?done ?stop
  case assign =>
    rintro l i W K hi hI hK
    clear hi
    obtain ⟨k, hk⟩ : ∃ k, T.getD i 0 = k := ⟨_, rfl⟩
    rw [hk] at hK ⊢
    gi_wp2
    exact hK _ _ (KeepsFrom.refl _ _) hI rfl
  case body =>
    rintro l i a' W hi hl ⟨r, hr⟩ ⟨⟨h0, v, h1, ho⟩, ⟨h3, h4⟩, hB⟩ rfl
    have hTk : (T.map (segOf c)).take (i + 1) = (T.map (segOf c)).take i ++ [segOf c (T.getD i 0)] := by
      rw [List.take_add_one]
      simp [List.getD, List.getElem?_eq_getElem hi]
    obtain ⟨hk1, hk2⟩ := HTM.out i hi
    have hi1 : i + 1 ≤ 1000000 := by omega
    clear hi
    obtain ⟨k, hk⟩ : ∃ k, T.getD i 0 = k := ⟨_, rfl⟩
    rw [hk] at hk1 hk2 hTk ⊢
    have HTK := Lib.hid hTk
    have HO := Lib.hid ho
    have hX := HX.out.below hB hxl
    clear hk hTk ho
    have h10 := HB5.out.size
    have hBs := hB.size
    gi_wp2
    refine Tillst.calm (fun V => Blk V (w.heap.size + 1) 43 #[v] ∧ Blk V w.heap.size 25 #[.pointer (some ⟨x, 0, none⟩)] ∧ IxM V x c) [9] (by kernel_rfl) (by kernel_rfl) ⟨h1, h0, hX⟩ (fun hHeld => ?_)
    refine Tillst.take (i := 0) (oi := fi0) (v := ?_) rfl (by kernel_rfl) (by kernel_rfl) (by kernel_rfl) (by kernel_rfl) (fun _ _ _ h => h) (by rfl) ?_ hHeld ?_
    rotate_left
    · intro W hSW; obtain ⟨s1, s2, s3⟩ := hSW; have s4 := s1.cell 0; have s5 := s2.cell 0; have s6 := s3.adr0 hk2; have s7 := s3.adr1 hk2; have s8 := s3.adr2 hk2; have s9 : (k : Int) < 1025 := (by omega); unfold fi0; go_simp; with_reducible rfl
    simp only [fi0, Act.put, List.setIfInBounds_toArray, List.set_cons_zero, List.set_cons_succ]
    refine Tillst.take (i := 1) (oi := fi1) (v := ?_) rfl (by kernel_rfl) (by kernel_rfl) (by kernel_rfl) (by kernel_rfl) (fun _ _ _ h => h) (by rfl) ?_ hHeld ?_
    rotate_left
    · intro W hSW; obtain ⟨s1, s2, s3⟩ := hSW; have s4 := s1.cell 0; have s5 := s2.cell 0; have s6 := s3.adr0 hk2; have s7 := s3.adr1 hk2; have s8 := s3.adr2 hk2; have s9 : (k : Int) < 1025 := (by omega); unfold fi1; go_simp; with_reducible rfl
    simp only [fi1, Act.put, List.setIfInBounds_toArray, List.set_cons_zero, List.set_cons_succ]
    refine Tillst.take (i := 2) (oi := fi2) (v := ?_) rfl (by kernel_rfl) (by kernel_rfl) (by kernel_rfl) (by kernel_rfl) (fun _ _ _ h => h) (by rfl) ?_ hHeld ?_
    rotate_left
    · intro W hSW; obtain ⟨s1, s2, s3⟩ := hSW; have s4 := s1.cell 0; have s5 := s2.cell 0; have s6 := s3.adr0 hk2; have s7 := s3.adr1 hk2; have s8 := s3.adr2 hk2; have s9 : (k : Int) < 1025 := (by omega); unfold fi2; go_simp; with_reducible rfl
    simp only [fi2, Act.put, List.setIfInBounds_toArray, List.set_cons_zero, List.set_cons_succ]
    refine Tillst.take (i := 3) (oi := fi3) (v := ?_) rfl (by kernel_rfl) (by kernel_rfl) (by kernel_rfl) (by kernel_rfl) (fun _ _ _ h => h) (by rfl) ?_ hHeld ?_
    rotate_left
    · intro W hSW; obtain ⟨s1, s2, s3⟩ := hSW; have s4 := s1.cell 0; have s5 := s2.cell 0; have s6 := s3.adr0 hk2; have s7 := s3.adr1 hk2; have s8 := s3.adr2 hk2; have s9 : (k : Int) < 1025 := (by omega); unfold fi3; go_simp; with_reducible rfl
    simp only [fi3, Act.put, List.setIfInBounds_toArray, List.set_cons_zero, List.set_cons_succ]
    refine Tillst.take (i := 4) (oi := fi4) (v := ?_) rfl (by kernel_rfl) (by kernel_rfl) (by kernel_rfl) (by kernel_rfl) (fun _ _ _ h => h) (by rfl) ?_ hHeld ?_
    rotate_left
    · intro W hSW; obtain ⟨s1, s2, s3⟩ := hSW; have s4 := s1.cell 0; have s5 := s2.cell 0; have s6 := s3.adr0 hk2; have s7 := s3.adr1 hk2; have s8 := s3.adr2 hk2; have s9 : (k : Int) < 1025 := (by omega); unfold fi4; go_simp; with_reducible rfl
    simp only [fi4, Act.put, List.setIfInBounds_toArray, List.set_cons_zero, List.set_cons_succ]
    refine Tillst.take (i := 5) (oi := fi5) (v := ?_) rfl (by kernel_rfl) (by kernel_rfl) (by kernel_rfl) (by kernel_rfl) (fun _ _ _ h => h) (by rfl) ?_ hHeld ?_
    rotate_left
    · intro W hSW; obtain ⟨s1, s2, s3⟩ := hSW; have s4 := s1.cell 0; have s5 := s2.cell 0; have s6 := s3.adr0 hk2; have s7 := s3.adr1 hk2; have s8 := s3.adr2 hk2; have s9 : (k : Int) < 1025 := (by omega); unfold fi5; go_simp; with_reducible rfl
    simp only [fi5, Act.put, List.setIfInBounds_toArray, List.set_cons_zero, List.set_cons_succ]
    refine Tillst.take (i := 6) (oi := fi6) (v := ?_) rfl (by kernel_rfl) (by kernel_rfl) (by kernel_rfl) (by kernel_rfl) (fun _ _ _ h => h) (by rfl) ?_ hHeld ?_
    rotate_left
    · intro W hSW; obtain ⟨s1, s2, s3⟩ := hSW; have s4 := s1.cell 0; have s5 := s2.cell 0; have s6 := s3.adr0 hk2; have s7 := s3.adr1 hk2; have s8 := s3.adr2 hk2; have s9 : (k : Int) < 1025 := (by omega); unfold fi6; go_simp; with_reducible rfl
    simp only [fi6, Act.put, List.setIfInBounds_toArray, List.set_cons_zero, List.set_cons_succ]
    refine Tillst.one (i := 7) (o := fi7) (by kernel_rfl) rfl ?_
    intro K hK
    refine step_litA (.tmp 17) rfl rfl (segOf c k) rfl ?_
    intro W7 hlit hW7
    have HLIT := Lib.hid hlit
    have hs7 : W7.heap.size = W.heap.size + 1 := by rw [hW7, World.size_alloc]; rfl
    have hb7 : Below W.heap.size W W7 := by rw [hW7]; exact (Below.refl W.heap.size W).drew.alloc (Nat.le_refl _) _
    have hkeep7 : KeepsOthers W W7 := by rw [hW7]; exact (KeepsOthers.drew W).trans (KeepsOthers.alloc _ _)
    have HO7 := Lib.hid (show W7.ownsRow w.heap.size 36 3 v i (Adr.flatG ((T.map (segOf c)).take i)) from ownsRow_grown (row := none) HO.out (by rw [hW7]; exact grown_drewalloc _ _) (fun g hg e => by cases e))
    clear hlit hW7
    simp only [fi7, Act.put, List.setIfInBounds_toArray, List.set_cons_zero, List.set_cons_succ]
    refine hK.out _ _ (fun _ => ⟨h1.below hb7 h1.lt, h0.below hb7 h0.lt, hX.below hb7 hX.lt⟩) (fun hHeld => ?_)
    clear hHeld hK K
    refine Tillst.one (i := 8) (o := fi8) (by kernel_rfl) rfl ?_
    intro K hK
    refine Adr.step_append_rowZ (.tmp 11) (.tmp 18) rfl rfl w.heap.size v i _ rfl HO7.out (fun b => b = W.drew.heap.size) _ 1 1 [segOf c k] rfl HLIT.out (fun h => by cases h) (by omega) (by omega) ?_
    intro v8 W8 hown hgrow _
    obtain ⟨A8, c8, rfl⟩ := ownsRow_slice hown
    rw [← Adr.flatG_append, ← HTK.out] at hown
    have h17 := h1.below hb7 h1.lt
    have h18 := blk_past h17 HO7.out (by decide) hgrow
    have h08 := blk_past (h0.below hb7 h0.lt) HO7.out (by decide) hgrow
    have hX8 : IxM W8 x c := blk_past (hX.below hb7 hX.lt) HO7.out (by decide) hgrow
    have hkeep8 := hkeep7.trans (keeps_append HO7.out hgrow)
    have hB8 := below_append (hB.trans (hb7.mono hBs)) HO7.out (Nat.le_refl _) (by omega) hgrow
    have h38 := blk_past (h3.below hb7 h3.lt) HO7.out (by decide) hgrow
    have h48 := blk_past (h4.below hb7 h4.lt) HO7.out (by decide) hgrow
    have HOW := Lib.hid hown
    clear hown hgrow
    simp only [fi8, Act.put, List.setIfInBounds_toArray, List.set_cons_zero, List.set_cons_succ]
    refine hK.out _ _ (fun _ => ⟨h18, h08, hX8⟩) (fun hHeld => ?_)
    clear hHeld hK K
    refine Tillst.one (i := 9) (o := fi9) (by kernel_rfl) rfl ?_
    intro K hK
    refine step_store_cell (.tmp 5) (.tmp 19) 43 (by with_reducible rfl) (by rfl) ⟨w.heap.size + 1, 0, none⟩ (.slice A8 (i + 1) c8) (by rfl) (by rfl) ?_ ?_
    · have f18 := h18.frozen 0
      have c18 := h18.cell 0
      go_simp
    simp only [fi9, Act.put]
    have HF := Lib.hid ((KeepsOthers.trans hkeep8 (KeepsOthers.setCell W8 ⟨w.heap.size + 1, 0, none⟩ (.slice A8 (i + 1) c8))).from w5.heap.size)
    have n1 : (w.heap.size : Nat) ≠ w.heap.size + 1 := by omega
    have n2 : gx ≠ w.heap.size + 1 := by omega
    have n3 : gf ≠ w.heap.size + 1 := by omega
    have HI := Lib.hid (show (Blk (W8.setCell ⟨w.heap.size + 1, 0, none⟩ (.slice A8 (i + 1) c8)) w.heap.size 25 #[.pointer (some ⟨x, 0, none⟩)] ∧ ∃ v, VarO (w.heap.size + 1) 43 36 3 w.heap.size v (i + 1) (Adr.flatG ((T.map (segOf c)).take (i + 1))) (W8.setCell ⟨w.heap.size + 1, 0, none⟩ (.slice A8 (i + 1) c8))) ∧ (Blk (W8.setCell ⟨w.heap.size + 1, 0, none⟩ (.slice A8 (i + 1) c8)) gx 25 #[.pointer (some ⟨x, 0, none⟩)] ∧ Blk (W8.setCell ⟨w.heap.size + 1, 0, none⟩ (.slice A8 (i + 1) c8)) gf 33 #[.int .u32 f]) ∧ Below w.heap.size w (W8.setCell ⟨w.heap.size + 1, 0, none⟩ (.slice A8 (i + 1) c8)) from
      ⟨⟨h08.far (p := ⟨w.heap.size + 1, 0, none⟩) n1 _, (.slice A8 (i + 1) c8), h18.set_ 0 (.slice A8 (i + 1) c8), own_past HOW.out h18 (by decide) 0 (.slice A8 (i + 1) c8)⟩, ⟨h38.far (p := ⟨w.heap.size + 1, 0, none⟩) n2 _, h48.far (p := ⟨w.heap.size + 1, 0, none⟩) n3 _⟩, hB8.setCell (p := ⟨w.heap.size + 1, 0, none⟩) (by simp) _⟩)
    refine hK.out _ _ (fun h => absurd h (by decide)) (fun _ => ?_)
    clear hK K
    refine Tillst.done (by kernel_rfl) ?_ _
    exact ⟨HF.out, HI.out⟩
  case done =>
    rintro D W hD ⟨⟨h0, v, h1, ho⟩, ⟨h3, h4⟩, hB⟩ hK
    have c1 : W.cell? ⟨w.heap.size + 1, 0, none⟩ = some v := h1.cell 0
    rw [show (T.map (segOf c)).take T.length = T.map (segOf c) by rw [List.take_of_length_le (by simp)]] at ho
    gi_wp2
    refine ⟨by simp, .inl ⟨_, _, rfl, run_takeDeferred hK, ?_⟩⟩
    refine ⟨v, ?_, ⟨v, rfl, ownsRow_grown ho (grownBy_putObj' _ D (.deferred none)) (fun g hg e => ?_)⟩, hB.trans (belowK_b (w := w) (Nat.le_refl _) W D _ _ (Nat.le_trans HB5.out.size hD) hK rfl rfl)⟩
    · simp [results, Try.f14, go_sem]
    · cases e
      obtain ⟨cur, hh, _⟩ := ownsRow_block ho hg
      rw [hK] at hh
      cases hh
  case stop =>
    rintro D cd i W _ _ h _
    exact h.elim
end Go.Proofs.Ytfgmbkflpdobcaa
