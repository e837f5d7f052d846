/- All: the entries in their order, as they were. MADE by mkall.py. -/
import Derived.Test.YtfgmbkflpdobcaaDrop
namespace Go.Proofs.Ytfgmbkflpdobcaa
open Go.RowKit Go.Shelf
attribute [local go_sem] Oper.semAt_some
set_option linter.unusedVariables false
set_option linter.unusedSimpArgs false
theorem NoPO.normal {Q : Exit → Act → World → Prop} {a : Act} {w : World} (h : Q .normal a w) : NoPO Q .normal a w := h
theorem own_past_own {w w' : World} {base size n base2 size2 n2 : Nat} {e e2 : TypeId} {v v2 : Value} {xs xs2 : List Value} (h2 : w.ownsRow base2 e2 size2 v2 n2 xs2) (ho : w.ownsRow base e size v n xs) (hne : e2 ≠ e) (hg : w.grownBy w' v.ownBlock) : w'.ownsRow base2 e2 size2 v2 n2 xs2 :=
  ownsRow_grown h2 hg (fun g hg2 h => by
    obtain ⟨c1, h1, _⟩ := ownsRow_block h2 hg2
    obtain ⟨c3, h3, _⟩ := ownsRow_block ho h
    rw [h1] at h3
    cases h3
    exact hne rfl)
section
variable {w : World} {o : Oper} {a : Act} {Q : Exit → Act → World → Prop} {K : Act → World → Prop} {E : Prop} {ops : Array Oper}
theorem info_u32 : (Try.prog.info? 33).map (fun i => (i.zero, i.size, i.bytes)) = some (some (.int .u32 0), 1, 4) := by kernel_rfl
/-- '[]uint32{x}' in a region that draws. -/
theorem step_lit32 (x : Operand) (ho : o.op = .buildSlice 72 1 #[(0, x)]) (hgd : Region.wanted o (yielded ops a.tmps) = true) (v : Int) (hx : a.eval x = .int .u32 v)
    (h : ∀ w', RowG (Value.int .u32) 0 w' (· = w.heap.size) (some ⟨w.heap.size, 0, none⟩) 1 [v] → w' = w.alloc (.cells #[.int .u32 v] 33) → K (a.put o.dst (.slice (some ⟨w.heap.size, 0, none⟩) 1 1)) w') : if Region.wanted o (yielded ops a.tmps) = true then Oper.wp Try.prog o a w K Q else E := by
  obtain ⟨i0, hi, hz0, hz1, hz2⟩ := info_parts info_u32
  rw [if_pos hgd]
  refine wp_buildSlice 72 33 1 #[(0, x)] ho #[.int .u32 v] i0 _ Try.underlying72 hi hz0 (by rw [hz1]; decide) (by rw [hz1]; decide) ?_ (h _ (row_new1 (Value.int .u32) 0 w _ v) rfl)
  rw [hz1]
  have e : (Array.map (fun (p : Nat × Operand) => (p.1, a.eval p.2)) #[(0, x)]).toList = [(0, .int .u32 v)] := by simp [hx]
  refine (congrArg _ e).trans ?_
  kernel_rfl
end
abbrev al0 : Oper := { dst := some 9, op := Go.Op.load 72 (Go.Operand.tmp 3), type := 72, pos := "index.go:117", after := #[], guard := none }
abbrev al1 : Oper := { dst := some 10, op := Go.Op.load 25 (Go.Operand.tmp 1), type := 25, pos := "index.go:117", after := #[], guard := none }
abbrev al2 : Oper := { dst := some 11, op := Go.Op.move (Go.Operand.tmp 5), type := 3, pos := "index.go:117", after := #[], guard := none }
abbrev al3 : Oper := { dst := some 12, op := Go.Op.nilCheck (Go.Operand.tmp 10), type := 0, pos := "index.go:117", after := #[{ on := 1, ground := Go.Ground.data }], guard := none }
abbrev al4 : Oper := { dst := some 13, op := Go.Op.fieldAddr 62 (Go.Operand.tmp 12) 2, type := 0, pos := "index.go:117", after := #[{ on := 3, ground := Go.Ground.data }], guard := none }
abbrev al5 : Oper := { dst := some 14, op := Go.Op.indexAddr 57 (Go.Operand.tmp 13) (Go.Operand.tmp 11), type := 0, pos := "index.go:117", after := #[{ on := 4, ground := Go.Ground.data }, { on := 2, ground := Go.Ground.data }], guard := none }
abbrev al6 : Oper := { dst := some 15, op := Go.Op.load 33 (Go.Operand.tmp 14), type := 33, pos := "index.go:117", after := #[{ on := 5, ground := Go.Ground.data }], guard := none }
abbrev al7 : Oper := { dst := some 16, op := Go.Op.buildSlice 72 1 #[(0, Go.Operand.tmp 15)], type := 72, pos := "index.go:117", after := #[{ on := 6, ground := Go.Ground.data }], guard := none }
abbrev al8 : Oper := { dst := some 17, op := Go.Op.call { callee := Go.Callee.builtin Go.Builtin.append, args := #[Go.Operand.tmp 9, Go.Operand.tmp 16], argTypes := #[72, 72] }, type := 72, pos := "index.go:117", after := #[{ on := 0, ground := Go.Ground.data }, { on := 7, ground := Go.Ground.data }], guard := none }
abbrev al9 : Oper := { dst := none, op := Go.Op.store 72 (Go.Operand.tmp 3) (Go.Operand.tmp 17), type := 0, pos := "index.go:117", after := #[{ on := 8, ground := Go.Ground.data }, { on := 8, ground := Go.Ground.chain }, { on := 0, ground := Go.Ground.phase }, { on := 1, ground := Go.Ground.phase }, { on := 2, ground := Go.Ground.phase }, { on := 3, ground := Go.Ground.phase }, { on := 4, ground := Go.Ground.phase }, { on := 5, ground := Go.Ground.phase }, { on := 6, ground := Go.Ground.phase }, { on := 7, ground := Go.Ground.phase }, { on := 8, ground := Go.Ground.phase }], guard := none }
abbrev am0 : Oper := { dst := some 18, op := Go.Op.load 43 (Go.Operand.tmp 4), type := 43, pos := "index.go:118", after := #[], guard := none }
abbrev am1 : Oper := { dst := some 19, op := Go.Op.load 25 (Go.Operand.tmp 1), type := 25, pos := "index.go:118", after := #[], guard := none }
abbrev am2 : Oper := { dst := some 20, op := Go.Op.move (Go.Operand.tmp 5), type := 3, pos := "index.go:118", after := #[], guard := none }
abbrev am3 : Oper := { dst := some 21, op := Go.Op.nilCheck (Go.Operand.tmp 19), type := 0, pos := "index.go:118", after := #[{ on := 1, ground := Go.Ground.data }], guard := none }
abbrev am4 : Oper := { dst := some 22, op := Go.Op.fieldAddr 62 (Go.Operand.tmp 21) 3, type := 0, pos := "index.go:118", after := #[{ on := 3, ground := Go.Ground.data }], guard := none }
abbrev am5 : Oper := { dst := some 23, op := Go.Op.indexAddr 58 (Go.Operand.tmp 22) (Go.Operand.tmp 20), type := 0, pos := "index.go:118", after := #[{ on := 4, ground := Go.Ground.data }, { on := 2, ground := Go.Ground.data }], guard := none }
abbrev am6 : Oper := { dst := some 24, op := Go.Op.load 36 (Go.Operand.tmp 23), type := 36, pos := "index.go:118", after := #[{ on := 5, ground := Go.Ground.data }], guard := none }
abbrev am7 : Oper := { dst := some 25, op := Go.Op.buildSlice 43 1 #[(0, Go.Operand.tmp 24)], type := 43, pos := "index.go:118", after := #[{ on := 6, ground := Go.Ground.data }], guard := none }
abbrev am8 : Oper := { dst := some 26, op := Go.Op.call { callee := Go.Callee.builtin Go.Builtin.append, args := #[Go.Operand.tmp 18, Go.Operand.tmp 25], argTypes := #[43, 43] }, type := 43, pos := "index.go:118", after := #[{ on := 0, ground := Go.Ground.data }, { on := 7, ground := Go.Ground.data }], guard := none }
abbrev am9 : Oper := { dst := none, op := Go.Op.store 43 (Go.Operand.tmp 4) (Go.Operand.tmp 26), type := 0, pos := "index.go:118", after := #[{ on := 8, ground := Go.Ground.data }, { on := 8, ground := Go.Ground.chain }, { on := 0, ground := Go.Ground.phase }, { on := 1, ground := Go.Ground.phase }, { on := 2, ground := Go.Ground.phase }, { on := 3, ground := Go.Ground.phase }, { on := 4, ground := Go.Ground.phase }, { on := 5, ground := Go.Ground.phase }, { on := 6, ground := Go.Ground.phase }, { on := 7, ground := Go.Ground.phase }, { on := 8, ground := Go.Ground.phase }], guard := none }

/-- What All has gathered of the first i. -/
def AllI (c : Nat → Int) (L : List Nat) (w : World) (x gx i : Nat) (V : World) : Prop :=
  ((Blk V w.heap.size 25 #[.pointer (some ⟨x, 0, none⟩)] ∧ ∃ v, VarO (w.heap.size + 1) 72 33 1 w.heap.size v i (((L.take i).map (fun k => c (2 + k))).map (Value.int .u32)) V) ∧ ∃ v, VarO (w.heap.size + 1 + 1) 43 36 3 w.heap.size v i (Adr.flatG ((L.map (segOf c)).take i)) V) ∧ Blk V gx 25 #[.pointer (some ⟨x, 0, none⟩)] ∧ Below w.heap.size w V
set_option maxRecDepth 100000 in
set_option maxHeartbeats 8000000 in
theorem all_any {w : World} {x slots : Nat} {c : Nat → Int} {L fr : List Nat} (h : IxM w x c) (hr : RepX c slots L fr) :
    Calls Try.prog 19 #[.pointer (some ⟨x, 0, none⟩)] w fun e w' => ∃ g1 g2 v1 v2, e = .returned (.func (.func 33) #[] #[.pointer (some ⟨g1, 0, none⟩), .pointer (some ⟨g2, 0, none⟩)]) ∧
      VarO g1 72 33 1 w.heap.size v1 L.length ((L.map (fun k => c (2 + k))).map (Value.int .u32)) w' ∧ VarO g2 43 36 3 w.heap.size v2 L.length (Adr.flatG (L.map (segOf c))) w' ∧ Below w.heap.size w w' ∧ w.heap.size ≤ g1 ∧ w.heap.size ≤ g2 := by
  have hxl := h.lt
  have hLl : L.length ≤ 1024 := by have := hr.all; have := hr.top; omega
  have HLM := Lib.hid (fun k (hk : k ∈ L) => hr.memL hk)
  have HND := Lib.hid hr.ndL
  have HX := Lib.hid h
  have HNX := Lib.hid (show (∀ i, i < L.length → c (6152 + L.getD i 0) = (L.getD (i + 1) 0 : Nat)) ∧ c 6152 = (L.getD 0 0 : Nat) from ⟨fun i hi => by
      have hlat := hr.lat
      have e : L = L.take i ++ L.getD i 0 :: L.drop (i + 1) := by
        conv => lhs; rw [← List.take_append_drop i L]
        rw [List.drop_eq_getElem_cons hi]
        simp [List.getD, List.getElem?_eq_getElem hi]
      rw [e] at hlat
      have h1 := (next_of hlat).headD
      rwa [headD_drop] at h1, by
      have h1 := hr.lat.headD
      have h2 := headD_drop L 0
      rw [List.drop_zero] at h2
      rwa [h2] at h1⟩)
  have HLT := Lib.hid (fun i (hi : i < L.length) => HLM.out (L.getD i 0) (by simp only [List.getD, List.getElem?_eq_getElem hi, Option.getD_some]; exact List.getElem_mem hi))
  clear h hr
  obtain ⟨w3, hw3⟩ : ∃ w3, w3 = ((w.alloc (.cells #[.pointer (some ⟨x, 0, none⟩)] 25)).alloc (.cells #[.slice none 0 0] 72)).alloc (.cells #[.slice none 0 0] 43) := ⟨_, rfl⟩
  have HW3 := Lib.hid hw3
  have HB3 := Lib.hid (show Below w.heap.size w w3 by rw [hw3]; exact (((Below.refl _ w).alloc (Nat.le_refl _) _).alloc (by simp) _).alloc (by simp; omega) _)
  have HS3 := Lib.hid (show w3.heap.size = w.heap.size + 3 by rw [hw3]; simp)
  have HK0 := Lib.hid (show Blk w3 w.heap.size 25 #[.pointer (some ⟨x, 0, none⟩)] by rw [hw3]; exact ((Blk.new w _ _).alloc _).alloc _)
  have HK1 := Lib.hid (show Blk w3 (w.heap.size + 1) 72 #[.slice none 0 0] by rw [hw3]; have h := (Blk.new (w.alloc (.cells #[.pointer (some ⟨x, 0, none⟩)] 25)) 72 #[.slice none 0 0]).alloc (.cells #[.slice none 0 0] 43); simpa using h)
  have HK2 := Lib.hid (show Blk w3 (w.heap.size + 1 + 1) 43 #[.slice none 0 0] by rw [hw3]; have h := Blk.new ((w.alloc (.cells #[.pointer (some ⟨x, 0, none⟩)] 25)).alloc (.cells #[.slice none 0 0] 72)) 43 #[.slice none 0 0]; simpa using h)
  have HH := Lib.hid (inOrder_any (some ⟨x, 0, none⟩) w3)
  rw [hw3] at HH
  clear hw3
  refine (callsIn_wide (n := 5)).1 ?_
  refine callsIn_of_wp_marks Try.func19 rfl trivial ?_ rfl
  simp only [Try.ntmps19, List.size_toArray, List.length_cons, List.length_nil, Nat.reduceAdd, Nat.reduceSub, Array.replicate_succ, Array.replicate_zero, List.push_toArray, List.append_toArray, List.nil_append, List.cons_append]
  gi_wp2_with (refine ⟨trivial, ?_⟩; gi_at_call 32; refine (callsIn_wide.2 HH.out).mono ?_; rintro e w5 ⟨gx, hgg, rfl, bx, hb5⟩)
  rw [← HW3.out] at hgg hb5
  obtain ⟨hg1, hg2⟩ := hgg
  have hs3 := HS3.out
  have hs5 := hb5.size
  have hk0 := HK0.out.below hb5 HK0.out.lt
  have hk1 := HK1.out.below hb5 HK1.out.lt
  have hk2 := HK2.out.below hb5 HK2.out.lt
  have HB5 := Lib.hid (HB3.out.trans (hb5.mono (by omega)))
  refine range_by rfl (by omega) (gf := 38) (lb := #[.pointer (some ⟨gx, 0, none⟩)]) rfl trivial (enters_of Try.func38 (by kernel_rfl) rfl)
    (encs := fun i => #[.int .i64 (L.getD i 0 : Nat)]) (N := L.length) (M := fun i V => Blk V gx 25 #[.pointer (some ⟨x, 0, none⟩)] ∧ IxM V x c)
    (order_seq 4 gx x L HND.out HLM.out _ (fun i V hV => ⟨hV.1.cell 0, fun hi => by rw [← HNX.out.1 i hi]; exact hV.2.hi (by have := HLT.out i hi; omega) (by have := HLT.out i hi; omega)⟩) (fun V hV => by rw [← HNX.out.2]; exact hV.2.hi (by omega) (by omega))) (fun _ => rfl)
    (fun i V => AllI c L w x gx i V)
    (fun cd i V => False)
    (OwnFrom.and (OwnFrom.and (OwnFrom.and (Own.from (blk_own _ _ _) _) (Own.from (own_varO _ _ _ _ _ (fun i => i) (fun i => ((L.take i).map (fun k => c (2 + k))).map (Value.int .u32))) _)) (Own.from (own_varO _ _ _ _ _ (fun i => i) (fun i => Adr.flatG ((L.map (segOf c)).take i))) _)) (OwnFrom.and (Own.from (blk_own _ _ _) _) (ownFrom_below (Nat.le_refl _) HB5.out.size)))
    (fun cd => own_pure _)
    ⟨⟨⟨hk0, .slice none 0 0, hk1, World.ownsRow_nil _ _ _ _⟩, .slice none 0 0, hk2, by rw [List.take_zero]; exact World.ownsRow_nil _ _ _ _⟩, bx, HB5.out⟩
    (fun i V hV => ⟨hV.2.1, HX.out.below hV.2.2 hxl⟩)
    (fun i a' W => a' = { tmps := #[.pointer (some ⟨x, 0, none⟩), .pointer (some ⟨w.heap.size, 0, none⟩), Value.nilFunc, .pointer (some ⟨w.heap.size + 1, 0, none⟩), .pointer (some ⟨w.heap.size + 1 + 1, 0, none⟩), .int .i64 (L.getD i 0 : Nat), .pointer (some ⟨x, 0, none⟩), .func (.func 38) #[] #[.pointer (some ⟨gx, 0, none⟩)], .int .i64 (L.getD i 0 : Nat), undef, undef, undef, undef, undef, undef, undef, undef, undef, undef, undef, undef, undef, undef, undef, undef, undef, undef, undef], defers := [] })
    (fun i a' _ X Y row hs hg hr => hs)
    ?assign ?body ?done ?stop
  case assign =>
    rintro l i W K hi hI hK
    clear hi
    obtain ⟨k, hk⟩ : ∃ k, L.getD i 0 = k := ⟨_, rfl⟩
    rw [hk] at hK ⊢
    gi_wp2
    exact hK _ _ (KeepsFrom.refl _ _) hI rfl
  case body =>
    rintro l i a' W hi hl ⟨r, hr⟩ ⟨⟨⟨h0, v, h1, ho⟩, v2, h2, ho2⟩, h3, hB⟩ rfl
    have hTk : (L.map (segOf c)).take (i + 1) = (L.map (segOf c)).take i ++ [segOf c (L.getD i 0)] := by
      rw [List.take_add_one]
      simp [List.getD, List.getElem?_eq_getElem hi]
    have hTf : ((L.take (i + 1)).map (fun k => c (2 + k))).map (Value.int .u32) = ((L.take i).map (fun k => c (2 + k))).map (Value.int .u32) ++ [c (2 + L.getD i 0)].map (Value.int .u32) := by
      have e : L.take (i + 1) = L.take i ++ [L.getD i 0] := by
        rw [List.take_add_one]
        simp [List.getD, List.getElem?_eq_getElem hi]
      rw [e, List.map_append, List.map_append]
      rfl
    obtain ⟨hk1, hk2⟩ := HLT.out i hi
    have hi1 : i + 1 ≤ 1000000 := by omega
    clear hi
    obtain ⟨k, hk⟩ : ∃ k, L.getD i 0 = k := ⟨_, rfl⟩
    rw [hk] at hk1 hk2 hTk hTf ⊢
    have HTK := Lib.hid hTk
    have HTF := Lib.hid hTf
    have HO := Lib.hid ho
    have HOO := Lib.hid ho2
    have hX := HX.out.below hB hxl
    clear hk hTk hTf ho ho2
    have h10 := HB5.out.size
    have hBs := hB.size
    gi_wp2
    refine Tillst.calm (fun V => Blk V (w.heap.size + 1) 72 #[v] ∧ Blk V w.heap.size 25 #[.pointer (some ⟨x, 0, none⟩)] ∧ IxM V x c) [9] (by kernel_rfl) (by kernel_rfl) ⟨h1, h0, hX⟩ (fun hHeld => ?_)
    refine Tillst.take (i := 0) (oi := al0) (v := ?_) rfl (by kernel_rfl) (by kernel_rfl) (by kernel_rfl) (by kernel_rfl) (fun _ _ _ h => h) (by rfl) ?_ hHeld ?_
    rotate_left
    · intro W hSW; obtain ⟨s1, s2, s3⟩ := hSW; have s4 := s1.cell 0; have s5 := s2.cell 0; have s0 := s3.fing hk2; have s6 := s3.adr0 hk2; have s7 := s3.adr1 hk2; have s8 := s3.adr2 hk2; have s9 : (k : Int) < 1025 := (by omega); unfold al0; go_simp; with_reducible rfl
    simp only [al0, Act.put, List.setIfInBounds_toArray, List.set_cons_zero, List.set_cons_succ]
    refine Tillst.take (i := 1) (oi := al1) (v := ?_) rfl (by kernel_rfl) (by kernel_rfl) (by kernel_rfl) (by kernel_rfl) (fun _ _ _ h => h) (by rfl) ?_ hHeld ?_
    rotate_left
    · intro W hSW; obtain ⟨s1, s2, s3⟩ := hSW; have s4 := s1.cell 0; have s5 := s2.cell 0; have s0 := s3.fing hk2; have s6 := s3.adr0 hk2; have s7 := s3.adr1 hk2; have s8 := s3.adr2 hk2; have s9 : (k : Int) < 1025 := (by omega); unfold al1; go_simp; with_reducible rfl
    simp only [al1, Act.put, List.setIfInBounds_toArray, List.set_cons_zero, List.set_cons_succ]
    refine Tillst.take (i := 2) (oi := al2) (v := ?_) rfl (by kernel_rfl) (by kernel_rfl) (by kernel_rfl) (by kernel_rfl) (fun _ _ _ h => h) (by rfl) ?_ hHeld ?_
    rotate_left
    · intro W hSW; obtain ⟨s1, s2, s3⟩ := hSW; have s4 := s1.cell 0; have s5 := s2.cell 0; have s0 := s3.fing hk2; have s6 := s3.adr0 hk2; have s7 := s3.adr1 hk2; have s8 := s3.adr2 hk2; have s9 : (k : Int) < 1025 := (by omega); unfold al2; go_simp; with_reducible rfl
    simp only [al2, Act.put, List.setIfInBounds_toArray, List.set_cons_zero, List.set_cons_succ]
    refine Tillst.take (i := 3) (oi := al3) (v := ?_) rfl (by kernel_rfl) (by kernel_rfl) (by kernel_rfl) (by kernel_rfl) (fun _ _ _ h => h) (by rfl) ?_ hHeld ?_
    rotate_left
    · intro W hSW; obtain ⟨s1, s2, s3⟩ := hSW; have s4 := s1.cell 0; have s5 := s2.cell 0; have s0 := s3.fing hk2; have s6 := s3.adr0 hk2; have s7 := s3.adr1 hk2; have s8 := s3.adr2 hk2; have s9 : (k : Int) < 1025 := (by omega); unfold al3; go_simp; with_reducible rfl
    simp only [al3, Act.put, List.setIfInBounds_toArray, List.set_cons_zero, List.set_cons_succ]
    refine Tillst.take (i := 4) (oi := al4) (v := ?_) rfl (by kernel_rfl) (by kernel_rfl) (by kernel_rfl) (by kernel_rfl) (fun _ _ _ h => h) (by rfl) ?_ hHeld ?_
    rotate_left
    · intro W hSW; obtain ⟨s1, s2, s3⟩ := hSW; have s4 := s1.cell 0; have s5 := s2.cell 0; have s0 := s3.fing hk2; have s6 := s3.adr0 hk2; have s7 := s3.adr1 hk2; have s8 := s3.adr2 hk2; have s9 : (k : Int) < 1025 := (by omega); unfold al4; go_simp; with_reducible rfl
    simp only [al4, Act.put, List.setIfInBounds_toArray, List.set_cons_zero, List.set_cons_succ]
    refine Tillst.take (i := 5) (oi := al5) (v := ?_) rfl (by kernel_rfl) (by kernel_rfl) (by kernel_rfl) (by kernel_rfl) (fun _ _ _ h => h) (by rfl) ?_ hHeld ?_
    rotate_left
    · intro W hSW; obtain ⟨s1, s2, s3⟩ := hSW; have s4 := s1.cell 0; have s5 := s2.cell 0; have s0 := s3.fing hk2; have s6 := s3.adr0 hk2; have s7 := s3.adr1 hk2; have s8 := s3.adr2 hk2; have s9 : (k : Int) < 1025 := (by omega); unfold al5; go_simp; with_reducible rfl
    simp only [al5, Act.put, List.setIfInBounds_toArray, List.set_cons_zero, List.set_cons_succ]
    refine Tillst.take (i := 6) (oi := al6) (v := ?_) rfl (by kernel_rfl) (by kernel_rfl) (by kernel_rfl) (by kernel_rfl) (fun _ _ _ h => h) (by rfl) ?_ hHeld ?_
    rotate_left
    · intro W hSW; obtain ⟨s1, s2, s3⟩ := hSW; have s4 := s1.cell 0; have s5 := s2.cell 0; have s0 := s3.fing hk2; have s6 := s3.adr0 hk2; have s7 := s3.adr1 hk2; have s8 := s3.adr2 hk2; have s9 : (k : Int) < 1025 := (by omega); unfold al6; go_simp; with_reducible rfl
    simp only [al6, Act.put, List.setIfInBounds_toArray, List.set_cons_zero, List.set_cons_succ]
    refine Tillst.one (i := 7) (o := al7) (by kernel_rfl) rfl ?_
    intro K hK
    refine step_lit32 (.tmp 15) rfl rfl (c (2 + k)) rfl ?_
    intro W7 hlit hW7
    have HLIT := Lib.hid hlit
    have hs7 : W7.heap.size = W.heap.size + 1 := by rw [hW7, World.size_alloc]; rfl
    have hb7 : Below W.heap.size W W7 := by rw [hW7]; exact (Below.refl W.heap.size W).drew.alloc (Nat.le_refl _) _
    have hkeep7 : KeepsOthers W W7 := by rw [hW7]; exact (KeepsOthers.drew W).trans (KeepsOthers.alloc _ _)
    have hg7 : W.grownBy W7 none := by rw [hW7]; exact grown_drewalloc _ _
    have HO7 := Lib.hid (ownsRow_grown HO.out hg7 (fun g hg e => by cases e))
    have HOO7 := Lib.hid (ownsRow_grown HOO.out hg7 (fun g hg e => by cases e))
    clear hlit hW7 hg7
    simp only [al7, Act.put, List.setIfInBounds_toArray, List.set_cons_zero, List.set_cons_succ]
    refine hK.out _ _ (fun _ => ⟨h1.below hb7 h1.lt, h0.below hb7 h0.lt, hX.below hb7 hX.lt⟩) (fun hHeld => ?_)
    clear hHeld hK K
    obtain ⟨i0, hi0, hz0, hz1, hz2⟩ := info_parts info_u32
    refine Tillst.one (i := 8) (o := al8) (by kernel_rfl) rfl ?_
    intro K hK
    refine step_append_rowG (mk := Value.int .u32) (d := 0) rfl (.tmp 9) (.tmp 16) 72 rfl w.heap.size 33 i0 _ 4 Try.underlying72 hi0 hz0 hz1 hz2 (by simp [Value.cells]) (fun _ => rfl) v i _ rfl HO7.out _ _ 1 1 [c (2 + k)] rfl HLIT.out (fun h => by cases h) (by unfold maxLen; omega) (by omega) (by omega) ?_
    intro v8 W8 hown hgrow _
    obtain ⟨A8, c8, rfl⟩ := ownsRow_slice hown
    rw [← HTF.out] at hown
    have h18 := blk_past (h1.below hb7 h1.lt) HO7.out (by decide) hgrow
    have h08 := blk_past (h0.below hb7 h0.lt) HO7.out (by decide) hgrow
    have h28 := blk_past (h2.below hb7 h2.lt) HO7.out (by decide) hgrow
    have hX8 : IxM W8 x c := blk_past (hX.below hb7 hX.lt) HO7.out (by decide) hgrow
    have hkeep8 := hkeep7.trans (keeps_append HO7.out hgrow)
    have hB8 := below_append (hB.trans (hb7.mono hBs)) HO7.out (Nat.le_refl _) (by omega) hgrow
    have h38 := blk_past (h3.below hb7 h3.lt) HO7.out (by decide) hgrow
    have hoo8 := own_past_own HOO7.out HO7.out (by decide) hgrow
    have hs8 := hgrow.size
    have HOW := Lib.hid hown
    clear hown hgrow
    simp only [al8, Act.put, List.setIfInBounds_toArray, List.set_cons_zero, List.set_cons_succ]
    refine hK.out _ _ (fun _ => ⟨h18, h08, hX8⟩) (fun hHeld => ?_)
    clear hHeld hK K
    refine Tillst.one (i := 9) (o := al9) (by kernel_rfl) rfl ?_
    intro K hK
    refine step_store_cell (.tmp 3) (.tmp 17) 72 (by with_reducible rfl) (by rfl) ⟨w.heap.size + 1, 0, none⟩ (.slice A8 (i + 1) c8) (by rfl) (by rfl) ?_ ?_
    · have f18 := h18.frozen 0
      have c18 := h18.cell 0
      go_simp
    simp only [al9, Act.put]
    have n1 : (w.heap.size : Nat) ≠ w.heap.size + 1 := by omega
    have n2 : gx ≠ w.heap.size + 1 := by omega
    have n3 : w.heap.size + 1 + 1 ≠ w.heap.size + 1 := by omega
    have n4 : x ≠ w.heap.size + 1 := by omega
    have hkeepz := hkeep8.trans (KeepsOthers.setCell W8 ⟨w.heap.size + 1, 0, none⟩ (.slice A8 (i + 1) c8))
    have k0 := h08.far (p := ⟨w.heap.size + 1, 0, none⟩) n1 (.slice A8 (i + 1) c8)
    have k1 := h18.set_ 0 (.slice A8 (i + 1) c8)
    have k2 := h28.far (p := ⟨w.heap.size + 1, 0, none⟩) n3 (.slice A8 (i + 1) c8)
    have k3 := h38.far (p := ⟨w.heap.size + 1, 0, none⟩) n2 (.slice A8 (i + 1) c8)
    have kX : IxM (W8.setCell ⟨w.heap.size + 1, 0, none⟩ (.slice A8 (i + 1) c8)) x c := Blk.far hX8 (p := ⟨w.heap.size + 1, 0, none⟩) n4 _
    have ko := own_past HOW.out h18 (by decide) 0 (.slice A8 (i + 1) c8)
    have koo := own_past hoo8 h18 (by decide) 0 (.slice A8 (i + 1) c8)
    have kB := hB8.setCell (p := ⟨w.heap.size + 1, 0, none⟩) (by simp) (.slice A8 (i + 1) c8)
    have hsz9 : (W8.setCell ⟨w.heap.size + 1, 0, none⟩ (.slice A8 (i + 1) c8)).heap.size = W8.heap.size := by simp [World.setCell]
    have ks : W.heap.size < (W8.setCell ⟨w.heap.size + 1, 0, none⟩ (.slice A8 (i + 1) c8)).heap.size := by rw [hsz9]; omega
    clear hsz9
    generalize W8.setCell ⟨w.heap.size + 1, 0, none⟩ (.slice A8 (i + 1) c8) = Y at *
    refine hK.out _ _ (fun h => absurd h (by decide)) (fun _ => ?_)
    clear hK K h0 h1 h2 h3 hB hX h18 h08 h28 h38 hX8 hkeep8 hB8 hoo8
    refine Tillst.done (by kernel_rfl) ?_ _
    refine NoPO.normal ?_
    have HK1 := Lib.hid k1
    have HKO := Lib.hid ko
    have HKOO := Lib.hid koo
    clear k1 ko koo
    gi_wp2
    refine Tillst.calm (fun V => Blk V (w.heap.size + 1 + 1) 43 #[v2] ∧ Blk V w.heap.size 25 #[.pointer (some ⟨x, 0, none⟩)] ∧ IxM V x c) [9] (by kernel_rfl) (by kernel_rfl) ⟨k2, k0, kX⟩ (fun hHeld => ?_)
    refine Tillst.take (i := 0) (oi := am0) (v := ?_) rfl (by kernel_rfl) (by kernel_rfl) (by kernel_rfl) (by kernel_rfl) (fun _ _ _ h => h) (by rfl) ?_ hHeld ?_
    rotate_left
    · intro W hSW; obtain ⟨s1, s2, s3⟩ := hSW; have s4 := s1.cell 0; have s5 := s2.cell 0; have s0 := s3.fing hk2; have s6 := s3.adr0 hk2; have s7 := s3.adr1 hk2; have s8 := s3.adr2 hk2; have s9 : (k : Int) < 1025 := (by omega); unfold am0; go_simp; with_reducible rfl
    simp only [am0, Act.put, List.setIfInBounds_toArray, List.set_cons_zero, List.set_cons_succ]
    refine Tillst.take (i := 1) (oi := am1) (v := ?_) rfl (by kernel_rfl) (by kernel_rfl) (by kernel_rfl) (by kernel_rfl) (fun _ _ _ h => h) (by rfl) ?_ hHeld ?_
    rotate_left
    · intro W hSW; obtain ⟨s1, s2, s3⟩ := hSW; have s4 := s1.cell 0; have s5 := s2.cell 0; have s0 := s3.fing hk2; have s6 := s3.adr0 hk2; have s7 := s3.adr1 hk2; have s8 := s3.adr2 hk2; have s9 : (k : Int) < 1025 := (by omega); unfold am1; go_simp; with_reducible rfl
    simp only [am1, Act.put, List.setIfInBounds_toArray, List.set_cons_zero, List.set_cons_succ]
    refine Tillst.take (i := 2) (oi := am2) (v := ?_) rfl (by kernel_rfl) (by kernel_rfl) (by kernel_rfl) (by kernel_rfl) (fun _ _ _ h => h) (by rfl) ?_ hHeld ?_
    rotate_left
    · intro W hSW; obtain ⟨s1, s2, s3⟩ := hSW; have s4 := s1.cell 0; have s5 := s2.cell 0; have s0 := s3.fing hk2; have s6 := s3.adr0 hk2; have s7 := s3.adr1 hk2; have s8 := s3.adr2 hk2; have s9 : (k : Int) < 1025 := (by omega); unfold am2; go_simp; with_reducible rfl
    simp only [am2, Act.put, List.setIfInBounds_toArray, List.set_cons_zero, List.set_cons_succ]
    refine Tillst.take (i := 3) (oi := am3) (v := ?_) rfl (by kernel_rfl) (by kernel_rfl) (by kernel_rfl) (by kernel_rfl) (fun _ _ _ h => h) (by rfl) ?_ hHeld ?_
    rotate_left
    · intro W hSW; obtain ⟨s1, s2, s3⟩ := hSW; have s4 := s1.cell 0; have s5 := s2.cell 0; have s0 := s3.fing hk2; have s6 := s3.adr0 hk2; have s7 := s3.adr1 hk2; have s8 := s3.adr2 hk2; have s9 : (k : Int) < 1025 := (by omega); unfold am3; go_simp; with_reducible rfl
    simp only [am3, Act.put, List.setIfInBounds_toArray, List.set_cons_zero, List.set_cons_succ]
    refine Tillst.take (i := 4) (oi := am4) (v := ?_) rfl (by kernel_rfl) (by kernel_rfl) (by kernel_rfl) (by kernel_rfl) (fun _ _ _ h => h) (by rfl) ?_ hHeld ?_
    rotate_left
    · intro W hSW; obtain ⟨s1, s2, s3⟩ := hSW; have s4 := s1.cell 0; have s5 := s2.cell 0; have s0 := s3.fing hk2; have s6 := s3.adr0 hk2; have s7 := s3.adr1 hk2; have s8 := s3.adr2 hk2; have s9 : (k : Int) < 1025 := (by omega); unfold am4; go_simp; with_reducible rfl
    simp only [am4, Act.put, List.setIfInBounds_toArray, List.set_cons_zero, List.set_cons_succ]
    refine Tillst.take (i := 5) (oi := am5) (v := ?_) rfl (by kernel_rfl) (by kernel_rfl) (by kernel_rfl) (by kernel_rfl) (fun _ _ _ h => h) (by rfl) ?_ hHeld ?_
    rotate_left
    · intro W hSW; obtain ⟨s1, s2, s3⟩ := hSW; have s4 := s1.cell 0; have s5 := s2.cell 0; have s0 := s3.fing hk2; have s6 := s3.adr0 hk2; have s7 := s3.adr1 hk2; have s8 := s3.adr2 hk2; have s9 : (k : Int) < 1025 := (by omega); unfold am5; go_simp; with_reducible rfl
    simp only [am5, Act.put, List.setIfInBounds_toArray, List.set_cons_zero, List.set_cons_succ]
    refine Tillst.take (i := 6) (oi := am6) (v := ?_) rfl (by kernel_rfl) (by kernel_rfl) (by kernel_rfl) (by kernel_rfl) (fun _ _ _ h => h) (by rfl) ?_ hHeld ?_
    rotate_left
    · intro W hSW; obtain ⟨s1, s2, s3⟩ := hSW; have s4 := s1.cell 0; have s5 := s2.cell 0; have s0 := s3.fing hk2; have s6 := s3.adr0 hk2; have s7 := s3.adr1 hk2; have s8 := s3.adr2 hk2; have s9 : (k : Int) < 1025 := (by omega); unfold am6; go_simp; with_reducible rfl
    simp only [am6, Act.put, List.setIfInBounds_toArray, List.set_cons_zero, List.set_cons_succ]
    refine Tillst.one (i := 7) (o := am7) (by kernel_rfl) rfl ?_
    intro K hK
    refine step_litA (.tmp 24) rfl rfl (segOf c k) rfl ?_
    intro Y7 hlit hY7
    have HLIT := Lib.hid hlit
    have hys7 : Y7.heap.size = Y.heap.size + 1 := by rw [hY7, World.size_alloc]; rfl
    have hyb7 : Below Y.heap.size Y Y7 := by rw [hY7]; exact (Below.refl Y.heap.size Y).drew.alloc (Nat.le_refl _) _
    have hykeep7 : KeepsOthers Y Y7 := by rw [hY7]; exact (KeepsOthers.drew Y).trans (KeepsOthers.alloc _ _)
    have hyg7 : Y.grownBy Y7 none := by rw [hY7]; exact grown_drewalloc _ _
    have HA7 := Lib.hid (ownsRow_grown HKO.out hyg7 (fun g hg e => by cases e))
    have HB7 := Lib.hid (ownsRow_grown HKOO.out hyg7 (fun g hg e => by cases e))
    clear hlit hY7 hyg7
    simp only [am7, Act.put, List.setIfInBounds_toArray, List.set_cons_zero, List.set_cons_succ]
    refine hK.out _ _ (fun _ => ⟨k2.below hyb7 k2.lt, k0.below hyb7 k0.lt, kX.below hyb7 kX.lt⟩) (fun hHeld => ?_)
    clear hHeld hK K
    refine Tillst.one (i := 8) (o := am8) (by kernel_rfl) rfl ?_
    intro K hK
    refine Adr.step_append_rowZ (.tmp 18) (.tmp 25) rfl rfl w.heap.size v2 i _ rfl HB7.out (fun b => b = Y.drew.heap.size) _ 1 1 [segOf c k] rfl HLIT.out (fun h => by cases h) (by omega) (by omega) ?_
    intro u8 Y8 hown hgrow _
    obtain ⟨A9, c9, rfl⟩ := ownsRow_slice hown
    rw [← Adr.flatG_append, ← HTK.out] at hown
    have j2 := blk_past (k2.below hyb7 k2.lt) HB7.out (by decide) hgrow
    have j0 := blk_past (k0.below hyb7 k0.lt) HB7.out (by decide) hgrow
    have j1 := blk_past (HK1.out.below hyb7 HK1.out.lt) HB7.out (by decide) hgrow
    have jX : IxM Y8 x c := blk_past (kX.below hyb7 kX.lt) HB7.out (by decide) hgrow
    have jkeep := hykeep7.trans (keeps_append HB7.out hgrow)
    have jB := below_append (kB.trans (hyb7.mono (by omega))) HB7.out (Nat.le_refl _) (by omega) hgrow
    have j3 := blk_past (k3.below hyb7 k3.lt) HB7.out (by decide) hgrow
    have jo := own_past_own HA7.out HB7.out (by decide) hgrow
    have HOW2 := Lib.hid hown
    clear hown hgrow
    simp only [am8, Act.put, List.setIfInBounds_toArray, List.set_cons_zero, List.set_cons_succ]
    refine hK.out _ _ (fun _ => ⟨j2, j0, jX⟩) (fun hHeld => ?_)
    clear hHeld hK K
    refine Tillst.one (i := 9) (o := am9) (by kernel_rfl) rfl ?_
    intro K hK
    refine step_store_cell (.tmp 4) (.tmp 26) 43 (by with_reducible rfl) (by rfl) ⟨w.heap.size + 1 + 1, 0, none⟩ (.slice A9 (i + 1) c9) (by rfl) (by rfl) ?_ ?_
    · have f18 := j2.frozen 0
      have c18 := j2.cell 0
      go_simp
    simp only [am9, Act.put]
    have m1 : (w.heap.size : Nat) ≠ w.heap.size + 1 + 1 := by omega
    have m2 : gx ≠ w.heap.size + 1 + 1 := by omega
    have m3 : w.heap.size + 1 ≠ w.heap.size + 1 + 1 := by omega
    have HF := Lib.hid ((hkeepz.trans (jkeep.trans (KeepsOthers.setCell Y8 ⟨w.heap.size + 1 + 1, 0, none⟩ (.slice A9 (i + 1) c9)))).from w5.heap.size)
    have HI := Lib.hid (show AllI c L w x gx (i + 1) (Y8.setCell ⟨w.heap.size + 1 + 1, 0, none⟩ (.slice A9 (i + 1) c9)) from
      ⟨⟨⟨j0.far (p := ⟨w.heap.size + 1 + 1, 0, none⟩) m1 _, _, j1.far (p := ⟨w.heap.size + 1 + 1, 0, none⟩) m3 _, own_past jo j2 (by decide) 0 _⟩, _, j2.set_ 0 _, own_past HOW2.out j2 (by decide) 0 _⟩, j3.far (p := ⟨w.heap.size + 1 + 1, 0, none⟩) m2 _, jB.setCell (p := ⟨w.heap.size + 1 + 1, 0, none⟩) (by simp only []; omega) _⟩)
    refine hK.out _ _ (fun h => absurd h (by decide)) (fun _ => ?_)
    clear hK K
    refine Tillst.done (by kernel_rfl) ?_ _
    exact ⟨HF.out, HI.out⟩
  case done =>
    rintro D W hD ⟨⟨⟨h0, v, h1, ho⟩, v2, h2, ho2⟩, h3, hB⟩ hK
    rw [List.take_length] at ho
    rw [show (L.map (segOf c)).take L.length = L.map (segOf c) by rw [List.take_of_length_le (by simp)]] at ho2
    gi_wp2
    refine ⟨by simp, .inl ⟨_, _, rfl, run_takeDeferred hK, ?_⟩⟩
    have hrow : ∀ r, some D = some r → ∃ o : Obj, W.heap[r]? = some o ∧ o.isCells = false := fun r e => by cases e; exact ⟨_, hK, rfl⟩
    have hno : ∀ {base size n : Nat} {e : TypeId} {v : Value} {xs : List Value}, W.ownsRow base e size v n xs → ∀ g, v.ownBlock = some g → some D ≠ some g := fun ho g hg e => by
      cases e
      obtain ⟨cur, hh, _⟩ := ownsRow_block ho hg
      rw [hK] at hh
      cases hh
    refine ⟨_, ?_, w.heap.size + 1, w.heap.size + 1 + 1, v, v2, rfl, ⟨blk_own _ _ (fun _ : Unit => #[v]) () _ _ _ h1 (grownBy_putObj' _ D (.deferred none)) hrow, ownsRow_grown ho (grownBy_putObj' _ D (.deferred none)) (hno ho)⟩, ⟨blk_own _ _ (fun _ : Unit => #[v2]) () _ _ _ h2 (grownBy_putObj' _ D (.deferred none)) hrow, ownsRow_grown ho2 (grownBy_putObj' _ D (.deferred none)) (hno ho2)⟩, hB.trans (belowK_b (w := w) (Nat.le_refl _) W D _ _ (Nat.le_trans HB5.out.size hD) hK rfl rfl), by omega, by omega⟩
    simp [results, Try.f19, go_sem]
  case stop =>
    rintro D cd i W _ _ h _
    exact h.elim
end Go.Proofs.Ytfgmbkflpdobcaa
