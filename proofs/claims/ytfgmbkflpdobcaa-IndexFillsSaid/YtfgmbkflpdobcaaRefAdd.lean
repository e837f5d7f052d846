/- The document's index: Add. MADE by mkrefadd.py out of XRefAdd.head. -/
import Derived.Test.YtfgmbkflpdobcaaRefR
namespace Go.Proofs.Ytfgmbkflpdobcaa
open Go.RowKit
attribute [local go_sem] Oper.semAt_some
set_option linter.unusedVariables false
set_option linter.unusedSimpArgs false
open EntM (RowE entV ent0)
def addR (s : Int) (es : List Ent) (e : Ent) : List Ent × Int := if e ∈ es then (es, 5) else if (es.length : Int) = s then (es, 6) else (es ++ [e], 0)
theorem own_empty4 (w : World) {base : Nat} (hb : base ≤ w.heap.size) : (w.alloc (.cells #[] 49)).ownsRow base 49 4 (.slice (some ⟨w.heap.size, 0, none⟩) 0 0) 0 [] :=
  ⟨rfl, .inr ⟨w.heap.size, 0, #[], rfl, hb, heap_alloc_new w _, Nat.le_refl _, Nat.zero_le _, rfl, rfl⟩⟩
section
variable {w : World} {o : Oper} {a : Act} {Q : Exit → Act → World → Prop} {K : Act → World → Prop} {E : Prop} {ops : Array Oper}
/-- '[]Entry{}' in a region that draws. -/
theorem step_lit0 (ho : o.op = .buildSlice 29 0 #[]) (hgd : Region.wanted o (yielded ops a.tmps) = true)
    (h : ∀ w', w' = w.alloc (.cells #[] 49) → K (a.put o.dst (.slice (some ⟨w.heap.size, 0, none⟩) 0 0)) w') :
    if Region.wanted o (yielded ops a.tmps) = true then Oper.wp Try.prog o a w K Q else E := by
  rw [if_pos hgd]
  obtain ⟨i0, hi, hz0, hz1, hz2⟩ := info_parts EntM.info_seg
  have hrun : (Instr.buildSlice 29 0 #[]).run Try.prog w = .ok (.slice (some ⟨w.heap.size, 0, none⟩) 0 0) (w.alloc (.cells #[] 49)) := by
    have hf : Instr.fill (fun i => some (i * i0.size, i0.size)) #[] [] = some #[] := rfl
    simp [Instr.buildSlice, run_underlying Try.underlying29, sizeOf, typeInfo, zeroValue, hi, hz0, newRow, go_sem]
  unfold Oper.wp execOp
  simp only [ho, Sem.run_bind, Result.andThen_ok]
  have e : (Instr.buildSlice 29 0 (Array.map (fun (p : Nat × Operand) => (p.1, a.eval p.2)) #[])).run Try.prog w = .ok (.slice (some ⟨w.heap.size, 0, none⟩) 0 0) (w.alloc (.cells #[] 49)) := by
    rw [show (Array.map (fun (p : Nat × Operand) => (p.1, a.eval p.2)) #[]) = #[] from by simp]
    exact hrun
  simp only [e, Result.andThen_ok]
  exact h _ rfl
end
abbrev rb0 : Oper := { dst := some 25, op := Go.Op.buildSlice 29 0 #[], type := 29, pos := "ref.go:37", after := #[], guard := none }
abbrev rb1 : Oper := { dst := some 26, op := Go.Op.fieldAddr 31 (Go.Operand.tmp 3) 1, type := 0, pos := "ref.go:37", after := #[], guard := none }
abbrev rb2 : Oper := { dst := some 27, op := Go.Op.load 29 (Go.Operand.tmp 26), type := 29, pos := "ref.go:37", after := #[{ on := 1, ground := Go.Ground.data }], guard := none }
abbrev rb3 : Oper := { dst := some 28, op := Go.Op.call { callee := Go.Callee.builtin Go.Builtin.append, args := #[Go.Operand.tmp 25, Go.Operand.tmp 27], argTypes := #[29, 29] }, type := 29, pos := "ref.go:37", after := #[{ on := 0, ground := Go.Ground.data }, { on := 2, ground := Go.Ground.data }], guard := none }
abbrev rb4 : Oper := { dst := some 29, op := Go.Op.load 49 (Go.Operand.tmp 8), type := 49, pos := "ref.go:37", after := #[], guard := none }
abbrev rb5 : Oper := { dst := some 30, op := Go.Op.buildSlice 29 1 #[(0, Go.Operand.tmp 29)], type := 29, pos := "ref.go:37", after := #[{ on := 4, ground := Go.Ground.data }], guard := none }
abbrev rb6 : Oper := { dst := some 31, op := Go.Op.call { callee := Go.Callee.builtin Go.Builtin.append, args := #[Go.Operand.tmp 28, Go.Operand.tmp 30], argTypes := #[29, 29] }, type := 29, pos := "ref.go:37", after := #[{ on := 3, ground := Go.Ground.data }, { on := 5, ground := Go.Ground.data }, { on := 3, ground := Go.Ground.chain }], guard := none }
abbrev rb7 : Oper := { dst := some 32, op := Go.Op.fieldAddr 31 (Go.Operand.tmp 3) 1, type := 0, pos := "ref.go:37", after := #[{ on := 0, ground := Go.Ground.phase }, { on := 1, ground := Go.Ground.phase }, { on := 2, ground := Go.Ground.phase }, { on := 3, ground := Go.Ground.phase }, { on := 4, ground := Go.Ground.phase }, { on := 5, ground := Go.Ground.phase }, { on := 6, ground := Go.Ground.phase }], guard := none }
abbrev rb8 : Oper := { dst := none, op := Go.Op.store 29 (Go.Operand.tmp 32) (Go.Operand.tmp 31), type := 0, pos := "ref.go:37", after := #[{ on := 7, ground := Go.Ground.data }, { on := 6, ground := Go.Ground.data }, { on := 6, ground := Go.Ground.chain }, { on := 0, ground := Go.Ground.phase }, { on := 1, ground := Go.Ground.phase }, { on := 2, ground := Go.Ground.phase }, { on := 3, ground := Go.Ground.phase }, { on := 4, ground := Go.Ground.phase }, { on := 5, ground := Go.Ground.phase }, { on := 6, ground := Go.Ground.phase }], guard := none }
set_option maxRecDepth 100000 in
set_option maxHeartbeats 8000000 in
theorem ref_add {w : World} {S : Nat → Prop} {A : Option Addr} {n cap : Nat} {es : List Ent} (h : RowE w S A n es) (hS : ∀ b, S b → b < w.heap.size) (hA : A = none → cap = 0) (s : Int) (f a0 a1 a2 : Int) (hn : n ≤ 1024) :
    Calls Try.prog 24 #[refV s A n cap, .int .u32 f, .agg #[.int .i64 a0, .int .u64 a1, .int .i64 a2]] w fun r w' =>
      (∃ A' n' cap', r = .returned (.tuple #[refV s A' n' cap', .int .i64 (addR s es (f, a0, a1, a2)).2]) ∧ RowE w' (fun b => S b ∨ (w.heap.size ≤ b ∧ b < w'.heap.size)) A' n' (addR s es (f, a0, a1, a2)).1 ∧ (A' = none → cap' = 0)) ∧ Below w.heap.size w w' := by
  have HX := Lib.hid h
  have HXX := Lib.hid (h.more hS)
  have hl := h.1
  clear h
  obtain ⟨w4, hw4⟩ : ∃ w4, w4 = (((w.alloc (.cells #[.int .i64 s, .slice A n cap] 31)).alloc (.cells #[.int .i64 a0, .int .u64 a1, .int .i64 a2] 36)).alloc (.cells #[.int .i64 0, .slice none 0 0] 31)).alloc (.cells #[.int .u32 f, .int .i64 a0, .int .u64 a1, .int .i64 a2] 49) := ⟨_, rfl⟩
  have HW4 := Lib.hid hw4
  have hs4 : w4.heap.size = w.heap.size + 4 := by rw [hw4]; simp
  have HB4 := Lib.hid (show Below w.heap.size w w4 by rw [hw4]; exact ((((Below.refl _ w).alloc (Nat.le_refl _) _).alloc (by simp) _).alloc (by simp; omega) _).alloc (by simp; omega) _)
  have HK1 := Lib.hid (show Blk w4 w.heap.size 31 #[.int .i64 s, .slice A n cap] by rw [hw4]; exact (((Blk.new w _ _).alloc _).alloc _).alloc _)
  have HK2 := Lib.hid (show Blk w4 (w.heap.size + 1 + 1) 31 #[.int .i64 0, .slice none 0 0] by rw [hw4]; have h := (Blk.new ((w.alloc (.cells #[.int .i64 s, .slice A n cap] 31)).alloc (.cells #[.int .i64 a0, .int .u64 a1, .int .i64 a2] 36)) 31 #[.int .i64 0, .slice none 0 0]).alloc (.cells #[.int .u32 f, .int .i64 a0, .int .u64 a1, .int .i64 a2] 49); simpa using h)
  have HK3 := Lib.hid (show Blk w4 (w.heap.size + 1 + 1 + 1) 49 #[.int .u32 f, .int .i64 a0, .int .u64 a1, .int .i64 a2] by rw [hw4]; have h := Blk.new (((w.alloc (.cells #[.int .i64 s, .slice A n cap] 31)).alloc (.cells #[.int .i64 a0, .int .u64 a1, .int .i64 a2] 36)).alloc (.cells #[.int .i64 0, .slice none 0 0] 31)) 49 #[.int .u32 f, .int .i64 a0, .int .u64 a1, .int .i64 a2]; simpa using h)
  have HH := Lib.hid (ref_has (HXX.out.below HB4.out (fun _ h => h) |>.more (fun b h => Nat.lt_of_lt_of_le h HB4.out.size)) s (f, a0, a1, a2) hn (cap := cap))
  rw [hw4] at HH
  clear hw4
  go_enter Try.func24, Try.ntmps24
  go_wp2_with fail
  refine HH.out.mono ?_
  rintro r w5 ⟨rfl, hb5⟩
  rw [← HW4.out] at hb5
  have hrow5 := hb5
  have HB5 := Lib.hid (HB4.out.trans (hb5.mono HB4.out.size))
  have HL1 := Lib.hid (HK1.out.below hb5 HK1.out.lt)
  have HL2 := Lib.hid (HK2.out.below hb5 HK2.out.lt)
  have HL3 := Lib.hid (HK3.out.below hb5 HK3.out.lt)
  have hs5 := hb5.size
  clear hb5 HH
  have k0 := HL1.out.cell 0
  have k1 := HL1.out.cell 1
  have y0 := HL2.out.cell 0
  have y1 := HL2.out.cell 1
  have z0 := HL2.out.frozen 0
  have z1 := HL2.out.frozen 1
  have HR5 := Lib.hid (HX.out.below HB5.out hS)
  have hS5 : ∀ b, S b → b < w5.heap.size := fun b hb => Nat.lt_of_lt_of_le (hS b hb) HB5.out.size
  by_cases hmem : (f, a0, a1, a2) ∈ es
  case pos =>
    have HRM := Lib.hid (show addR s es (f, a0, a1, a2) = (es, 5) from if_pos hmem)
    have hd : decide ((f, a0, a1, a2) ∈ es) = true := decide_eq_true hmem
    simp only [hd]
    clear hd hmem
    go_wp2_with (with_reducible refine halt_end ?_)
    have hst := (HL2.out.set_ 0 (.int .i64 s)).set_ 1 (.slice A n cap)
    have hbel := (HB5.out.setCell (p := ⟨w.heap.size + 1 + 1, 0, none⟩) (by simp only []; omega) (.int .i64 s)).setCell (p := ⟨w.heap.size + 1 + 1, 1, none⟩) (by simp only []; omega) (.slice A n cap)
    refine Halt.ret (results_row2 rfl _ _ (w.heap.size + 1 + 1) 31 #[.int .i64 s, .slice A n cap] _ rfl hst Try.underlying31 rfl size_ref) rfl ⟨⟨A, n, cap, by rw [HRM.out]; rfl, ?_⟩, hbel⟩
    rw [HRM.out]
    exact ⟨(HX.out.below hbel hS).more (fun b h => .inl h), hA⟩
  have hd : decide ((f, a0, a1, a2) ∈ es) = false := decide_eq_false hmem
  simp only [hd]
  clear hd
  by_cases hfull : (n : Int) = s
  case pos =>
    have hq : ((n : Int) == s) = true := by simpa using hfull
    have HRM := Lib.hid (show addR s es (f, a0, a1, a2) = (es, 6) by unfold addR; rw [if_neg hmem, if_pos (by rw [hl]; exact hfull)])
    clear hmem hfull
    go_wp2_with (with_reducible refine halt_end ?_)
    have hst := (HL2.out.set_ 0 (.int .i64 s)).set_ 1 (.slice A n cap)
    have hbel := (HB5.out.setCell (p := ⟨w.heap.size + 1 + 1, 0, none⟩) (by simp only []; omega) (.int .i64 s)).setCell (p := ⟨w.heap.size + 1 + 1, 1, none⟩) (by simp only []; omega) (.slice A n cap)
    refine Halt.ret (results_row2 rfl _ _ (w.heap.size + 1 + 1) 31 #[.int .i64 s, .slice A n cap] _ rfl hst Try.underlying31 rfl size_ref) rfl ⟨⟨A, n, cap, by rw [HRM.out]; rfl, ?_⟩, hbel⟩
    rw [HRM.out]
    exact ⟨(HX.out.below hbel hS).more (fun b h => .inl h), hA⟩
  have hq : ((n : Int) == s) = false := by simpa using hfull
  have HRM := Lib.hid (show addR s es (f, a0, a1, a2) = (es ++ [(f, a0, a1, a2)], 0) by unfold addR; rw [if_neg hmem, if_neg (by rw [hl]; exact hfull)])
  clear hmem hfull
  have HU1 := Lib.hid HL1.out
  have HE5 := Lib.hid HL3.out
  have hc5 := k1
  have hlt1 : w.heap.size < w5.heap.size := HL1.out.lt
  go_wp2
  clear k0 k1 y0 y1 z0 z1
  refine wp_region_noPanic ?_
  refine Tillst.region (fun W => W.cell? ⟨w.heap.size, 1, none⟩ = some (.slice A n cap) ∧ Blk W (w.heap.size + 1 + 1 + 1) 49 #[.int .u32 f, .int .i64 a0, .int .u64 a1, .int .i64 a2]) [8] (by kernel_rfl) ⟨hc5, HE5.out⟩ (fun hHeld => ?_)
  have HBW := Lib.hid ((Below.refl w5.heap.size w5).drew)
  have HZW := Lib.hid (show w5.heap.size ≤ w5.drew.heap.size from Nat.le_refl _)
  generalize w5.drew = vd at *
  refine Tillst.take (i := 1) (oi := rb1) (v := ?_) rfl (by kernel_rfl) (by kernel_rfl) (by kernel_rfl) (by kernel_rfl) (fun _ _ _ h => h) (by rfl) ?_ hHeld ?_
  rotate_left
  · intro W hSW; obtain ⟨s1, s2⟩ := hSW; have s4 := s2.cell 0; have s5 := s2.cell 1; have s6 := s2.cell 2; have s7 := s2.cell 3; unfold rb1; go_simp; with_reducible rfl
  simp only [rb1, Act.put, List.setIfInBounds_toArray, List.set_cons_zero, List.set_cons_succ]
  refine Tillst.take (i := 2) (oi := rb2) (v := ?_) rfl (by kernel_rfl) (by kernel_rfl) (by kernel_rfl) (by kernel_rfl) (fun _ _ _ h => h) (by rfl) ?_ hHeld ?_
  rotate_left
  · intro W hSW; obtain ⟨s1, s2⟩ := hSW; have s4 := s2.cell 0; have s5 := s2.cell 1; have s6 := s2.cell 2; have s7 := s2.cell 3; unfold rb2; go_simp; with_reducible rfl
  simp only [rb2, Act.put, List.setIfInBounds_toArray, List.set_cons_zero, List.set_cons_succ]
  refine Tillst.take (i := 4) (oi := rb4) (v := ?_) rfl (by kernel_rfl) (by kernel_rfl) (by kernel_rfl) (by kernel_rfl) (fun _ _ _ h => h) (by rfl) ?_ hHeld ?_
  rotate_left
  · intro W hSW; obtain ⟨s1, s2⟩ := hSW; have s4 := s2.cell 0; have s5 := s2.cell 1; have s6 := s2.cell 2; have s7 := s2.cell 3; unfold rb4; go_simp; with_reducible rfl
  simp only [rb4, Act.put, List.setIfInBounds_toArray, List.set_cons_zero, List.set_cons_succ]
  refine Tillst.two (i := 0) (j := 5) (o := rb0) (o' := rb5) (by kernel_rfl) rfl rfl ?_ ?_
  · intro K hK
    refine step_lit0 rfl rfl ?_
    intro va hva
    have HV0 := Lib.hid (show va.ownsRow w5.heap.size 49 4 (.slice (some ⟨vd.heap.size, 0, none⟩) 0 0) 0 [] by rw [hva]; exact own_empty4 _ HZW.out)
    have HBW := Lib.hid (show Below w5.heap.size w5 va by rw [hva]; exact HBW.out.alloc HZW.out _)
    have HZW := Lib.hid (show w5.heap.size ≤ va.heap.size from HBW.out.size)
    have hsa : va.heap.size = vd.heap.size + 1 := by rw [hva]; simp
    clear hva
    simp only [rb0, Act.put, List.setIfInBounds_toArray, List.set_cons_zero, List.set_cons_succ]
    refine hK.out _ _ (fun _ => ⟨Below.cell HBW.out (p := ⟨w.heap.size, 1, none⟩) hlt1 |>.trans hc5, HE5.out.below HBW.out HE5.out.lt⟩) (fun hHeld => ?_)
    replace hHeld := hHeld (by decide)
    clear hK K
    refine Tillst.two (i := 3) (j := 5) (o := rb3) (o' := rb5) (by kernel_rfl) rfl rfl ?_ ?_
    · intro K hK
      refine EntM.step_append_rowZ (.tmp 25) (.tmp 27) rfl rfl w5.heap.size (.slice (some ⟨vd.heap.size, 0, none⟩) 0 0) 0 [] rfl HV0.out S A n cap es rfl (HR5.out.below HBW.out hS5) hA (by omega) HZW.out ?_
      intro v3 vc hown hgrow _
      rw [List.nil_append, Nat.zero_add] at hown
      have HV3 := Lib.hid hown
      have HBW := Lib.hid (below_append HBW.out HV0.out (Nat.le_refl _) HZW.out hgrow)
      have HZW := Lib.hid (show w5.heap.size ≤ vc.heap.size from HBW.out.size)
      clear hown hgrow
      simp only [rb3, Act.put, List.setIfInBounds_toArray, List.set_cons_zero, List.set_cons_succ]
      refine hK.out _ _ (fun _ => ⟨Below.cell HBW.out (p := ⟨w.heap.size, 1, none⟩) hlt1 |>.trans hc5, HE5.out.below HBW.out HE5.out.lt⟩) (fun hHeld => ?_)
      replace hHeld := hHeld (by decide)
      clear hK K
      refine Tillst.one (i := 5) (o := rb5) (by kernel_rfl) rfl ?_
      intro K hK
      refine step_litE (.tmp 29) rfl rfl (f, a0, a1, a2) rfl ?_
      intro vb hlit hvb
      obtain ⟨g9, hg9⟩ : ∃ g9, vc.heap.size = g9 := ⟨_, rfl⟩
      have HV3 := Lib.hid (show vb.ownsRow w5.heap.size 49 4 v3 n (EntM.flatG es) by rw [hvb]; exact own_alloc HV3.out _)
      have hbb := (show Below vc.heap.size vc vb by rw [hvb]; exact (Below.refl _ _).alloc (Nat.le_refl _) _)
      have HBW := Lib.hid (HBW.out.trans (hbb.mono HZW.out))
      have HG9 := Lib.hid (show w5.heap.size ≤ g9 ∧ g9 < vb.heap.size by rw [hvb, World.size_alloc, ← hg9]; exact ⟨HZW.out, Nat.lt_succ_self _⟩)
      have HZW := Lib.hid (show w5.heap.size ≤ vb.heap.size from HBW.out.size)
      rw [hg9] at hlit ⊢
      have HLT := Lib.hid hlit
      clear hlit hvb hbb hg9
      simp only [rb5, Act.put, List.setIfInBounds_toArray, List.set_cons_zero, List.set_cons_succ]
      refine hK.out _ _ (fun _ => ⟨Below.cell HBW.out (p := ⟨w.heap.size, 1, none⟩) hlt1 |>.trans hc5, HE5.out.below HBW.out HE5.out.lt⟩) (fun hHeld => ?_)
      replace hHeld := hHeld (by decide)
      clear hK K
      refine Tillst.one (i := 6) (o := rb6) (by kernel_rfl) rfl ?_
      intro K hK
      refine EntM.step_append_rowZ (.tmp 28) (.tmp 30) rfl rfl w5.heap.size v3 n (EntM.flatG es) rfl HV3.out (fun b => b = g9) (some ⟨g9, 0, none⟩) 1 1 [(f, a0, a1, a2)] rfl HLT.out (fun h => by cases h) (by omega) HZW.out ?_
      intro v6 vz hown hgrow _
      rw [← EntM.flatG_append] at hown
      have HBW := Lib.hid (below_append HBW.out HV3.out (Nat.le_refl _) HZW.out hgrow)
      have HZW := Lib.hid (show w5.heap.size ≤ vz.heap.size from HBW.out.size)
      obtain ⟨A6, cap6, rfl⟩ := ownsRow_slice hown
      have HV6 := Lib.hid hown
      clear hown hgrow
      simp only [rb6, Act.put, List.setIfInBounds_toArray, List.set_cons_zero, List.set_cons_succ]
      refine hK.out _ _ (fun _ => ⟨Below.cell HBW.out (p := ⟨w.heap.size, 1, none⟩) hlt1 |>.trans hc5, HE5.out.below HBW.out HE5.out.lt⟩) (fun hHeld => ?_)
      replace hHeld := hHeld (by decide)
      clear hK K
      refine Tillst.take (i := 7) (oi := rb7) (v := ?_) rfl (by kernel_rfl) (by kernel_rfl) (by kernel_rfl) (by kernel_rfl) (fun _ _ _ h => h) (by rfl) ?_ hHeld ?_
      rotate_left
      · intro W hSW; obtain ⟨s1, s2⟩ := hSW; have s4 := s2.cell 0; have s5 := s2.cell 1; have s6 := s2.cell 2; have s7 := s2.cell 3; unfold rb7; go_simp; with_reducible rfl
      simp only [rb7, Act.put, List.setIfInBounds_toArray, List.set_cons_zero, List.set_cons_succ]
      refine Tillst.one (i := 8) (o := rb8) (by kernel_rfl) rfl ?_
      intro K hK
      have hu1 := HU1.out.below HBW.out HU1.out.lt
      have hf1 := hu1.frozen 1
      have hc1 := hu1.cell 1
      refine step_store_cell (.tmp 32) (.tmp 31) 29 (by with_reducible rfl) (by rfl) ⟨w.heap.size, 1, none⟩ (.slice A6 (n + 1) cap6) (by rfl) (by rfl) ?_ ?_
      · go_simp
      simp only [rb8, Act.put]
      refine hK.out _ _ (fun h => absurd h (by decide)) (fun _ => ?_)
      clear hK K
      refine Tillst.done (by kernel_rfl) ?_ _
      refine NoPanic.normal ?_
      have hu2 := hu1.set_ 1 (.slice A6 (n + 1) cap6)
      have hne2 : w.heap.size + 1 + 1 ≠ w.heap.size := by omega
      have ht2 := (HL2.out.below HBW.out HL2.out.lt).far (p := ⟨w.heap.size, 1, none⟩) hne2 (.slice A6 (n + 1) cap6)
      have ho2 := own_past HV6.out hu1 (by decide) 1 (.slice A6 (n + 1) cap6)
      have hbel2 := (HB5.out.trans (HBW.out.mono HB5.out.size)).setCell (p := ⟨w.heap.size, 1, none⟩) (Nat.le_refl _) (.slice A6 (n + 1) cap6)
      generalize vz.setCell ⟨w.heap.size, 1, none⟩ (.slice A6 (n + 1) cap6) = vy at *
      have k0 := hu2.cell 0
      have k1 := hu2.cell 1
      have y0 := ht2.cell 0
      have y1 := ht2.cell 1
      have z0 := ht2.frozen 0
      have z1 := ht2.frozen 1
      have HT2 := Lib.hid ht2
      have HO2 := Lib.hid ho2
      have HBE := Lib.hid hbel2
      clear hu1 hf1 hc1 hu2 ht2 ho2 hbel2
      go_wp2_with (with_reducible refine halt_end ?_)
      have hst := (HT2.out.set_ 0 (.int .i64 s)).set_ 1 (.slice A6 (n + 1) cap6)
      have ho3 := own_past (own_past HO2.out HT2.out (by decide) 0 (.int .i64 s)) (HT2.out.set_ 0 (.int .i64 s)) (by decide) 1 (.slice A6 (n + 1) cap6)
      have hbel := (HBE.out.setCell (p := ⟨w.heap.size + 1 + 1, 0, none⟩) (by simp only []; omega) (.int .i64 s)).setCell (p := ⟨w.heap.size + 1 + 1, 1, none⟩) (by simp only []; omega) (.slice A6 (n + 1) cap6)
      obtain ⟨A2, cap2, e2, _, hA2, hrow⟩ := EntM.rowZ_own ho3 rfl (by simp; omega)
      injection e2 with e2 _ e2c
      subst e2 e2c
      refine Halt.ret (results_row2 rfl _ _ (w.heap.size + 1 + 1) 31 #[.int .i64 s, .slice A6 (n + 1) cap6] _ rfl hst Try.underlying31 rfl size_ref) rfl ⟨⟨A6, n + 1, cap6, by rw [HRM.out]; rfl, ?_⟩, hbel⟩
      rw [HRM.out]
      exact ⟨hrow.more (fun b h => .inr ⟨by omega, h.2⟩), hA2⟩
    · intro K hK
      refine step_litE (.tmp 29) rfl rfl (f, a0, a1, a2) rfl ?_
      intro vb hlit hvb
      obtain ⟨g9, hg9⟩ : ∃ g9, va.heap.size = g9 := ⟨_, rfl⟩
      have HV0 := Lib.hid (show vb.ownsRow w5.heap.size 49 4 (.slice (some ⟨vd.heap.size, 0, none⟩) 0 0) 0 [] by rw [hvb]; exact own_alloc HV0.out _)
      have HNE := Lib.hid (show (Value.slice (some ⟨vd.heap.size, 0, none⟩) 0 0).ownBlock ≠ some g9 from fun e => by (have e2 : some vd.heap.size = some g9 := e; injection e2 with e2; omega))
      have hbb := (show Below va.heap.size va vb by rw [hvb]; exact (Below.refl _ _).alloc (Nat.le_refl _) _)
      have HBW := Lib.hid (HBW.out.trans (hbb.mono HZW.out))
      have HG9 := Lib.hid (show w5.heap.size ≤ g9 ∧ g9 < vb.heap.size by rw [hvb, World.size_alloc, ← hg9]; exact ⟨HZW.out, Nat.lt_succ_self _⟩)
      have HZW := Lib.hid (show w5.heap.size ≤ vb.heap.size from HBW.out.size)
      rw [hg9] at hlit ⊢
      have HLT := Lib.hid hlit
      clear hlit hvb hbb hg9
      simp only [rb5, Act.put, List.setIfInBounds_toArray, List.set_cons_zero, List.set_cons_succ]
      refine hK.out _ _ (fun _ => ⟨Below.cell HBW.out (p := ⟨w.heap.size, 1, none⟩) hlt1 |>.trans hc5, HE5.out.below HBW.out HE5.out.lt⟩) (fun hHeld => ?_)
      replace hHeld := hHeld (by decide)
      clear hK K
      refine Tillst.one (i := 3) (o := rb3) (by kernel_rfl) rfl ?_
      intro K hK
      refine EntM.step_append_rowZ (.tmp 25) (.tmp 27) rfl rfl w5.heap.size (.slice (some ⟨vd.heap.size, 0, none⟩) 0 0) 0 [] rfl HV0.out S A n cap es rfl (HR5.out.below HBW.out hS5) hA (by omega) HZW.out ?_
      intro v3 vc hown hgrow _
      rw [List.nil_append, Nat.zero_add] at hown
      have HV3 := Lib.hid hown
      have HLT := Lib.hid (HLT.out.keep (fun p hp => World.cell?_of_block (hgrow.block p.block (by rw [show p.block = g9 from hp]; exact HG9.out.2) (by rw [show p.block = g9 from hp]; exact fun e => HNE.out e.symm))))
      have HG9 := Lib.hid (show w5.heap.size ≤ g9 ∧ g9 < vc.heap.size from ⟨HG9.out.1, Nat.lt_of_lt_of_le HG9.out.2 hgrow.size⟩)
      have HBW := Lib.hid (below_append HBW.out HV0.out (Nat.le_refl _) HZW.out hgrow)
      have HZW := Lib.hid (show w5.heap.size ≤ vc.heap.size from HBW.out.size)
      clear hown hgrow
      simp only [rb3, Act.put, List.setIfInBounds_toArray, List.set_cons_zero, List.set_cons_succ]
      refine hK.out _ _ (fun _ => ⟨Below.cell HBW.out (p := ⟨w.heap.size, 1, none⟩) hlt1 |>.trans hc5, HE5.out.below HBW.out HE5.out.lt⟩) (fun hHeld => ?_)
      replace hHeld := hHeld (by decide)
      clear hK K
      refine Tillst.one (i := 6) (o := rb6) (by kernel_rfl) rfl ?_
      intro K hK
      refine EntM.step_append_rowZ (.tmp 28) (.tmp 30) rfl rfl w5.heap.size v3 n (EntM.flatG es) rfl HV3.out (fun b => b = g9) (some ⟨g9, 0, none⟩) 1 1 [(f, a0, a1, a2)] rfl HLT.out (fun h => by cases h) (by omega) HZW.out ?_
      intro v6 vz hown hgrow _
      rw [← EntM.flatG_append] at hown
      have HBW := Lib.hid (below_append HBW.out HV3.out (Nat.le_refl _) HZW.out hgrow)
      have HZW := Lib.hid (show w5.heap.size ≤ vz.heap.size from HBW.out.size)
      obtain ⟨A6, cap6, rfl⟩ := ownsRow_slice hown
      have HV6 := Lib.hid hown
      clear hown hgrow
      simp only [rb6, Act.put, List.setIfInBounds_toArray, List.set_cons_zero, List.set_cons_succ]
      refine hK.out _ _ (fun _ => ⟨Below.cell HBW.out (p := ⟨w.heap.size, 1, none⟩) hlt1 |>.trans hc5, HE5.out.below HBW.out HE5.out.lt⟩) (fun hHeld => ?_)
      replace hHeld := hHeld (by decide)
      clear hK K
      refine Tillst.take (i := 7) (oi := rb7) (v := ?_) rfl (by kernel_rfl) (by kernel_rfl) (by kernel_rfl) (by kernel_rfl) (fun _ _ _ h => h) (by rfl) ?_ hHeld ?_
      rotate_left
      · intro W hSW; obtain ⟨s1, s2⟩ := hSW; have s4 := s2.cell 0; have s5 := s2.cell 1; have s6 := s2.cell 2; have s7 := s2.cell 3; unfold rb7; go_simp; with_reducible rfl
      simp only [rb7, Act.put, List.setIfInBounds_toArray, List.set_cons_zero, List.set_cons_succ]
      refine Tillst.one (i := 8) (o := rb8) (by kernel_rfl) rfl ?_
      intro K hK
      have hu1 := HU1.out.below HBW.out HU1.out.lt
      have hf1 := hu1.frozen 1
      have hc1 := hu1.cell 1
      refine step_store_cell (.tmp 32) (.tmp 31) 29 (by with_reducible rfl) (by rfl) ⟨w.heap.size, 1, none⟩ (.slice A6 (n + 1) cap6) (by rfl) (by rfl) ?_ ?_
      · go_simp
      simp only [rb8, Act.put]
      refine hK.out _ _ (fun h => absurd h (by decide)) (fun _ => ?_)
      clear hK K
      refine Tillst.done (by kernel_rfl) ?_ _
      refine NoPanic.normal ?_
      have hu2 := hu1.set_ 1 (.slice A6 (n + 1) cap6)
      have hne2 : w.heap.size + 1 + 1 ≠ w.heap.size := by omega
      have ht2 := (HL2.out.below HBW.out HL2.out.lt).far (p := ⟨w.heap.size, 1, none⟩) hne2 (.slice A6 (n + 1) cap6)
      have ho2 := own_past HV6.out hu1 (by decide) 1 (.slice A6 (n + 1) cap6)
      have hbel2 := (HB5.out.trans (HBW.out.mono HB5.out.size)).setCell (p := ⟨w.heap.size, 1, none⟩) (Nat.le_refl _) (.slice A6 (n + 1) cap6)
      generalize vz.setCell ⟨w.heap.size, 1, none⟩ (.slice A6 (n + 1) cap6) = vy at *
      have k0 := hu2.cell 0
      have k1 := hu2.cell 1
      have y0 := ht2.cell 0
      have y1 := ht2.cell 1
      have z0 := ht2.frozen 0
      have z1 := ht2.frozen 1
      have HT2 := Lib.hid ht2
      have HO2 := Lib.hid ho2
      have HBE := Lib.hid hbel2
      clear hu1 hf1 hc1 hu2 ht2 ho2 hbel2
      go_wp2_with (with_reducible refine halt_end ?_)
      have hst := (HT2.out.set_ 0 (.int .i64 s)).set_ 1 (.slice A6 (n + 1) cap6)
      have ho3 := own_past (own_past HO2.out HT2.out (by decide) 0 (.int .i64 s)) (HT2.out.set_ 0 (.int .i64 s)) (by decide) 1 (.slice A6 (n + 1) cap6)
      have hbel := (HBE.out.setCell (p := ⟨w.heap.size + 1 + 1, 0, none⟩) (by simp only []; omega) (.int .i64 s)).setCell (p := ⟨w.heap.size + 1 + 1, 1, none⟩) (by simp only []; omega) (.slice A6 (n + 1) cap6)
      obtain ⟨A2, cap2, e2, _, hA2, hrow⟩ := EntM.rowZ_own ho3 rfl (by simp; omega)
      injection e2 with e2 _ e2c
      subst e2 e2c
      refine Halt.ret (results_row2 rfl _ _ (w.heap.size + 1 + 1) 31 #[.int .i64 s, .slice A6 (n + 1) cap6] _ rfl hst Try.underlying31 rfl size_ref) rfl ⟨⟨A6, n + 1, cap6, by rw [HRM.out]; rfl, ?_⟩, hbel⟩
      rw [HRM.out]
      exact ⟨hrow.more (fun b h => .inr ⟨by omega, h.2⟩), hA2⟩
  · intro K hK
    refine step_litE (.tmp 29) rfl rfl (f, a0, a1, a2) rfl ?_
    intro vb hlit hvb
    obtain ⟨g9, hg9⟩ : ∃ g9, vd.heap.size = g9 := ⟨_, rfl⟩
    have hbb := (show Below vd.heap.size vd vb by rw [hvb]; exact (Below.refl _ _).alloc (Nat.le_refl _) _)
    have HBW := Lib.hid (HBW.out.trans (hbb.mono HZW.out))
    have HG9 := Lib.hid (show w5.heap.size ≤ g9 ∧ g9 < vb.heap.size by rw [hvb, World.size_alloc, ← hg9]; exact ⟨HZW.out, Nat.lt_succ_self _⟩)
    have HZW := Lib.hid (show w5.heap.size ≤ vb.heap.size from HBW.out.size)
    rw [hg9] at hlit ⊢
    have HLT := Lib.hid hlit
    clear hlit hvb hbb hg9
    simp only [rb5, Act.put, List.setIfInBounds_toArray, List.set_cons_zero, List.set_cons_succ]
    refine hK.out _ _ (fun _ => ⟨Below.cell HBW.out (p := ⟨w.heap.size, 1, none⟩) hlt1 |>.trans hc5, HE5.out.below HBW.out HE5.out.lt⟩) (fun hHeld => ?_)
    replace hHeld := hHeld (by decide)
    clear hK K
    refine Tillst.one (i := 0) (o := rb0) (by kernel_rfl) rfl ?_
    intro K hK
    refine step_lit0 rfl rfl ?_
    intro va hva
    have HV0 := Lib.hid (show va.ownsRow w5.heap.size 49 4 (.slice (some ⟨vb.heap.size, 0, none⟩) 0 0) 0 [] by rw [hva]; exact own_empty4 _ HZW.out)
    have HLT := Lib.hid (HLT.out.below (show Below vb.heap.size vb va by rw [hva]; exact (Below.refl _ _).alloc (Nat.le_refl _) _) (fun b h => by rw [h]; exact HG9.out.2))
    have HNE := Lib.hid (show (Value.slice (some ⟨vb.heap.size, 0, none⟩) 0 0).ownBlock ≠ some g9 from fun e => by (have e2 : some vb.heap.size = some g9 := e; injection e2 with e2; have := HG9.out.2; omega))
    have HG9 := Lib.hid (show w5.heap.size ≤ g9 ∧ g9 < va.heap.size from ⟨HG9.out.1, by rw [hva, World.size_alloc]; have := HG9.out.2; omega⟩)
    have HBW := Lib.hid (show Below w5.heap.size w5 va by rw [hva]; exact HBW.out.alloc HZW.out _)
    have HZW := Lib.hid (show w5.heap.size ≤ va.heap.size from HBW.out.size)
    have hsa : va.heap.size = vb.heap.size + 1 := by rw [hva]; simp
    clear hva
    simp only [rb0, Act.put, List.setIfInBounds_toArray, List.set_cons_zero, List.set_cons_succ]
    refine hK.out _ _ (fun _ => ⟨Below.cell HBW.out (p := ⟨w.heap.size, 1, none⟩) hlt1 |>.trans hc5, HE5.out.below HBW.out HE5.out.lt⟩) (fun hHeld => ?_)
    replace hHeld := hHeld (by decide)
    clear hK K
    refine Tillst.one (i := 3) (o := rb3) (by kernel_rfl) rfl ?_
    intro K hK
    refine EntM.step_append_rowZ (.tmp 25) (.tmp 27) rfl rfl w5.heap.size (.slice (some ⟨vb.heap.size, 0, none⟩) 0 0) 0 [] rfl HV0.out S A n cap es rfl (HR5.out.below HBW.out hS5) hA (by omega) HZW.out ?_
    intro v3 vc hown hgrow _
    rw [List.nil_append, Nat.zero_add] at hown
    have HV3 := Lib.hid hown
    have HLT := Lib.hid (HLT.out.keep (fun p hp => World.cell?_of_block (hgrow.block p.block (by rw [show p.block = g9 from hp]; exact HG9.out.2) (by rw [show p.block = g9 from hp]; exact fun e => HNE.out e.symm))))
    have HG9 := Lib.hid (show w5.heap.size ≤ g9 ∧ g9 < vc.heap.size from ⟨HG9.out.1, Nat.lt_of_lt_of_le HG9.out.2 hgrow.size⟩)
    have HBW := Lib.hid (below_append HBW.out HV0.out (Nat.le_refl _) HZW.out hgrow)
    have HZW := Lib.hid (show w5.heap.size ≤ vc.heap.size from HBW.out.size)
    clear hown hgrow
    simp only [rb3, Act.put, List.setIfInBounds_toArray, List.set_cons_zero, List.set_cons_succ]
    refine hK.out _ _ (fun _ => ⟨Below.cell HBW.out (p := ⟨w.heap.size, 1, none⟩) hlt1 |>.trans hc5, HE5.out.below HBW.out HE5.out.lt⟩) (fun hHeld => ?_)
    replace hHeld := hHeld (by decide)
    clear hK K
    refine Tillst.one (i := 6) (o := rb6) (by kernel_rfl) rfl ?_
    intro K hK
    refine EntM.step_append_rowZ (.tmp 28) (.tmp 30) rfl rfl w5.heap.size v3 n (EntM.flatG es) rfl HV3.out (fun b => b = g9) (some ⟨g9, 0, none⟩) 1 1 [(f, a0, a1, a2)] rfl HLT.out (fun h => by cases h) (by omega) HZW.out ?_
    intro v6 vz hown hgrow _
    rw [← EntM.flatG_append] at hown
    have HBW := Lib.hid (below_append HBW.out HV3.out (Nat.le_refl _) HZW.out hgrow)
    have HZW := Lib.hid (show w5.heap.size ≤ vz.heap.size from HBW.out.size)
    obtain ⟨A6, cap6, rfl⟩ := ownsRow_slice hown
    have HV6 := Lib.hid hown
    clear hown hgrow
    simp only [rb6, Act.put, List.setIfInBounds_toArray, List.set_cons_zero, List.set_cons_succ]
    refine hK.out _ _ (fun _ => ⟨Below.cell HBW.out (p := ⟨w.heap.size, 1, none⟩) hlt1 |>.trans hc5, HE5.out.below HBW.out HE5.out.lt⟩) (fun hHeld => ?_)
    replace hHeld := hHeld (by decide)
    clear hK K
    refine Tillst.take (i := 7) (oi := rb7) (v := ?_) rfl (by kernel_rfl) (by kernel_rfl) (by kernel_rfl) (by kernel_rfl) (fun _ _ _ h => h) (by rfl) ?_ hHeld ?_
    rotate_left
    · intro W hSW; obtain ⟨s1, s2⟩ := hSW; have s4 := s2.cell 0; have s5 := s2.cell 1; have s6 := s2.cell 2; have s7 := s2.cell 3; unfold rb7; go_simp; with_reducible rfl
    simp only [rb7, Act.put, List.setIfInBounds_toArray, List.set_cons_zero, List.set_cons_succ]
    refine Tillst.one (i := 8) (o := rb8) (by kernel_rfl) rfl ?_
    intro K hK
    have hu1 := HU1.out.below HBW.out HU1.out.lt
    have hf1 := hu1.frozen 1
    have hc1 := hu1.cell 1
    refine step_store_cell (.tmp 32) (.tmp 31) 29 (by with_reducible rfl) (by rfl) ⟨w.heap.size, 1, none⟩ (.slice A6 (n + 1) cap6) (by rfl) (by rfl) ?_ ?_
    · go_simp
    simp only [rb8, Act.put]
    refine hK.out _ _ (fun h => absurd h (by decide)) (fun _ => ?_)
    clear hK K
    refine Tillst.done (by kernel_rfl) ?_ _
    refine NoPanic.normal ?_
    have hu2 := hu1.set_ 1 (.slice A6 (n + 1) cap6)
    have hne2 : w.heap.size + 1 + 1 ≠ w.heap.size := by omega
    have ht2 := (HL2.out.below HBW.out HL2.out.lt).far (p := ⟨w.heap.size, 1, none⟩) hne2 (.slice A6 (n + 1) cap6)
    have ho2 := own_past HV6.out hu1 (by decide) 1 (.slice A6 (n + 1) cap6)
    have hbel2 := (HB5.out.trans (HBW.out.mono HB5.out.size)).setCell (p := ⟨w.heap.size, 1, none⟩) (Nat.le_refl _) (.slice A6 (n + 1) cap6)
    generalize vz.setCell ⟨w.heap.size, 1, none⟩ (.slice A6 (n + 1) cap6) = vy at *
    have k0 := hu2.cell 0
    have k1 := hu2.cell 1
    have y0 := ht2.cell 0
    have y1 := ht2.cell 1
    have z0 := ht2.frozen 0
    have z1 := ht2.frozen 1
    have HT2 := Lib.hid ht2
    have HO2 := Lib.hid ho2
    have HBE := Lib.hid hbel2
    clear hu1 hf1 hc1 hu2 ht2 ho2 hbel2
    go_wp2_with (with_reducible refine halt_end ?_)
    have hst := (HT2.out.set_ 0 (.int .i64 s)).set_ 1 (.slice A6 (n + 1) cap6)
    have ho3 := own_past (own_past HO2.out HT2.out (by decide) 0 (.int .i64 s)) (HT2.out.set_ 0 (.int .i64 s)) (by decide) 1 (.slice A6 (n + 1) cap6)
    have hbel := (HBE.out.setCell (p := ⟨w.heap.size + 1 + 1, 0, none⟩) (by simp only []; omega) (.int .i64 s)).setCell (p := ⟨w.heap.size + 1 + 1, 1, none⟩) (by simp only []; omega) (.slice A6 (n + 1) cap6)
    obtain ⟨A2, cap2, e2, _, hA2, hrow⟩ := EntM.rowZ_own ho3 rfl (by simp; omega)
    injection e2 with e2 _ e2c
    subst e2 e2c
    refine Halt.ret (results_row2 rfl _ _ (w.heap.size + 1 + 1) 31 #[.int .i64 s, .slice A6 (n + 1) cap6] _ rfl hst Try.underlying31 rfl size_ref) rfl ⟨⟨A6, n + 1, cap6, by rw [HRM.out]; rfl, ?_⟩, hbel⟩
    rw [HRM.out]
    exact ⟨hrow.more (fun b h => .inr ⟨by omega, h.2⟩), hA2⟩
end Go.Proofs.Ytfgmbkflpdobcaa
