/- The law's agree. -/
import Derived.Test.YtfgmbkflpdobcaaDoesW
import Derived.Test.YtfgmbkflpdobcaaAll1
import Derived.Test.YtfgmbkflpdobcaaUnroll
namespace Go.Proofs.Ytfgmbkflpdobcaa
open Go.RowKit Go.Shelf
attribute [local go_sem] Oper.semAt_some
set_option linter.unusedVariables false
set_option linter.unusedSimpArgs false
open EntM (RowE entV ent0)
theorem left_dn {w : World} {x slots : Nat} {es : List Ent} (h : IxE w x slots es) :
    Calls Try.prog 17 #[.pointer (some ⟨x, 0, none⟩)] w fun e w' => e = .returned (.int .i64 ((slots : Int) - (es.length : Nat))) ∧ ∃ n, w' = w.drewN n := by
  obtain ⟨c, L, fr, hx, hr, rfl⟩ := h
  have h1 := hx.lo (i := 0) (by omega)
  have h2 := hx.lo (i := 1) (by omega)
  rw [hr.s0] at h1
  rw [hr.n] at h2
  have hall := hr.all
  have htop := hr.top
  rw [List.length_map]
  clear hx hr
  go_enter Try.func17, Try.ntmps17
  go_wp2_with fail
  go_quiet (fail)
  go_wp2
  go_ret
  exact ⟨rfl, _, rfl⟩
theorem eql_fn10 (f : Nat) (c : Array Value) (w : World) : (binOp .eql 51 (.func (.func f) #[] c) .nilFunc).run Try.prog w = .ok (.bool false) w := by
  have h : (Op.equal 51 (.func (.func f) #[] c) .nilFunc).run Try.prog w = .ok false w := by
    rw [show Op.equal 51 (.func (.func f) #[] c) .nilFunc = Op.equalIn (9999 + 1) 51 (.func (.func f) #[] c) .nilFunc from rfl]
    unfold Op.equalIn
    simp [Sem.run_bind, run_underlying Try.underlying51]
  simp [go_sem, binOp, h]
theorem MarksR.setLow {m : Nat} {Ds : List Nat} {W : World} (h : MarksR m Ds W) {p : Addr} (hp : p.block < m) (u : Value) : MarksR m Ds (W.setCell p u) :=
  ⟨h.1, fun D hD => by
    obtain ⟨h1, h2, h3⟩ := h.2 D hD
    exact ⟨h1, by simpa [World.setCell] using h2, (Below.heap_setCell W p u D (by omega)).trans h3⟩⟩
set_option maxRecDepth 100000 in
set_option maxHeartbeats 8000000 in
theorem agree_any (w : World) (x slots : Nat) (es : List Ent) (A : Option Addr) (n cap : Nat) (hx : IxE w x slots es) (hr : RowE w (fun b => b < w.heap.size) A n es) :
    Calls Try.prog 12 #[.pointer (some ⟨x, 0, none⟩), refV slots A n cap] w fun e w' => e = .returned (.bool true) ∧ Below w.heap.size w w' := by
  have hl := hr.1
  have hlen := hx.len
  have hxl := hx.lt
  obtain ⟨w2, hw2⟩ : ∃ w2, w2 = (w.alloc (.cells #[.int .i64 slots, .slice A n cap] 31)).alloc (.cells #[.bool false] 4) := ⟨_, rfl⟩
  have hb2 : Below w.heap.size w w2 := by rw [hw2]; exact ((Below.refl _ w).alloc (Nat.le_refl _) _).alloc (by simp) _
  have HB2 := Lib.hid hb2
  have HK1 := Lib.hid (show Blk w2 w.heap.size 31 #[.int .i64 slots, .slice A n cap] by rw [hw2]; exact (Blk.new w _ _).alloc _)
  have HK2 := Lib.hid (show Blk w2 (w.heap.size + 1) 4 #[.bool false] by rw [hw2]; have h := Blk.new (w.alloc (.cells #[.int .i64 slots, .slice A n cap] 31)) 4 #[.bool false]; simpa using h)
  have HX2 := Lib.hid (hx.below hb2 hxl)
  have HR2 := Lib.hid (hr.below hb2 (fun b h => h))
  have k0 := HK1.out.cell 0
  have k1 := HK1.out.cell 1
  have hq1 : ((es.length : Int) != (n : Int)) = false := by simp; omega
  have hq2 : (((slots : Int) - (es.length : Nat)) != ((slots : Int) - (n : Nat))) = false := by simp; omega
  have HLN := Lib.hid (fun (W : World) (h : IxE W x slots es) => len_e h)
  have HLF := Lib.hid (fun (W : World) (h : IxE W x slots es) => left_dn h)
  refine (callsIn_wide (n := 7)).1 ?_
  refine callsIn_of_wp_marks Try.func12 rfl trivial ?_ rfl
  simp only [Try.ntmps12, List.size_toArray, List.length_cons, List.length_nil, Nat.reduceAdd, Nat.reduceSub, Array.replicate_succ, Array.replicate_zero, List.push_toArray, List.append_toArray, List.nil_append, List.cons_append]
  refine wpIn_wide.2 ?_
  go_wp2_with fail
  rw [← hw2]
  have HXD := Lib.hid (fun (m : Nat) => HX2.out.kept ((Kept.refl (fun _ => True) w2).drewN m) trivial)
  clear hw2
  go_quiet (first
    | (go_at_call 16; exact Calls.quiet_of_same (HLN.out _ (HXD.out _)))
    | (go_at_call 17; exact quiet_draw ((HLF.out _ (HXD.out _)).mono (by rintro e w' ⟨rfl, m, rfl⟩; exact ⟨rfl, m, rfl⟩))))
  obtain ⟨w3, hw3⟩ : ∃ w3, w3 = w2.drewN nq := ⟨_, rfl⟩
  rw [← hw3]
  have hb3 : Below w.heap.size w w3 := by rw [hw3]; exact below_drewN HB2.out nq
  have HB3 := Lib.hid hb3
  have HP3 := Lib.hid (show Blk w3 w.heap.size 31 #[.int .i64 slots, .slice A n cap] by rw [hw3]; exact HK1.out.drewN nq)
  have HT3 := Lib.hid (show Blk w3 (w.heap.size + 1) 4 #[.bool false] by rw [hw3]; exact HK2.out.drewN nq)
  have HR3 := Lib.hid (hr.below hb3 (fun b h => h))
  obtain ⟨c, L, fr, hix, hrep, hes⟩ := hx.below hb3 hxl
  have HES := Lib.hid hes
  have hLn : L.length = n := by have := congrArg List.length hes; simp at this; omega
  have HLN2 := Lib.hid hLn
  have HL1024 := Lib.hid (show L.length ≤ 1024 by omega)
  clear hLn
  have HALL := Lib.hid (all_any hix hrep)
  clear hw3 hb3 hix hrep hes hx k0 k1 hq1 hq2 HXD HLN HLF
  go_wp2_with fail
  refine HALL.out.mono ?_
  rintro e w4 ⟨g1, g2, v1, v2, rfl, ho1, ho2, hb4, hg1, hg2⟩
  have hfn := eql_fn10 33 #[.pointer (some ⟨g1, 0, none⟩), .pointer (some ⟨g2, 0, none⟩)]
  have HB4 := Lib.hid (HB3.out.trans (hb4.mono HB3.out.size))
  have HP4 := Lib.hid (HP3.out.below hb4 HP3.out.lt)
  have HT4 := Lib.hid (HT3.out.below hb4 HT3.out.lt)
  have HR4 := Lib.hid ((HR3.out.below hb4 (fun b h => Nat.lt_of_lt_of_le h HB3.out.size)))
  have HO1 := Lib.hid ho1
  have HO2 := Lib.hid ho2
  have hs4 := hb4.size
  obtain ⟨A1, q1, rfl⟩ := ownsRow_slice HO1.out.2
  obtain ⟨A2, q2, rfl⟩ := ownsRow_slice HO2.out.2
  have HALLM := Lib.hid (show ∀ V, Below w4.heap.size w4 V → V.cell? ⟨g1, 0, none⟩ = some (.slice A1 L.length q1) ∧ V.cell? ⟨g2, 0, none⟩ = some (.slice A2 L.length q2) ∧ RowG (Value.int .u32) 0 V (fun b => b < w4.heap.size) A1 L.length (L.map (fun k => c (2 + k))) ∧ RowZ V (fun b => b < w4.heap.size) A2 L.length (L.map (segOf c)) from fun V hV => by
    obtain ⟨k1, r1⟩ := HO1.out
    obtain ⟨k2, r2⟩ := HO2.out
    obtain ⟨A1', q1', e1, _, _, s1⟩ := rowG_own 0 r1
    obtain ⟨A2', q2', e2, _, _, s2⟩ := Adr.rowZ_own r2 rfl (by simp)
    cases e1
    cases e2
    exact ⟨(hV.cell (p := ⟨g1, 0, none⟩) k1.lt).trans (k1.cell 0), (hV.cell (p := ⟨g2, 0, none⟩) k2.lt).trans (k2.cell 0), (s1.more (fun b hb => hb.2.1)).below hV (fun b h => h), (s2.more (fun b hb => hb.2)).below hV (fun b h => h)⟩)
  have hlt4 := HT4.out.lt
  clear ho1 ho2 hb4 HALL
  go_wp2_with fail
  refine (wpIn_wide (n := 7)).1 ?_
  refine wpIn_rounds 2 ?_
  unfold Rounds
  refine wpIn_wide.2 ?_
  go_wp2_with fail
  refine (wpIn_wide (n := 7)).1 ?_
  obtain ⟨w5, hw5⟩ : ∃ w5, w5 = (w4.alloc (.cells #[.int .i64 0] 3)).alloc (.cells #[.int .i64 0] 3) := ⟨_, rfl⟩
  have HB6 := Lib.hid (show Blk w5 w4.heap.size 3 #[.int .i64 0] by rw [hw5]; exact (Blk.new w4 _ _).alloc _)
  have HB7 := Lib.hid (show Blk w5 (w4.heap.size + 1) 3 #[.int .i64 (0 : Nat)] by rw [hw5]; have h := Blk.new (w4.alloc (.cells #[.int .i64 0] 3)) 3 #[.int .i64 0]; simpa using h)
  have HBW := Lib.hid (show Below w4.heap.size w4 w5 by rw [hw5]; exact ((Below.refl _ w4).alloc (Nat.le_refl _) _).alloc (by simp) _)
  rw [← hw5]
  clear hw5
  refine range_by rfl (by decide) (gf := 33) (lb := #[.pointer (some ⟨g1, 0, none⟩), .pointer (some ⟨g2, 0, none⟩)]) rfl trivial (enters_of Try.func33 (by kernel_rfl) rfl)
    (encs := fun i => #[.int .u32 ((L.map (fun k => c (2 + k))).getD i 0), .agg (segC ((L.map (segOf c)).getD i seg0)).toArray]) (N := L.length) (M := fun _ V => Below w4.heap.size w4 V)
    (all1_seq 6 g1 g2 L.length A1 A2 q1 q2 _ _ HL1024.out _ (fun i V hV => HALLM.out V hV)) (fun _ => rfl)
    (fun i V => (Blk V (w4.heap.size) 3 #[.int .i64 0] ∧ Blk V (w4.heap.size + 1) 3 #[.int .i64 (i : Nat)]) ∧ Below w4.heap.size w4 V)
    (fun cd i V => (cd = .exit 2 ∧ (0 : Nat) = 1) ∧ Blk V (w4.heap.size) 3 #[.int .i64 0] ∧ Below w4.heap.size w4 V)
    (OwnFrom.and (OwnFrom.and (Own.from (blk_own _ _ (fun _ : Nat => #[.int .i64 0])) _) (Own.from (blk_own _ _ (fun i : Nat => #[.int .i64 (i : Nat)])) _)) (ownFrom_below (Nat.le_refl _) HBW.out.size))
    (fun cd => OwnFrom.and (own_pure _) (OwnFrom.and (Own.from (blk_own _ _ (fun _ : Nat => #[.int .i64 0])) _) (ownFrom_below (Nat.le_refl _) HBW.out.size)))
    ⟨⟨HB6.out, HB7.out⟩, HBW.out⟩
    (fun i V hV => hV.2)
    (fun i a' V => ∃ b9, a' = { tmps := List.toArray (.pointer (some ⟨x, 0, none⟩) :: refV slots A n cap :: undef :: .pointer (some ⟨w.heap.size, 0, none⟩) :: .pointer (some ⟨w.heap.size + 1, 0, none⟩) :: .func (.func 33) #[] #[.pointer (some ⟨g1, 0, none⟩), .pointer (some ⟨g2, 0, none⟩)] :: .pointer (some ⟨w4.heap.size, 0, none⟩) :: .pointer (some ⟨w4.heap.size + 1, 0, none⟩) :: .int .u32 ((L.map (fun k => c (2 + k))).getD i 0) :: .pointer (some ⟨b9, 0, none⟩) :: .pointer (some ⟨x, 0, none⟩) :: .int .i64 n :: .pointer (some ⟨w.heap.size, 1, none⟩) :: .slice A n cap :: .int .i64 n :: .bool false :: .bool false :: .pointer (some ⟨x, 0, none⟩) :: .int .i64 ((slots : Int) - n) :: .pointer (some ⟨w.heap.size, 0, none⟩) :: .int .i64 slots :: .pointer (some ⟨w.heap.size, 1, none⟩) :: .slice A n cap :: .int .i64 n :: .int .i64 ((slots : Int) - n) :: .bool false :: .bool false :: .pointer (some ⟨x, 0, none⟩) :: .func (.func 33) #[] #[.pointer (some ⟨g1, 0, none⟩), .pointer (some ⟨g2, 0, none⟩)] :: .func (.func 33) #[] #[.pointer (some ⟨g1, 0, none⟩), .pointer (some ⟨g2, 0, none⟩)] :: .bool false :: .int .i64 0 :: .bool true :: undef :: undef :: .func (.func 33) #[] #[.pointer (some ⟨g1, 0, none⟩), .pointer (some ⟨g2, 0, none⟩)] :: .int .u32 ((L.map (fun k => c (2 + k))).getD i 0) :: .agg (segC ((L.map (segOf c)).getD i seg0)).toArray :: undef :: undef :: undef :: undef :: undef :: undef :: undef :: undef :: undef :: undef :: undef :: undef :: undef :: undef :: undef :: undef :: undef :: undef :: undef :: undef :: undef :: undef :: undef :: undef :: undef :: undef :: undef :: undef :: undef :: undef :: undef :: undef :: undef :: undef :: []), defers := [] } ∧ Blk V b9 36 (segC ((L.map (segOf c)).getD i seg0)).toArray)
    (fun i a' _ X Y row hs hg hr => by obtain ⟨b9, e, hb⟩ := hs; exact ⟨b9, e, (Own.from (blk_own b9 36 (fun _ : Unit => (segC ((L.map (segOf c)).getD i seg0)).toArray)) _) () X Y row hb hg hr⟩)
    ?assignA ?bodyA ?doneA ?stopA
  case assignA =>
    rintro l i W K hi hI hK
    clear hi
    obtain ⟨k1, hk1⟩ : ∃ k1, (L.map (fun k => c (2 + k))).getD i 0 = k1 := ⟨_, rfl⟩
    obtain ⟨⟨s0, s1, s2⟩, hs⟩ : ∃ s, (L.map (segOf c)).getD i seg0 = s := ⟨_, rfl⟩
    rw [hk1, hs] at hK ⊢
    gi_wp2
    refine hK _ _ ?_ ?_ ⟨_, rfl, ?_⟩
    · exact (KeepsOthers.alloc W _).from _
    · exact ⟨⟨hI.1.1.alloc _, hI.1.2.alloc _⟩, hI.2.alloc hI.2.size _⟩
    · exact Blk.new W _ _
  case bodyA =>
    rintro l i a' W hi hl ⟨rr, hrr⟩ ⟨⟨h6, h7⟩, hB⟩ ⟨b9, rfl, h9⟩
    have hB4 := hB
    have hin : i < n := by have := HLN2.out; omega
    obtain ⟨k, hk⟩ : ∃ k, L.getD i 0 = k := ⟨_, rfl⟩
    have e1 : (L.map (fun k => c (2 + k))).getD i 0 = c (2 + k) := by rw [← hk]; simp [List.getD, List.getElem?_eq_getElem hi]
    have e2 : (L.map (segOf c)).getD i seg0 = segOf c k := by rw [← hk]; simp [List.getD, List.getElem?_eq_getElem hi]
    have e3 : es.getD i ent0 = entC c k := by rw [← HES.out, ← hk]; simp [List.getD, List.getElem?_eq_getElem hi]
    rw [e1]
    rw [e2] at h9 ⊢
    have hrW := HR4.out.below hB4 (fun b h => Nat.lt_of_lt_of_le h HB4.out.size)
    obtain ⟨b, off, rfl, hbS, hcells⟩ := hrW.2 (by omega)
    have hc := hcells i hin
    rw [e3] at hc
    have z0 := hc 0 _ rfl
    have z1 := hc 1 _ rfl
    have z2 := hc 2 _ rfl
    have z3 := hc 3 _ rfl
    simp only [entC, segOf, Nat.add_zero] at z0 z1 z2 z3 h9 ⊢
    obtain ⟨f0, hf0⟩ : ∃ f0, c (2 + k) = f0 := ⟨_, rfl⟩
    obtain ⟨f1, hf1⟩ : ∃ f0, c (1027 + k * 3) = f0 := ⟨_, rfl⟩
    obtain ⟨f2, hf2⟩ : ∃ f0, c (1027 + k * 3 + 1) = f0 := ⟨_, rfl⟩
    obtain ⟨f3, hf3⟩ : ∃ f0, c (1027 + k * 3 + 2) = f0 := ⟨_, rfl⟩
    rw [hf0] at z0 ⊢
    rw [hf1] at z1 h9
    rw [hf2] at z2 h9
    rw [hf3] at z3 h9
    have p1 := (HP4.out.below hB4 (by have := HT4.out.lt; omega)).cell 1
    have n7 := h7.cell 0
    have r6 := h6.cell 0
    have a0 := h9.cell 0
    have a1 := h9.cell 1
    have a2 := h9.cell 2
    have hq := neq_ent f0 f1 f2 f3 f0 f1 f2 f3
    simp only [decide_true, Bool.not_true] at hq
    have hge : decide (n ≤ i) = false := by simp; omega
    have H6 := Lib.hid h6
    have H7 := Lib.hid h7
    have H9 := Lib.hid h9
    have HBv := Lib.hid hB
    clear hf0 hf1 hf2 hf3 e1 e2 e3 hrW hcells hc h6 h7 h9 hB hB4 hi hk
    gi_wp2
    refine region_quietR (by kernel_rfl) (by kernel_rfl) (by kernel_rfl) ?_
    repeat (gi_big_quiet_step (fail))
    refine wpQuietIn_nil ?_
    intro _ hw'
    obtain ⟨nq, hw''⟩ := hw'
    subst hw''
    have n7 := (H7.out.drewN nq).cell 0
    have f7 := (H7.out.drewN nq).frozen 0
    gi_wp2
    refine ⟨((keeps_drewN W nq).trans (KeepsOthers.setCell _ _ _)).from _, ⟨(H6.out.drewN nq).far (p := ⟨w4.heap.size + 1, 0, none⟩) (by simp) _, ?_⟩, (below_drewN HBv.out nq).setCell (p := ⟨w4.heap.size + 1, 0, none⟩) (by simp) _⟩
    have h := (H7.out.drewN nq).set_ 0 (.int .i64 ((i : Int) + 1))
    simpa using h
  case doneA =>
    rintro D1 W hD ⟨⟨h6, h7⟩, hB⟩ hK
    rw [HLN2.out] at h7
    have d6 := h6.cell 0
    have f6 := h6.frozen 0
    have d7 := h7.cell 0
    have p1 := (HP4.out.below hB (by have := HT4.out.lt; omega)).cell 1
    go_wp2_with fail
    unfold Rounds
    refine wpIn_wide.2 ?_
    go_wp2_with fail
    refine (wpIn_wide (n := 7)).1 ?_
    have HD1 := hD
    obtain ⟨w6, hw6⟩ : ∃ w6, w6 = (W.alloc (.cells #[.int .i64 1] 3)).alloc (.cells #[.int .i64 0] 3) := ⟨_, rfl⟩
    have HB6' := Lib.hid (show Blk w6 W.heap.size 3 #[.int .i64 1] by rw [hw6]; exact (Blk.new W _ _).alloc _)
    have HB7' := Lib.hid (show Blk w6 (W.heap.size + 1) 3 #[.int .i64 (0 : Nat)] by rw [hw6]; have h := Blk.new (W.alloc (.cells #[.int .i64 1] 3)) 3 #[.int .i64 0]; simpa using h)
    have HBW' := Lib.hid (show Below W.heap.size W w6 by rw [hw6]; exact ((Below.refl _ W).alloc (Nat.le_refl _) _).alloc (by simp) _)
    have HBA := Lib.hid hB
    rw [← hw6]
    obtain ⟨wa, hwa⟩ : ∃ wa, wa = W := ⟨_, rfl⟩
    rw [← hwa] at HB6' HB7' HBW' HBA hK ⊢
    clear hw6 h6 h7 hB d6 f6 d7 p1 hwa
    refine range_by rfl (by decide) (gf := 33) (lb := #[.pointer (some ⟨g1, 0, none⟩), .pointer (some ⟨g2, 0, none⟩)]) rfl trivial (enters_of Try.func33 (by kernel_rfl) rfl)
      (encs := fun i => #[.int .u32 ((L.map (fun k => c (2 + k))).getD i 0), .agg (segC ((L.map (segOf c)).getD i seg0)).toArray]) (N := L.length) (M := fun _ V => Below wa.heap.size wa V)
      (all1_seq 6 g1 g2 L.length A1 A2 q1 q2 _ _ HL1024.out _ (fun i V hV => HALLM.out V (HBA.out.trans (hV.mono HBA.out.size)))) (fun _ => rfl)
      (fun i V => (Blk V (wa.heap.size) 3 #[.int .i64 1] ∧ Blk V (wa.heap.size + 1) 3 #[.int .i64 (i : Nat)]) ∧ Below wa.heap.size wa V)
      (fun cd i V => (cd = .exit 2 ∧ (1 : Nat) = 1) ∧ Blk V (wa.heap.size) 3 #[.int .i64 1] ∧ Below wa.heap.size wa V)
      (OwnFrom.and (OwnFrom.and (Own.from (blk_own _ _ (fun _ : Nat => #[.int .i64 1])) _) (Own.from (blk_own _ _ (fun i : Nat => #[.int .i64 (i : Nat)])) _)) (ownFrom_below (Nat.le_refl _) HBW'.out.size))
      (fun cd => OwnFrom.and (own_pure _) (OwnFrom.and (Own.from (blk_own _ _ (fun _ : Nat => #[.int .i64 1])) _) (ownFrom_below (Nat.le_refl _) HBW'.out.size)))
      ⟨⟨HB6'.out, HB7'.out⟩, HBW'.out⟩
      (fun i V hV => hV.2)
      (fun i a' V => ∃ b9, a' = { tmps := List.toArray (.pointer (some ⟨x, 0, none⟩) :: refV slots A n cap :: undef :: .pointer (some ⟨w.heap.size, 0, none⟩) :: .pointer (some ⟨w.heap.size + 1, 0, none⟩) :: .func (.func 33) #[] #[.pointer (some ⟨g1, 0, none⟩), .pointer (some ⟨g2, 0, none⟩)] :: .pointer (some ⟨wa.heap.size, 0, none⟩) :: .pointer (some ⟨wa.heap.size + 1, 0, none⟩) :: .int .u32 ((L.map (fun k => c (2 + k))).getD i 0) :: .pointer (some ⟨b9, 0, none⟩) :: .pointer (some ⟨x, 0, none⟩) :: .int .i64 n :: .pointer (some ⟨w.heap.size, 1, none⟩) :: .slice A n cap :: .int .i64 n :: .bool false :: .bool false :: .pointer (some ⟨x, 0, none⟩) :: .int .i64 ((slots : Int) - n) :: .pointer (some ⟨w.heap.size, 0, none⟩) :: .int .i64 slots :: .pointer (some ⟨w.heap.size, 1, none⟩) :: .slice A n cap :: .int .i64 n :: .int .i64 ((slots : Int) - n) :: .bool false :: .bool false :: .pointer (some ⟨x, 0, none⟩) :: .func (.func 33) #[] #[.pointer (some ⟨g1, 0, none⟩), .pointer (some ⟨g2, 0, none⟩)] :: .func (.func 33) #[] #[.pointer (some ⟨g1, 0, none⟩), .pointer (some ⟨g2, 0, none⟩)] :: .bool false :: .int .i64 1 :: .bool true :: .int .i64 0 :: .int .i64 1 :: .func (.func 33) #[] #[.pointer (some ⟨g1, 0, none⟩), .pointer (some ⟨g2, 0, none⟩)] :: .int .u32 ((L.map (fun k => c (2 + k))).getD i 0) :: .agg (segC ((L.map (segOf c)).getD i seg0)).toArray :: undef :: undef :: undef :: undef :: undef :: undef :: undef :: undef :: undef :: undef :: undef :: undef :: undef :: undef :: undef :: undef :: undef :: undef :: undef :: undef :: undef :: undef :: undef :: undef :: .int .i64 0 :: .bool true :: .bool true :: .int .i64 n :: .pointer (some ⟨w.heap.size, 1, none⟩) :: .slice A n cap :: .int .i64 n :: .bool false :: .bool false :: .int .i64 0 :: []), defers := [] } ∧ Blk V b9 36 (segC ((L.map (segOf c)).getD i seg0)).toArray)
      (fun i a' _ X Y row hs hg hr => by obtain ⟨b9, e, hb⟩ := hs; exact ⟨b9, e, (Own.from (blk_own b9 36 (fun _ : Unit => (segC ((L.map (segOf c)).getD i seg0)).toArray)) _) () X Y row hb hg hr⟩)
      ?assignB ?bodyB ?doneB ?stopB
    case assignB =>
      rintro l i W K hi hI hK
      clear hi
      obtain ⟨k1, hk1⟩ : ∃ k1, (L.map (fun k => c (2 + k))).getD i 0 = k1 := ⟨_, rfl⟩
      obtain ⟨⟨s0, s1, s2⟩, hs⟩ : ∃ s, (L.map (segOf c)).getD i seg0 = s := ⟨_, rfl⟩
      rw [hk1, hs] at hK ⊢
      gi_wp2
      refine hK _ _ ?_ ?_ ⟨_, rfl, ?_⟩
      · exact (KeepsOthers.alloc W _).from _
      · exact ⟨⟨hI.1.1.alloc _, hI.1.2.alloc _⟩, hI.2.alloc hI.2.size _⟩
      · exact Blk.new W _ _
    case bodyB =>
      rintro l i a' W hi hl ⟨rr, hrr⟩ ⟨⟨h6, h7⟩, hB⟩ ⟨b9, rfl, h9⟩
      have hB4 := (HBA.out.trans (hB.mono HBA.out.size))
      have hin : i < n := by have := HLN2.out; omega
      obtain ⟨k, hk⟩ : ∃ k, L.getD i 0 = k := ⟨_, rfl⟩
      have e1 : (L.map (fun k => c (2 + k))).getD i 0 = c (2 + k) := by rw [← hk]; simp [List.getD, List.getElem?_eq_getElem hi]
      have e2 : (L.map (segOf c)).getD i seg0 = segOf c k := by rw [← hk]; simp [List.getD, List.getElem?_eq_getElem hi]
      have e3 : es.getD i ent0 = entC c k := by rw [← HES.out, ← hk]; simp [List.getD, List.getElem?_eq_getElem hi]
      rw [e1]
      rw [e2] at h9 ⊢
      have hrW := HR4.out.below hB4 (fun b h => Nat.lt_of_lt_of_le h HB4.out.size)
      obtain ⟨b, off, rfl, hbS, hcells⟩ := hrW.2 (by omega)
      have hc := hcells i hin
      rw [e3] at hc
      have z0 := hc 0 _ rfl
      have z1 := hc 1 _ rfl
      have z2 := hc 2 _ rfl
      have z3 := hc 3 _ rfl
      simp only [entC, segOf, Nat.add_zero] at z0 z1 z2 z3 h9 ⊢
      obtain ⟨f0, hf0⟩ : ∃ f0, c (2 + k) = f0 := ⟨_, rfl⟩
      obtain ⟨f1, hf1⟩ : ∃ f0, c (1027 + k * 3) = f0 := ⟨_, rfl⟩
      obtain ⟨f2, hf2⟩ : ∃ f0, c (1027 + k * 3 + 1) = f0 := ⟨_, rfl⟩
      obtain ⟨f3, hf3⟩ : ∃ f0, c (1027 + k * 3 + 2) = f0 := ⟨_, rfl⟩
      rw [hf0] at z0 ⊢
      rw [hf1] at z1 h9
      rw [hf2] at z2 h9
      rw [hf3] at z3 h9
      have p1 := (HP4.out.below hB4 (by have := HT4.out.lt; omega)).cell 1
      have n7 := h7.cell 0
      have r6 := h6.cell 0
      have a0 := h9.cell 0
      have a1 := h9.cell 1
      have a2 := h9.cell 2
      have hq := neq_ent f0 f1 f2 f3 f0 f1 f2 f3
      simp only [decide_true, Bool.not_true] at hq
      have hge : decide (n ≤ i) = false := by simp; omega
      have H6 := Lib.hid h6
      have H7 := Lib.hid h7
      have H9 := Lib.hid h9
      have HBv := Lib.hid hB
      clear hf0 hf1 hf2 hf3 e1 e2 e3 hrW hcells hc h6 h7 h9 hB hB4 hi hk
      gi_wp2
      refine region_quietR (by kernel_rfl) (by kernel_rfl) (by kernel_rfl) ?_
      repeat (gi_big_quiet_step (fail))
      refine wpQuietIn_nil ?_
      intro _ hw'
      obtain ⟨nq, hw''⟩ := hw'
      subst hw''
      have n7 := (H7.out.drewN nq).cell 0
      have f7 := (H7.out.drewN nq).frozen 0
      by_cases hi1 : i = 1
      · subst hi1
        gi_wp2
        exact ⟨((keeps_drewN W nq).trans (KeepsOthers.setCell _ _ _)).from _, ⟨rfl, by first | trivial | rfl⟩, (H6.out.drewN nq).far (p := ⟨wa.heap.size + 1, 0, none⟩) (by simp) _, (below_drewN HBv.out nq).setCell (p := ⟨wa.heap.size + 1, 0, none⟩) (by simp) _⟩
      · have hne : ((i : Int) + 1 == 2) = false := by simp; omega
        gi_wp2
        refine ⟨((keeps_drewN W nq).trans (KeepsOthers.setCell _ _ _)).from _, ⟨(H6.out.drewN nq).far (p := ⟨wa.heap.size + 1, 0, none⟩) (by simp) _, ?_⟩, (below_drewN HBv.out nq).setCell (p := ⟨wa.heap.size + 1, 0, none⟩) (by simp) _⟩
        have h := (H7.out.drewN nq).set_ 0 (.int .i64 ((i : Int) + 1))
        simpa using h
    case doneB =>
      rintro D2 wb hD ⟨⟨h6, h7⟩, hB⟩ hK'
      rw [HLN2.out] at h7
      have d6 := h6.cell 0
      have f6 := h6.frozen 0
      have d7 := h7.cell 0
      have HTB := Lib.hid ((HT4.out.below (HBA.out.trans (hB.mono HBA.out.size)) hlt4).alloc (.cells #[.int .i64 2] 3))
      have t4 := HTB.out.frozen 0
      have t5 := HTB.out.cell 0
      have HM := Lib.hid (show MarksR w4.heap.size [D2, D1] wb from by
        have hd1 := (Array.getElem?_eq_some_iff.1 hK).1
        have hd2 := (Array.getElem?_eq_some_iff.1 hK').1
        have s1 := HBW.out.size
        have s2 := HBW'.out.size
        have s3 := HBA.out.size
        have s4 := hB.size
        refine ⟨by simp; omega, fun D hDm => ?_⟩
        rcases List.mem_cons.1 hDm with rfl | hDm
        · exact ⟨by omega, hd2, hK'⟩
        · obtain rfl : D = D1 := by simpa using hDm
          exact ⟨by omega, by omega, (hB.block D hd1).trans hK⟩)
      have HE := Lib.hid (HB4.out.trans ((HBA.out.trans (hB.mono HBA.out.size)).mono HB4.out.size))
      have HLT := Lib.hid hlt4
      clear h6 h7 hB hK hK' hD
      go_wp2_with fail
      unfold Rounds
      refine wpIn_wide.2 ?_
      go_wp2_with fail
      refine leaves_marks (w := w4) [D2, D1] _ ((HM.out.below ((Below.refl _ _).alloc (Nat.le_refl _) _)).setLow (p := ⟨w.heap.size + 1, 0, none⟩) HLT.out _) (fun W' hW' => ⟨.bool true, ?_, rfl, ?_⟩)
      · have hc : W'.cell? ⟨w.heap.size + 1, 0, none⟩ = some (.bool true) := (Below.cell hW' (p := ⟨w.heap.size + 1, 0, none⟩) HLT.out).trans ((HTB.out.set_ 0 (.bool true)).cell 0)
        simp [results, Try.f12, go_sem, hc]
      · exact ((HE.out.alloc HE.out.size _).setCell (p := ⟨w.heap.size + 1, 0, none⟩) (by simp) _).trans (hW'.mono HB4.out.size)
    case stopB =>
      rintro D2 cd i wb hD hi ⟨⟨rfl, hr1⟩, h6, hB⟩ hK'
      have d6 := h6.cell 0
      have f6 := h6.frozen 0
      have HTB := Lib.hid ((HT4.out.below (HBA.out.trans (hB.mono HBA.out.size)) hlt4).alloc (.cells #[.int .i64 2] 3))
      have t4 := HTB.out.frozen 0
      have t5 := HTB.out.cell 0
      have HM := Lib.hid (show MarksR w4.heap.size [D2, D1] wb from by
        have hd1 := (Array.getElem?_eq_some_iff.1 hK).1
        have hd2 := (Array.getElem?_eq_some_iff.1 hK').1
        have s1 := HBW.out.size
        have s2 := HBW'.out.size
        have s3 := HBA.out.size
        have s4 := hB.size
        refine ⟨by simp; omega, fun D hDm => ?_⟩
        rcases List.mem_cons.1 hDm with rfl | hDm
        · exact ⟨by omega, hd2, hK'⟩
        · obtain rfl : D = D1 := by simpa using hDm
          exact ⟨by omega, by omega, (hB.block D hd1).trans hK⟩)
      have HE := Lib.hid (HB4.out.trans ((HBA.out.trans (hB.mono HBA.out.size)).mono HB4.out.size))
      have HLT := Lib.hid hlt4
      clear h6 hB hK hK' hD
      refine wpIn_wide.2 ?_
      go_wp2_with fail
      unfold Rounds
      refine wpIn_wide.2 ?_
      go_wp2_with fail
      refine leaves_marks (w := w4) [D2, D1] _ ((HM.out.below ((Below.refl _ _).alloc (Nat.le_refl _) _)).setLow (p := ⟨w.heap.size + 1, 0, none⟩) HLT.out _) (fun W' hW' => ⟨.bool true, ?_, rfl, ?_⟩)
      · have hc : W'.cell? ⟨w.heap.size + 1, 0, none⟩ = some (.bool true) := (Below.cell hW' (p := ⟨w.heap.size + 1, 0, none⟩) HLT.out).trans ((HTB.out.set_ 0 (.bool true)).cell 0)
        simp [results, Try.f12, go_sem, hc]
      · exact ((HE.out.alloc HE.out.size _).setCell (p := ⟨w.heap.size + 1, 0, none⟩) (by simp) _).trans (hW'.mono HB4.out.size)
  case stopA =>
    rintro D1 cd i W hD hi ⟨⟨rfl, hr1⟩, h6, hB⟩ hK
    exact absurd hr1 (by decide)
end Go.Proofs.Ytfgmbkflpdobcaa
