/- The document's Seal. -/
import Derived.Test.YtkmbbfdjdmkjpaaRefO
import Derived.Test.YtkmbbfdjdmkjpaaRefU
namespace Go.Proofs.Ytkmbbfdjdmkjpaa
open Go.RowKit
set_option linter.unusedVariables false
set_option linter.unusedSimpArgs false

abbrev la0 : Oper := { dst := some 15, op := Go.Op.fieldAddr 66 (Go.Operand.tmp 1) 1, type := 0, pos := "ref.go:176", after := #[], guard := none }
abbrev la1 : Oper := { dst := some 16, op := Go.Op.load 64 (Go.Operand.tmp 15), type := 64, pos := "ref.go:176", after := #[{ on := 0, ground := Go.Ground.data }], guard := none }
abbrev la2 : Oper := { dst := some 17, op := Go.Op.load 66 (Go.Operand.tmp 1), type := 66, pos := "ref.go:176", after := #[], guard := none }
abbrev la3 : Oper := { dst := some 18, op := Go.Op.call { callee := Go.Callee.value (Go.Operand.func 47), args := #[Go.Operand.tmp 17], argTypes := #[66] }, type := 3, pos := "ref.go:176", after := #[{ on := 2, ground := Go.Ground.data }], guard := none }
abbrev la4 : Oper := { dst := some 19, op := Go.Op.indexAddr 64 (Go.Operand.tmp 16) (Go.Operand.tmp 18), type := 0, pos := "ref.go:176", after := #[{ on := 1, ground := Go.Ground.data }, { on := 3, ground := Go.Ground.data }], guard := none }
abbrev la5 : Oper := { dst := some 20, op := Go.Op.load 78 (Go.Operand.tmp 19), type := 78, pos := "ref.go:176", after := #[{ on := 4, ground := Go.Ground.data }], guard := none }
abbrev la6 : Oper := { dst := some 4, op := Go.Op.alloc 78, type := 0, pos := "ref.go:176", after := #[], guard := none }
abbrev la7 : Oper := { dst := none, op := Go.Op.store 78 (Go.Operand.tmp 4) (Go.Operand.tmp 20), type := 0, pos := "ref.go:176", after := #[{ on := 6, ground := Go.Ground.data }, { on := 5, ground := Go.Ground.data }, { on := 3, ground := Go.Ground.chain }, { on := 0, ground := Go.Ground.phase }, { on := 1, ground := Go.Ground.phase }, { on := 2, ground := Go.Ground.phase }, { on := 3, ground := Go.Ground.phase }, { on := 4, ground := Go.Ground.phase }, { on := 5, ground := Go.Ground.phase }, { on := 6, ground := Go.Ground.phase }], guard := none }
abbrev lb0 : Oper := { dst := some 22, op := Go.Op.load 66 (Go.Operand.tmp 1), type := 66, pos := "ref.go:178", after := #[], guard := none }
abbrev lb1 : Oper := { dst := some 23, op := Go.Op.load 66 (Go.Operand.tmp 1), type := 66, pos := "ref.go:178", after := #[], guard := none }
abbrev lb2 : Oper := { dst := some 24, op := Go.Op.call { callee := Go.Callee.value (Go.Operand.func 47), args := #[Go.Operand.tmp 23], argTypes := #[66] }, type := 3, pos := "ref.go:178", after := #[{ on := 1, ground := Go.Ground.data }], guard := none }
abbrev lb3 : Oper := { dst := some 25, op := Go.Op.load 78 (Go.Operand.tmp 4), type := 78, pos := "ref.go:178", after := #[], guard := none }
abbrev lb4 : Oper := { dst := some 26, op := Go.Op.call { callee := Go.Callee.value (Go.Operand.func 93), args := #[Go.Operand.tmp 22, Go.Operand.tmp 24, Go.Operand.tmp 25], argTypes := #[66, 3, 78] }, type := 66, pos := "ref.go:178", after := #[{ on := 0, ground := Go.Ground.data }, { on := 2, ground := Go.Ground.data }, { on := 3, ground := Go.Ground.data }, { on := 2, ground := Go.Ground.chain }], guard := none }
abbrev lb5 : Oper := { dst := none, op := Go.Op.store 66 (Go.Operand.tmp 2) (Go.Operand.tmp 26), type := 0, pos := "ref.go:178", after := #[{ on := 4, ground := Go.Ground.data }, { on := 4, ground := Go.Ground.chain }, { on := 0, ground := Go.Ground.phase }, { on := 1, ground := Go.Ground.phase }, { on := 2, ground := Go.Ground.phase }, { on := 3, ground := Go.Ground.phase }, { on := 4, ground := Go.Ground.phase }], guard := none }
abbrev lb6 : Oper := { dst := some 3, op := Go.Op.assign (Go.Operand.const (Go.Value.int Go.IntKind.i64 0)), type := 28, pos := "ref.go:178", after := #[{ on := 5, ground := Go.Ground.chain }, { on := 0, ground := Go.Ground.phase }, { on := 1, ground := Go.Ground.phase }, { on := 2, ground := Go.Ground.phase }, { on := 3, ground := Go.Ground.phase }, { on := 4, ground := Go.Ground.phase }, { on := 5, ground := Go.Ground.phase }], guard := none }

set_option maxRecDepth 100000 in
set_option maxHeartbeats 4000000 in
theorem ref_seal {w : World} {A : Option Addr} {n cap : Nat} {xs : List Seg} (h : RowZ w (· < w.heap.size) A n xs) (sec : Int) (hn : n ≤ 40) (hpos : PosG xs n) :
    Calls Try.prog 57 #[ringV sec A n cap] w fun e w' => TurnT w sec (sealE sec xs) (sealX xs) e w' := by
  have HX := Lib.hid h
  have HV0 := Lib.hid (OW.start w sec A n cap)
  have HR := Lib.hid (ref_right (cap := cap) (row_now h HV0.out.1) sec hn hpos)
  have HO := Lib.hid (fun (W : World) (hh : RowZ W (· < W.heap.size) A n xs) => ref_opened (cap := cap) hh sec hn)
  clear h hpos
  by_cases hk : OkR sec xs
  case neg =>
    rw [decide_eq_false hk] at HR
    have hs : sealE sec xs = 180 := if_pos hk
    rw [hs]
    clear hk hs
    go_enter Try.func57, Try.ntmps57
    go_wp2_with fail
    refine HR.out.mono ?_
    rintro e w1 ⟨rfl, hb1⟩
    have HV1 := Lib.hid (HV0.out.next hb1)
    obtain ⟨q0, q1, q3, q4, f3, f4⟩ := HV1.out.cells
    clear hb1
    go_wp2_with (with_reducible refine halt_end ?_)
    exact Halt.ret (results_row2 (p := 2) (u := 3) rfl _ _ (w.heap.size + 1) 66 #[.int .i64 0, .slice none 0 0] _ rfl (HV1.out.res 0 none 0 0) Try.underlying66 rfl size_ring) rfl (TurnT.no (by decide) (HV1.out.below _ _))
  rw [decide_eq_true hk] at HR
  have HK := Lib.hid hk
  obtain ⟨o, ho⟩ : ∃ o, opnR xs = o := ⟨_, rfl⟩
  have HOO := Lib.hid ho
  rw [ho] at HO
  by_cases h1 : o < 0
  · have d1 : decide (o < 0) = true := decide_eq_true h1
    have hs : sealE sec xs = 181 := by unfold sealE; rw [if_neg (fun k => k hk), ho, if_pos h1]
    rw [hs]
    clear hk hs ho
    go_enter Try.func57, Try.ntmps57
    go_wp2_with fail
    refine HR.out.mono ?_
    rintro e w1 ⟨rfl, hb1⟩
    have HV1 := Lib.hid (HV0.out.next hb1)
    obtain ⟨q0, q1, q3, q4, f3, f4⟩ := HV1.out.cells
    clear hb1
    go_wp2_with fail
    refine (HO.out _ (row_now HX.out HV1.out.1)).mono ?_
    rintro e w2 ⟨rfl, hb2⟩
    have HV2 := Lib.hid (HV1.out.next hb2)
    clear hb2 q0 q1 q3 q4 f3 f4
    obtain ⟨q0, q1, q3, q4, f3, f4⟩ := HV2.out.cells
    go_wp2_with (with_reducible refine halt_end ?_)
    exact Halt.ret (results_row2 (p := 2) (u := 3) rfl _ _ (w.heap.size + 1) 66 #[.int .i64 0, .slice none 0 0] _ rfl (HV2.out.res 0 none 0 0) Try.underlying66 rfl size_ring) rfl (TurnT.no (by decide) (HV2.out.below _ _))
  have hs : sealE sec xs = 0 := by unfold sealE; rw [if_neg (fun k => k hk), ho, if_neg h1]
  have HSE := Lib.hid hs
  obtain ⟨i, hi, hio, hst⟩ := opn_nat hk (by rw [ho]; exact h1)
  obtain rfl : o = i := by rw [← ho, hio]
  have d1 : decide ((i : Int) < 0) = false := decide_eq_false h1
  have hin : i < n := by rw [← HX.out.1]; exact hi
  have hub := used_bound hk hi
  obtain ⟨b, off, hA, hbb, hcc⟩ := seg_get HX.out hin
  subst hA
  obtain ⟨g, hg⟩ : ∃ g, genG xs i = g := ⟨_, rfl⟩
  obtain ⟨us, hus⟩ : ∃ us, usedG xs i = us := ⟨_, rfl⟩
  have HC0 := Lib.hid (show w.cell? ⟨b, off + i * 3, none⟩ = some (.int .i64 1) by rw [← hst]; exact (hcc i hin).1)
  have HC1 := Lib.hid (show w.cell? ⟨b, off + i * 3 + 1, none⟩ = some (.int .u64 g) by rw [← hg]; exact (hcc i hin).2.1)
  have HC2 := Lib.hid (show w.cell? ⟨b, off + i * 3 + 2, none⟩ = some (.int .i64 us) by rw [← hus]; exact (hcc i hin).2.2)
  rw [hus] at hub
  have HXX := Lib.hid (show sealX xs = xs.set i (2, g, us) by unfold sealX; rw [hio, Int.toNat_natCast, hg, hus])
  rw [hs]
  clear hk ho hio hst hs hi hcc hg hus
  go_enter Try.func57, Try.ntmps57
  go_wp2_with fail
  refine HR.out.mono ?_
  rintro e w1 ⟨rfl, hb1⟩
  have HV1 := Lib.hid (HV0.out.next hb1)
  obtain ⟨q0, q1, q3, q4, f3, f4⟩ := HV1.out.cells
  clear hb1
  go_wp2_with fail
  refine (HO.out _ (row_now HX.out HV1.out.1)).mono ?_
  rintro e w2 ⟨rfl, hb2⟩
  have HV2 := Lib.hid (HV1.out.next hb2)
  clear hb2 q0 q1 q3 q4 f3 f4
  obtain ⟨q0, q1, q3, q4, f3, f4⟩ := HV2.out.cells
  have HV := HV2
  go_upto_region 5 with fail
  refine wp_region_noPanic ?_
  refine Tillst.region (fun W => Below w2.heap.size w2 W) [7] (by kernel_rfl) (Below.refl _ _).drew (fun hHeld => ?_)
  have HVL := Lib.hid HV.out.lt
  generalize w2.drew = vd at *
  refine Tillst.take (i := 0) (oi := la0) (v := ?_) rfl (by kernel_rfl) (by kernel_rfl) (by kernel_rfl) (by kernel_rfl) (fun _ _ _ h => h) (by rfl) ?_ hHeld ?_
  rotate_left
  · intro W hSW; (try dsimp only at hSW); unfold la0; go_simp; with_reducible rfl
  simp only [la0, Act.put, List.setIfInBounds_toArray, List.set_cons_zero, List.set_cons_succ]
  refine Tillst.take (i := 1) (oi := la1) (v := ?_) rfl (by kernel_rfl) (by kernel_rfl) (by kernel_rfl) (by kernel_rfl) (fun _ _ _ h => h) (by rfl) ?_ hHeld ?_
  rotate_left
  · intro W hSW; obtain ⟨q0, q1, q3, q4, f3, f4⟩ := (HV.out.next hSW).cells; unfold la1; go_simp; with_reducible rfl
  simp only [la1, Act.put, List.setIfInBounds_toArray, List.set_cons_zero, List.set_cons_succ]
  refine Tillst.take (i := 2) (oi := la2) (v := ?_) rfl (by kernel_rfl) (by kernel_rfl) (by kernel_rfl) (by kernel_rfl) (fun _ _ _ h => h) (by rfl) ?_ hHeld ?_
  rotate_left
  · intro W hSW; obtain ⟨q0, q1, q3, q4, f3, f4⟩ := (HV.out.next hSW).cells; unfold la2; go_simp; with_reducible rfl
  simp only [la2, Act.put, List.setIfInBounds_toArray, List.set_cons_zero, List.set_cons_succ]
  refine Tillst.two (i := 3) (j := 6) (o := la3) (o' := la6) (by kernel_rfl) rfl rfl ?_ ?_
  · intro K hK
    refine step_call 47 #[.tmp 17] #[66] rfl rfl Try.func47 rfl rfl [ringV sec (some ⟨b, off, none⟩) n cap] rfl ?_
    refine (HO.out _ (row_now HX.out (HV.out.next hHeld).1)).mono ?_
    rintro e v3 ⟨rfl, hb⟩
    refine ⟨_, rfl, ?_⟩
    simp only [la3, Act.put, List.setIfInBounds_toArray, List.set_cons_zero, List.set_cons_succ]
    refine hK.out _ _ (fun _ => hHeld.trans (hb.mono hHeld.size)) (fun hHeld => ?_)
    replace hHeld := hHeld (by decide)
    clear hK K
    clear hb
    refine Tillst.take (i := 4) (oi := la4) (v := ?_) rfl (by kernel_rfl) (by kernel_rfl) (by kernel_rfl) (by kernel_rfl) (fun _ _ _ h => h) (by rfl) ?_ hHeld ?_
    rotate_left
    · intro W hSW; (try dsimp only at hSW); unfold la4; go_simp; with_reducible rfl
    simp only [la4, Act.put, List.setIfInBounds_toArray, List.set_cons_zero, List.set_cons_succ]
    refine Tillst.take (i := 5) (oi := la5) (v := ?_) rfl (by kernel_rfl) (by kernel_rfl) (by kernel_rfl) (by kernel_rfl) (fun _ _ _ h => h) (by rfl) ?_ hHeld ?_
    rotate_left
    · intro W hSW; have hb2 := (HV.out.next hSW).1; obtain ⟨y0, y1, y2⟩ : W.cell? ⟨b, off + i * 3, none⟩ = some (.int .i64 1) ∧ W.cell? ⟨b, off + i * 3 + 1, none⟩ = some (.int .u64 g) ∧ W.cell? ⟨b, off + i * 3 + 2, none⟩ = some (.int .i64 us) := ⟨(Below.cell hb2 (p := ⟨b, _, none⟩) hbb).trans HC0.out, (Below.cell hb2 (p := ⟨b, _, none⟩) hbb).trans HC1.out, (Below.cell hb2 (p := ⟨b, _, none⟩) hbb).trans HC2.out⟩; unfold la5; go_simp; with_reducible rfl
    simp only [la5, Act.put, List.setIfInBounds_toArray, List.set_cons_zero, List.set_cons_succ]
    refine Tillst.one (i := 6) (o := la6) (by kernel_rfl) rfl ?_
    intro K hK
    refine step_alloc_seg rfl rfl ?_
    intro G v6 hgs hgl hgb
    have HGS := Lib.hid hgs
    have HGL := Lib.hid (Nat.le_trans hHeld.size hgl)
    simp only [la6, Act.put, List.setIfInBounds_toArray, List.set_cons_zero, List.set_cons_succ]
    refine hK.out _ _ (fun _ => hHeld.trans (hgb.mono hHeld.size)) (fun hHeld => ?_)
    replace hHeld := hHeld (by decide)
    clear hK K
    clear hgs hgl hgb
    refine Tillst.one (i := 7) (o := la7) (by kernel_rfl) rfl ?_
    intro K hK
    refine step_store_whole (.tmp 4) (.tmp 20) 78 rfl rfl G (segC (1, g, us)).toArray (segC seg0).toArray 78 rfl rfl HGS.out Try.sizeOf78 rfl (by intro v hv; simp at hv; rcases hv with rfl | rfl | rfl <;> rfl) ?_
    simp only [la7, Act.put, List.setIfInBounds_toArray, List.set_cons_zero, List.set_cons_succ]
    refine hK.out _ _ (fun h => absurd h (by decide)) (fun _ => ?_)
    clear hK K
    refine Tillst.done (by kernel_rfl) ?_ _
    refine NoPanic.normal ?_
    have hv7 := (HV.out.next hHeld).farRow (Nat.lt_of_lt_of_le HV.out.lt HGL.out) (segC (1, g, us)).toArray
    have hg7 : Blk (v6.setRow G (segC (1, g, us)).toArray) G 78 #[.int .i64 1, .int .u64 g, .int .i64 us] := setRow_heap _ _ _ _ _ _ HGS.out
    generalize v6.setRow G (segC (1, g, us)).toArray = u7 at *
    have HV7 := Lib.hid hv7
    have HG7 := Lib.hid hg7
    obtain ⟨s0, s1, s2⟩ : u7.cell? ⟨G, 0, none⟩ = some (.int .i64 1) ∧ u7.cell? ⟨G, 1, none⟩ = some (.int .u64 g) ∧ u7.cell? ⟨G, 2, none⟩ = some (.int .i64 us) := ⟨hg7.cell 0, hg7.cell 1, hg7.cell 2⟩
    obtain ⟨e0, e1, e2⟩ := And.intro (hg7.frozen 0) (And.intro (hg7.frozen 1) (hg7.frozen 2))
    clear hv7 hg7 hHeld
    go_upto_region 7 with fail
    have HV := Lib.hid (HV7.out.farCell (p := ⟨G, 0, none⟩) (Nat.lt_of_lt_of_le HVL.out HGL.out) (.int .i64 2))
    have HG8 := Lib.hid (HG7.out.set_ 0 (.int .i64 2))
    generalize u7.setCell ⟨G, 0, none⟩ (.int .i64 2) = u8 at *
    clear s0 s1 s2 e0 e1 e2
    refine wp_region_noPanic ?_
    refine Tillst.region (fun W => Below u8.heap.size u8 W) [5, 6] (by kernel_rfl) (Below.refl _ _).drew (fun hHeld => ?_)
    generalize u8.drew = ve at *
    refine Tillst.take (i := 0) (oi := lb0) (v := ?_) rfl (by kernel_rfl) (by kernel_rfl) (by kernel_rfl) (by kernel_rfl) (fun _ _ _ h => h) (by rfl) ?_ hHeld ?_
    rotate_left
    · intro W hSW; obtain ⟨q0, q1, q3, q4, f3, f4⟩ := (HV.out.next hSW).cells; unfold lb0; go_simp; with_reducible rfl
    simp only [lb0, Act.put, List.setIfInBounds_toArray, List.set_cons_zero, List.set_cons_succ]
    refine Tillst.take (i := 1) (oi := lb1) (v := ?_) rfl (by kernel_rfl) (by kernel_rfl) (by kernel_rfl) (by kernel_rfl) (fun _ _ _ h => h) (by rfl) ?_ hHeld ?_
    rotate_left
    · intro W hSW; obtain ⟨q0, q1, q3, q4, f3, f4⟩ := (HV.out.next hSW).cells; unfold lb1; go_simp; with_reducible rfl
    simp only [lb1, Act.put, List.setIfInBounds_toArray, List.set_cons_zero, List.set_cons_succ]
    refine Tillst.take (i := 3) (oi := lb3) (v := ?_) rfl (by kernel_rfl) (by kernel_rfl) (by kernel_rfl) (by kernel_rfl) (fun _ _ _ h => h) (by rfl) ?_ hHeld ?_
    rotate_left
    · intro W hSW; have hG := HG8.out.below hSW HG8.out.lt; obtain ⟨y0, y1, y2⟩ : W.cell? ⟨G, 0, none⟩ = some (.int .i64 2) ∧ W.cell? ⟨G, 1, none⟩ = some (.int .u64 g) ∧ W.cell? ⟨G, 2, none⟩ = some (.int .i64 us) := ⟨hG.cell 0, hG.cell 1, hG.cell 2⟩; unfold lb3; go_simp; with_reducible rfl
    simp only [lb3, Act.put, List.setIfInBounds_toArray, List.set_cons_zero, List.set_cons_succ]
    refine Tillst.one (i := 2) (o := lb2) (by kernel_rfl) rfl ?_
    intro K hK
    refine step_call 47 #[.tmp 23] #[66] rfl rfl Try.func47 rfl rfl [ringV sec (some ⟨b, off, none⟩) n cap] rfl ?_
    refine (HO.out _ (row_now HX.out (HV.out.next hHeld).1)).mono ?_
    rintro e v3 ⟨rfl, hb⟩
    refine ⟨_, rfl, ?_⟩
    simp only [lb2, Act.put, List.setIfInBounds_toArray, List.set_cons_zero, List.set_cons_succ]
    refine hK.out _ _ (fun _ => hHeld.trans (hb.mono hHeld.size)) (fun hHeld => ?_)
    replace hHeld := hHeld (by decide)
    clear hK K
    clear hb
    refine Tillst.one (i := 4) (o := lb4) (by kernel_rfl) rfl ?_
    intro K hK
    refine step_call 93 #[.tmp 22, .tmp 24, .tmp 25] #[66, 3, 78] rfl rfl Try.func93 rfl rfl [ringV sec (some ⟨b, off, none⟩) n cap, .int .i64 i, .agg (segC (2, g, us)).toArray] rfl ?_
    refine (ref_with (row_now HX.out (HV.out.next hHeld).1) (fun h => by cases h) sec (by omega) i hin (2, g, us)).mono ?_
    rintro e v4 ⟨⟨A', cap', rfl, hown⟩, hb⟩
    have HV4 := Lib.hid ((HV.out.next hHeld).next hb)
    have HLT := Lib.hid (HV.out.next hHeld).lt
    have HZ4 := Lib.hid (HV.out.next hHeld).1.size
    have HO4 := Lib.hid (OwnZ.of (by rw [List.length_set]; exact HX.out.1) hown)
    refine ⟨_, rfl, ?_⟩
    simp only [lb4, Act.put, List.setIfInBounds_toArray, List.set_cons_zero, List.set_cons_succ]
    refine hK.out _ _ (fun _ => hHeld.trans (hb.mono hHeld.size)) (fun hHeld => ?_)
    replace hHeld := hHeld (by decide)
    clear hK K
    refine Tillst.one (i := 5) (o := lb5) (by kernel_rfl) rfl ?_
    intro K hK
    refine step_store_whole (.tmp 2) (.tmp 26) 66 rfl rfl (w.heap.size + 1) #[.int .i64 sec, .slice A' n cap'] #[.int .i64 0, .slice none 0 0] 66 rfl rfl HV4.out.2.2 Try.sizeOf66 rfl (by intro v hv; simp at hv; rcases hv with rfl | rfl <;> rfl) ?_
    simp only [lb5, Act.put, List.setIfInBounds_toArray, List.set_cons_zero, List.set_cons_succ]
    refine hK.out _ _ (fun h => absurd h (by decide)) (fun _ => ?_)
    clear hK K
    refine Tillst.one (i := 6) (o := lb6) (by kernel_rfl) rfl ?_
    intro K hK
    refine step_value ?_ rfl ?_ ?_
    rotate_left
    · unfold lb6; go_simp; with_reducible rfl
    simp only [lb6, Act.put, List.setIfInBounds_toArray, List.set_cons_zero, List.set_cons_succ]
    refine hK.out _ _ (fun h => absurd h (by decide)) (fun _ => ?_)
    clear hK K
    refine Tillst.done (by kernel_rfl) ?_ _
    refine NoPanic.normal ?_
    have hst : Blk (v4.setRow (w.heap.size + 1) #[.int .i64 sec, .slice A' n cap']) (w.heap.size + 1) 66 #[.int .i64 sec, .slice A' n cap'] := setRow_heap _ _ _ _ _ _ HV4.out.2.2
    have hown := (HO4.out.setRow (g := w.heap.size + 1) HLT.out #[.int .i64 sec, .slice A' n cap']).base HZ4.out
    have hbel := below_setRow HV4.out.1 (g := w.heap.size + 1) (Nat.le_succ _) #[.int .i64 sec, .slice A' n cap']
    rw [← HXX.out] at hown
    generalize v4.setRow (w.heap.size + 1) #[.int .i64 sec, .slice A' n cap'] = v9 at *
    have HST := Lib.hid hst
    have HOW := Lib.hid hown
    have HBE := Lib.hid hbel
    clear hst hown hbel hHeld hb
    go_wp2_with (with_reducible refine halt_end ?_)
    exact Halt.ret (results_row2 (p := 2) (u := 3) rfl _ _ (w.heap.size + 1) 66 #[.int .i64 sec, .slice A' n cap'] _ rfl HST.out Try.underlying66 rfl size_ring) rfl ⟨.inl ⟨rfl, _, rfl, ⟨A', n, cap', rfl, HOW.out⟩⟩, HBE.out⟩
  · intro K hK
    refine step_alloc_seg rfl rfl ?_
    intro G v6 hgs hgl hgb
    have HGS := Lib.hid hgs
    have HGL := Lib.hid (Nat.le_trans hHeld.size hgl)
    simp only [la6, Act.put, List.setIfInBounds_toArray, List.set_cons_zero, List.set_cons_succ]
    refine hK.out _ _ (fun _ => hHeld.trans (hgb.mono hHeld.size)) (fun hHeld => ?_)
    replace hHeld := hHeld (by decide)
    clear hK K
    clear hgs hgl hgb
    refine Tillst.one (i := 3) (o := la3) (by kernel_rfl) rfl ?_
    intro K hK
    refine step_call 47 #[.tmp 17] #[66] rfl rfl Try.func47 rfl rfl [ringV sec (some ⟨b, off, none⟩) n cap] rfl ?_
    refine (HO.out _ (row_now HX.out (HV.out.next hHeld).1)).mono ?_
    rintro e v3 ⟨rfl, hb⟩
    refine ⟨_, rfl, ?_⟩
    have HGS := Lib.hid (HGS.out.below hb HGS.out.lt)
    simp only [la3, Act.put, List.setIfInBounds_toArray, List.set_cons_zero, List.set_cons_succ]
    refine hK.out _ _ (fun _ => hHeld.trans (hb.mono hHeld.size)) (fun hHeld => ?_)
    replace hHeld := hHeld (by decide)
    clear hK K
    clear hb
    refine Tillst.take (i := 4) (oi := la4) (v := ?_) rfl (by kernel_rfl) (by kernel_rfl) (by kernel_rfl) (by kernel_rfl) (fun _ _ _ h => h) (by rfl) ?_ hHeld ?_
    rotate_left
    · intro W hSW; (try dsimp only at hSW); unfold la4; go_simp; with_reducible rfl
    simp only [la4, Act.put, List.setIfInBounds_toArray, List.set_cons_zero, List.set_cons_succ]
    refine Tillst.take (i := 5) (oi := la5) (v := ?_) rfl (by kernel_rfl) (by kernel_rfl) (by kernel_rfl) (by kernel_rfl) (fun _ _ _ h => h) (by rfl) ?_ hHeld ?_
    rotate_left
    · intro W hSW; have hb2 := (HV.out.next hSW).1; obtain ⟨y0, y1, y2⟩ : W.cell? ⟨b, off + i * 3, none⟩ = some (.int .i64 1) ∧ W.cell? ⟨b, off + i * 3 + 1, none⟩ = some (.int .u64 g) ∧ W.cell? ⟨b, off + i * 3 + 2, none⟩ = some (.int .i64 us) := ⟨(Below.cell hb2 (p := ⟨b, _, none⟩) hbb).trans HC0.out, (Below.cell hb2 (p := ⟨b, _, none⟩) hbb).trans HC1.out, (Below.cell hb2 (p := ⟨b, _, none⟩) hbb).trans HC2.out⟩; unfold la5; go_simp; with_reducible rfl
    simp only [la5, Act.put, List.setIfInBounds_toArray, List.set_cons_zero, List.set_cons_succ]
    refine Tillst.one (i := 7) (o := la7) (by kernel_rfl) rfl ?_
    intro K hK
    refine step_store_whole (.tmp 4) (.tmp 20) 78 rfl rfl G (segC (1, g, us)).toArray (segC seg0).toArray 78 rfl rfl HGS.out Try.sizeOf78 rfl (by intro v hv; simp at hv; rcases hv with rfl | rfl | rfl <;> rfl) ?_
    simp only [la7, Act.put, List.setIfInBounds_toArray, List.set_cons_zero, List.set_cons_succ]
    refine hK.out _ _ (fun h => absurd h (by decide)) (fun _ => ?_)
    clear hK K
    refine Tillst.done (by kernel_rfl) ?_ _
    refine NoPanic.normal ?_
    have hv7 := (HV.out.next hHeld).farRow (Nat.lt_of_lt_of_le HV.out.lt HGL.out) (segC (1, g, us)).toArray
    have hg7 : Blk (v3.setRow G (segC (1, g, us)).toArray) G 78 #[.int .i64 1, .int .u64 g, .int .i64 us] := setRow_heap _ _ _ _ _ _ HGS.out
    generalize v3.setRow G (segC (1, g, us)).toArray = u7 at *
    have HV7 := Lib.hid hv7
    have HG7 := Lib.hid hg7
    obtain ⟨s0, s1, s2⟩ : u7.cell? ⟨G, 0, none⟩ = some (.int .i64 1) ∧ u7.cell? ⟨G, 1, none⟩ = some (.int .u64 g) ∧ u7.cell? ⟨G, 2, none⟩ = some (.int .i64 us) := ⟨hg7.cell 0, hg7.cell 1, hg7.cell 2⟩
    obtain ⟨e0, e1, e2⟩ := And.intro (hg7.frozen 0) (And.intro (hg7.frozen 1) (hg7.frozen 2))
    clear hv7 hg7 hHeld
    go_upto_region 7 with fail
    have HV := Lib.hid (HV7.out.farCell (p := ⟨G, 0, none⟩) (Nat.lt_of_lt_of_le HVL.out HGL.out) (.int .i64 2))
    have HG8 := Lib.hid (HG7.out.set_ 0 (.int .i64 2))
    generalize u7.setCell ⟨G, 0, none⟩ (.int .i64 2) = u8 at *
    clear s0 s1 s2 e0 e1 e2
    refine wp_region_noPanic ?_
    refine Tillst.region (fun W => Below u8.heap.size u8 W) [5, 6] (by kernel_rfl) (Below.refl _ _).drew (fun hHeld => ?_)
    generalize u8.drew = ve at *
    refine Tillst.take (i := 0) (oi := lb0) (v := ?_) rfl (by kernel_rfl) (by kernel_rfl) (by kernel_rfl) (by kernel_rfl) (fun _ _ _ h => h) (by rfl) ?_ hHeld ?_
    rotate_left
    · intro W hSW; obtain ⟨q0, q1, q3, q4, f3, f4⟩ := (HV.out.next hSW).cells; unfold lb0; go_simp; with_reducible rfl
    simp only [lb0, Act.put, List.setIfInBounds_toArray, List.set_cons_zero, List.set_cons_succ]
    refine Tillst.take (i := 1) (oi := lb1) (v := ?_) rfl (by kernel_rfl) (by kernel_rfl) (by kernel_rfl) (by kernel_rfl) (fun _ _ _ h => h) (by rfl) ?_ hHeld ?_
    rotate_left
    · intro W hSW; obtain ⟨q0, q1, q3, q4, f3, f4⟩ := (HV.out.next hSW).cells; unfold lb1; go_simp; with_reducible rfl
    simp only [lb1, Act.put, List.setIfInBounds_toArray, List.set_cons_zero, List.set_cons_succ]
    refine Tillst.take (i := 3) (oi := lb3) (v := ?_) rfl (by kernel_rfl) (by kernel_rfl) (by kernel_rfl) (by kernel_rfl) (fun _ _ _ h => h) (by rfl) ?_ hHeld ?_
    rotate_left
    · intro W hSW; have hG := HG8.out.below hSW HG8.out.lt; obtain ⟨y0, y1, y2⟩ : W.cell? ⟨G, 0, none⟩ = some (.int .i64 2) ∧ W.cell? ⟨G, 1, none⟩ = some (.int .u64 g) ∧ W.cell? ⟨G, 2, none⟩ = some (.int .i64 us) := ⟨hG.cell 0, hG.cell 1, hG.cell 2⟩; unfold lb3; go_simp; with_reducible rfl
    simp only [lb3, Act.put, List.setIfInBounds_toArray, List.set_cons_zero, List.set_cons_succ]
    refine Tillst.one (i := 2) (o := lb2) (by kernel_rfl) rfl ?_
    intro K hK
    refine step_call 47 #[.tmp 23] #[66] rfl rfl Try.func47 rfl rfl [ringV sec (some ⟨b, off, none⟩) n cap] rfl ?_
    refine (HO.out _ (row_now HX.out (HV.out.next hHeld).1)).mono ?_
    rintro e v3 ⟨rfl, hb⟩
    refine ⟨_, rfl, ?_⟩
    simp only [lb2, Act.put, List.setIfInBounds_toArray, List.set_cons_zero, List.set_cons_succ]
    refine hK.out _ _ (fun _ => hHeld.trans (hb.mono hHeld.size)) (fun hHeld => ?_)
    replace hHeld := hHeld (by decide)
    clear hK K
    clear hb
    refine Tillst.one (i := 4) (o := lb4) (by kernel_rfl) rfl ?_
    intro K hK
    refine step_call 93 #[.tmp 22, .tmp 24, .tmp 25] #[66, 3, 78] rfl rfl Try.func93 rfl rfl [ringV sec (some ⟨b, off, none⟩) n cap, .int .i64 i, .agg (segC (2, g, us)).toArray] rfl ?_
    refine (ref_with (row_now HX.out (HV.out.next hHeld).1) (fun h => by cases h) sec (by omega) i hin (2, g, us)).mono ?_
    rintro e v4 ⟨⟨A', cap', rfl, hown⟩, hb⟩
    have HV4 := Lib.hid ((HV.out.next hHeld).next hb)
    have HLT := Lib.hid (HV.out.next hHeld).lt
    have HZ4 := Lib.hid (HV.out.next hHeld).1.size
    have HO4 := Lib.hid (OwnZ.of (by rw [List.length_set]; exact HX.out.1) hown)
    refine ⟨_, rfl, ?_⟩
    simp only [lb4, Act.put, List.setIfInBounds_toArray, List.set_cons_zero, List.set_cons_succ]
    refine hK.out _ _ (fun _ => hHeld.trans (hb.mono hHeld.size)) (fun hHeld => ?_)
    replace hHeld := hHeld (by decide)
    clear hK K
    refine Tillst.one (i := 5) (o := lb5) (by kernel_rfl) rfl ?_
    intro K hK
    refine step_store_whole (.tmp 2) (.tmp 26) 66 rfl rfl (w.heap.size + 1) #[.int .i64 sec, .slice A' n cap'] #[.int .i64 0, .slice none 0 0] 66 rfl rfl HV4.out.2.2 Try.sizeOf66 rfl (by intro v hv; simp at hv; rcases hv with rfl | rfl <;> rfl) ?_
    simp only [lb5, Act.put, List.setIfInBounds_toArray, List.set_cons_zero, List.set_cons_succ]
    refine hK.out _ _ (fun h => absurd h (by decide)) (fun _ => ?_)
    clear hK K
    refine Tillst.one (i := 6) (o := lb6) (by kernel_rfl) rfl ?_
    intro K hK
    refine step_value ?_ rfl ?_ ?_
    rotate_left
    · unfold lb6; go_simp; with_reducible rfl
    simp only [lb6, Act.put, List.setIfInBounds_toArray, List.set_cons_zero, List.set_cons_succ]
    refine hK.out _ _ (fun h => absurd h (by decide)) (fun _ => ?_)
    clear hK K
    refine Tillst.done (by kernel_rfl) ?_ _
    refine NoPanic.normal ?_
    have hst : Blk (v4.setRow (w.heap.size + 1) #[.int .i64 sec, .slice A' n cap']) (w.heap.size + 1) 66 #[.int .i64 sec, .slice A' n cap'] := setRow_heap _ _ _ _ _ _ HV4.out.2.2
    have hown := (HO4.out.setRow (g := w.heap.size + 1) HLT.out #[.int .i64 sec, .slice A' n cap']).base HZ4.out
    have hbel := below_setRow HV4.out.1 (g := w.heap.size + 1) (Nat.le_succ _) #[.int .i64 sec, .slice A' n cap']
    rw [← HXX.out] at hown
    generalize v4.setRow (w.heap.size + 1) #[.int .i64 sec, .slice A' n cap'] = v9 at *
    have HST := Lib.hid hst
    have HOW := Lib.hid hown
    have HBE := Lib.hid hbel
    clear hst hown hbel hHeld hb
    go_wp2_with (with_reducible refine halt_end ?_)
    exact Halt.ret (results_row2 (p := 2) (u := 3) rfl _ _ (w.heap.size + 1) 66 #[.int .i64 sec, .slice A' n cap'] _ rfl HST.out Try.underlying66 rfl size_ring) rfl ⟨.inl ⟨rfl, _, rfl, ⟨A', n, cap', rfl, HOW.out⟩⟩, HBE.out⟩

end Go.Proofs.Ytkmbbfdjdmkjpaa
