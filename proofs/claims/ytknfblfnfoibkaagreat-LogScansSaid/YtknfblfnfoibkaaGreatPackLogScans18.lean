/- Texts of LogScans, packed. -/
import Derived.Test.YtknfblfnfoibkaaGreatPackLogScans17
set_option linter.unusedVariables false
set_option linter.unusedSimpArgs false
set_option maxRecDepth 100000
set_option maxHeartbeats 16000000
namespace Go.Proofs.YtknfblfnfoibkaaGreat
section
open Go.RowKit
attribute [local go_sem] Oper.semAt_some
abbrev sm0 : Oper := ⟨some 34, .fieldAddr 60 (.tmp 2) 2, 0, "ref.go:148", #[], none⟩
abbrev sm1 : Oper := ⟨some 35, .load 58 (.tmp 34), 58, "ref.go:148", #[⟨0, .data⟩], none⟩
abbrev sm2 : Oper := ⟨some 36, .move (.tmp 5), 3, "ref.go:148", #[], none⟩
abbrev sm3 : Oper := ⟨some 37, .indexAddr 58 (.tmp 35) (.tmp 36), 0, "ref.go:148", #[⟨1, .data⟩, ⟨2, .data⟩], none⟩
abbrev sm4 : Oper := ⟨some 38, .fieldAddr 71 (.tmp 37) 0, 0, "ref.go:148", #[⟨3, .data⟩], none⟩
abbrev sm5 : Oper := ⟨some 39, .load 67 (.tmp 38), 67, "ref.go:148", #[⟨4, .data⟩], none⟩
abbrev sm6 : Oper := ⟨some 40, .fieldAddr 60 (.tmp 3) 2, 0, "ref.go:148", #[], none⟩
abbrev sm7 : Oper := ⟨some 41, .load 58 (.tmp 40), 58, "ref.go:148", #[⟨6, .data⟩], none⟩
abbrev sm8 : Oper := ⟨some 42, .move (.tmp 5), 3, "ref.go:148", #[], none⟩
abbrev sm9 : Oper := ⟨some 43, .indexAddr 58 (.tmp 41) (.tmp 42), 0, "ref.go:148", #[⟨7, .data⟩, ⟨8, .data⟩], none⟩
abbrev sm10 : Oper := ⟨some 44, .fieldAddr 71 (.tmp 43) 0, 0, "ref.go:148", #[⟨9, .data⟩], none⟩
abbrev sm11 : Oper := ⟨some 45, .load 67 (.tmp 44), 67, "ref.go:148", #[⟨10, .data⟩], none⟩
abbrev sm12 : Oper := ⟨some 46, .binOp Go.BinOp.neq 67 (.tmp 39) (.tmp 45) 67, 4, "ref.go:148", #[⟨5, .data⟩, ⟨11, .data⟩], none⟩
abbrev sm13 : Oper := ⟨some 47, .move (.tmp 46), 4, "ref.go:148", #[⟨12, .data⟩], none⟩
abbrev sm14 : Oper := ⟨some 48, .fieldAddr 60 (.tmp 2) 2, 0, "ref.go:148", #[⟨13, .guard⟩], some (13, false)⟩
abbrev sm15 : Oper := ⟨some 49, .load 58 (.tmp 48), 58, "ref.go:148", #[⟨14, .data⟩, ⟨13, .guard⟩], some (13, false)⟩
abbrev sm16 : Oper := ⟨some 50, .move (.tmp 5), 3, "ref.go:148", #[⟨13, .guard⟩], some (13, false)⟩
abbrev sm17 : Oper := ⟨some 51, .indexAddr 58 (.tmp 49) (.tmp 50), 0, "ref.go:148", #[⟨15, .data⟩, ⟨16, .data⟩, ⟨13, .guard⟩], some (13, false)⟩
abbrev sm18 : Oper := ⟨some 52, .fieldAddr 71 (.tmp 51) 1, 0, "ref.go:148", #[⟨17, .data⟩, ⟨13, .guard⟩], some (13, false)⟩
abbrev sm19 : Oper := ⟨some 53, .load 69 (.tmp 52), 69, "ref.go:148", #[⟨18, .data⟩, ⟨13, .guard⟩], some (13, false)⟩
abbrev sm20 : Oper := ⟨some 54, .fieldAddr 60 (.tmp 3) 2, 0, "ref.go:148", #[⟨13, .guard⟩], some (13, false)⟩
abbrev sm21 : Oper := ⟨some 55, .load 58 (.tmp 54), 58, "ref.go:148", #[⟨20, .data⟩, ⟨13, .guard⟩], some (13, false)⟩
abbrev sm22 : Oper := ⟨some 56, .move (.tmp 5), 3, "ref.go:148", #[⟨13, .guard⟩], some (13, false)⟩
abbrev sm23 : Oper := ⟨some 57, .indexAddr 58 (.tmp 55) (.tmp 56), 0, "ref.go:148", #[⟨21, .data⟩, ⟨22, .data⟩, ⟨13, .guard⟩], some (13, false)⟩
abbrev sm24 : Oper := ⟨some 58, .fieldAddr 71 (.tmp 57) 1, 0, "ref.go:148", #[⟨23, .data⟩, ⟨13, .guard⟩], some (13, false)⟩
abbrev sm25 : Oper := ⟨some 59, .load 69 (.tmp 58), 69, "ref.go:148", #[⟨24, .data⟩, ⟨13, .guard⟩], some (13, false)⟩
abbrev sm26 : Oper := ⟨some 60, .call { callee := .value (.func 110), args := #[.tmp 53, .tmp 59], argTypes := #[69, 69] }, 4, "ref.go:148", #[⟨19, .data⟩, ⟨25, .data⟩, ⟨13, .chain⟩, ⟨13, .guard⟩], some (13, false)⟩
abbrev sm27 : Oper := ⟨some 61, .unOp Go.UnOp.not 4 (.tmp 60), 4, "ref.go:148", #[⟨26, .data⟩, ⟨13, .guard⟩], some (13, false)⟩
abbrev sm28 : Oper := ⟨some 62, .pick (.tmp 47) (.const (.bool true)) (.tmp 61), 4, "ref.go:148", #[⟨13, .data⟩, ⟨27, .data⟩], none⟩
theorem scanL_bytes {xss : List (List Int)} (hb : ∀ i, Bytes (xss.getD i [])) {gen : Int} : ∀ (f at_ : Nat) (p : Nat × List Int), p ∈ scanL xss gen f at_ → Bytes p.2
 | 0, _, p, h => by simp [scanL] at h
 | f + 1, at_, p, h => by
  rw [scanL] at h
  split at h
  ·rcases List.mem_cons.1 h with rfl | h
   ·exact meants_bytes (secsAt_bytes (fun i => by
     unfold ldV
     split
     ·exact hb i
     ·exact noughts_bytes9 64) _ _)
   ·exact scanL_bytes hb f _ p h
  ·simp at h
theorem same_scan9 {w : World} {m m' seg : Nat} {gen used : Int} {A A' : Option Addr} {c c' n : Nat} {ts : List Tl} {rs : List Tr} (h1 : ToldS w m seg gen A c ts) (h2 : ToldR w m' seg gen A' c' rs) (he : ts.map Tl.two = rs.map Tr.two) (hn : ts.length = n) (hn2 : rs.length = n) (hsm : n ≤ 100000) (hby : ∀ t, t ∈ ts → Bytes t.bs) :
 Calls Tryz.prog 45 #[.agg (scanC gen used (.slice A n c)), .agg (scanC gen used (.slice A' n c'))] w fun e w' => e = .returned (.bool true) ∧ Below w.heap.size w w' := by
 have H1 := hI h1
 have H2 := hI h2
 have HE := hI he
 have HBY := hI hby
 have HN := hI hn
 have HN2 := hI hn2
 obtain ⟨w1, hw1⟩ : ∃ w1, w1 = (w.alloc (.cells (scanC gen used (.slice A n c)) 60)).alloc (.cells (scanC gen used (.slice A' n c')) 60) := ⟨_, rfl⟩
 have hb1 : Below w.heap.size w w1 := by rw [hw1]; exact ((Below.refl _ _).alloc (nR _) _).alloc (by simp) _
 have HA1 := hI (show Blk w1 w.heap.size 60 (scanC gen used (.slice A n c)) by rw [hw1]; exact (Blk.new w _ _).alloc _)
 have HC1 := hI (show Blk w1 (w.heap.size + 1) 60 (scanC gen used (.slice A' n c')) by rw [hw1]; exact blk_new2 w _ _ _)
 have HB1 := hI hb1
 have HW1 := hI hw1
 clear h1 h2 he hby hn hn2 hw1 hb1
 have a0 := HA1.out.cell 0
 have a1 := HA1.out.cell 1
 have a2 := HA1.out.cell 2
 have b0 := HC1.out.cell 0
 have b1 := HC1.out.cell 1
 have b2 := HC1.out.cell 2
 simp only [List.getElem?_toArray, List.getElem?_cons_zero, List.getElem?_cons_succ] at a0 a1 a2 b0 b1 b2
 go_enter Tryz.func45, Tryz.ntmps45
 go_upto_region 1 with fail
 rw [← HW1.out]
 go_wp2_with fail
 clear a0 a1 a2 b0 b1 b2
 go_loopw [5] (fun iv wr => ∃ i : Nat, iv = .int .i64 i ∧ i ≤ n ∧ Below w1.heap.size w1 wr) (fun iv _ => n - (intOf iv).toNat)
 case atStart => exact ⟨0, rfl, Nat.zero_le _, Below.refl _ _⟩
 case round =>
 obtain ⟨i, rfl, hin, hb⟩ := hrel
 have HB := hI hb
 have HAR := hI (HA1.out.below hb HA1.out.lt)
 have HCR := hI (HC1.out.below hb HC1.out.lt)
 clear hb
 have a2 : wr.cell? ⟨w.heap.size, 2, none⟩ = some (.slice A n c) := HAR.out.cell 2
 by_cases hlt : i < n
 ·-- element i
  obtain ⟨g1, o1, rfl, hg1, hc1⟩ := H1.out.row.2 (by rw [HN.out]; omega)
  obtain ⟨g2, o2, rfl, hg2, hc2⟩ := H2.out.row.2 (by rw [HN2.out]; omega)
  have hi1 : i < ts.length := by rw [HN.out]; exact hlt
  have hi2 : i < rs.length := by rw [HN2.out]; exact hlt
  have hr1 := hc1 i hi1
  have hr2 := hc2 i hi2
  rw [show (ts.map (plV seg gen)).getD i PlM.ent0 = plV seg gen ts[i] by simp [List.getD, hi1]] at hr1
  rw [show (rs.map (prV seg gen)).getD i PlM.ent0 = prV seg gen rs[i] by simp [List.getD, hi2]] at hr2
  have htw : Tl.two ts[i] = Tr.two rs[i] := by
   have h9 := congrArg (fun l => l[i]?) HE.out
   simp only [List.getElem?_map, List.getElem?_eq_getElem hi1, List.getElem?_eq_getElem hi2, Option.map_some, Option.some.injEq] at h9
   exact h9
  have ht1 := H1.out.ent ts[i] (List.getElem_mem _)
  have hr3 := H2.out.ent rs[i] (List.getElem_mem _)
  have hbt := HBY.out ts[i] (List.getElem_mem _)
  generalize ts[i] = t at *
  generalize rs[i] = r at *
  obtain ⟨ta, bs, b1, b2⟩ := t
  obtain ⟨ra, bs', A1, c1, A2, c2⟩ := r
  obtain ⟨rfl, rfl⟩ : ta = ra ∧ bs = bs' := Prod.mk.inj htw
  obtain ⟨_, _, k1, k2⟩ := ht1
  obtain ⟨k3, k4⟩ := hr3
  have hbw : ∀ W, Below wr.heap.size wr W → Below w.heap.size w W := fun W hW => HB1.out.trans ((HB.out.trans (hW.mono HB.out.size)).mono HB1.out.size)
  have HBW := hI hbw
  have HG := hI (show g1 < w.heap.size ∧ g2 < w.heap.size from ⟨hg1.2, hg2.2⟩)
  have HRG := hI (show ∀ W, Below wr.heap.size wr W → W.rangeAt g1 (o1 + i * 9) [.int .i64 (seg : Int), .int .u64 gen, .int .i64 (ta : Int)] ∧ W.rangeAt g2 (o2 + i * 9) [.int .i64 (seg : Int), .int .u64 gen, .int .i64 (ta : Int)] ∧
   W.rangeAt g1 (o1 + i * 9 + 3) [.int .i64 (kindOf bs), .int .u32 (flagsOf bs), .int .u32 (expOf bs), .int .u64 (seqOf bs), .slice (some ⟨b1, 0, none⟩) (klenOf bs) (klenOf bs), .slice (some ⟨b2, 0, none⟩) (vlenOf bs) (vlenOf bs)] ∧
   W.rangeAt g2 (o2 + i * 9 + 3) [.int .i64 (kindOf bs), .int .u32 (flagsOf bs), .int .u32 (expOf bs), .int .u64 (seqOf bs), .slice A1 (klenOf bs) c1, .slice A2 (vlenOf bs) c2] from fun W hW => by
   have hb := HBW.out W hW
   refine ⟨fun j v hv => ?_, fun j v hv => ?_, fun j v hv => ?_, fun j v hv => ?_⟩
   ·exact (hb.cell (p := ⟨g1, _, none⟩) HG.out.1).trans (hr1 j v (by rcases j with _ | _ | _ | j <;> simp [plV, PlM.entV] at hv ⊢ <;> exact hv))
   ·exact (hb.cell (p := ⟨g2, _, none⟩) HG.out.2).trans (hr2 j v (by rcases j with _ | _ | _ | j <;> simp [prV, PlM.entV] at hv ⊢ <;> exact hv))
   ·rw [show o1 + i * 9 + 3 + j = o1 + i * 9 + (3 + j) by omega]
    exact (hb.cell (p := ⟨g1, _, none⟩) HG.out.1).trans (hr1 (3 + j) v (by rcases j with _ | _ | _ | _ | _ | _ | j <;> simp [plV, PlM.entV] at hv ⊢ <;> exact hv))
   ·rw [show o2 + i * 9 + 3 + j = o2 + i * 9 + (3 + j) by omega]
    exact (hb.cell (p := ⟨g2, _, none⟩) HG.out.2).trans (hr2 (3 + j) v (by rcases j with _ | _ | _ | _ | _ | _ | j <;> simp [prV, PlM.entV] at hv ⊢ <;> exact hv)))
  have HCC := hI (show ∀ W, Below wr.heap.size wr W → W.cell? ⟨w.heap.size, 2, none⟩ = some (.slice (some ⟨g1, o1, none⟩) n c) ∧ W.cell? ⟨w.heap.size + 1, 2, none⟩ = some (.slice (some ⟨g2, o2, none⟩) n c') from fun W hW => ⟨(HAR.out.below hW HAR.out.lt).cell 2, (HCR.out.below hW HCR.out.lt).cell 2⟩)
  have HK := hI (show ∀ W, Below wr.heap.size wr W → RowI .u8 W (fun b => b < w.heap.size) (some ⟨b1, 0, none⟩) (klenOf bs) (keyOf bs) ∧ RowI .u8 W (fun b => b < w.heap.size) (some ⟨b2, 0, none⟩) (vlenOf bs) (valOf bs) ∧ RowI .u8 W (fun b => b < w.heap.size) A1 (klenOf bs) (keyOf bs) ∧ RowI .u8 W (fun b => b < w.heap.size) A2 (vlenOf bs) (valOf bs) from fun W hW => by
   have hb := HBW.out W hW
   have e1 : ArrU w b1 (keyOf bs) := k1
   have e2 : ArrU w b2 (valOf bs) := k2
   exact ⟨(Arr.rowN (S := fun b => b < w.heap.size) e1 0 (n := klenOf bs) k3.1 (Blk.lt e1)).below hb (fun b h => h), (Arr.rowN (S := fun b => b < w.heap.size) e2 0 (n := vlenOf bs) k4.1 (Blk.lt e2)).below hb (fun b h => h), (k3.more (fun b h => h.2)).below hb (fun b h => h), (k4.more (fun b h => h.2)).below hb (fun b h => h)⟩)
  have HBT := hI (show Bytes (keyOf bs) ∧ Bytes (valOf bs) from ⟨by unfold keyOf; exact bytes_part hbt 21 _, by unfold valOf; exact bytes_part hbt _ _⟩)
  have hii : (i : Int) < n := by omega
  clear hr1 hr2 hc1 hc2 k1 k2 k3 k4 hbt htw hbw hg1 hg2 hi1 hi2
  go_upto_region 6 with fail
  refine Tillst.region (fun W => Below wr.heap.size wr W) [] (by kernel_rfl) ((Below.refl _ _).drew) (fun hė => ?_)
  generalize wr.drew = vd at *
  refine Tillst.takeG (i := 0) (oi := sm0) (v := ?_) rfl (by kernel_rfl) (by kernel_rfl) (by kernel_rfl) (by kernel_rfl) (by kernel_rfl) (fun _ _ _ h => h) (by rfl) ?_ hė ?_
  rotate_left
  ·intro W hSW; (try dsimp only at hSW); unfold sm0; go_simp; with_reducible rfl
  simp only [sm0, Act.put, sA, sZ, sS]
  refine Tillst.takeG (i := 1) (oi := sm1) (v := ?_) rfl (by kernel_rfl) (by kernel_rfl) (by kernel_rfl) (by kernel_rfl) (by kernel_rfl) (fun _ _ _ h => h) (by rfl) ?_ hė ?_
  rotate_left
  ·intro W hSW; have h9 := (HCC.out W hSW).1; clear hSW; unfold sm1; go_simp; with_reducible rfl
  simp only [sm1, Act.put, sA, sZ, sS]
  refine Tillst.takeG (i := 2) (oi := sm2) (v := ?_) rfl (by kernel_rfl) (by kernel_rfl) (by kernel_rfl) (by kernel_rfl) (by kernel_rfl) (fun _ _ _ h => h) (by rfl) ?_ hė ?_
  rotate_left
  ·intro W hSW; (try dsimp only at hSW); unfold sm2; go_simp; with_reducible rfl
  simp only [sm2, Act.put, sA, sZ, sS]
  refine Tillst.takeG (i := 3) (oi := sm3) (v := .pointer (some ⟨g1, o1 + i * 9, none⟩)) rfl (by kernel_rfl) (by kernel_rfl) (by kernel_rfl) (by kernel_rfl) (by kernel_rfl) (fun _ _ _ h => h) (by rfl) ?_ hė ?_
  ·intro W hSW; clear hSW; unfold sm3; go_simp
  simp only [sm3, Act.put, sA, sZ, sS]
  refine Tillst.takeG (i := 4) (oi := sm4) (v := ?_) rfl (by kernel_rfl) (by kernel_rfl) (by kernel_rfl) (by kernel_rfl) (by kernel_rfl) (fun _ _ _ h => h) (by rfl) ?_ hė ?_
  rotate_left
  ·intro W hSW; (try dsimp only at hSW); unfold sm4; go_simp; with_reducible rfl
  simp only [sm4, Act.put, sA, sZ, sS]
  refine Tillst.takeG (i := 5) (oi := sm5) (v := .agg #[.int .i64 (seg : Int), .int .u64 gen, .int .i64 (ta : Int)]) rfl (by kernel_rfl) (by kernel_rfl) (by kernel_rfl) (by kernel_rfl) (by kernel_rfl) (fun _ _ _ h => h) (by rfl) ?_ hė ?_
  ·intro W hSW; refine exec_load_row (.tmp 38) 67 ?_ g1 (o1 + i * 9) ?_ [.int .i64 (seg : Int), .int .u64 gen, .int .i64 (ta : Int)] _ Tryz.underlying67 rfl size_adr9 (HRG.out W hSW).1 <;> rfl
  simp only [sm5, Act.put, sA, sZ, sS]
  refine Tillst.takeG (i := 6) (oi := sm6) (v := ?_) rfl (by kernel_rfl) (by kernel_rfl) (by kernel_rfl) (by kernel_rfl) (by kernel_rfl) (fun _ _ _ h => h) (by rfl) ?_ hė ?_
  rotate_left
  ·intro W hSW; (try dsimp only at hSW); unfold sm6; go_simp; with_reducible rfl
  simp only [sm6, Act.put, sA, sZ, sS]
  refine Tillst.takeG (i := 7) (oi := sm7) (v := ?_) rfl (by kernel_rfl) (by kernel_rfl) (by kernel_rfl) (by kernel_rfl) (by kernel_rfl) (fun _ _ _ h => h) (by rfl) ?_ hė ?_
  rotate_left
  ·intro W hSW; have h9 := (HCC.out W hSW).2; clear hSW; unfold sm7; go_simp; with_reducible rfl
  simp only [sm7, Act.put, sA, sZ, sS]
  refine Tillst.takeG (i := 8) (oi := sm8) (v := ?_) rfl (by kernel_rfl) (by kernel_rfl) (by kernel_rfl) (by kernel_rfl) (by kernel_rfl) (fun _ _ _ h => h) (by rfl) ?_ hė ?_
  rotate_left
  ·intro W hSW; (try dsimp only at hSW); unfold sm8; go_simp; with_reducible rfl
  simp only [sm8, Act.put, sA, sZ, sS]
  refine Tillst.takeG (i := 9) (oi := sm9) (v := .pointer (some ⟨g2, o2 + i * 9, none⟩)) rfl (by kernel_rfl) (by kernel_rfl) (by kernel_rfl) (by kernel_rfl) (by kernel_rfl) (fun _ _ _ h => h) (by rfl) ?_ hė ?_
  ·intro W hSW; clear hSW; unfold sm9; go_simp
  simp only [sm9, Act.put, sA, sZ, sS]
  refine Tillst.takeG (i := 10) (oi := sm10) (v := ?_) rfl (by kernel_rfl) (by kernel_rfl) (by kernel_rfl) (by kernel_rfl) (by kernel_rfl) (fun _ _ _ h => h) (by rfl) ?_ hė ?_
  rotate_left
  ·intro W hSW; (try dsimp only at hSW); unfold sm10; go_simp; with_reducible rfl
  simp only [sm10, Act.put, sA, sZ, sS]
  refine Tillst.takeG (i := 11) (oi := sm11) (v := .agg #[.int .i64 (seg : Int), .int .u64 gen, .int .i64 (ta : Int)]) rfl (by kernel_rfl) (by kernel_rfl) (by kernel_rfl) (by kernel_rfl) (by kernel_rfl) (fun _ _ _ h => h) (by rfl) ?_ hė ?_
  ·intro W hSW; refine exec_load_row (.tmp 44) 67 ?_ g2 (o2 + i * 9) ?_ [.int .i64 (seg : Int), .int .u64 gen, .int .i64 (ta : Int)] _ Tryz.underlying67 rfl size_adr9 (HRG.out W hSW).2.1 <;> rfl
  simp only [sm11, Act.put, sA, sZ, sS]
  refine Tillst.takeG (i := 12) (oi := sm12) (v := .bool false) rfl (by kernel_rfl) (by kernel_rfl) (by kernel_rfl) (by kernel_rfl) (by kernel_rfl) (fun _ _ _ h => h) (by rfl) ?_ hė ?_
  ·intro W hSW; clear hSW; unfold sm12; go_simp
  simp only [sm12, Act.put, sA, sZ, sS]
  refine Tillst.takeG (i := 13) (oi := sm13) (v := ?_) rfl (by kernel_rfl) (by kernel_rfl) (by kernel_rfl) (by kernel_rfl) (by kernel_rfl) (fun _ _ _ h => h) (by rfl) ?_ hė ?_
  rotate_left
  ·intro W hSW; (try dsimp only at hSW); unfold sm13; go_simp; with_reducible rfl
  simp only [sm13, Act.put, sA, sZ, sS]
  refine Tillst.takeG (i := 14) (oi := sm14) (v := ?_) rfl (by kernel_rfl) (by kernel_rfl) (by kernel_rfl) (by kernel_rfl) (by kernel_rfl) (fun _ _ _ h => h) (by rfl) ?_ hė ?_
  rotate_left
  ·intro W hSW; (try dsimp only at hSW); unfold sm14; go_simp; with_reducible rfl
  simp only [sm14, Act.put, sA, sZ, sS]
  refine Tillst.takeG (i := 15) (oi := sm15) (v := ?_) rfl (by kernel_rfl) (by kernel_rfl) (by kernel_rfl) (by kernel_rfl) (by kernel_rfl) (fun _ _ _ h => h) (by rfl) ?_ hė ?_
  rotate_left
  ·intro W hSW; have h9 := (HCC.out W hSW).1; clear hSW; unfold sm15; go_simp; with_reducible rfl
  simp only [sm15, Act.put, sA, sZ, sS]
  refine Tillst.takeG (i := 16) (oi := sm16) (v := ?_) rfl (by kernel_rfl) (by kernel_rfl) (by kernel_rfl) (by kernel_rfl) (by kernel_rfl) (fun _ _ _ h => h) (by rfl) ?_ hė ?_
  rotate_left
  ·intro W hSW; (try dsimp only at hSW); unfold sm16; go_simp; with_reducible rfl
  simp only [sm16, Act.put, sA, sZ, sS]
  refine Tillst.takeG (i := 17) (oi := sm17) (v := .pointer (some ⟨g1, o1 + i * 9, none⟩)) rfl (by kernel_rfl) (by kernel_rfl) (by kernel_rfl) (by kernel_rfl) (by kernel_rfl) (fun _ _ _ h => h) (by rfl) ?_ hė ?_
  ·intro W hSW; clear hSW; unfold sm17; go_simp
  simp only [sm17, Act.put, sA, sZ, sS]
  refine Tillst.takeG (i := 18) (oi := sm18) (v := .pointer (some ⟨g1, o1 + i * 9 + 3, none⟩)) rfl (by kernel_rfl) (by kernel_rfl) (by kernel_rfl) (by kernel_rfl) (by kernel_rfl) (fun _ _ _ h => h) (by rfl) ?_ hė ?_
  ·intro W hSW; clear hSW; unfold sm18; go_simp
  simp only [sm18, Act.put, sA, sZ, sS]
  refine Tillst.takeG (i := 19) (oi := sm19) (v := .agg #[.int .i64 (kindOf bs), .int .u32 (flagsOf bs), .int .u32 (expOf bs), .int .u64 (seqOf bs), .slice (some ⟨b1, 0, none⟩) (klenOf bs) (klenOf bs), .slice (some ⟨b2, 0, none⟩) (vlenOf bs) (vlenOf bs)]) rfl (by kernel_rfl) (by kernel_rfl) (by kernel_rfl) (by kernel_rfl) (by kernel_rfl) (fun _ _ _ h => h) (by rfl) ?_ hė ?_
  ·intro W hSW; refine exec_load_row (.tmp 52) 69 ?_ g1 (o1 + i * 9 + 3) ?_ [.int .i64 (kindOf bs), .int .u32 (flagsOf bs), .int .u32 (expOf bs), .int .u64 (seqOf bs), .slice (some ⟨b1, 0, none⟩) (klenOf bs) (klenOf bs), .slice (some ⟨b2, 0, none⟩) (vlenOf bs) (vlenOf bs)] _ Tryz.underlying69 rfl size_rec (HRG.out W hSW).2.2.1 <;> rfl
  simp only [sm19, Act.put, sA, sZ, sS]
  refine Tillst.takeG (i := 20) (oi := sm20) (v := ?_) rfl (by kernel_rfl) (by kernel_rfl) (by kernel_rfl) (by kernel_rfl) (by kernel_rfl) (fun _ _ _ h => h) (by rfl) ?_ hė ?_
  rotate_left
  ·intro W hSW; (try dsimp only at hSW); unfold sm20; go_simp; with_reducible rfl
  simp only [sm20, Act.put, sA, sZ, sS]
  refine Tillst.takeG (i := 21) (oi := sm21) (v := ?_) rfl (by kernel_rfl) (by kernel_rfl) (by kernel_rfl) (by kernel_rfl) (by kernel_rfl) (fun _ _ _ h => h) (by rfl) ?_ hė ?_
  rotate_left
  ·intro W hSW; have h9 := (HCC.out W hSW).2; clear hSW; unfold sm21; go_simp; with_reducible rfl
  simp only [sm21, Act.put, sA, sZ, sS]
  refine Tillst.takeG (i := 22) (oi := sm22) (v := ?_) rfl (by kernel_rfl) (by kernel_rfl) (by kernel_rfl) (by kernel_rfl) (by kernel_rfl) (fun _ _ _ h => h) (by rfl) ?_ hė ?_
  rotate_left
  ·intro W hSW; (try dsimp only at hSW); unfold sm22; go_simp; with_reducible rfl
  simp only [sm22, Act.put, sA, sZ, sS]
  refine Tillst.takeG (i := 23) (oi := sm23) (v := .pointer (some ⟨g2, o2 + i * 9, none⟩)) rfl (by kernel_rfl) (by kernel_rfl) (by kernel_rfl) (by kernel_rfl) (by kernel_rfl) (fun _ _ _ h => h) (by rfl) ?_ hė ?_
  ·intro W hSW; clear hSW; unfold sm23; go_simp
  simp only [sm23, Act.put, sA, sZ, sS]
  refine Tillst.takeG (i := 24) (oi := sm24) (v := .pointer (some ⟨g2, o2 + i * 9 + 3, none⟩)) rfl (by kernel_rfl) (by kernel_rfl) (by kernel_rfl) (by kernel_rfl) (by kernel_rfl) (fun _ _ _ h => h) (by rfl) ?_ hė ?_
  ·intro W hSW; clear hSW; unfold sm24; go_simp
  simp only [sm24, Act.put, sA, sZ, sS]
  refine Tillst.takeG (i := 25) (oi := sm25) (v := .agg #[.int .i64 (kindOf bs), .int .u32 (flagsOf bs), .int .u32 (expOf bs), .int .u64 (seqOf bs), .slice A1 (klenOf bs) c1, .slice A2 (vlenOf bs) c2]) rfl (by kernel_rfl) (by kernel_rfl) (by kernel_rfl) (by kernel_rfl) (by kernel_rfl) (fun _ _ _ h => h) (by rfl) ?_ hė ?_
  ·intro W hSW; refine exec_load_row (.tmp 58) 69 ?_ g2 (o2 + i * 9 + 3) ?_ [.int .i64 (kindOf bs), .int .u32 (flagsOf bs), .int .u32 (expOf bs), .int .u64 (seqOf bs), .slice A1 (klenOf bs) c1, .slice A2 (vlenOf bs) c2] _ Tryz.underlying69 rfl size_rec (HRG.out W hSW).2.2.2 <;> rfl
  simp only [sm25, Act.put, sA, sZ, sS]
  refine Tillst.one (i := 26) (o := sm26) (by kernel_rfl) rfl ?_
  intro K hK
  refine step_call 110 #[.tmp 53, .tmp 59] #[69, 69] rfl rfl Tryz.func110 rfl rfl [.agg #[.int .i64 (kindOf bs), .int .u32 (flagsOf bs), .int .u32 (expOf bs), .int .u64 (seqOf bs), .slice (some ⟨b1, 0, none⟩) (klenOf bs) (klenOf bs), .slice (some ⟨b2, 0, none⟩) (vlenOf bs) (vlenOf bs)], .agg #[.int .i64 (kindOf bs), .int .u32 (flagsOf bs), .int .u32 (expOf bs), .int .u64 (seqOf bs), .slice A1 (klenOf bs) c1, .slice A2 (vlenOf bs) c2]] rfl ((rsame_any _ _ _ _ _ _ _ _ _ _ _ _ _ _ _ _ _ _ _ _ (keyOf bs) (keyOf bs) (valOf bs) (valOf bs) (fun b => b < w.heap.size) vd (HK.out vd hė).1 (HK.out vd hė).2.2.1 (HK.out vd hė).2.1 (HK.out vd hė).2.2.2 (fun b h => nL h (HB1.out.trans ((HB.out.trans (hė.mono HB.out.size)).mono HB1.out.size)).size) HBT.out.1 HBT.out.1 HBT.out.2 HBT.out.2).mono ?_)
  rintro e w4 ⟨rfl, hb4⟩
  rw [recSame_self]
  refine ⟨_, rfl, ?_⟩
  simp only [sm26, Act.put, sA, sZ, sS]
  have hH4 := hė.trans (hb4.mono hė.size)
  refine hK.out _ _ (fun _ => hH4) (fun hė => ?_)
  replace hė := hė (by decide)
  clear hK K hH4 hb4
  refine Tillst.takeG (i := 27) (oi := sm27) (v := .bool false) rfl (by kernel_rfl) (by kernel_rfl) (by kernel_rfl) (by kernel_rfl) (by kernel_rfl) (fun _ _ _ h => h) (by rfl) ?_ hė ?_
  ·intro W hSW; clear hSW; unfold sm27; go_simp
  simp only [sm27, Act.put, sA, sZ, sS]
  refine Tillst.takeG (i := 28) (oi := sm28) (v := ?_) rfl (by kernel_rfl) (by kernel_rfl) (by kernel_rfl) (by kernel_rfl) (by kernel_rfl) (fun _ _ _ h => h) (by rfl) ?_ hė ?_
  rotate_left
  ·intro W hSW; (try dsimp only at hSW); unfold sm28; go_simp; with_reducible rfl
  simp only [sm28, Act.put, sA, sZ, sS]
  refine Tillst.done (by kernel_rfl) ?_ _
  have HBN := hI (HB.out.trans (hė.mono HB.out.size))
  clear hė
  have hwr : wrap64 ((i : Int) + 1) = (i : Int) + 1 := IntWalk.wrap64_in _ (by omega)
  have HME := hI (show n - (i + 1) < n - i by omega)
  go_wp2_with fail
  go_roundw
  case rel => exact ⟨i + 1, rfl, hlt, HBN.out⟩
  case measure => exact HME.out
 ·have hge : ¬ ((i : Int) < n) := by omega
  go_wp2_with fail
  (first | go_ret | go_ret2)
  exact ⟨rfl, HB1.out.trans (HB.out.mono HB1.out.size)⟩
end
end Go.Proofs.YtknfblfnfoibkaaGreat
