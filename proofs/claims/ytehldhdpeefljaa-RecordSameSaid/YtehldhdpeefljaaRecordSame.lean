/- For every two records (of their lists the first 600 bytes): Same says what the document says, and that a copy is the same. No condition. -/
import Derived.Test.YtehldhdpeefljaaRows
import Derived.WalkKit
import Derived.ProofKit
import Derived.OpenShut
import Derived.ShutString
import Derived.ChangeOld
import Derived.Below
import Derived.SizedLaws
import Derived.Test.YtehldhdpeefljaaWakes
import Derived.Test.YtehldhdpeefljaaShort
import Derived.Test.YtehldhdpeefljaaCopied
import Derived.Test.YtehldhdpeefljaaSteps
import Derived.Test.YtehldhdpeefljaaRSame
import Derived.Test.YtehldhdpeefljaaArgsRec
import Derived.Deep.DeepCutAuto
namespace Go.Proofs.Ytehldhdpeefljaa.recordSame
open Go.ChangeShapes Go.WideShapes Go.ChangeAt Go.RowKit
open Go.ChangeMaps (open_string shut_string)
set_option linter.unusedVariables false

theorem own : ownKnob Try.prog.godebug = none := by kernel_rfl
theorem laidOut : laidOutB Try.prog = true := by kernel_rfl

set_option maxRecDepth 100000 in
set_option maxHeartbeats 4000000 in
theorem walk_any (k f x s : Int) (A B : Option Addr) (n c m d p q : Nat) (xs ys : List Int) (k' f' x' s' : Int) (A' B' : Option Addr) (n' c' m' d' p' q' : Nat) (xs' ys' : List Int) (w : World) (hr : IsRec w k f x s A n c B m d xs ys) (hr' : IsRec w k' f' x' s' A' n' c' B' m' d' xs' ys')
    (hp : (n ≤ 600 ∧ p = n) ∨ (600 < n ∧ p = 600)) (hq : (m ≤ 600 ∧ q = m) ∨ (600 < m ∧ q = 600)) (hp' : (n' ≤ 600 ∧ p' = n') ∨ (600 < n' ∧ p' = 600)) (hq' : (m' ≤ 600 ∧ q' = m') ∨ (600 < m' ∧ q' = 600)) :
    Calls Try.prog 6 #[.agg #[.int .i64 k, .int .u32 f, .int .u32 x, .int .u64 s, .slice A n c, .slice B m d], .agg #[.int .i64 k', .int .u32 f', .int .u32 x', .int .u64 s', .slice A' n' c', .slice B' m' d']] w fun e w' => e = .returned (.bool true) ∧ Below w.heap.size w w' := by
  have HR := Lib.hid hr
  have HR' := Lib.hid hr'
  have HP := Lib.hid hp
  have HQ := Lib.hid hq
  have HP' := Lib.hid hp'
  have HQ' := Lib.hid hq'
  have hp6 : p ≤ 600 := by omega
  have hq6 : q ≤ 600 := by omega
  have HBX := Lib.hid (hr.bkey.take p)
  have HBY := Lib.hid (hr.bvalue.take q)
  have HBX' := Lib.hid (hr'.bkey.take p')
  have HBY' := Lib.hid (hr'.bvalue.take q')
  clear hr hp hq hr' hp' hq'
  go_enter Try.func6, Try.ntmps6
  go_wp2_with fail
  refine (wakes_any _).mono ?_
  rintro e w1 ⟨rfl, hb⟩
  have hb00 : Below w.heap.size w ((w.alloc (.cells (recC k f x s A n c B m d) 26)).alloc (.cells (recC k' f' x' s' A' n' c' B' m' d') 26)) := ((Below.refl _ _).alloc (Nat.le_refl _) _).alloc (by simp) _
  have hb0 : Below w.heap.size w w1 := hb00.trans (hb.mono hb00.size)
  have HB1 := Lib.hid hb0
  have HG1 := Lib.hid (show Blk w1 w.heap.size 26 (recC k f x s A n c B m d) from ((Blk.new w _ _).alloc _).below hb (by simp; omega))
  have HH1 := Lib.hid (show Blk w1 (w.heap.size + 1) 26 (recC k' f' x' s' A' n' c' B' m' d') from (blk_new2 w _ _ _).below hb (by simp))
  have HX1 := Lib.hid ((HR.out.key.below hb0 (fun b h => h)).more (T := fun b => b < w1.heap.size) (fun b h => Nat.lt_of_lt_of_le h hb0.size))
  have HY1 := Lib.hid ((HR.out.value.below hb0 (fun b h => h)).more (T := fun b => b < w1.heap.size) (fun b h => Nat.lt_of_lt_of_le h hb0.size))
  have HX1' := Lib.hid ((HR'.out.key.below hb0 (fun b h => h)).more (T := fun b => b < w1.heap.size) (fun b h => Nat.lt_of_lt_of_le h hb0.size))
  have HY1' := Lib.hid ((HR'.out.value.below hb0 (fun b h => h)).more (T := fun b => b < w1.heap.size) (fun b h => Nat.lt_of_lt_of_le h hb0.size))
  clear hb hb0 hb00
  go_upto_region 3 with fail
  go_cut [2, 3] (fun t u wx => t = .pointer (some ⟨w.heap.size, 0, none⟩) ∧ u = .pointer (some ⟨w.heap.size + 1, 0, none⟩) ∧ ∃ g1 cap1 g2 cap2 g3 cap3 g4 cap4, Blk wx w.heap.size 26 (recC k f x s (some ⟨g1, 0, none⟩) p cap1 (some ⟨g2, 0, none⟩) q cap2) ∧ Blk wx (w.heap.size + 1) 26 (recC k' f' x' s' (some ⟨g3, 0, none⟩) p' cap3 (some ⟨g4, 0, none⟩) q' cap4) ∧
    Room wx w1.heap.size g1 p cap1 (xs.take p) ∧ Room wx w1.heap.size g2 q cap2 (ys.take q) ∧ Room wx w1.heap.size g3 p' cap3 (xs'.take p') ∧ Room wx w1.heap.size g4 q' cap4 (ys'.take q') ∧ Below w.heap.size w wx)
  case first =>
    refine wp_region_noPanic ?_
    refine Tillst.region (fun W => Blk W (w.heap.size + 1) 26 (recC k' f' x' s' A' n' c' B' m' d')) [5] (by kernel_rfl) (Blk.drew HH1.out) (fun hHeld => ?_)
    have HLT := Lib.hid (show w.heap.size + 1 < w1.heap.size from HH1.out.lt)
    have HBW := Lib.hid ((Below.refl w1.heap.size w1).drew)
    have HZW := Lib.hid (show w1.heap.size ≤ w1.drew.heap.size from Nat.le_refl _)
    generalize w1.drew = vd at *
    refine Tillst.take (i := 2) (oi := { dst := some 9, op := Op.load 26 (Operand.tmp 3), type := 26, pos := "law.go:114", after := #[], guard := none }) (v := .agg #[.int .i64 k', .int .u32 f', .int .u32 x', .int .u64 s', .slice A' n' c', .slice B' m' d']) rfl (by kernel_rfl) (by kernel_rfl) (by kernel_rfl) (by kernel_rfl) (fun _ _ _ h => h) (by rfl) ?_ hHeld ?_
    · intro W hSW; exact row_runs (.tmp 3) 26 rfl (w.heap.size + 1) rfl 26 [.int .i64 k', .int .u32 f', .int .u32 x', .int .u64 s', .slice A' n' c', .slice B' m' d'] _ Try.underlying26 rfl size_rec hSW
    simp only [Act.put, List.setIfInBounds_toArray, List.set_cons_zero, List.set_cons_succ]
    refine Tillst.one (i := 0) (o := { dst := some 7, op := Op.load 26 (Operand.tmp 2), type := 26, pos := "law.go:114", after := #[], guard := none }) (by kernel_rfl) rfl ?_
    intro K hK
    refine step_load_row (.tmp 2) 26 rfl rfl w.heap.size rfl 26 [.int .i64 k, .int .u32 f, .int .u32 x, .int .u64 s, .slice A n c, .slice B m d] _ Try.underlying26 rfl size_rec (HG1.out.below HBW.out HG1.out.lt) ?_
    simp only [Act.put, List.setIfInBounds_toArray, List.set_cons_zero, List.set_cons_succ]
    refine hK.out _ _ (fun _ => hHeld) (fun hHeld => ?_)
    replace hHeld := hHeld (by decide)
    clear hK K
    refine Tillst.one (i := 1) (o := { dst := some 8, op := Op.call { callee := Callee.value (Operand.func 11), args := #[Operand.tmp 7], argTypes := #[26] }, type := 26, pos := "law.go:114", after := #[{ on := 0, ground := Ground.data }], guard := none }) (by kernel_rfl) rfl ?_
    intro K hK
    refine step_call 11 #[.tmp 7] #[26] rfl rfl Try.func11 rfl rfl [.agg #[.int .i64 k, .int .u32 f, .int .u32 x, .int .u64 s, .slice A n c, .slice B m d]] rfl ?_
    refine (short_any k f x s A B n c m d p q xs ys vd (((HX1.out).below HBW.out (fun b h => h)).more (T := fun b => b < vd.heap.size) (fun b h => Nat.lt_of_lt_of_le h HZW.out)) (((HY1.out).below HBW.out (fun b h => h)).more (T := fun b => b < vd.heap.size) (fun b h => Nat.lt_of_lt_of_le h HZW.out)) HR.out.nc HR.out.md HR.out.nA HR.out.nB HR.out.n63 HR.out.m63 HP.out HQ.out).mono ?_
    rintro e va ⟨g1, cap1, g2, cap2, rfl, hra, hrb, hne, hb⟩
    have HK1 := Lib.hid (hra.base_le HZW.out)
    have HV1 := Lib.hid (hrb.base_le HZW.out)
    have HBW := Lib.hid (HBW.out.trans (hb.mono HZW.out))
    have HZW := Lib.hid (Nat.le_trans HZW.out hb.size)
    clear hra hrb hne hb
    refine ⟨_, rfl, ?_⟩
    simp only [Act.put, List.setIfInBounds_toArray, List.set_cons_zero, List.set_cons_succ]
    refine hK.out _ _ (fun _ => HH1.out.below HBW.out HLT.out) (fun hHeld => ?_)
    replace hHeld := hHeld (by decide)
    clear hK K
    refine Tillst.one (i := 3) (o := { dst := some 10, op := Op.call { callee := Callee.value (Operand.func 11), args := #[Operand.tmp 9], argTypes := #[26] }, type := 26, pos := "law.go:114", after := #[{ on := 2, ground := Ground.data }, { on := 1, ground := Ground.chain }], guard := none }) (by kernel_rfl) rfl ?_
    intro K hK
    refine step_call 11 #[.tmp 9] #[26] rfl rfl Try.func11 rfl rfl [.agg #[.int .i64 k', .int .u32 f', .int .u32 x', .int .u64 s', .slice A' n' c', .slice B' m' d']] rfl ?_
    refine (short_any k' f' x' s' A' B' n' c' m' d' p' q' xs' ys' va (((HX1'.out).below HBW.out (fun b h => h)).more (T := fun b => b < va.heap.size) (fun b h => Nat.lt_of_lt_of_le h HZW.out)) (((HY1'.out).below HBW.out (fun b h => h)).more (T := fun b => b < va.heap.size) (fun b h => Nat.lt_of_lt_of_le h HZW.out)) HR'.out.nc HR'.out.md HR'.out.nA HR'.out.nB HR'.out.n63 HR'.out.m63 HP'.out HQ'.out).mono ?_
    rintro e vb ⟨g3, cap3, g4, cap4, rfl, hra, hrb, hne, hb⟩
    have HK2 := Lib.hid (hra.base_le HZW.out)
    have HV2 := Lib.hid (hrb.base_le HZW.out)
    have HK1 := Lib.hid (HK1.out.below hb)
    have HV1 := Lib.hid (HV1.out.below hb)
    have HBW := Lib.hid (HBW.out.trans (hb.mono HZW.out))
    have HZW := Lib.hid (Nat.le_trans HZW.out hb.size)
    clear hra hrb hne hb
    refine ⟨_, rfl, ?_⟩
    simp only [Act.put, List.setIfInBounds_toArray, List.set_cons_zero, List.set_cons_succ]
    refine hK.out _ _ (fun _ => HH1.out.below HBW.out HLT.out) (fun hHeld => ?_)
    replace hHeld := hHeld (by decide)
    clear hK K
    refine Tillst.one (i := 4) (o := { dst := none, op := Op.store 26 (Operand.tmp 2) (Operand.tmp 8), type := 0, pos := "law.go:114", after := #[{ on := 1, ground := Ground.data }, { on := 3, ground := Ground.chain }, { on := 0, ground := Ground.phase }, { on := 1, ground := Ground.phase }, { on := 2, ground := Ground.textOnly Departure.lateStores }, { on := 3, ground := Ground.textOnly Departure.lateStoresUnsure }], guard := none }) (by kernel_rfl) rfl ?_
    intro K hK
    have HGv := Lib.hid (HG1.out.below HBW.out HG1.out.lt)
    have HHv := Lib.hid (HH1.out.below HBW.out HLT.out)
    refine step_store_row (.tmp 2) (.tmp 8) 26 rfl rfl w.heap.size (recC k f x s (some ⟨g1, 0, none⟩) p cap1 (some ⟨g2, 0, none⟩) q cap2) rfl rfl 26 _ HGv.out size_rec rfl (one_rec _ _ _ _ _ _ _ _ _ _) ?_
    have HHw := Lib.hid (show Blk (vb.setRow w.heap.size (recC k f x s (some ⟨g1, 0, none⟩) p cap1 (some ⟨g2, 0, none⟩) q cap2)) (w.heap.size + 1) 26 (recC k' f' x' s' A' n' c' B' m' d') from Blk.kept (S := fun b => b ≠ w.heap.size) HHv.out ((Kept.refl _ _).setRow (fun h => h rfl) _) (by show w.heap.size + 1 ≠ w.heap.size; omega))
    have HGw := Lib.hid (show Blk (vb.setRow w.heap.size (recC k f x s (some ⟨g1, 0, none⟩) p cap1 (some ⟨g2, 0, none⟩) q cap2)) w.heap.size 26 (recC k f x s (some ⟨g1, 0, none⟩) p cap1 (some ⟨g2, 0, none⟩) q cap2) from setRow_heap _ _ _ _ _ _ HGv.out)
    have HK1 := Lib.hid (room_setRow HK1.out (q := w.heap.size) (by have := HK1.out.lt.1; have := HLT.out; omega) (recC k f x s (some ⟨g1, 0, none⟩) p cap1 (some ⟨g2, 0, none⟩) q cap2))
    have HV1 := Lib.hid (room_setRow HV1.out (q := w.heap.size) (by have := HV1.out.lt.1; have := HLT.out; omega) (recC k f x s (some ⟨g1, 0, none⟩) p cap1 (some ⟨g2, 0, none⟩) q cap2))
    have HK2 := Lib.hid (room_setRow HK2.out (q := w.heap.size) (by have := HK2.out.lt.1; have := HLT.out; omega) (recC k f x s (some ⟨g1, 0, none⟩) p cap1 (some ⟨g2, 0, none⟩) q cap2))
    have HV2 := Lib.hid (room_setRow HV2.out (q := w.heap.size) (by have := HV2.out.lt.1; have := HLT.out; omega) (recC k f x s (some ⟨g1, 0, none⟩) p cap1 (some ⟨g2, 0, none⟩) q cap2))
    have HBL := Lib.hid (show Below w.heap.size w (vb.setRow w.heap.size (recC k f x s (some ⟨g1, 0, none⟩) p cap1 (some ⟨g2, 0, none⟩) q cap2)) from below_setRow (HB1.out.trans (HBW.out.mono HB1.out.size)) (Nat.le_refl _) _)
    clear HGv HHv
    simp only [Act.put, List.setIfInBounds_toArray, List.set_cons_zero, List.set_cons_succ]
    generalize hvc : vb.setRow w.heap.size _ = vc at *
    clear hvc
    refine hK.out _ _ (fun _ => HHw.out) (fun hHeld => ?_)
    replace hHeld := hHeld (by decide)
    clear hK K
    refine Tillst.one (i := 5) (o := { dst := none, op := Op.store 26 (Operand.tmp 3) (Operand.tmp 10), type := 0, pos := "law.go:114", after := #[{ on := 3, ground := Ground.data }, { on := 4, ground := Ground.chain }, { on := 0, ground := Ground.phase }, { on := 1, ground := Ground.phase }, { on := 2, ground := Ground.phase }, { on := 3, ground := Ground.phase }, { on := 4, ground := Ground.phase }], guard := none }) (by kernel_rfl) rfl ?_
    intro K hK
    refine step_store_row (.tmp 3) (.tmp 10) 26 rfl rfl (w.heap.size + 1) (recC k' f' x' s' (some ⟨g3, 0, none⟩) p' cap3 (some ⟨g4, 0, none⟩) q' cap4) rfl rfl 26 _ HHw.out size_rec rfl (one_rec _ _ _ _ _ _ _ _ _ _) ?_
    simp only [Act.put, List.setIfInBounds_toArray, List.set_cons_zero, List.set_cons_succ]
    refine hK.out _ _ (fun h => by cases h) (fun _ => ?_)
    clear hK K
    refine Tillst.done (by kernel_rfl) ?_ _
    refine NoPanic.normal ?_
    go_wp2_with fail
    go_meet
    exact ⟨rfl, rfl, g1, cap1, g2, cap2, g3, cap3, g4, cap4, Blk.kept (S := fun b => b ≠ w.heap.size + 1) HGw.out ((Kept.refl _ _).setRow (fun h => h rfl) _) (by show w.heap.size ≠ w.heap.size + 1; omega), setRow_heap _ _ _ _ _ _ HHw.out,
      room_setRow HK1.out (by have := HK1.out.lt.1; have := HLT.out; omega) _, room_setRow HV1.out (by have := HV1.out.lt.1; have := HLT.out; omega) _, room_setRow HK2.out (by have := HK2.out.lt.1; have := HLT.out; omega) _, room_setRow HV2.out (by have := HV2.out.lt.1; have := HLT.out; omega) _, below_setRow HBL.out (by omega) _⟩
  case rest =>
    obtain ⟨rfl, rfl, g1, cap1, g2, cap2, g3, cap3, g4, cap4, hg, hh, hk1, hv1, hk2, hv2, hbl⟩ := hcut
    have HG := Lib.hid hg
    have HH := Lib.hid hh
    have HK1 := Lib.hid hk1
    have HV1 := Lib.hid hv1
    have HK2 := Lib.hid hk2
    have HV2 := Lib.hid hv2
    have HBL := Lib.hid hbl
    clear hg hh hk1 hv1 hk2 hv2 hbl
    go_upto_region 4 with fail
    refine wp_region_noPanic ?_
    refine Tillst.region (fun W => Blk W w.heap.size 26 (recC k f x s (some ⟨g1, 0, none⟩) p cap1 (some ⟨g2, 0, none⟩) q cap2) ∧ Blk W (w.heap.size + 1) 26 (recC k' f' x' s' (some ⟨g3, 0, none⟩) p' cap3 (some ⟨g4, 0, none⟩) q' cap4)) [] (by kernel_rfl) ⟨Blk.drew HG.out, Blk.drew HH.out⟩ (fun hHeld => ?_)
    have HBW := Lib.hid ((Below.refl wc.heap.size wc).drew)
    have HZW := Lib.hid (show wc.heap.size ≤ wc.drew.heap.size from Nat.le_refl _)
    generalize wc.drew = vd at *
    refine Tillst.take (i := 0) (oi := { dst := some 11, op := Op.load 26 (Operand.tmp 2), type := 26, pos := "law.go:115", after := #[], guard := none }) (v := .agg #[.int .i64 k, .int .u32 f, .int .u32 x, .int .u64 s, .slice (some ⟨g1, 0, none⟩) p cap1, .slice (some ⟨g2, 0, none⟩) q cap2]) rfl (by kernel_rfl) (by kernel_rfl) (by kernel_rfl) (by kernel_rfl) (fun _ _ _ h => h) (by rfl) ?_ hHeld ?_
    · intro W hSW; exact row_runs (.tmp 2) 26 rfl w.heap.size rfl 26 [.int .i64 k, .int .u32 f, .int .u32 x, .int .u64 s, .slice (some ⟨g1, 0, none⟩) p cap1, .slice (some ⟨g2, 0, none⟩) q cap2] _ Try.underlying26 rfl size_rec hSW.1
    simp only [Act.put, List.setIfInBounds_toArray, List.set_cons_zero, List.set_cons_succ]
    refine Tillst.take (i := 1) (oi := { dst := some 12, op := Op.load 26 (Operand.tmp 3), type := 26, pos := "law.go:115", after := #[], guard := none }) (v := .agg #[.int .i64 k', .int .u32 f', .int .u32 x', .int .u64 s', .slice (some ⟨g3, 0, none⟩) p' cap3, .slice (some ⟨g4, 0, none⟩) q' cap4]) rfl (by kernel_rfl) (by kernel_rfl) (by kernel_rfl) (by kernel_rfl) (fun _ _ _ h => h) (by rfl) ?_ hHeld ?_
    · intro W hSW; exact row_runs (.tmp 3) 26 rfl (w.heap.size + 1) rfl 26 [.int .i64 k', .int .u32 f', .int .u32 x', .int .u64 s', .slice (some ⟨g3, 0, none⟩) p' cap3, .slice (some ⟨g4, 0, none⟩) q' cap4] _ Try.underlying26 rfl size_rec hSW.2
    simp only [Act.put, List.setIfInBounds_toArray, List.set_cons_zero, List.set_cons_succ]
    refine Tillst.take (i := 3) (oi := { dst := some 14, op := Op.load 26 (Operand.tmp 2), type := 26, pos := "law.go:115", after := #[], guard := none }) (v := .agg #[.int .i64 k, .int .u32 f, .int .u32 x, .int .u64 s, .slice (some ⟨g1, 0, none⟩) p cap1, .slice (some ⟨g2, 0, none⟩) q cap2]) rfl (by kernel_rfl) (by kernel_rfl) (by kernel_rfl) (by kernel_rfl) (fun _ _ _ h => h) (by rfl) ?_ hHeld ?_
    · intro W hSW; exact row_runs (.tmp 2) 26 rfl w.heap.size rfl 26 [.int .i64 k, .int .u32 f, .int .u32 x, .int .u64 s, .slice (some ⟨g1, 0, none⟩) p cap1, .slice (some ⟨g2, 0, none⟩) q cap2] _ Try.underlying26 rfl size_rec hSW.1
    simp only [Act.put, List.setIfInBounds_toArray, List.set_cons_zero, List.set_cons_succ]
    refine Tillst.take (i := 4) (oi := { dst := some 15, op := Op.load 26 (Operand.tmp 3), type := 26, pos := "law.go:115", after := #[], guard := none }) (v := .agg #[.int .i64 k', .int .u32 f', .int .u32 x', .int .u64 s', .slice (some ⟨g3, 0, none⟩) p' cap3, .slice (some ⟨g4, 0, none⟩) q' cap4]) rfl (by kernel_rfl) (by kernel_rfl) (by kernel_rfl) (by kernel_rfl) (fun _ _ _ h => h) (by rfl) ?_ hHeld ?_
    · intro W hSW; exact row_runs (.tmp 3) 26 rfl (w.heap.size + 1) rfl 26 [.int .i64 k', .int .u32 f', .int .u32 x', .int .u64 s', .slice (some ⟨g3, 0, none⟩) p' cap3, .slice (some ⟨g4, 0, none⟩) q' cap4] _ Try.underlying26 rfl size_rec hSW.2
    simp only [Act.put, List.setIfInBounds_toArray, List.set_cons_zero, List.set_cons_succ]
    refine Tillst.one (i := 2) (o := { dst := some 13, op := Op.call { callee := Callee.value (Operand.func 28), args := #[Operand.tmp 11, Operand.tmp 12], argTypes := #[26, 26] }, type := 4, pos := "law.go:115", after := #[{ on := 0, ground := Ground.data }, { on := 1, ground := Ground.data }], guard := none }) (by kernel_rfl) rfl ?_
    intro K hK
    refine step_call 28 #[.tmp 11, .tmp 12] #[26, 26] rfl rfl Try.func28 rfl rfl [.agg #[.int .i64 k, .int .u32 f, .int .u32 x, .int .u64 s, .slice (some ⟨g1, 0, none⟩) p cap1, .slice (some ⟨g2, 0, none⟩) q cap2], .agg #[.int .i64 k', .int .u32 f', .int .u32 x', .int .u64 s', .slice (some ⟨g3, 0, none⟩) p' cap3, .slice (some ⟨g4, 0, none⟩) q' cap4]] rfl ?_
    refine (same_any k f x s k' f' x' s' _ _ _ _ p cap1 q cap2 p' cap3 q' cap4 (xs.take p) (xs'.take p') (ys.take q) (ys'.take q') (fun b => b < vd.heap.size) vd ((HK1.out.below HBW.out).row (HK1.out.below HBW.out).lt.2) ((HK2.out.below HBW.out).row (HK2.out.below HBW.out).lt.2) ((HV1.out.below HBW.out).row (HV1.out.below HBW.out).lt.2) ((HV2.out.below HBW.out).row (HV2.out.below HBW.out).lt.2) (fun b h => h) HBX.out HBX'.out HBY.out HBY'.out).mono ?_
    rintro e va ⟨rfl, hb⟩
    have HBW := Lib.hid (HBW.out.trans (hb.mono HZW.out))
    have HZW := Lib.hid (Nat.le_trans HZW.out hb.size)
    clear hb
    refine ⟨_, rfl, ?_⟩
    simp only [Act.put, List.setIfInBounds_toArray, List.set_cons_zero, List.set_cons_succ]
    refine hK.out _ _ (fun _ => ⟨HG.out.below HBW.out HG.out.lt, HH.out.below HBW.out HH.out.lt⟩) (fun hHeld => ?_)
    replace hHeld := hHeld (by decide)
    clear hK K
    refine Tillst.one (i := 5) (o := { dst := some 16, op := Op.call { callee := Callee.value (Operand.func 26), args := #[Operand.tmp 14, Operand.tmp 15], argTypes := #[26, 26] }, type := 4, pos := "law.go:115", after := #[{ on := 3, ground := Ground.data }, { on := 4, ground := Ground.data }, { on := 2, ground := Ground.chain }], guard := none }) (by kernel_rfl) rfl ?_
    intro K hK
    refine step_call 26 #[.tmp 14, .tmp 15] #[26, 26] rfl rfl Try.func26 rfl rfl [.agg #[.int .i64 k, .int .u32 f, .int .u32 x, .int .u64 s, .slice (some ⟨g1, 0, none⟩) p cap1, .slice (some ⟨g2, 0, none⟩) q cap2], .agg #[.int .i64 k', .int .u32 f', .int .u32 x', .int .u64 s', .slice (some ⟨g3, 0, none⟩) p' cap3, .slice (some ⟨g4, 0, none⟩) q' cap4]] rfl ?_
    refine (rsame_any k f x s k' f' x' s' _ _ _ _ p cap1 q cap2 p' cap3 q' cap4 (xs.take p) (xs'.take p') (ys.take q) (ys'.take q') (fun b => b < va.heap.size) va ((HK1.out.below HBW.out).row (HK1.out.below HBW.out).lt.2) ((HK2.out.below HBW.out).row (HK2.out.below HBW.out).lt.2) ((HV1.out.below HBW.out).row (HV1.out.below HBW.out).lt.2) ((HV2.out.below HBW.out).row (HV2.out.below HBW.out).lt.2) (fun b h => h) HBX.out HBX'.out HBY.out HBY'.out).mono ?_
    rintro e vb ⟨rfl, hb⟩
    have HBW := Lib.hid (HBW.out.trans (hb.mono HZW.out))
    have HZW := Lib.hid (Nat.le_trans HZW.out hb.size)
    clear hb
    refine ⟨_, rfl, ?_⟩
    simp only [Act.put, List.setIfInBounds_toArray, List.set_cons_zero, List.set_cons_succ]
    refine hK.out _ _ (fun _ => ⟨HG.out.below HBW.out HG.out.lt, HH.out.below HBW.out HH.out.lt⟩) (fun hHeld => ?_)
    replace hHeld := hHeld (by decide)
    clear hK K
    generalize recSame k f x s (xs.take p) (ys.take q) k' f' x' s' (xs'.take p') (ys'.take q') = r at *
    refine Tillst.take (i := 6) (oi := { dst := some 17, op := Op.binOp BinOp.eql 4 (Operand.tmp 13) (Operand.tmp 16) 4, type := 4, pos := "law.go:115", after := #[{ on := 2, ground := Ground.data }, { on := 5, ground := Ground.data }], guard := none }) (v := .bool true) rfl (by kernel_rfl) (by kernel_rfl) (by kernel_rfl) (by kernel_rfl) (fun _ _ _ h => h) (by rfl) ?_ hHeld ?_
    · intro W hSW; cases r <;> (go_simp)
    simp only [Act.put, List.setIfInBounds_toArray, List.set_cons_zero, List.set_cons_succ]
    refine Tillst.take (i := 7) (oi := { dst := some 18, op := Op.move (Operand.tmp 17), type := 4, pos := "law.go:115", after := #[{ on := 6, ground := Ground.data }, { on := 5, ground := Ground.chain }], guard := none }) (v := ?_) rfl (by kernel_rfl) (by kernel_rfl) (by kernel_rfl) (by kernel_rfl) (fun _ _ _ h => h) (by rfl) ?_ hHeld ?_
    rotate_left
    · intro W hSW; go_simp; with_reducible rfl
    simp only [Act.put, List.setIfInBounds_toArray, List.set_cons_zero, List.set_cons_succ]
    refine Tillst.take (i := 8) (oi := { dst := some 19, op := Op.load 26 (Operand.tmp 2), type := 26, pos := "law.go:115", after := #[{ on := 7, ground := Ground.guard }], guard := some (7, true) }) (v := .agg #[.int .i64 k, .int .u32 f, .int .u32 x, .int .u64 s, .slice (some ⟨g1, 0, none⟩) p cap1, .slice (some ⟨g2, 0, none⟩) q cap2]) rfl (by kernel_rfl) (by kernel_rfl) (by kernel_rfl) (by kernel_rfl) (fun _ _ _ h => h) (by rfl) ?_ hHeld ?_
    · intro W hSW; exact row_runs (.tmp 2) 26 rfl w.heap.size rfl 26 [.int .i64 k, .int .u32 f, .int .u32 x, .int .u64 s, .slice (some ⟨g1, 0, none⟩) p cap1, .slice (some ⟨g2, 0, none⟩) q cap2] _ Try.underlying26 rfl size_rec hSW.1
    simp only [Act.put, List.setIfInBounds_toArray, List.set_cons_zero, List.set_cons_succ]
    refine Tillst.take (i := 9) (oi := { dst := some 20, op := Op.load 26 (Operand.tmp 2), type := 26, pos := "law.go:115", after := #[{ on := 7, ground := Ground.guard }], guard := some (7, true) }) (v := .agg #[.int .i64 k, .int .u32 f, .int .u32 x, .int .u64 s, .slice (some ⟨g1, 0, none⟩) p cap1, .slice (some ⟨g2, 0, none⟩) q cap2]) rfl (by kernel_rfl) (by kernel_rfl) (by kernel_rfl) (by kernel_rfl) (fun _ _ _ h => h) (by rfl) ?_ hHeld ?_
    · intro W hSW; exact row_runs (.tmp 2) 26 rfl w.heap.size rfl 26 [.int .i64 k, .int .u32 f, .int .u32 x, .int .u64 s, .slice (some ⟨g1, 0, none⟩) p cap1, .slice (some ⟨g2, 0, none⟩) q cap2] _ Try.underlying26 rfl size_rec hSW.1
    simp only [Act.put, List.setIfInBounds_toArray, List.set_cons_zero, List.set_cons_succ]
    refine Tillst.one (i := 10) (o := { dst := some 21, op := Op.call { callee := Callee.value (Operand.func 12), args := #[Operand.tmp 20], argTypes := #[26] }, type := 26, pos := "law.go:115", after := #[{ on := 9, ground := Ground.data }, { on := 7, ground := Ground.chain }, { on := 7, ground := Ground.guard }], guard := some (7, true) }) (by kernel_rfl) rfl ?_
    intro K hK
    refine step_call 12 #[.tmp 20] #[26] rfl rfl Try.func12 rfl rfl [.agg #[.int .i64 k, .int .u32 f, .int .u32 x, .int .u64 s, .slice (some ⟨g1, 0, none⟩) p cap1, .slice (some ⟨g2, 0, none⟩) q cap2]] rfl ?_
    refine (copied_any k f x s _ _ p cap1 q cap2 (xs.take p) (ys.take q) vb ((HK1.out.below HBW.out).row (HK1.out.below HBW.out).lt.2) ((HV1.out.below HBW.out).row (HV1.out.below HBW.out).lt.2) (fun h => by cases h) (fun h => by cases h) hp6 hq6).mono ?_
    rintro e vc ⟨A1, c1, A2, c2, rfl, hr1, hr2, hn, hb⟩
    have HR1 := Lib.hid (hr1.more (T := fun b => b < vc.heap.size) (fun b h => h.2))
    have HR2 := Lib.hid (hr2.more (T := fun b => b < vc.heap.size) (fun b h => h.2))
    have HBW := Lib.hid (HBW.out.trans (hb.mono HZW.out))
    have HZW := Lib.hid (Nat.le_trans HZW.out hb.size)
    clear hb hr1 hr2 hn
    refine ⟨_, rfl, ?_⟩
    simp only [Act.put, List.setIfInBounds_toArray, List.set_cons_zero, List.set_cons_succ]
    refine hK.out _ _ (fun _ => ⟨HG.out.below HBW.out HG.out.lt, HH.out.below HBW.out HH.out.lt⟩) (fun hHeld => ?_)
    replace hHeld := hHeld (by decide)
    clear hK K
    refine Tillst.one (i := 11) (o := { dst := some 22, op := Op.call { callee := Callee.value (Operand.func 28), args := #[Operand.tmp 19, Operand.tmp 21], argTypes := #[26, 26] }, type := 4, pos := "law.go:115", after := #[{ on := 8, ground := Ground.data }, { on := 10, ground := Ground.data }, { on := 10, ground := Ground.chain }, { on := 7, ground := Ground.guard }], guard := some (7, true) }) (by kernel_rfl) rfl ?_
    intro K hK
    refine step_call 28 #[.tmp 19, .tmp 21] #[26, 26] rfl rfl Try.func28 rfl rfl [.agg #[.int .i64 k, .int .u32 f, .int .u32 x, .int .u64 s, .slice (some ⟨g1, 0, none⟩) p cap1, .slice (some ⟨g2, 0, none⟩) q cap2], .agg #[.int .i64 k, .int .u32 f, .int .u32 x, .int .u64 s, .slice A1 p c1, .slice A2 q c2]] rfl ?_
    refine (same_any k f x s k f x s _ _ _ _ p cap1 q cap2 p c1 q c2 (xs.take p) (xs.take p) (ys.take q) (ys.take q) (fun b => b < vc.heap.size) vc ((HK1.out.below HBW.out).row (HK1.out.below HBW.out).lt.2) HR1.out ((HV1.out.below HBW.out).row (HV1.out.below HBW.out).lt.2) HR2.out (fun b h => h) HBX.out HBX.out HBY.out HBY.out).mono ?_
    rintro e ve ⟨rfl, hb⟩
    rw [recSame_self]
    have HBW := Lib.hid (HBW.out.trans (hb.mono HZW.out))
    have HZW := Lib.hid (Nat.le_trans HZW.out hb.size)
    clear hb
    refine ⟨_, rfl, ?_⟩
    simp only [Act.put, List.setIfInBounds_toArray, List.set_cons_zero, List.set_cons_succ]
    refine hK.out _ _ (fun _ => ⟨HG.out.below HBW.out HG.out.lt, HH.out.below HBW.out HH.out.lt⟩) (fun hHeld => ?_)
    replace hHeld := hHeld (by decide)
    clear hK K
    refine Tillst.take (i := 12) (oi := { dst := some 23, op := Op.pick (Operand.tmp 18) (Operand.tmp 22) (Operand.const (Value.bool false)), type := 4, pos := "law.go:115", after := #[{ on := 7, ground := Ground.data }, { on := 11, ground := Ground.data }], guard := none }) (v := ?_) rfl (by kernel_rfl) (by kernel_rfl) (by kernel_rfl) (by kernel_rfl) (fun _ _ _ h => h) (by rfl) ?_ hHeld ?_
    rotate_left
    · intro W hSW; go_simp; with_reducible rfl
    simp only [Act.put, List.setIfInBounds_toArray, List.set_cons_zero, List.set_cons_succ]
    refine Tillst.take (i := 13) (oi := { dst := some 4, op := Op.assign (Operand.tmp 23), type := 4, pos := "law.go:115", after := #[{ on := 12, ground := Ground.data }, { on := 11, ground := Ground.chain }, { on := 0, ground := Ground.phase }, { on := 1, ground := Ground.phase }, { on := 2, ground := Ground.phase }, { on := 3, ground := Ground.phase }, { on := 4, ground := Ground.phase }, { on := 5, ground := Ground.phase }, { on := 6, ground := Ground.phase }, { on := 7, ground := Ground.phase }, { on := 8, ground := Ground.phase }, { on := 9, ground := Ground.phase }, { on := 10, ground := Ground.phase }, { on := 11, ground := Ground.phase }, { on := 12, ground := Ground.phase }], guard := none }) (v := ?_) rfl (by kernel_rfl) (by kernel_rfl) (by kernel_rfl) (by kernel_rfl) (fun _ _ _ h => h) (by rfl) ?_ hHeld ?_
    rotate_left
    · intro W hSW; go_simp; with_reducible rfl
    simp only [Act.put, List.setIfInBounds_toArray, List.set_cons_zero, List.set_cons_succ]
    refine Tillst.done (by kernel_rfl) ?_ _
    refine NoPanic.normal ?_
    clear hHeld
    go_wp2_with fail
    go_ret
    exact ⟨rfl, HBL.out.trans (HBW.out.mono HBL.out.size)⟩

set_option maxHeartbeats 4000000 in
set_option maxRecDepth 100000 in
theorem walk (k0 f0 x0 s0 : Int) (A0 : Option Addr) (n0 c0 : Nat) (B0 : Option Addr) (m0 d0 : Nat) (z0 y0 : List Int) (k1 f1 x1 s1 : Int) (A1 : Option Addr) (n1 c1 : Nat) (B1 : Option Addr) (m1 d1 : Nat) (z1 y1 : List Int) (w : World) (w0 : IsRec w k0 f0 x0 s0 A0 n0 c0 B0 m0 d0 z0 y0) (w1 : IsRec w k1 f1 x1 s1 A1 n1 c1 B1 m1 d1 z1 y1) :
    Calls Try.prog 6 #[.agg #[.int .i64 k0, .int .u32 f0, .int .u32 x0, .int .u64 s0, .slice A0 n0 c0, .slice B0 m0 d0], .agg #[.int .i64 k1, .int .u32 f1, .int .u32 x1, .int .u64 s1, .slice A1 n1 c1, .slice B1 m1 d1]] w fun e w' => e = .returned (.bool true) ∧ Below w.heap.size w w' := by
  -- HEARTS
  obtain ⟨p, hp⟩ : ∃ p, p = min n0 600 := ⟨_, rfl⟩
  obtain ⟨q, hq⟩ : ∃ q, q = min m0 600 := ⟨_, rfl⟩
  obtain ⟨p', hp'⟩ : ∃ p, p = min n1 600 := ⟨_, rfl⟩
  obtain ⟨q', hq'⟩ : ∃ q, q = min m1 600 := ⟨_, rfl⟩
  exact walk_any k0 f0 x0 s0 A0 B0 n0 c0 m0 d0 p q z0 y0 k1 f1 x1 s1 A1 B1 n1 c1 m1 d1 p' q' z1 y1 w w0 w1 (by omega) (by omega) (by omega) (by omega)

set_option maxRecDepth 100000 in
theorem lifted (os : Os) (started : os.Started) (H : Type) (enc : TypeId × Value → H) :
    ReturnsInHanded {} Try.checked os 6 .any (Rows.recordSameSpec.pre6 enc Try.prog Try.f6 Rows.recordSameRow.domain false) (Rows.recordSameSpec.post enc Try.prog Try.f6 false true false false) := by
  refine returnsInHanded_of_change_sized (C := Try.checked) own started (by kernel_rfl) Try.func6
    (ChangeSpec.witness6 (enc := enc) (C := Try.checked) false ⟨#[], #[.agg #[.int .i64 0, .int .u32 0, .int .u32 0, .int .u64 0, .slice none 0 0, .slice none 0 0], .agg #[.int .i64 0, .int .u32 0, .int .u32 0, .int .u64 0, .slice none 0 0, .slice none 0 0]], []⟩ 8 (by kernel_rfl) (by kernel_rfl) (by kernel_rfl) (by kernel_rfl)) ?_
  intro W base args ds gs before hval0 hW hcnd hsz0 _
  have hval : ∀ (j : Nat) t v, Try.f6.params[j]? = some t → args[j]? = some v → Value.okWide Try.prog W .any base t v := hval0
  have hW' := hW
  have hsz : (DataW.weightsEach Try.prog (Try.f6.params.toList ++ Rows.recordSameSpec.plain.varTypes Try.prog) (ds ++ gs)).all (· ≤ reachBytes) = true := hsz0
  obtain ⟨p, q, hA0, hV, rfl, hfz, hnd⟩ := hW
  have hA : DataW.TrodAll enc Try.prog W 0 (fun _ => true) true Try.f6.params.toList args.toList ds p := hA0
  rw [Try.params6] at hA hval hsz
  obtain ⟨v0, vs0, d0, ds0, p0, q0, hargs, rfl, rfl, h0, r0⟩ := trodAll_cons hA
  obtain ⟨v1, vs1, d1, ds1, p1, q1, rfl, rfl, rfl, h1, r1⟩ := trodAll_cons r0
  obtain ⟨rfl, rfl, rfl⟩ := trodAll_nil r1
  obtain rfl : args = #[v0, v1] := by cases args; simp_all
  obtain ⟨rfl, rfl⟩ := trodVars_none hV
  have kk0 := h0
  have lt0 : ∀ x ∈ p0, x.block < W.heap.size := by obtain ⟨m, hm⟩ := kk0; exact DataW.trod_lt m _ _ _ hm
  obtain ⟨k0, f0, x0, s0, A0, n0, c0, B0, m0, dd0, z0, y0, rfl, w0⟩ := open_rec (hval 0 26 v0 rfl rfl) h0
  have kk1 := h1
  have lt1 : ∀ x ∈ p1, x.block < W.heap.size := by obtain ⟨m, hm⟩ := kk1; exact DataW.trod_lt m _ _ _ hm
  obtain ⟨k1, f1, x1, s1, A1, n1, c1, B1, m1, dd1, z1, y1, rfl, w1⟩ := open_rec (hval 1 26 v1 rfl rfl) h1
  clear hA0 hval0
  refine (walk k0 f0 x0 s0 A0 n0 c0 B0 m0 dd0 z0 y0 k1 f1 x1 s1 A1 n1 c1 B1 m1 dd1 z1 y1 W w0 w1).mono fun e W' ⟨he, bel⟩ => ?_
  subst he
  exact ⟨_, rfl, _, _, _, [], _, [], hW', trodAll_mk1 (shut_bool Try.underlying4 _), (trodAll_cons_mk (Below.trod laidOut (by kernel_rfl) (of_decide_eq_true (by kernel_rfl)) kk0 bel lt0) (trodAll_cons_mk (Below.trod laidOut (by kernel_rfl) (of_decide_eq_true (by kernel_rfl)) kk1 bel lt1) trodAll_mk0)), rfl, bel.frame _, fun h => by cases h⟩

theorem over : Rows.recordSameRow.holds Try.pinned (OpenSpec.ofChange Rows.recordSameSpec) :=
  OpenClaim.holds_of_wide 6 Try.f6 rfl rfl rfl rfl rfl rfl rfl ⟨rfl, rfl, rfl, rfl, rfl⟩ rfl rfl rfl rfl rfl (by kernel_rfl) Try.func6 (by kernel_rfl)
    (of_decide_eq_true (by kernel_rfl)) (by unfold Func.isWrapper; first | (rw [if_pos (by decide +kernel)]; kernel_rfl) | (rw [if_neg (by decide +kernel)]; exact ⟨rfl, rfl⟩))
    (fun os started H enc _ => lifted os started H enc)

theorem proved : Rows.RecordSameSaid := over
end Go.Proofs.Ytehldhdpeefljaa.recordSame
