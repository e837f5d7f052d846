/- For every record (of its lists the first 600 bytes): whether it may be, its bytes and how many sectors they fill are the document's; its lists, and what stands behind them, are as they were, also when the bytes are overwritten. No condition. -/
import Derived.Test.YtehldhdpeefljaaRows
import Derived.WalkKit
import Derived.ProofKit
import Derived.OpenShut
import Derived.ShutString
import Derived.ChangeOld
import Derived.Below
import Derived.SizedLaws
import Derived.Test.YtehldhdpeefljaaWakes
import Derived.Test.YtehldhdpeefljaaShort
import Derived.Test.YtehldhdpeefljaaCopied
import Derived.Test.YtehldhdpeefljaaWhole
import Derived.Test.YtehldhdpeefljaaRBytes
import Derived.Test.YtehldhdpeefljaaArgsRec
import Derived.Deep.DeepCutAuto
namespace Go.Proofs.Ytehldhdpeefljaa.recordEncodes
open Go.ChangeShapes Go.WideShapes Go.ChangeAt Go.RowKit
open Go.ChangeMaps (open_string shut_string)
set_option linter.unusedVariables false

theorem own : ownKnob Try.prog.godebug = none := by kernel_rfl
theorem laidOut : laidOutB Try.prog = true := by kernel_rfl

/-- The bytes are overwritten from the left; nothing else has turned. -/
def Over (w0 wr : World) (g n cap : Nat) : Prop := ∃ zs : List Int, zs.length = n ∧ wr.ownsRow w0.heap.size 5 1 (.slice (some ⟨g, 0, none⟩) n cap) n (zs.map (Value.int .u8)) ∧ Below w0.heap.size w0 wr
theorem Over.set {w0 wr : World} {g n cap : Nat} (h : Over w0 wr g n cap) (hg : w0.heap.size ≤ g) (j : Nat) (u : Int) : Over w0 (wr.setCell ⟨g, j, none⟩ (.int .u8 u)) g n cap := by
  obtain ⟨zs, hl, ho, hk⟩ := h
  refine ⟨zs.set j u, by simpa using hl, ?_, hk.setCell hg _⟩
  have := (ho.stored j (.int .u8 u)).1
  rwa [← List.map_set] at this
theorem Over.cell {w0 wr : World} {g n cap : Nat} (h : Over w0 wr g n cap) (j : Nat) (hj : j < n) : (∃ u : Int, wr.cell? ⟨g, j, none⟩ = some (.int .u8 u)) ∧ wr.frozen? ⟨g, j, none⟩ = false := by
  obtain ⟨zs, hl, ho, hk⟩ := h
  refine ⟨⟨zs.getD j 0, ?_⟩, ho.frozenAt j⟩
  rw [ho.cellAt j (by omega)]
  simp [List.getD, List.getElem?_eq_getElem (show j < zs.length by omega)]

set_option maxRecDepth 100000 in
set_option maxHeartbeats 4000000 in
theorem walk_any (k f x s : Int) (A B : Option Addr) (n c m d p q : Nat) (xs ys : List Int) (w : World) (hr : IsRec w k f x s A n c B m d xs ys)
    (hp : (n ≤ 600 ∧ p = n) ∨ (600 < n ∧ p = 600)) (hq : (m ≤ 600 ∧ q = m) ∨ (600 < m ∧ q = 600)) :
    Calls Try.prog 3 #[.agg #[.int .i64 k, .int .u32 f, .int .u32 x, .int .u64 s, .slice A n c, .slice B m d]] w fun e w' => e = .returned (.bool true) ∧ Below w.heap.size w w' := by
  have HR := Lib.hid hr
  have HP := Lib.hid hp
  have HQ := Lib.hid hq
  have HLX := Lib.hid (show (xs.take p).length = p by simp [hr.key.1]; omega)
  have HLY := Lib.hid (show (ys.take q).length = q by simp [hr.value.1]; omega)
  have HBX := Lib.hid (hr.bkey.take p)
  have HBY := Lib.hid (hr.bvalue.take q)
  have hp6 : p ≤ 600 := by omega
  have hq6 : q ≤ 600 := by omega
  clear hr hp hq
  go_enter Try.func3, Try.ntmps3
  go_wp2_with fail
  refine (wakes_any _).mono ?_
  rintro e w1 ⟨rfl, hb⟩
  have hb0 : Below w.heap.size w w1 := ((Below.refl _ _).alloc (Nat.le_refl _) (.cells (recC k f x s A n c B m d) 26)).trans (hb.mono (by simp))
  have HB1 := Lib.hid hb0
  have HG1 := Lib.hid (show Blk w1 w.heap.size 26 (recC k f x s A n c B m d) from (Blk.new w _ _).below hb (by simp))
  have HX1 := Lib.hid ((HR.out.key.below hb0 (fun b h => h)).more (T := fun b => b < w1.heap.size) (fun b h => Nat.lt_of_lt_of_le h hb0.size))
  have HY1 := Lib.hid ((HR.out.value.below hb0 (fun b h => h)).more (T := fun b => b < w1.heap.size) (fun b h => Nat.lt_of_lt_of_le h hb0.size))
  clear hb hb0
  go_wp2_with (refine wpList_load_rowB (.tmp 1) 26 rfl rfl w.heap.size rfl 26 [.int .i64 k, .int .u32 f, .int .u32 x, .int .u64 s, .slice A n c, .slice B m d] _ Try.underlying26 rfl size_rec HG1.out ?_)
  refine (short_any k f x s A B n c m d p q xs ys w1 HX1.out HY1.out HR.out.nc HR.out.md HR.out.nA HR.out.nB HR.out.n63 HR.out.m63 HP.out HQ.out).mono ?_
  rintro e w2 ⟨g1, cap1, g2, cap2, rfl, hr1, hr2, hne, hb⟩
  have HB2 := Lib.hid (HB1.out.trans (hb.mono HB1.out.size))
  have HG2 := Lib.hid (HG1.out.below hb HG1.out.lt)
  have hlt : w.heap.size < w1.heap.size := HG1.out.lt
  have HK3 := Lib.hid (room_setRow hr1 (q := w.heap.size) (by have := hr1.lt.1; omega) (recC k f x s (some ⟨g1, 0, none⟩) p cap1 (some ⟨g2, 0, none⟩) q cap2))
  have HV3 := Lib.hid (room_setRow hr2 (q := w.heap.size) (by have := hr2.lt.1; omega) (recC k f x s (some ⟨g1, 0, none⟩) p cap1 (some ⟨g2, 0, none⟩) q cap2))
  have HG3 := Lib.hid (show Blk (w2.setRow w.heap.size (recC k f x s (some ⟨g1, 0, none⟩) p cap1 (some ⟨g2, 0, none⟩) q cap2)) w.heap.size 26 (recC k f x s (some ⟨g1, 0, none⟩) p cap1 (some ⟨g2, 0, none⟩) q cap2) from setRow_heap _ _ _ _ _ _ HG2.out)
  have HB3 := Lib.hid (show Below w.heap.size w (w2.setRow w.heap.size (recC k f x s (some ⟨g1, 0, none⟩) p cap1 (some ⟨g2, 0, none⟩) q cap2)) from below_setRow HB2.out (Nat.le_refl _) _)
  clear hr1 hr2 hne hb hlt
  go_wp2_with (first
    | (refine wpList_store_rowB (.tmp 1) (.tmp 14) 26 rfl rfl w.heap.size (recC k f x s (some ⟨g1, 0, none⟩) p cap1 (some ⟨g2, 0, none⟩) q cap2) rfl rfl 26 _ HG2.out size_rec rfl (one_rec _ _ _ _ _ _ _ _ _ _) ?_)
    | (refine wpList_load_rowB (.tmp 1) 26 rfl rfl w.heap.size rfl 26 [.int .i64 k, .int .u32 f, .int .u32 x, .int .u64 s, .slice (some ⟨g1, 0, none⟩) p cap1, .slice (some ⟨g2, 0, none⟩) q cap2] _ Try.underlying26 rfl size_rec HG3.out ?_))
  generalize hw3 : w2.setRow w.heap.size _ = w3 at *
  clear hw3
  refine (copied_any k f x s _ _ p cap1 q cap2 (xs.take p) (ys.take q) w3 (HK3.out.row HK3.out.lt.2) (HV3.out.row HV3.out.lt.2) (fun h => by cases h) (fun h => by cases h) hp6 hq6).mono ?_
  rintro e w4 ⟨A1, c1, A2, c2, rfl, ha1, ha2, hn, hb⟩
  obtain ⟨w5, hw5⟩ : ∃ w5, w5 = w4.alloc (.cells (recC k f x s A1 p c1 A2 q c2) 26) := ⟨_, rfl⟩
  have hb5 : Below w3.heap.size w3 w5 := by rw [hw5]; exact hb.alloc hb.size _
  have HB5 := Lib.hid (HB3.out.trans (hb5.mono HB3.out.size))
  have HG5 := Lib.hid (HG3.out.below hb5 HG3.out.lt)
  have HK5 := Lib.hid (HK3.out.below hb5)
  have HV5 := Lib.hid (HV3.out.below hb5)
  have HS5 := Lib.hid (show Blk w5 w4.heap.size 26 (recC k f x s A1 p c1 A2 q c2) by rw [hw5]; exact Blk.new w4 _ _)
  have HA5 := Lib.hid (show RowI .u8 w5 (fun b => b < w5.heap.size) A1 p (xs.take p) by rw [hw5]; exact (ha1.keep (fun p hp => World.cell?_alloc_lt _ _ p hp.2)).more (fun b h => by simp; omega))
  have HY5 := Lib.hid (show RowI .u8 w5 (fun b => b < w5.heap.size) A2 q (ys.take q) by rw [hw5]; exact (ha2.keep (fun p hp => World.cell?_alloc_lt _ _ p hp.2)).more (fun b h => by simp; omega))
  have HW5 := Lib.hid hw5
  clear ha1 ha2 hn hb hb5 hw5
  go_wp2_with (rw [← HW5.out]; (refine wpList_load_rowB (.tmp 1) 26 rfl rfl w.heap.size rfl 26 [.int .i64 k, .int .u32 f, .int .u32 x, .int .u64 s, .slice (some ⟨g1, 0, none⟩) p cap1, .slice (some ⟨g2, 0, none⟩) q cap2] _ Try.underlying26 rfl size_rec HG5.out ?_))
  by_cases hmay : May k f x s p q
  case neg =>
    have HM := Lib.hid hmay
    refine (encode_no k f x s _ _ p cap1 q cap2 w5 hmay).mono ?_
    rintro e w6 ⟨rfl, hb⟩
    have HB6 := Lib.hid hb
    clear hb hmay
    go_wp2_with fail
    refine calm_region (fun W => Below w5.heap.size w5 W) (by kernel_rfl) (by kernel_rfl) HB6.out.drew ?_
    refine calm_load_row (.tmp 1) 26 rfl rfl w.heap.size rfl 26 [.int .i64 k, .int .u32 f, .int .u32 x, .int .u64 s, .slice (some ⟨g1, 0, none⟩) p cap1, .slice (some ⟨g2, 0, none⟩) q cap2] _ Try.underlying26 rfl size_rec (fun W h => HG5.out.below h HG5.out.lt) ?_
    simp only [Act.put, List.setIfInBounds_toArray, List.set_cons_zero, List.set_cons_succ]
    refine calm_call 14 #[.tmp 22] #[26] rfl rfl Try.func14 rfl rfl (.int .i64 0) [.agg #[.int .i64 k, .int .u32 f, .int .u32 x, .int .u64 s, .slice (some ⟨g1, 0, none⟩) p cap1, .slice (some ⟨g2, 0, none⟩) q cap2]] rfl (fun W h => (size_no k f x s _ _ p cap1 q cap2 W HM.out).mono fun e W' g => ⟨g.1, h.trans (g.2.mono h.size)⟩) ?_
    simp only [Act.put, List.setIfInBounds_toArray, List.set_cons_zero, List.set_cons_succ]
    refine calm_load_row (.tmp 1) 26 rfl rfl w.heap.size rfl 26 [.int .i64 k, .int .u32 f, .int .u32 x, .int .u64 s, .slice (some ⟨g1, 0, none⟩) p cap1, .slice (some ⟨g2, 0, none⟩) q cap2] _ Try.underlying26 rfl size_rec (fun W h => HG5.out.below h HG5.out.lt) ?_
    simp only [Act.put, List.setIfInBounds_toArray, List.set_cons_zero, List.set_cons_succ]
    refine calm_call 15 #[.tmp 24] #[26] rfl rfl Try.func15 rfl rfl (.int .i64 0) [.agg #[.int .i64 k, .int .u32 f, .int .u32 x, .int .u64 s, .slice (some ⟨g1, 0, none⟩) p cap1, .slice (some ⟨g2, 0, none⟩) q cap2]] rfl (fun W h => (sectors_no k f x s _ _ p cap1 q cap2 W HM.out).mono fun e W' g => ⟨g.1, h.trans (g.2.mono h.size)⟩) ?_
    simp only [Act.put, List.setIfInBounds_toArray, List.set_cons_zero, List.set_cons_succ]
    refine calm_load_row (.tmp 1) 26 rfl rfl w.heap.size rfl 26 [.int .i64 k, .int .u32 f, .int .u32 x, .int .u64 s, .slice (some ⟨g1, 0, none⟩) p cap1, .slice (some ⟨g2, 0, none⟩) q cap2] _ Try.underlying26 rfl size_rec (fun W h => HG5.out.below h HG5.out.lt) ?_
    simp only [Act.put, List.setIfInBounds_toArray, List.set_cons_zero, List.set_cons_succ]
    refine calm_call 16 #[.tmp 26] #[26] rfl rfl Try.func16 rfl rfl (.int .i64 160) [.agg #[.int .i64 k, .int .u32 f, .int .u32 x, .int .u64 s, .slice (some ⟨g1, 0, none⟩) p cap1, .slice (some ⟨g2, 0, none⟩) q cap2]] rfl (fun W h => (check_no k f x s _ _ p cap1 q cap2 W HM.out).mono fun e W' g => ⟨g.1, h.trans (g.2.mono h.size)⟩) ?_
    simp only [Act.put, List.setIfInBounds_toArray, List.set_cons_zero, List.set_cons_succ]
    go_big_quiet_step (fail)
    go_big_quiet_step (fail)
    go_big_quiet_step (fail)
    refine wpQuiet_nil ?_
    intro w7 hw7
    have HB7 := Lib.hid hw7
    clear hw7
    go_wp2_with (first | (refine wpList_load_rowB (.tmp 1) 26 rfl rfl w.heap.size rfl 26 [.int .i64 k, .int .u32 f, .int .u32 x, .int .u64 s, .slice (some ⟨g1, 0, none⟩) p cap1, .slice (some ⟨g2, 0, none⟩) q cap2] _ Try.underlying26 rfl size_rec (HG5.out.below HB7.out HG5.out.lt) ?_) | (refine wpList_load_rowB (.tmp 3) 26 rfl rfl w4.heap.size rfl 26 [.int .i64 k, .int .u32 f, .int .u32 x, .int .u64 s, .slice A1 p c1, .slice A2 q c2] _ Try.underlying26 rfl size_rec (HS5.out.below HB7.out HS5.out.lt) ?_))
    refine (whole_yes k f x s g1 p cap1 g2 q cap2 A1 c1 A2 c2 (xs.take p) (ys.take q) w1.heap.size w1.heap.size w7 (HK5.out.below HB7.out) (HV5.out.below HB7.out) ((HA5.out.below HB7.out (fun b h => h)).more (T := fun b => b < w7.heap.size) (fun b h => Nat.lt_of_lt_of_le h (HB7.out).size)) ((HY5.out.below HB7.out (fun b h => h)).more (T := fun b => b < w7.heap.size) (fun b h => Nat.lt_of_lt_of_le h (HB7.out).size)) HBX.out HBY.out hp6 hq6).mono ?_
    rintro e w8 ⟨rfl, hb⟩
    have HB8 := Lib.hid (HB7.out.trans (hb.mono HB7.out.size))
    clear hb
    go_wp2_with (refine wpList_load_rowB (.tmp 1) 26 rfl rfl w.heap.size rfl 26 [.int .i64 k, .int .u32 f, .int .u32 x, .int .u64 s, .slice (some ⟨g1, 0, none⟩) p cap1, .slice (some ⟨g2, 0, none⟩) q cap2] _ Try.underlying26 rfl size_rec (HG5.out.below HB8.out HG5.out.lt) ?_)
    refine (rright_no k f x s _ _ p cap1 q cap2 w8 HM.out).mono ?_
    rintro e w9 ⟨rfl, hb⟩
    have HB9 := Lib.hid (HB8.out.trans (hb.mono HB8.out.size))
    clear hb
    go_wp2_with fail
    go_ret
    exact ⟨rfl, HB5.out.trans (HB9.out.mono HB5.out.size)⟩
  case pos =>
    have HM := Lib.hid hmay
    have hpq : p ≤ 250 ∧ q ≤ 512 := ⟨hmay.2.2.1, hmay.2.2.2.1⟩
    have hll := recB_length k f x s (xs.take p) (ys.take q)
    have hlb := recB_bytes (k := k) (f := f) (x := x) (s := s) (by have := hmay.2.2.2.2; omega) HBX.out HBY.out
    rw [HLX.out, HLY.out] at hll
    have HENC := Lib.hid (encode_yes k f x s (some ⟨g1, 0, none⟩) (some ⟨g2, 0, none⟩) p cap1 q cap2 (xs.take p) (ys.take q) (fun b => b < w5.heap.size) w5 hmay HR.out.rng (HK5.out.row HK5.out.lt.2) (HV5.out.row HV5.out.lt.2) (fun b h => h) (fun h => by cases h) (fun h => by cases h))
    have HRB := Lib.hid (fun (W : World) (hW : Below w5.heap.size w5 W) => rbytes_any k f x s (some ⟨g1, 0, none⟩) (some ⟨g2, 0, none⟩) p cap1 q cap2 (xs.take p) (ys.take q) (fun b => b < w5.heap.size) W hmay HR.out.rng ((HK5.out.below hW).row HK5.out.lt.2) ((HV5.out.below hW).row HV5.out.lt.2) (fun b h => Nat.lt_of_lt_of_le h hW.size) (fun h => by cases h) (fun h => by cases h))
    have HSZ := Lib.hid (fun W => size_yes k f x s (some ⟨g1, 0, none⟩) (some ⟨g2, 0, none⟩) p cap1 q cap2 W hmay)
    have HSC := Lib.hid (fun W => sectors_yes k f x s (some ⟨g1, 0, none⟩) (some ⟨g2, 0, none⟩) p cap1 q cap2 W hmay)
    have hl1 : 22 ≤ 21 + p + q := by have := hmay.2.1; omega
    have hl2 : 21 + p + q ≤ 1000 := by omega
    generalize recB k f x s (xs.take p) (ys.take q) = L at *
    generalize 21 + p + q = l at *
    have HRSC := Lib.hid (fun W => rsectors_any l W hl2)
    generalize (l + 47) / 48 = sc at *
    have HLL := Lib.hid hll
    have HLB := Lib.hid hlb
    clear hmay hll hlb
    refine (HENC.out).mono ?_
    rintro e w6 ⟨v, rfl, hown, hb⟩
    rw [HLL.out] at hown
    obtain ⟨gb, cb, rfl, hgb, hgb2⟩ := hown.form (by omega)
    obtain ⟨_, _, he, _, _, hrow⟩ := rowG_own 0 hown
    injection he with he1 he2 he3
    subst he1 he3
    have HO6 := Lib.hid hown
    have HROW := Lib.hid (hrow.more (T := fun b => b < w6.heap.size) (fun b h => h.2.1))
    have HB6 := Lib.hid hb
    have HGB := Lib.hid hgb
    clear hown hgb hgb2 hrow hb
    go_wp2_with fail
    refine calm_region (fun W => Below w5.heap.size w5 W ∧ Below w6.heap.size w6 W) (by kernel_rfl) (by kernel_rfl) ⟨HB6.out.drew, (Below.refl _ _).drew⟩ ?_
    refine calm_load_row (.tmp 1) 26 rfl rfl w.heap.size rfl 26 [.int .i64 k, .int .u32 f, .int .u32 x, .int .u64 s, .slice (some ⟨g1, 0, none⟩) p cap1, .slice (some ⟨g2, 0, none⟩) q cap2] _ Try.underlying26 rfl size_rec (fun W h => HG5.out.below h.1 HG5.out.lt) ?_
    simp only [Act.put, List.setIfInBounds_toArray, List.set_cons_zero, List.set_cons_succ]
    refine calm_call 14 #[.tmp 22] #[26] rfl rfl Try.func14 rfl rfl (.int .i64 (l : Int)) [.agg #[.int .i64 k, .int .u32 f, .int .u32 x, .int .u64 s, .slice (some ⟨g1, 0, none⟩) p cap1, .slice (some ⟨g2, 0, none⟩) q cap2]] rfl (fun W h => (HSZ.out W).mono fun e W' g => ⟨g.1, h.1.trans (g.2.mono h.1.size), h.2.trans (g.2.mono h.2.size)⟩) ?_
    simp only [Act.put, List.setIfInBounds_toArray, List.set_cons_zero, List.set_cons_succ]
    refine calm_load_row (.tmp 1) 26 rfl rfl w.heap.size rfl 26 [.int .i64 k, .int .u32 f, .int .u32 x, .int .u64 s, .slice (some ⟨g1, 0, none⟩) p cap1, .slice (some ⟨g2, 0, none⟩) q cap2] _ Try.underlying26 rfl size_rec (fun W h => HG5.out.below h.1 HG5.out.lt) ?_
    simp only [Act.put, List.setIfInBounds_toArray, List.set_cons_zero, List.set_cons_succ]
    refine calm_call 15 #[.tmp 24] #[26] rfl rfl Try.func15 rfl rfl (.int .i64 (sc : Int)) [.agg #[.int .i64 k, .int .u32 f, .int .u32 x, .int .u64 s, .slice (some ⟨g1, 0, none⟩) p cap1, .slice (some ⟨g2, 0, none⟩) q cap2]] rfl (fun W h => (HSC.out W).mono fun e W' g => ⟨g.1, h.1.trans (g.2.mono h.1.size), h.2.trans (g.2.mono h.2.size)⟩) ?_
    simp only [Act.put, List.setIfInBounds_toArray, List.set_cons_zero, List.set_cons_succ]
    refine calm_load_row (.tmp 1) 26 rfl rfl w.heap.size rfl 26 [.int .i64 k, .int .u32 f, .int .u32 x, .int .u64 s, .slice (some ⟨g1, 0, none⟩) p cap1, .slice (some ⟨g2, 0, none⟩) q cap2] _ Try.underlying26 rfl size_rec (fun W h => HG5.out.below h.1 HG5.out.lt) ?_
    simp only [Act.put, List.setIfInBounds_toArray, List.set_cons_zero, List.set_cons_succ]
    refine calm_call 16 #[.tmp 26] #[26] rfl rfl Try.func16 rfl rfl (.int .i64 0) [.agg #[.int .i64 k, .int .u32 f, .int .u32 x, .int .u64 s, .slice (some ⟨g1, 0, none⟩) p cap1, .slice (some ⟨g2, 0, none⟩) q cap2]] rfl (fun W h => (check_yes k f x s _ _ p cap1 q cap2 W HM.out).mono fun e W' g => ⟨g.1, h.1.trans (g.2.mono h.1.size), h.2.trans (g.2.mono h.2.size)⟩) ?_
    simp only [Act.put, List.setIfInBounds_toArray, List.set_cons_zero, List.set_cons_succ]
    go_big_quiet_step (fail)
    go_big_quiet_step (fail)
    go_big_quiet_step (fail)
    refine wpQuiet_nil ?_
    intro w7 hw7
    have HB7 := Lib.hid hw7.1
    have HC7 := Lib.hid hw7.2
    clear hw7
    go_wp2_with (first | (refine wpList_load_rowB (.tmp 1) 26 rfl rfl w.heap.size rfl 26 [.int .i64 k, .int .u32 f, .int .u32 x, .int .u64 s, .slice (some ⟨g1, 0, none⟩) p cap1, .slice (some ⟨g2, 0, none⟩) q cap2] _ Try.underlying26 rfl size_rec (HG5.out.below HB7.out HG5.out.lt) ?_) | (refine wpList_load_rowB (.tmp 3) 26 rfl rfl w4.heap.size rfl 26 [.int .i64 k, .int .u32 f, .int .u32 x, .int .u64 s, .slice A1 p c1, .slice A2 q c2] _ Try.underlying26 rfl size_rec (HS5.out.below HB7.out HS5.out.lt) ?_))
    refine (whole_yes k f x s g1 p cap1 g2 q cap2 A1 c1 A2 c2 (xs.take p) (ys.take q) w1.heap.size w1.heap.size w7 (HK5.out.below HB7.out) (HV5.out.below HB7.out) ((HA5.out.below HB7.out (fun b h => h)).more (T := fun b => b < w7.heap.size) (fun b h => Nat.lt_of_lt_of_le h (HB7.out).size)) ((HY5.out.below HB7.out (fun b h => h)).more (T := fun b => b < w7.heap.size) (fun b h => Nat.lt_of_lt_of_le h (HB7.out).size)) HBX.out HBY.out hp6 hq6).mono ?_
    rintro e w8 ⟨rfl, hb⟩
    have HB8 := Lib.hid (HB7.out.trans (hb.mono HB7.out.size))
    have HC8 := Lib.hid (HC7.out.trans (hb.mono HC7.out.size))
    clear hb
    go_wp2_with (refine wpList_load_rowB (.tmp 1) 26 rfl rfl w.heap.size rfl 26 [.int .i64 k, .int .u32 f, .int .u32 x, .int .u64 s, .slice (some ⟨g1, 0, none⟩) p cap1, .slice (some ⟨g2, 0, none⟩) q cap2] _ Try.underlying26 rfl size_rec (HG5.out.below HB8.out HG5.out.lt) ?_)
    refine (rright_yes k f x s _ _ p cap1 q cap2 w8 HM.out).mono ?_
    rintro e w9 ⟨rfl, hb⟩
    have HB9 := Lib.hid (HB8.out.trans (hb.mono HB8.out.size))
    have HC9 := Lib.hid (HC8.out.trans (hb.mono HC8.out.size))
    clear hb
    go_wp2_with (refine wpList_load_rowB (.tmp 1) 26 rfl rfl w.heap.size rfl 26 [.int .i64 k, .int .u32 f, .int .u32 x, .int .u64 s, .slice (some ⟨g1, 0, none⟩) p cap1, .slice (some ⟨g2, 0, none⟩) q cap2] _ Try.underlying26 rfl size_rec (HG5.out.below HB9.out HG5.out.lt) ?_)
    refine (HRB.out w9 HB9.out).mono ?_
    rintro e w10 ⟨v, rfl, hown, hb⟩
    rw [HLL.out] at hown
    obtain ⟨A10, c10, rfl, hcc, hnn, hrow⟩ := rowG_own 0 hown
    have HR10 := Lib.hid (hrow.more (T := fun b => b < w10.heap.size) (fun b h => h.2.1))
    have HB10 := Lib.hid (HB9.out.trans (hb.mono HB9.out.size))
    have HC10 := Lib.hid (HC9.out.trans (hb.mono HC9.out.size))
    clear hown hcc hnn hrow hb
    go_wp2_with fail
    refine (equal_yes (some ⟨gb, 0, none⟩) A10 l cb c10 L (fun b => b < w10.heap.size) (fun b => b < w10.heap.size) w10 ((HROW.out.below HC10.out (fun b h => h)).more (T := fun b => b < w10.heap.size) (fun b h => Nat.lt_of_lt_of_le h HC10.out.size)) HR10.out (fun b h => h) (fun b h => h) HLB.out).mono ?_
    rintro e w11 ⟨rfl, rfl⟩
    go_wp2_with fail
    refine (HRSC.out w10).mono ?_
    rintro e w11 ⟨rfl, rfl⟩
    go_wp2_with fail
    go_loopw [10, 83] (fun _ i wr => ∃ j : Nat, j ≤ l ∧ i = .int .i64 j ∧ Over w5 wr gb l cb) (fun _ i _ => l - (intOf i).toNat)
    case atStart => exact ⟨0, by omega, rfl, L, HLL.out, own_below HO6.out HC10.out, HB10.out⟩
    case round =>
      obtain ⟨j, hj, rfl, hov⟩ := hrel
      by_cases hlt : j < l
      · obtain ⟨⟨u, hcell⟩, hfr⟩ := hov.cell j hlt
        have HOV := Lib.hid (hov.set HGB.out j 238)
        clear hov
        go_wp2
        go_roundw
        case rel => exact ⟨j + 1, by omega, by go_num, HOV.out⟩
        case measure => (simp [intOf] <;> omega)
      · obtain rfl : j = l := by omega
        obtain ⟨zs, _, _, hk⟩ := hov
        have HBR := Lib.hid hk
        clear hk
        go_wp2_with (first | (refine wpList_load_rowB (.tmp 1) 26 rfl rfl w.heap.size rfl 26 [.int .i64 k, .int .u32 f, .int .u32 x, .int .u64 s, .slice (some ⟨g1, 0, none⟩) p cap1, .slice (some ⟨g2, 0, none⟩) q cap2] _ Try.underlying26 rfl size_rec (HG5.out.below HBR.out HG5.out.lt) ?_) | (refine wpList_load_rowB (.tmp 3) 26 rfl rfl w4.heap.size rfl 26 [.int .i64 k, .int .u32 f, .int .u32 x, .int .u64 s, .slice A1 p c1, .slice A2 q c2] _ Try.underlying26 rfl size_rec (HS5.out.below HBR.out HS5.out.lt) ?_))
        refine (whole_yes k f x s g1 p cap1 g2 q cap2 A1 c1 A2 c2 (xs.take p) (ys.take q) w1.heap.size w1.heap.size wr (HK5.out.below HBR.out) (HV5.out.below HBR.out) ((HA5.out.below HBR.out (fun b h => h)).more (T := fun b => b < wr.heap.size) (fun b h => Nat.lt_of_lt_of_le h (HBR.out).size)) ((HY5.out.below HBR.out (fun b h => h)).more (T := fun b => b < wr.heap.size) (fun b h => Nat.lt_of_lt_of_le h (HBR.out).size)) HBX.out HBY.out hp6 hq6).mono ?_
        rintro e w12 ⟨rfl, hb⟩
        have HB12 := Lib.hid (HBR.out.trans (hb.mono HBR.out.size))
        clear hb
        go_wp2_with fail
        go_ret
        exact ⟨rfl, HB5.out.trans (HB12.out.mono HB5.out.size)⟩

set_option maxHeartbeats 4000000 in
set_option maxRecDepth 100000 in
theorem walk (k0 f0 x0 s0 : Int) (A0 : Option Addr) (n0 c0 : Nat) (B0 : Option Addr) (m0 d0 : Nat) (z0 y0 : List Int) (w : World) (w0 : IsRec w k0 f0 x0 s0 A0 n0 c0 B0 m0 d0 z0 y0) :
    Calls Try.prog 3 #[.agg #[.int .i64 k0, .int .u32 f0, .int .u32 x0, .int .u64 s0, .slice A0 n0 c0, .slice B0 m0 d0]] w fun e w' => e = .returned (.bool true) ∧ Below w.heap.size w w' := by
  -- HEARTS
  obtain ⟨p, hp⟩ : ∃ p, p = min n0 600 := ⟨_, rfl⟩
  obtain ⟨q, hq⟩ : ∃ q, q = min m0 600 := ⟨_, rfl⟩
  exact walk_any k0 f0 x0 s0 A0 B0 n0 c0 m0 d0 p q z0 y0 w w0 (by omega) (by omega)

set_option maxRecDepth 100000 in
theorem lifted (os : Os) (started : os.Started) (H : Type) (enc : TypeId × Value → H) :
    ReturnsInHanded {} Try.checked os 3 .any (Rows.recordEncodesSpec.pre6 enc Try.prog Try.f3 Rows.recordEncodesRow.domain false) (Rows.recordEncodesSpec.post enc Try.prog Try.f3 false true false false) := by
  refine returnsInHanded_of_change_sized (C := Try.checked) own started (by kernel_rfl) Try.func3
    (ChangeSpec.witness6 (enc := enc) (C := Try.checked) false ⟨#[], #[.agg #[.int .i64 0, .int .u32 0, .int .u32 0, .int .u64 0, .slice none 0 0, .slice none 0 0]], []⟩ 8 (by kernel_rfl) (by kernel_rfl) (by kernel_rfl) (by kernel_rfl)) ?_
  intro W base args ds gs before hval0 hW hcnd hsz0 _
  have hval : ∀ (j : Nat) t v, Try.f3.params[j]? = some t → args[j]? = some v → Value.okWide Try.prog W .any base t v := hval0
  have hW' := hW
  have hsz : (DataW.weightsEach Try.prog (Try.f3.params.toList ++ Rows.recordEncodesSpec.plain.varTypes Try.prog) (ds ++ gs)).all (· ≤ reachBytes) = true := hsz0
  obtain ⟨p, q, hA0, hV, rfl, hfz, hnd⟩ := hW
  have hA : DataW.TrodAll enc Try.prog W 0 (fun _ => true) true Try.f3.params.toList args.toList ds p := hA0
  rw [Try.params3] at hA hval hsz
  obtain ⟨v0, vs0, d0, ds0, p0, q0, hargs, rfl, rfl, h0, r0⟩ := trodAll_cons hA
  obtain ⟨rfl, rfl, rfl⟩ := trodAll_nil r0
  obtain rfl : args = #[v0] := by cases args; simp_all
  obtain ⟨rfl, rfl⟩ := trodVars_none hV
  have kk0 := h0
  have lt0 : ∀ x ∈ p0, x.block < W.heap.size := by obtain ⟨m, hm⟩ := kk0; exact DataW.trod_lt m _ _ _ hm
  obtain ⟨k0, f0, x0, s0, A0, n0, c0, B0, m0, dd0, z0, y0, rfl, w0⟩ := open_rec (hval 0 26 v0 rfl rfl) h0
  clear hA0 hval0
  refine (walk k0 f0 x0 s0 A0 n0 c0 B0 m0 dd0 z0 y0 W w0).mono fun e W' ⟨he, bel⟩ => ?_
  subst he
  exact ⟨_, rfl, _, _, _, [], _, [], hW', trodAll_mk1 (shut_bool Try.underlying4 _), (trodAll_cons_mk (Below.trod laidOut (by kernel_rfl) (of_decide_eq_true (by kernel_rfl)) kk0 bel lt0) trodAll_mk0), rfl, bel.frame _, fun h => by cases h⟩

theorem over : Rows.recordEncodesRow.holds Try.pinned (OpenSpec.ofChange Rows.recordEncodesSpec) :=
  OpenClaim.holds_of_wide 3 Try.f3 rfl rfl rfl rfl rfl rfl rfl ⟨rfl, rfl, rfl, rfl, rfl⟩ rfl rfl rfl rfl rfl (by kernel_rfl) Try.func3 (by kernel_rfl)
    (of_decide_eq_true (by kernel_rfl)) (by unfold Func.isWrapper; first | (rw [if_pos (by decide +kernel)]; kernel_rfl) | (rw [if_neg (by decide +kernel)]; exact ⟨rfl, rfl⟩))
    (fun os started H enc _ => lifted os started H enc)

theorem proved : Rows.RecordEncodesSaid := over
end Go.Proofs.Ytehldhdpeefljaa.recordEncodes
