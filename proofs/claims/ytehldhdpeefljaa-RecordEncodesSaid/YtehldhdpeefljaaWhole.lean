/- The laws of layer 6: whole. -/
import Derived.Test.YtehldhdpeefljaaRSame
import Derived.Test.YtehldhdpeefljaaRoom
import Derived.Test.YtehldhdpeefljaaCalm
namespace Go.Proofs.Ytehldhdpeefljaa
open Go.RowKit
set_option linter.unusedVariables false

set_option maxRecDepth 100000 in
set_option maxHeartbeats 4000000 in
theorem whole_yes (k f x s : Int) (g1 p cap1 g2 q cap2 : Nat) (A1 : Option Addr) (c1 : Nat) (A2 : Option Addr) (c2 : Nat) (xs ys : List Int) (b1 b2 : Nat) (w : World)
    (hk : Room w b1 g1 p cap1 xs) (hv : Room w b2 g2 q cap2 ys) (hx : RowI .u8 w (fun b => b < w.heap.size) A1 p xs) (hy : RowI .u8 w (fun b => b < w.heap.size) A2 q ys) (hb : Bytes xs) (hby : Bytes ys) (hp6 : p ≤ 600) (hq6 : q ≤ 600) :
    Calls Try.prog 17 #[.agg #[.int .i64 k, .int .u32 f, .int .u32 x, .int .u64 s, .slice (some ⟨g1, 0, none⟩) p cap1, .slice (some ⟨g2, 0, none⟩) q cap2], .agg #[.int .i64 k, .int .u32 f, .int .u32 x, .int .u64 s, .slice A1 p c1, .slice A2 q c2]] w fun e w' => e = .returned (.bool true) ∧ Below w.heap.size w w' := by
  have HK := Lib.hid hk
  have HV := Lib.hid hv
  have HX := Lib.hid hx
  have HY := Lib.hid hy
  have hcap1 : (p : Int) + 1 ≤ cap1 := by have := hk.cap_le; omega
  have hcap2 : (q : Int) + 1 ≤ cap2 := by have := hv.cap_le; omega
  have hl1 : (p : Int) < (p : Int) + 1 := by omega
  have hl2 : (q : Int) < (q : Int) + 1 := by omega
  have hn1 : p < p + 1 := by omega
  have hn2 : q < q + 1 := by omega
  have hwp : IntKind.i64.wrap ((p : Int) + 1) = (p : Int) + 1 := by rw [IntKind.wrap_i64]; omega
  have hwq : IntKind.i64.wrap ((q : Int) + 1) = (q : Int) + 1 := by rw [IntKind.wrap_i64]; omega
  have h0p : (0 : Int) ≤ (p : Int) + 1 := by omega
  have h0q : (0 : Int) ≤ (q : Int) + 1 := by omega
  have htp : ((p : Int) + 1).toNat = p + 1 := by omega
  have htq : ((q : Int) + 1).toNat = q + 1 := by omega
  clear hk hv hx hy
  go_enter Try.func17, Try.ntmps17
  go_wp2_with fail
  refine calm_region (fun W => Two w.heap.size #[.int .i64 k, .int .u32 f, .int .u32 x, .int .u64 s, .slice (some ⟨g1, 0, none⟩) p cap1, .slice (some ⟨g2, 0, none⟩) q cap2] #[.int .i64 k, .int .u32 f, .int .u32 x, .int .u64 s, .slice A1 p c1, .slice A2 q c2] W ∧ Below w.heap.size w W) (by kernel_rfl) (by kernel_rfl) ⟨(Two.new w _ _).drew, (((Below.refl _ _).alloc (Nat.le_refl _) _).alloc (by simp) _).drew⟩ ?_
  refine calm_load_row (.tmp 2) 26 rfl rfl w.heap.size rfl 26 [.int .i64 k, .int .u32 f, .int .u32 x, .int .u64 s, .slice (some ⟨g1, 0, none⟩) p cap1, .slice (some ⟨g2, 0, none⟩) q cap2] _ Try.underlying26 rfl size_rec (fun W h => h.1.one) ?_
  simp only [Act.put, List.setIfInBounds_toArray, List.set_cons_zero, List.set_cons_succ]
  refine calm_load_row (.tmp 3) 26 rfl rfl (w.heap.size + 1) rfl 26 [.int .i64 k, .int .u32 f, .int .u32 x, .int .u64 s, .slice A1 p c1, .slice A2 q c2] _ Try.underlying26 rfl size_rec (fun W h => h.1.two) ?_
  simp only [Act.put, List.setIfInBounds_toArray, List.set_cons_zero, List.set_cons_succ]
  refine calm_call 26 #[.tmp 5, .tmp 6] #[26, 26] rfl rfl Try.func26 rfl rfl (.bool true) [.agg #[.int .i64 k, .int .u32 f, .int .u32 x, .int .u64 s, .slice (some ⟨g1, 0, none⟩) p cap1, .slice (some ⟨g2, 0, none⟩) q cap2], .agg #[.int .i64 k, .int .u32 f, .int .u32 x, .int .u64 s, .slice A1 p c1, .slice A2 q c2]] rfl (fun W h => by
    have hh := rsame_any k f x s k f x s (some ⟨g1, 0, none⟩) (some ⟨g2, 0, none⟩) A1 A2 p cap1 q cap2 p c1 q c2 xs xs ys ys (fun b => b < w.heap.size) W (((HK.out.below h.2).row (S := fun b => b < w.heap.size) HK.out.lt.2)) (HX.out.below h.2 (fun b h => h)) (((HV.out.below h.2).row (S := fun b => b < w.heap.size) HV.out.lt.2)) (HY.out.below h.2 (fun b h => h)) (fun b hb => Nat.lt_of_lt_of_le hb h.2.size) hb hb hby hby
    rw [recSame_self] at hh
    exact hh.mono fun e W' g => ⟨g.1, h.1.below g.2, h.2.trans (g.2.mono h.2.size)⟩) ?_
  simp only [Act.put, List.setIfInBounds_toArray, List.set_cons_zero, List.set_cons_succ]
  go_big_quiet_step (fail)
  refine calm_by ?_ rfl ?_ ?_
  rotate_left
  · intro W hSW; clear hSW; go_simp; with_reducible rfl
  simp only [Act.put, List.setIfInBounds_toArray, List.set_cons_zero, List.set_cons_succ]
  refine calm_load_cell (.tmp 9) 24 rfl rfl ⟨w.heap.size, 4, none⟩ rfl (.slice (some ⟨g1, 0, none⟩) p cap1) (fun W h => by simp [go_sem, h, Try.underlying24]) (fun W h => h.1.one.cell 4) ?_
  simp only [Act.put, List.setIfInBounds_toArray, List.set_cons_zero, List.set_cons_succ]
  refine calm_by ?_ rfl ?_ ?_
  rotate_left
  · intro W hSW; clear hSW; go_simp; with_reducible rfl
  simp only [Act.put, List.setIfInBounds_toArray, List.set_cons_zero, List.set_cons_succ]
  refine calm_load_cell (.tmp 11) 24 rfl rfl ⟨w.heap.size, 4, none⟩ rfl (.slice (some ⟨g1, 0, none⟩) p cap1) (fun W h => by simp [go_sem, h, Try.underlying24]) (fun W h => h.1.one.cell 4) ?_
  simp only [Act.put, List.setIfInBounds_toArray, List.set_cons_zero, List.set_cons_succ]
  refine calm_by ?_ rfl ?_ ?_
  rotate_left
  · intro W hSW; clear hSW; go_simp; with_reducible rfl
  simp only [Act.put, List.setIfInBounds_toArray, List.set_cons_zero, List.set_cons_succ]
  refine calm_by ?_ rfl ?_ ?_
  rotate_left
  · intro W hSW; clear hSW; go_simp; with_reducible rfl
  simp only [Act.put, List.setIfInBounds_toArray, List.set_cons_zero, List.set_cons_succ]
  refine calm_by ?_ rfl ?_ ?_
  rotate_left
  · intro W hSW; clear hSW; go_simp; with_reducible rfl
  simp only [Act.put, List.setIfInBounds_toArray, List.set_cons_zero, List.set_cons_succ]
  refine calm_by ?_ rfl ?_ ?_
  rotate_left
  · intro W hSW; clear hSW; go_simp; with_reducible rfl
  simp only [Act.put, List.setIfInBounds_toArray, List.set_cons_zero, List.set_cons_succ]
  refine calm_load_cell (.tmp 16) 24 rfl rfl ⟨w.heap.size, 4, none⟩ rfl (.slice (some ⟨g1, 0, none⟩) p cap1) (fun W h => by simp [go_sem, h, Try.underlying24]) (fun W h => h.1.one.cell 4) ?_
  simp only [Act.put, List.setIfInBounds_toArray, List.set_cons_zero, List.set_cons_succ]
  refine calm_by ?_ rfl ?_ ?_
  rotate_left
  · intro W hSW; clear hSW; go_simp; with_reducible rfl
  simp only [Act.put, List.setIfInBounds_toArray, List.set_cons_zero, List.set_cons_succ]
  refine calm_by ?_ rfl ?_ ?_
  rotate_left
  · intro W hSW; clear hSW; go_simp; with_reducible rfl
  simp only [Act.put, List.setIfInBounds_toArray, List.set_cons_zero, List.set_cons_succ]
  refine calm_load_cell (.tmp 19) 5 rfl rfl ⟨g1, p, none⟩ rfl (.int .u8 7) (fun W h => by simp [go_sem, h, Try.underlying5]) (fun W h => (HK.out.below h.2).last) ?_
  simp only [Act.put, List.setIfInBounds_toArray, List.set_cons_zero, List.set_cons_succ]
  refine calm_by ?_ rfl ?_ ?_
  rotate_left
  · intro W hSW; clear hSW; go_simp; with_reducible rfl
  simp only [Act.put, List.setIfInBounds_toArray, List.set_cons_zero, List.set_cons_succ]
  refine calm_by ?_ rfl ?_ ?_
  rotate_left
  · intro W hSW; clear hSW; go_simp; with_reducible rfl
  simp only [Act.put, List.setIfInBounds_toArray, List.set_cons_zero, List.set_cons_succ]
  go_big_quiet_step (fail)
  refine calm_by ?_ rfl ?_ ?_
  rotate_left
  · intro W hSW; clear hSW; go_simp; with_reducible rfl
  simp only [Act.put, List.setIfInBounds_toArray, List.set_cons_zero, List.set_cons_succ]
  refine calm_load_cell (.tmp 24) 24 rfl rfl ⟨w.heap.size, 5, none⟩ rfl (.slice (some ⟨g2, 0, none⟩) q cap2) (fun W h => by simp [go_sem, h, Try.underlying24]) (fun W h => h.1.one.cell 5) ?_
  simp only [Act.put, List.setIfInBounds_toArray, List.set_cons_zero, List.set_cons_succ]
  refine calm_by ?_ rfl ?_ ?_
  rotate_left
  · intro W hSW; clear hSW; go_simp; with_reducible rfl
  simp only [Act.put, List.setIfInBounds_toArray, List.set_cons_zero, List.set_cons_succ]
  refine calm_load_cell (.tmp 26) 24 rfl rfl ⟨w.heap.size, 5, none⟩ rfl (.slice (some ⟨g2, 0, none⟩) q cap2) (fun W h => by simp [go_sem, h, Try.underlying24]) (fun W h => h.1.one.cell 5) ?_
  simp only [Act.put, List.setIfInBounds_toArray, List.set_cons_zero, List.set_cons_succ]
  refine calm_by ?_ rfl ?_ ?_
  rotate_left
  · intro W hSW; clear hSW; go_simp; with_reducible rfl
  simp only [Act.put, List.setIfInBounds_toArray, List.set_cons_zero, List.set_cons_succ]
  refine calm_by ?_ rfl ?_ ?_
  rotate_left
  · intro W hSW; clear hSW; go_simp; with_reducible rfl
  simp only [Act.put, List.setIfInBounds_toArray, List.set_cons_zero, List.set_cons_succ]
  refine calm_by ?_ rfl ?_ ?_
  rotate_left
  · intro W hSW; clear hSW; go_simp; with_reducible rfl
  simp only [Act.put, List.setIfInBounds_toArray, List.set_cons_zero, List.set_cons_succ]
  refine calm_by ?_ rfl ?_ ?_
  rotate_left
  · intro W hSW; clear hSW; go_simp; with_reducible rfl
  simp only [Act.put, List.setIfInBounds_toArray, List.set_cons_zero, List.set_cons_succ]
  refine calm_load_cell (.tmp 31) 24 rfl rfl ⟨w.heap.size, 5, none⟩ rfl (.slice (some ⟨g2, 0, none⟩) q cap2) (fun W h => by simp [go_sem, h, Try.underlying24]) (fun W h => h.1.one.cell 5) ?_
  simp only [Act.put, List.setIfInBounds_toArray, List.set_cons_zero, List.set_cons_succ]
  refine calm_by ?_ rfl ?_ ?_
  rotate_left
  · intro W hSW; clear hSW; go_simp; with_reducible rfl
  simp only [Act.put, List.setIfInBounds_toArray, List.set_cons_zero, List.set_cons_succ]
  refine calm_by ?_ rfl ?_ ?_
  rotate_left
  · intro W hSW; clear hSW; go_simp; with_reducible rfl
  simp only [Act.put, List.setIfInBounds_toArray, List.set_cons_zero, List.set_cons_succ]
  refine calm_load_cell (.tmp 34) 5 rfl rfl ⟨g2, q, none⟩ rfl (.int .u8 7) (fun W h => by simp [go_sem, h, Try.underlying5]) (fun W h => (HV.out.below h.2).last) ?_
  simp only [Act.put, List.setIfInBounds_toArray, List.set_cons_zero, List.set_cons_succ]
  refine calm_by ?_ rfl ?_ ?_
  rotate_left
  · intro W hSW; clear hSW; go_simp; with_reducible rfl
  simp only [Act.put, List.setIfInBounds_toArray, List.set_cons_zero, List.set_cons_succ]
  refine calm_by ?_ rfl ?_ ?_
  rotate_left
  · intro W hSW; clear hSW; go_simp; with_reducible rfl
  simp only [Act.put, List.setIfInBounds_toArray, List.set_cons_zero, List.set_cons_succ]
  go_big_quiet_step (fail)
  refine wpQuiet_nil ?_
  intro W hW
  have HB := Lib.hid hW.2
  clear hW
  go_wp2_with fail
  go_ret
  exact ⟨rfl, HB.out⟩

end Go.Proofs.Ytehldhdpeefljaa
