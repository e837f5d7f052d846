/- Package record: Same. -/
import Derived.Test.YtehldhdpeefljaaEqual
import Derived.Test.YtehldhdpeefljaaHeadEq
import Derived.Test.YtehldhdpeefljaaCalm
namespace Go.Proofs.Ytehldhdpeefljaa
open Go.RowKit
set_option linter.unusedVariables false

/-- Two records that lie in memory. -/
structure Two (w0 : Nat) (a b : Array Value) (w : World) : Prop where
  one : Blk w w0 26 a
  two : Blk w (w0 + 1) 26 b
theorem Two.below {w0 : Nat} {a b : Array Value} {w w' : World} (h : Two w0 a b w) (hb : Below w.heap.size w w') : Two w0 a b w' := ⟨h.one.below hb h.one.lt, h.two.below hb h.two.lt⟩
theorem Two.drew {w0 : Nat} {a b : Array Value} {w : World} (h : Two w0 a b w) : Two w0 a b w.drew := ⟨h.one, h.two⟩
theorem Two.new (w : World) (a b : Array Value) : Two w.heap.size a b ((w.alloc (.cells a 26)).alloc (.cells b 26)) := ⟨(Blk.new w _ _).alloc _, blk_new2 w _ _ _⟩

set_option maxHeartbeats 1000000 in
theorem same_heads (k f x s k' f' x' s' : Int) (A A' B B' : Option Addr) (n c n' c' m d m' d' : Nat) (w : World) (h0 : headSame k f x s n n' k' f' x' s' m m' = false) :
    Calls Try.prog 28 #[.agg #[.int .i64 k, .int .u32 f, .int .u32 x, .int .u64 s, .slice A n c, .slice A' n' c'], .agg #[.int .i64 k', .int .u32 f', .int .u32 x', .int .u64 s', .slice B m d, .slice B' m' d']] w fun e w' =>
      e = .returned (.bool false) ∧ Below w.heap.size w w' := by
  have hq : ∀ W, (binOp .eql 51 (.agg #[.int .i64 k, .int .u32 f, .int .u32 x, .int .u64 s, .int .i64 n, .int .i64 n']) (.agg #[.int .i64 k', .int .u32 f', .int .u32 x', .int .u64 s', .int .i64 m, .int .i64 m'])).run Try.prog W = .ok (.bool false) W := fun W => by rw [eql_heads, h0]
  go_enter Try.func28, Try.ntmps28
  go_wp2_with fail
  refine calm_region (fun W => Two w.heap.size #[.int .i64 k, .int .u32 f, .int .u32 x, .int .u64 s, .slice A n c, .slice A' n' c'] #[.int .i64 k', .int .u32 f', .int .u32 x', .int .u64 s', .slice B m d, .slice B' m' d'] W ∧ Below w.heap.size w W) (by kernel_rfl) (by kernel_rfl) ⟨(Two.new w _ _).drew, (((Below.refl _ _).alloc (Nat.le_refl _) _).alloc (by simp) _).drew⟩ ?_
  refine calm_load_row (.tmp 2) 26 rfl rfl w.heap.size rfl 26 [.int .i64 k, .int .u32 f, .int .u32 x, .int .u64 s, .slice A n c, .slice A' n' c'] _ Try.underlying26 rfl size_rec (fun W h => h.1.one) ?_
  simp only [Act.put, List.setIfInBounds_toArray, List.set_cons_zero, List.set_cons_succ]
  refine calm_call 29 #[.tmp 5] #[26] rfl rfl Try.func29 rfl rfl (.agg #[.int .i64 k, .int .u32 f, .int .u32 x, .int .u64 s, .int .i64 n, .int .i64 n']) [.agg #[.int .i64 k, .int .u32 f, .int .u32 x, .int .u64 s, .slice A n c, .slice A' n' c']] rfl (fun W h => (headOf_any k f x s A A' n c n' c' W).mono fun e W' hh => ⟨hh.1, h.1.below hh.2, h.2.trans (hh.2.mono h.2.size)⟩) ?_
  simp only [Act.put, List.setIfInBounds_toArray, List.set_cons_zero, List.set_cons_succ]
  refine calm_load_row (.tmp 3) 26 rfl rfl (w.heap.size + 1) rfl 26 [.int .i64 k', .int .u32 f', .int .u32 x', .int .u64 s', .slice B m d, .slice B' m' d'] _ Try.underlying26 rfl size_rec (fun W h => h.1.two) ?_
  simp only [Act.put, List.setIfInBounds_toArray, List.set_cons_zero, List.set_cons_succ]
  refine calm_call 29 #[.tmp 7] #[26] rfl rfl Try.func29 rfl rfl (.agg #[.int .i64 k', .int .u32 f', .int .u32 x', .int .u64 s', .int .i64 m, .int .i64 m']) [.agg #[.int .i64 k', .int .u32 f', .int .u32 x', .int .u64 s', .slice B m d, .slice B' m' d']] rfl (fun W h => (headOf_any k' f' x' s' B B' m d m' d' W).mono fun e W' hh => ⟨hh.1, h.1.below hh.2, h.2.trans (hh.2.mono h.2.size)⟩) ?_
  simp only [Act.put, List.setIfInBounds_toArray, List.set_cons_zero, List.set_cons_succ]
  refine calm_cmp .eql 51 _ (.tmp 6) (.tmp 8) rfl rfl (.agg #[.int .i64 k, .int .u32 f, .int .u32 x, .int .u64 s, .int .i64 n, .int .i64 n']) (.agg #[.int .i64 k', .int .u32 f', .int .u32 x', .int .u64 s', .int .i64 m, .int .i64 m']) (.bool false) rfl rfl (eqg_heads _ _ _ _) hq ?_
  simp only [Act.put, List.setIfInBounds_toArray, List.set_cons_zero, List.set_cons_succ]
  go_big_quiet_step (fail)
  go_big_quiet_step (fail)
  go_big_quiet_step (fail)
  go_big_quiet_step (fail)
  go_big_quiet_step (fail)
  go_big_quiet_step (fail)
  refine calm_by (.bool false) rfl (fun W h => by simp [go_sem, execOp, Act.eval]) ?_
  simp only [Act.put, List.setIfInBounds_toArray, List.set_cons_zero, List.set_cons_succ]
  go_big_quiet_step (fail)
  go_big_quiet_step (fail)
  go_big_quiet_step (fail)
  go_big_quiet_step (fail)
  go_big_quiet_step (fail)
  go_big_quiet_step (fail)
  refine calm_by (.bool false) rfl (fun W h => by simp [go_sem, execOp, Act.eval]) ?_
  simp only [Act.put, List.setIfInBounds_toArray, List.set_cons_zero, List.set_cons_succ]
  go_big_quiet_step (fail)
  refine wpQuiet_nil ?_
  intro W hW
  have HB := Lib.hid hW.2
  clear hW hq
  go_wp2_with fail
  go_ret
  exact ⟨rfl, HB.out⟩


set_option maxHeartbeats 1000000 in
theorem same_keys (k f x s k' f' x' s' : Int) (A A' B B' : Option Addr) (n c n' c' m d m' d' : Nat) (xs xs' : List Int) (S : Nat → Prop) (w : World) (h0 : headSame k f x s n n' k' f' x' s' m m' = true)
    (hx : RowI .u8 w S A n xs) (hx' : RowI .u8 w S B m xs') (hS : ∀ b, S b → b < w.heap.size) (hb : Bytes xs) (hb' : Bytes xs') (hne : xs ≠ xs') :
    Calls Try.prog 28 #[.agg #[.int .i64 k, .int .u32 f, .int .u32 x, .int .u64 s, .slice A n c, .slice A' n' c'], .agg #[.int .i64 k', .int .u32 f', .int .u32 x', .int .u64 s', .slice B m d, .slice B' m' d']] w fun e w' =>
      e = .returned (.bool false) ∧ Below w.heap.size w w' := by
  have hq : ∀ W, (binOp .eql 51 (.agg #[.int .i64 k, .int .u32 f, .int .u32 x, .int .u64 s, .int .i64 n, .int .i64 n']) (.agg #[.int .i64 k', .int .u32 f', .int .u32 x', .int .u64 s', .int .i64 m, .int .i64 m'])).run Try.prog W = .ok (.bool true) W := fun W => by rw [eql_heads, h0]
  have HX := Lib.hid hx
  have HX' := Lib.hid hx'
  clear hx hx'
  go_enter Try.func28, Try.ntmps28
  go_wp2_with fail
  refine calm_region (fun W => Two w.heap.size #[.int .i64 k, .int .u32 f, .int .u32 x, .int .u64 s, .slice A n c, .slice A' n' c'] #[.int .i64 k', .int .u32 f', .int .u32 x', .int .u64 s', .slice B m d, .slice B' m' d'] W ∧ Below w.heap.size w W) (by kernel_rfl) (by kernel_rfl) ⟨(Two.new w _ _).drew, (((Below.refl _ _).alloc (Nat.le_refl _) _).alloc (by simp) _).drew⟩ ?_
  refine calm_load_row (.tmp 2) 26 rfl rfl w.heap.size rfl 26 [.int .i64 k, .int .u32 f, .int .u32 x, .int .u64 s, .slice A n c, .slice A' n' c'] _ Try.underlying26 rfl size_rec (fun W h => h.1.one) ?_
  simp only [Act.put, List.setIfInBounds_toArray, List.set_cons_zero, List.set_cons_succ]
  refine calm_call 29 #[.tmp 5] #[26] rfl rfl Try.func29 rfl rfl (.agg #[.int .i64 k, .int .u32 f, .int .u32 x, .int .u64 s, .int .i64 n, .int .i64 n']) [.agg #[.int .i64 k, .int .u32 f, .int .u32 x, .int .u64 s, .slice A n c, .slice A' n' c']] rfl (fun W h => (headOf_any k f x s A A' n c n' c' W).mono fun e W' hh => ⟨hh.1, h.1.below hh.2, h.2.trans (hh.2.mono h.2.size)⟩) ?_
  simp only [Act.put, List.setIfInBounds_toArray, List.set_cons_zero, List.set_cons_succ]
  refine calm_load_row (.tmp 3) 26 rfl rfl (w.heap.size + 1) rfl 26 [.int .i64 k', .int .u32 f', .int .u32 x', .int .u64 s', .slice B m d, .slice B' m' d'] _ Try.underlying26 rfl size_rec (fun W h => h.1.two) ?_
  simp only [Act.put, List.setIfInBounds_toArray, List.set_cons_zero, List.set_cons_succ]
  refine calm_call 29 #[.tmp 7] #[26] rfl rfl Try.func29 rfl rfl (.agg #[.int .i64 k', .int .u32 f', .int .u32 x', .int .u64 s', .int .i64 m, .int .i64 m']) [.agg #[.int .i64 k', .int .u32 f', .int .u32 x', .int .u64 s', .slice B m d, .slice B' m' d']] rfl (fun W h => (headOf_any k' f' x' s' B B' m d m' d' W).mono fun e W' hh => ⟨hh.1, h.1.below hh.2, h.2.trans (hh.2.mono h.2.size)⟩) ?_
  simp only [Act.put, List.setIfInBounds_toArray, List.set_cons_zero, List.set_cons_succ]
  refine calm_cmp .eql 51 _ (.tmp 6) (.tmp 8) rfl rfl (.agg #[.int .i64 k, .int .u32 f, .int .u32 x, .int .u64 s, .int .i64 n, .int .i64 n']) (.agg #[.int .i64 k', .int .u32 f', .int .u32 x', .int .u64 s', .int .i64 m, .int .i64 m']) (.bool true) rfl rfl (eqg_heads _ _ _ _) hq ?_
  simp only [Act.put, List.setIfInBounds_toArray, List.set_cons_zero, List.set_cons_succ]
  go_big_quiet_step (fail)
  refine calm_by (.pointer (some ⟨w.heap.size, 4, none⟩)) rfl (fun W h => by simp [go_sem, execOp, Act.eval]) ?_
  simp only [Act.put, List.setIfInBounds_toArray, List.set_cons_zero, List.set_cons_succ]
  refine calm_load_cell (.tmp 11) 24 rfl rfl ⟨w.heap.size, 4, none⟩ rfl (.slice A n c) (fun W h => by simp [go_sem, h, Try.underlying24]) (fun W h => h.1.one.cell 4) ?_
  simp only [Act.put, List.setIfInBounds_toArray, List.set_cons_zero, List.set_cons_succ]
  refine calm_by (.pointer (some ⟨w.heap.size + 1, 4, none⟩)) rfl (fun W h => by simp [go_sem, execOp, Act.eval]) ?_
  simp only [Act.put, List.setIfInBounds_toArray, List.set_cons_zero, List.set_cons_succ]
  refine calm_load_cell (.tmp 13) 24 rfl rfl ⟨w.heap.size + 1, 4, none⟩ rfl (.slice B m d) (fun W h => by simp [go_sem, h, Try.underlying24]) (fun W h => h.1.two.cell 4) ?_
  simp only [Act.put, List.setIfInBounds_toArray, List.set_cons_zero, List.set_cons_succ]
  refine calm_call 38 #[.tmp 12, .tmp 14] #[24, 24] rfl rfl Try.func38 rfl rfl (.bool false) [.slice A n c, .slice B m d] rfl (fun W h => (oequal_no A B n m c d xs xs' S S W (HX.out.below h.2 hS) (HX'.out.below h.2 hS) (fun b hb => Nat.lt_of_lt_of_le (hS b hb) h.2.size) (fun b hb => Nat.lt_of_lt_of_le (hS b hb) h.2.size) hb hb' hne).mono fun e W' hh => ⟨hh.1, hh.2 ▸ h⟩) ?_
  simp only [Act.put, List.setIfInBounds_toArray, List.set_cons_zero, List.set_cons_succ]
  refine calm_by (.bool false) rfl (fun W h => by simp [go_sem, execOp, Act.eval]) ?_
  simp only [Act.put, List.setIfInBounds_toArray, List.set_cons_zero, List.set_cons_succ]
  go_big_quiet_step (fail)
  go_big_quiet_step (fail)
  go_big_quiet_step (fail)
  go_big_quiet_step (fail)
  go_big_quiet_step (fail)
  go_big_quiet_step (fail)
  refine calm_by (.bool false) rfl (fun W h => by simp [go_sem, execOp, Act.eval]) ?_
  simp only [Act.put, List.setIfInBounds_toArray, List.set_cons_zero, List.set_cons_succ]
  go_big_quiet_step (fail)
  refine wpQuiet_nil ?_
  intro W hW
  have HB := Lib.hid hW.2
  clear hW hq
  go_wp2_with fail
  go_ret
  exact ⟨rfl, HB.out⟩


set_option maxHeartbeats 1000000 in
theorem same_values (k f x s k' f' x' s' : Int) (A A' B B' : Option Addr) (n c n' c' m d m' d' : Nat) (xs ys ys' : List Int) (S : Nat → Prop) (w : World) (h0 : headSame k f x s n n' k' f' x' s' m m' = true)
    (hx : RowI .u8 w S A n xs) (hx' : RowI .u8 w S B m xs) (hy : RowI .u8 w S A' n' ys) (hy' : RowI .u8 w S B' m' ys') (hS : ∀ b, S b → b < w.heap.size) (hb : Bytes xs) (hby : Bytes ys) (hby' : Bytes ys') :
    Calls Try.prog 28 #[.agg #[.int .i64 k, .int .u32 f, .int .u32 x, .int .u64 s, .slice A n c, .slice A' n' c'], .agg #[.int .i64 k', .int .u32 f', .int .u32 x', .int .u64 s', .slice B m d, .slice B' m' d']] w fun e w' =>
      e = .returned (.bool (decide (ys = ys'))) ∧ Below w.heap.size w w' := by
  have hq : ∀ W, (binOp .eql 51 (.agg #[.int .i64 k, .int .u32 f, .int .u32 x, .int .u64 s, .int .i64 n, .int .i64 n']) (.agg #[.int .i64 k', .int .u32 f', .int .u32 x', .int .u64 s', .int .i64 m, .int .i64 m'])).run Try.prog W = .ok (.bool true) W := fun W => by rw [eql_heads, h0]
  obtain rfl : n = m := by rw [← hx.1, ← hx'.1]
  have HX := Lib.hid hx
  have HX' := Lib.hid hx'
  have HY := Lib.hid hy
  have HY' := Lib.hid hy'
  clear hx hx' hy hy'
  go_enter Try.func28, Try.ntmps28
  go_wp2_with fail
  refine calm_region (fun W => Two w.heap.size #[.int .i64 k, .int .u32 f, .int .u32 x, .int .u64 s, .slice A n c, .slice A' n' c'] #[.int .i64 k', .int .u32 f', .int .u32 x', .int .u64 s', .slice B n d, .slice B' m' d'] W ∧ Below w.heap.size w W) (by kernel_rfl) (by kernel_rfl) ⟨(Two.new w _ _).drew, (((Below.refl _ _).alloc (Nat.le_refl _) _).alloc (by simp) _).drew⟩ ?_
  refine calm_load_row (.tmp 2) 26 rfl rfl w.heap.size rfl 26 [.int .i64 k, .int .u32 f, .int .u32 x, .int .u64 s, .slice A n c, .slice A' n' c'] _ Try.underlying26 rfl size_rec (fun W h => h.1.one) ?_
  simp only [Act.put, List.setIfInBounds_toArray, List.set_cons_zero, List.set_cons_succ]
  refine calm_call 29 #[.tmp 5] #[26] rfl rfl Try.func29 rfl rfl (.agg #[.int .i64 k, .int .u32 f, .int .u32 x, .int .u64 s, .int .i64 n, .int .i64 n']) [.agg #[.int .i64 k, .int .u32 f, .int .u32 x, .int .u64 s, .slice A n c, .slice A' n' c']] rfl (fun W h => (headOf_any k f x s A A' n c n' c' W).mono fun e W' hh => ⟨hh.1, h.1.below hh.2, h.2.trans (hh.2.mono h.2.size)⟩) ?_
  simp only [Act.put, List.setIfInBounds_toArray, List.set_cons_zero, List.set_cons_succ]
  refine calm_load_row (.tmp 3) 26 rfl rfl (w.heap.size + 1) rfl 26 [.int .i64 k', .int .u32 f', .int .u32 x', .int .u64 s', .slice B n d, .slice B' m' d'] _ Try.underlying26 rfl size_rec (fun W h => h.1.two) ?_
  simp only [Act.put, List.setIfInBounds_toArray, List.set_cons_zero, List.set_cons_succ]
  refine calm_call 29 #[.tmp 7] #[26] rfl rfl Try.func29 rfl rfl (.agg #[.int .i64 k', .int .u32 f', .int .u32 x', .int .u64 s', .int .i64 n, .int .i64 m']) [.agg #[.int .i64 k', .int .u32 f', .int .u32 x', .int .u64 s', .slice B n d, .slice B' m' d']] rfl (fun W h => (headOf_any k' f' x' s' B B' n d m' d' W).mono fun e W' hh => ⟨hh.1, h.1.below hh.2, h.2.trans (hh.2.mono h.2.size)⟩) ?_
  simp only [Act.put, List.setIfInBounds_toArray, List.set_cons_zero, List.set_cons_succ]
  refine calm_cmp .eql 51 _ (.tmp 6) (.tmp 8) rfl rfl (.agg #[.int .i64 k, .int .u32 f, .int .u32 x, .int .u64 s, .int .i64 n, .int .i64 n']) (.agg #[.int .i64 k', .int .u32 f', .int .u32 x', .int .u64 s', .int .i64 n, .int .i64 m']) (.bool true) rfl rfl (eqg_heads _ _ _ _) hq ?_
  simp only [Act.put, List.setIfInBounds_toArray, List.set_cons_zero, List.set_cons_succ]
  go_big_quiet_step (fail)
  refine calm_by (.pointer (some ⟨w.heap.size, 4, none⟩)) rfl (fun W h => by simp [go_sem, execOp, Act.eval]) ?_
  simp only [Act.put, List.setIfInBounds_toArray, List.set_cons_zero, List.set_cons_succ]
  refine calm_load_cell (.tmp 11) 24 rfl rfl ⟨w.heap.size, 4, none⟩ rfl (.slice A n c) (fun W h => by simp [go_sem, h, Try.underlying24]) (fun W h => h.1.one.cell 4) ?_
  simp only [Act.put, List.setIfInBounds_toArray, List.set_cons_zero, List.set_cons_succ]
  refine calm_by (.pointer (some ⟨w.heap.size + 1, 4, none⟩)) rfl (fun W h => by simp [go_sem, execOp, Act.eval]) ?_
  simp only [Act.put, List.setIfInBounds_toArray, List.set_cons_zero, List.set_cons_succ]
  refine calm_load_cell (.tmp 13) 24 rfl rfl ⟨w.heap.size + 1, 4, none⟩ rfl (.slice B n d) (fun W h => by simp [go_sem, h, Try.underlying24]) (fun W h => h.1.two.cell 4) ?_
  simp only [Act.put, List.setIfInBounds_toArray, List.set_cons_zero, List.set_cons_succ]
  refine calm_call 38 #[.tmp 12, .tmp 14] #[24, 24] rfl rfl Try.func38 rfl rfl (.bool true) [.slice A n c, .slice B n d] rfl (fun W h => (oequal_yes A B n c d xs S S W (HX.out.below h.2 hS) (HX'.out.below h.2 hS) (fun b hb => Nat.lt_of_lt_of_le (hS b hb) h.2.size) (fun b hb => Nat.lt_of_lt_of_le (hS b hb) h.2.size) hb).mono fun e W' hh => ⟨hh.1, hh.2 ▸ h⟩) ?_
  simp only [Act.put, List.setIfInBounds_toArray, List.set_cons_zero, List.set_cons_succ]
  refine calm_by (.bool true) rfl (fun W h => by simp [go_sem, execOp, Act.eval]) ?_
  simp only [Act.put, List.setIfInBounds_toArray, List.set_cons_zero, List.set_cons_succ]
  go_big_quiet_step (fail)
  refine calm_by (.pointer (some ⟨w.heap.size, 5, none⟩)) rfl (fun W h => by simp [go_sem, execOp, Act.eval]) ?_
  simp only [Act.put, List.setIfInBounds_toArray, List.set_cons_zero, List.set_cons_succ]
  refine calm_load_cell (.tmp 18) 24 rfl rfl ⟨w.heap.size, 5, none⟩ rfl (.slice A' n' c') (fun W h => by simp [go_sem, h, Try.underlying24]) (fun W h => h.1.one.cell 5) ?_
  simp only [Act.put, List.setIfInBounds_toArray, List.set_cons_zero, List.set_cons_succ]
  refine calm_by (.pointer (some ⟨w.heap.size + 1, 5, none⟩)) rfl (fun W h => by simp [go_sem, execOp, Act.eval]) ?_
  simp only [Act.put, List.setIfInBounds_toArray, List.set_cons_zero, List.set_cons_succ]
  refine calm_load_cell (.tmp 20) 24 rfl rfl ⟨w.heap.size + 1, 5, none⟩ rfl (.slice B' m' d') (fun W h => by simp [go_sem, h, Try.underlying24]) (fun W h => h.1.two.cell 5) ?_
  simp only [Act.put, List.setIfInBounds_toArray, List.set_cons_zero, List.set_cons_succ]
  refine calm_call 38 #[.tmp 19, .tmp 21] #[24, 24] rfl rfl Try.func38 rfl rfl (.bool (decide (ys = ys'))) [.slice A' n' c', .slice B' m' d'] rfl (fun W h => (oequal_any A' B' n' m' c' d' ys ys' S S W (HY.out.below h.2 hS) (HY'.out.below h.2 hS) (fun b hb => Nat.lt_of_lt_of_le (hS b hb) h.2.size) (fun b hb => Nat.lt_of_lt_of_le (hS b hb) h.2.size) hby hby').mono fun e W' hh => ⟨hh.1, hh.2 ▸ h⟩) ?_
  simp only [Act.put, List.setIfInBounds_toArray, List.set_cons_zero, List.set_cons_succ]
  refine calm_by (.bool (decide (ys = ys'))) rfl (fun W h => by simp [go_sem, execOp, Act.eval]) ?_
  simp only [Act.put, List.setIfInBounds_toArray, List.set_cons_zero, List.set_cons_succ]
  go_big_quiet_step (fail)
  refine wpQuiet_nil ?_
  intro W hW
  have HB := Lib.hid hW.2
  clear hW hq
  go_wp2_with fail
  go_ret
  exact ⟨rfl, HB.out⟩

/-- Whether two records are one, field by field. -/
def recSame (k f x s : Int) (xs ys : List Int) (k' f' x' s' : Int) (xs' ys' : List Int) : Bool := decide (k = k' ∧ f = f' ∧ x = x' ∧ s = s' ∧ xs = xs' ∧ ys = ys')

theorem recSame_self (k f x s : Int) (xs ys : List Int) : recSame k f x s xs ys k f x s xs ys = true := by simp [recSame]

theorem same_any (k f x s k' f' x' s' : Int) (A A' B B' : Option Addr) (n c n' c' m d m' d' : Nat) (xs xs' ys ys' : List Int) (S : Nat → Prop) (w : World)
    (hx : RowI .u8 w S A n xs) (hx' : RowI .u8 w S B m xs') (hy : RowI .u8 w S A' n' ys) (hy' : RowI .u8 w S B' m' ys') (hS : ∀ b, S b → b < w.heap.size) (hb : Bytes xs) (hb' : Bytes xs') (hby : Bytes ys) (hby' : Bytes ys') :
    Calls Try.prog 28 #[.agg #[.int .i64 k, .int .u32 f, .int .u32 x, .int .u64 s, .slice A n c, .slice A' n' c'], .agg #[.int .i64 k', .int .u32 f', .int .u32 x', .int .u64 s', .slice B m d, .slice B' m' d']] w fun e w' =>
      e = .returned (.bool (recSame k f x s xs ys k' f' x' s' xs' ys')) ∧ Below w.heap.size w w' := by
  rcases h0 : headSame k f x s n n' k' f' x' s' m m' with _ | _
  · have hr : recSame k f x s xs ys k' f' x' s' xs' ys' = false := by
      unfold recSame
      rw [decide_eq_false_iff_not]
      rintro ⟨rfl, rfl, rfl, rfl, rfl, rfl⟩
      have : headSame k f x s n n' k f x s m m' = true := (headSame_iff ..).2 ⟨rfl, rfl, rfl, rfl, by rw [← hx.1, ← hx'.1], by rw [← hy.1, ← hy'.1]⟩
      rw [this] at h0
      cases h0
    rw [hr]
    exact same_heads k f x s k' f' x' s' A A' B B' n c n' c' m d m' d' w h0
  · obtain ⟨rfl, rfl, rfl, rfl, -, -⟩ := (headSame_iff ..).1 h0
    by_cases hne : xs = xs'
    · subst hne
      have hr : recSame k f x s xs ys k f x s xs ys' = decide (ys = ys') := by simp [recSame]
      rw [hr]
      exact same_values k f x s k f x s A A' B B' n c n' c' m d m' d' xs ys ys' S w h0 hx hx' hy hy' hS hb hby hby'
    · have hr : recSame k f x s xs ys k f x s xs' ys' = false := by simp [recSame, hne]
      rw [hr]
      exact same_keys k f x s k f x s A A' B B' n c n' c' m d m' d' xs xs' S w h0 hx hx' hS hb hb' hne

end Go.Proofs.Ytehldhdpeefljaa
