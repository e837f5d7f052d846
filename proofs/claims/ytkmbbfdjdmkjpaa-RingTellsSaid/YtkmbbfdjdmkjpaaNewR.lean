/- Package ring: New, Same; the document's sized, New, Same, Copy, with. -/
import Derived.Test.YtkmbbfdjdmkjpaaTold
import Derived.Test.YtkmbbfdjdmkjpaaSegMem
namespace Go.Proofs.Ytkmbbfdjdmkjpaa
open Go.RowKit
set_option linter.unusedVariables false
set_option linter.unusedSimpArgs false

/-- What lies in memory that is from n₀ on. -/
def From (n₀ : Nat) (w : World) (b : Nat) : Prop := n₀ ≤ b ∧ b < w.heap.size
theorem RowZ.from {n₀ m₀ : Nat} {w : World} {A : Option Addr} {n : Nat} {xs : List Seg} (h : RowZ w (From n₀ w) A n xs) (hm : m₀ ≤ n₀) : RowZ w (From m₀ w) A n xs := h.more fun b hb => ⟨Nat.le_trans hm hb.1, hb.2⟩
theorem RowZ.now {n₀ : Nat} {w : World} {A : Option Addr} {n : Nat} {xs : List Seg} (h : RowZ w (From n₀ w) A n xs) : RowZ w (· < w.heap.size) A n xs := h.more fun b hb => hb.2
theorem RowZ.behind {n₀ : Nat} {w W : World} {A : Option Addr} {n : Nat} {xs : List Seg} (h : RowZ w (From n₀ w) A n xs) (hb : Below w.heap.size w W) : RowZ W (From n₀ W) A n xs :=
  (h.below hb (fun _ h => h.2)).more fun b hb' => ⟨hb'.1, Nat.lt_of_lt_of_le hb'.2 hb.size⟩

theorem size_ring : (Try.prog.info? 66).map (·.size) = some 2 := by kernel_rfl
set_option maxRecDepth 100000 in
set_option maxHeartbeats 1000000 in
theorem new_ok {w : World} (n : Nat) (sec : Int) (hs : SizedR n sec) :
    Calls Try.prog 60 #[.int .i64 n, .int .i64 sec] w fun e w' => (∃ A, e = .returned (.tuple #[ringV sec A n n, .int .i64 0]) ∧ RowZ w' (From w.heap.size w') A n (List.replicate n seg0)) ∧ Below w.heap.size w w' := by
  have hd : decide (SizedR n sec) = true := decide_eq_true hs
  have HSI := Lib.hid (fun (W : World) => by have h := sized_any n sec W; rw [hd] at h; exact h)
  have hn : n ≤ 1000000 := by unfold SizedR at hs; omega
  clear hs hd
  go_enter Try.func60, Try.ntmps60
  go_wp2_with (first
    | (go_at_call 88; refine (HSI.out _).mono ?_; rintro e w1 ⟨rfl, rfl⟩)
    | (refine wpList_make_segs _ _ rfl rfl _ _ n n rfl rfl rfl rfl (Nat.le_refl _) hn ?_)
    | (with_reducible refine halt_end ?_))
  have h2 := ArrS.row (w := (w.alloc (.cells #[.int .i64 sec, .slice (some ⟨w.heap.size + 1, 0, none⟩) n n] 66)).alloc (.cells (flatG (List.replicate n seg0)).toArray 78)) (g := w.heap.size + 1) (L := List.replicate n seg0) (blk_new2 _ _ _ _) (S := From w.heap.size ((w.alloc (.cells #[.int .i64 sec, .slice (some ⟨w.heap.size + 1, 0, none⟩) n n] 66)).alloc (.cells (flatG (List.replicate n seg0)).toArray 78))) (n := n) ⟨by simp, by simp⟩ (by simp)
  exact Halt.ret (results_row2 (p := 4) (u := 5) rfl _ _ w.heap.size 66 #[.int .i64 sec, .slice (some ⟨w.heap.size + 1, 0, none⟩) n n] _ rfl ((Blk.new w _ _).alloc _) Try.underlying66 rfl size_ring) rfl ⟨⟨_, rfl, h2⟩, ((Below.refl _ w).alloc (Nat.le_refl _) _).alloc (by simp) _⟩

set_option maxRecDepth 100000 in
set_option maxHeartbeats 1000000 in
theorem new_bad {w : World} (n sec : Int) (hs : ¬ SizedR n sec) :
    Calls Try.prog 60 #[.int .i64 n, .int .i64 sec] w fun e w' => e = .returned (.tuple #[ringV 0 none 0 0, .int .i64 2]) ∧ Below w.heap.size w w' := by
  have hd : decide (SizedR n sec) = false := decide_eq_false hs
  have HSI := Lib.hid (fun (W : World) => by have h := sized_any n sec W; rw [hd] at h; exact h)
  clear hs hd
  go_enter Try.func60, Try.ntmps60
  go_wp2_with (first
    | (go_at_call 88; refine (HSI.out _).mono ?_; rintro e w1 ⟨rfl, rfl⟩)
    | (with_reducible refine halt_end ?_))
  exact Halt.ret (results_row2 (p := 4) (u := 5) rfl _ _ w.heap.size 66 #[.int .i64 0, .slice none 0 0] _ rfl (Blk.new w _ _) Try.underlying66 rfl size_ring) rfl ⟨rfl, (Below.refl _ w).alloc (Nat.le_refl _) _⟩

theorem ref_sized_any (n sec : Int) (w : World) : Calls Try.prog 87 #[.int .i64 n, .int .i64 sec] w fun e w' => e = .returned (.bool (decide (SizedR n sec))) ∧ w' = w := by
  by_cases h0 : (4 : Int) ≤ n
  case neg =>
    have e : decide (SizedR n sec) = false := decide_eq_false (fun h => h0 h.1)
    have d0 : decide ((4 : Int) ≤ n) = false := decide_eq_false h0
    rw [e]
    go_enter Try.func87, Try.ntmps87
    go_wp2
    go_ret
    exact ⟨rfl, rfl⟩
  have d0 : decide ((4 : Int) ≤ n) = true := decide_eq_true h0
  by_cases h1 : n ≤ 16
  case neg =>
    have e : decide (SizedR n sec) = false := decide_eq_false (fun h => h1 h.2.1)
    have d1 : decide (n ≤ 16) = false := decide_eq_false h1
    rw [e]
    go_enter Try.func87, Try.ntmps87
    go_wp2
    go_ret
    exact ⟨rfl, rfl⟩
  have d1 : decide (n ≤ 16) = true := decide_eq_true h1
  by_cases h2 : (24 : Int) ≤ sec
  case neg =>
    have e : decide (SizedR n sec) = false := decide_eq_false (fun h => h2 h.2.2.1)
    have d2 : decide ((24 : Int) ≤ sec) = false := decide_eq_false h2
    rw [e]
    go_enter Try.func87, Try.ntmps87
    go_wp2
    go_ret
    exact ⟨rfl, rfl⟩
  have d2 : decide ((24 : Int) ≤ sec) = true := decide_eq_true h2
  have e : decide (SizedR n sec) = decide (sec ≤ 64) := by
    by_cases h3 : sec ≤ 64
    · rw [decide_eq_true h3]; exact decide_eq_true ⟨h0, h1, h2, h3⟩
    · rw [decide_eq_false h3]; exact decide_eq_false (fun h => h3 h.2.2.2)
  rw [e]
  go_enter Try.func87, Try.ntmps87
  go_wp2
  go_ret
  exact ⟨rfl, rfl⟩

set_option maxRecDepth 100000 in
set_option maxHeartbeats 1000000 in
theorem ref_new_ok {w : World} (n : Nat) (sec : Int) (hs : SizedR n sec) :
    Calls Try.prog 61 #[.int .i64 n, .int .i64 sec] w fun e w' => (∃ A, e = .returned (.tuple #[ringV sec A n n, .bool true]) ∧ RowZ w' (From w.heap.size w') A n (List.replicate n seg0)) ∧ Below w.heap.size w w' := by
  have hd : decide (SizedR n sec) = true := decide_eq_true hs
  have HSI := Lib.hid (fun (W : World) => by have h := ref_sized_any n sec W; rw [hd] at h; exact h)
  have hn : n ≤ 1000000 := by unfold SizedR at hs; omega
  clear hs hd
  go_enter Try.func61, Try.ntmps61
  go_wp2_with (first
    | (go_at_call 87; refine (HSI.out _).mono ?_; rintro e w1 ⟨rfl, rfl⟩)
    | (refine wpList_make_segs _ _ rfl rfl _ _ n n rfl rfl rfl rfl (Nat.le_refl _) hn ?_)
    | (with_reducible refine halt_end ?_))
  have h2 := ArrS.row (w := (w.alloc (.cells #[.int .i64 sec, .slice (some ⟨w.heap.size + 1, 0, none⟩) n n] 66)).alloc (.cells (flatG (List.replicate n seg0)).toArray 78)) (g := w.heap.size + 1) (L := List.replicate n seg0) (blk_new2 _ _ _ _) (S := From w.heap.size ((w.alloc (.cells #[.int .i64 sec, .slice (some ⟨w.heap.size + 1, 0, none⟩) n n] 66)).alloc (.cells (flatG (List.replicate n seg0)).toArray 78))) (n := n) ⟨by simp, by simp⟩ (by simp)
  exact Halt.ret (results_row2 (p := 4) (u := 5) rfl _ _ w.heap.size 66 #[.int .i64 sec, .slice (some ⟨w.heap.size + 1, 0, none⟩) n n] _ rfl ((Blk.new w _ _).alloc _) Try.underlying66 rfl size_ring) rfl ⟨⟨_, rfl, h2⟩, ((Below.refl _ w).alloc (Nat.le_refl _) _).alloc (by simp) _⟩

set_option maxRecDepth 100000 in
set_option maxHeartbeats 1000000 in
theorem ref_new_bad {w : World} (n sec : Int) (hs : ¬ SizedR n sec) :
    Calls Try.prog 61 #[.int .i64 n, .int .i64 sec] w fun e w' => e = .returned (.tuple #[ringV 0 none 0 0, .bool false]) ∧ Below w.heap.size w w' := by
  have hd : decide (SizedR n sec) = false := decide_eq_false hs
  have HSI := Lib.hid (fun (W : World) => by have h := ref_sized_any n sec W; rw [hd] at h; exact h)
  clear hs hd
  go_enter Try.func61, Try.ntmps61
  go_wp2_with (first
    | (go_at_call 87; refine (HSI.out _).mono ?_; rintro e w1 ⟨rfl, rfl⟩)
    | (with_reducible refine halt_end ?_))
  exact Halt.ret (results_row2 (p := 4) (u := 5) rfl _ _ w.heap.size 66 #[.int .i64 0, .slice none 0 0] _ rfl (Blk.new w _ _) Try.underlying66 rfl size_ring) rfl ⟨rfl, (Below.refl _ w).alloc (Nat.le_refl _) _⟩


end Go.Proofs.Ytkmbbfdjdmkjpaa
