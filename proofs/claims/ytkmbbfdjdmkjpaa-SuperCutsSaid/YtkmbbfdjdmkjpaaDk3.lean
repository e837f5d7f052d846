/- Package disk: New, Arm, Fail, Crash; Pending of a disk on which nothing pends. -/
import Derived.Test.YtkmbbfdjdmkjpaaDk2
namespace Go.Proofs.Ytkmbbfdjdmkjpaa
open Go.RowKit
set_option linter.unusedVariables false
set_option linter.unusedSimpArgs false

theorem flat_sec0 (n : Nat) : flat (sec0 n) = noughts (n * 64) := by
  induction n with
  | zero => rfl
  | succ n ih =>
    have e : sec0 (n + 1) = [noughts 64] ++ sec0 n := by simp [sec0, List.replicate_succ]
    rw [e, flat_append, flat_one, ih]
    simp only [noughts, List.replicate_append_replicate]
    congr 1
    omega

theorem run_make_secs (k : Nat) (hk : k ≤ 2199023255552) (w : World) : (Instr.makeSlice 102 (.int .i64 k) (.int .i64 k)).run Try.prog w = .ok (.slice (some ⟨w.heap.size, 0, none⟩) k k) (w.alloc (.cells (cells8 (noughts (k * 64))) 26)) := by
  obtain ⟨i0, hi, hz0, hz1, hz2⟩ := info_parts info_blk
  have hr := run_make (P := Try.prog) w 102 26 i0 (.agg (cells8 (noughts 64))) Try.underlying102 hi hz0 .i64 .i64 k k (by omega) (by omega) (by rw [hz2]; omega) (by omega)
  simp only [Int.toNat_natCast, hz1, Value.cells, made_secs] at hr
  exact hr

section
variable {w w' : World} {X Y : Nat → Prop} {d n : Nat} {k : Dk}

theorem fresh_disk {w : World} {H S n : Nat} {w1 : World} (hn2 : n ≤ 2048) (hH : ArrB w1 H (noughts (n * 64))) (hS : ArrB w1 S (noughts (n * 64))) (hne : H ≠ S) (h1 : w.heap.size ≤ H) (h2 : w.heap.size ≤ S) (hb : Below w.heap.size w w1) :
    DiskM (w1.alloc (.cells #[.slice (some ⟨H, 0, none⟩) n n, .slice (some ⟨S, 0, none⟩) n n, .slice none 0 0, .int .i64 (-1), .int .i64 (-1), .bool false, .int .i64 0] 106)) (fun b => b < w.heap.size) w1.heap.size n (Dk.fresh n) := by
  refine ⟨Dk.Ok.fresh hn2, H, S, .slice none 0 0, ⟨Blk.new w1 _ _, ?_, ?_, ⟨rfl, .inl ⟨rfl, rfl⟩⟩, hne⟩, by have := hb.size; omega, by omega, by omega, fun g hg => (by simp [Value.ownBlock] at hg)⟩
  · show ArrB _ H (flat (over (sec0 n) []))
    rw [over_nil, flat_sec0]
    exact Blk.alloc hH _
  · show ArrB _ S (flat (sec0 n))
    rw [flat_sec0]
    exact Blk.alloc hS _

theorem fresh_drew {w : World} {H S n : Nat} (hn2 : n ≤ 2048) (h : H = w.heap.size ∧ S = w.heap.size + 1 ∨ H = w.heap.size + 1 ∧ S = w.heap.size) :
    DiskM (((w.alloc (.cells (cells8 (noughts (n * 64))) 26)).alloc (.cells (cells8 (noughts (n * 64))) 26)).alloc (.cells #[.slice (some ⟨H, 0, none⟩) n n, .slice (some ⟨S, 0, none⟩) n n, .slice none 0 0, .int .i64 (-1), .int .i64 (-1), .bool false, .int .i64 0] 106)).drew (fun b => b < w.heap.size) (w.heap.size + 1 + 1) n (Dk.fresh n) ∧
      Below w.heap.size w (((w.alloc (.cells (cells8 (noughts (n * 64))) 26)).alloc (.cells (cells8 (noughts (n * 64))) 26)).alloc (.cells #[.slice (some ⟨H, 0, none⟩) n n, .slice (some ⟨S, 0, none⟩) n n, .slice none 0 0, .int .i64 (-1), .int .i64 (-1), .bool false, .int .i64 0] 106)).drew := by
  have g0 : ArrB ((w.alloc (.cells (cells8 (noughts (n * 64))) 26)).alloc (.cells (cells8 (noughts (n * 64))) 26)) w.heap.size (noughts (n * 64)) := (Blk.new w _ _).alloc _
  have g1 : ArrB ((w.alloc (.cells (cells8 (noughts (n * 64))) 26)).alloc (.cells (cells8 (noughts (n * 64))) 26)) (w.heap.size + 1) (noughts (n * 64)) := blk_new2 w _ _ _
  have hb : Below w.heap.size w ((w.alloc (.cells (cells8 (noughts (n * 64))) 26)).alloc (.cells (cells8 (noughts (n * 64))) 26)) := ((Below.refl _ _).alloc (Nat.le_refl _) _).alloc (by simp) _
  have hs : ((w.alloc (.cells (cells8 (noughts (n * 64))) 26)).alloc (.cells (cells8 (noughts (n * 64))) 26)).heap.size = w.heap.size + 1 + 1 := by simp
  generalize (w.alloc (.cells (cells8 (noughts (n * 64))) 26)).alloc (.cells (cells8 (noughts (n * 64))) 26) = w1 at *
  have hd : DiskM (w1.alloc (.cells #[.slice (some ⟨H, 0, none⟩) n n, .slice (some ⟨S, 0, none⟩) n n, .slice none 0 0, .int .i64 (-1), .int .i64 (-1), .bool false, .int .i64 0] 106)) (fun b => b < w.heap.size) w1.heap.size n (Dk.fresh n) := by
    rcases h with ⟨rfl, rfl⟩ | ⟨rfl, rfl⟩
    · exact fresh_disk hn2 g0 g1 (by omega) (by omega) (by omega) hb
    · exact fresh_disk hn2 g1 g0 (by omega) (by omega) (by omega) hb
  rw [hs] at hd
  exact ⟨hd.below (Below.refl _ _).drew (fun b _ h => h), (hb.alloc hb.size _).drew⟩

set_option maxHeartbeats 1000000 in
set_option maxRecDepth 100000 in
theorem new_k (w : World) (n : Nat) (h1 : 1 ≤ n) (h2 : n ≤ 2048) :
    Calls Try.prog 20 #[.int .i64 n] w fun e w' => ∃ d, e = .returned (.tuple #[.pointer (some ⟨d, 0, none⟩), .int .i64 0]) ∧ DiskM w' (fun b => b < w.heap.size) d n (Dk.fresh n) ∧ Below w.heap.size w w' := by
  have d1 : decide ((n : Int) < 1) = false := by simp; omega
  have d2 : decide ((2048 : Int) < (n : Int)) = false := by simp; omega
  have hmk := run_make_secs n (by omega)
  go_enter Try.func20, Try.ntmps20
  go_wp2
  go_region_held3 (fun W => True) (exact trivial)
    (fail)
  all_goals
    go_wp2
    go_ret2
    exact ⟨_, rfl, fresh_drew h2 (by omega)⟩

theorem arm_k (h : DiskM w X d n k) (hX : ∀ b, X b → b < w.heap.size) (x : Int) (x0 : -9223372036854775808 ≤ x) (x1 : x ≤ 9223372036854775807) :
    Calls Try.prog 30 #[.pointer (some ⟨d, 0, none⟩), .int .i64 x] w fun e w' => e = .returned (.int .i64 k.pow) ∧ DiskM w' X d n (k.arm x) ∧ Kept X w w' := by
  obtain ⟨hok, H, S, v, h, ho⟩ := h
  have HH := Lib.hid h
  obtain ⟨_, _, _, c3, _, _, _⟩ := h.cell
  have hz := h.frozen 3
  have hoff := ho.1
  obtain ⟨safe, pend, armed, fails, dead, ops⟩ := k
  unfold Dk.pow Dk.arm
  simp only [] at h HH c3 ⊢
  clear h
  have HO := Lib.hid ho
  have HK := Lib.hid hok
  clear ho hok
  cases dead
  · simp only [Bool.false_eq_true, if_false]
    go_enter Try.func30, Try.ntmps30
    go_wp2_with (go_at_call 82; refine (power_any HH.out).mono ?_; rintro e w' ⟨rfl, rfl⟩; simp only [Bool.false_eq_true, if_false])
    go_ret
    exact ⟨rfl, ⟨{ HK.out with a0 := x0, a1 := x1 }, H, S, v, HH.out.armed_ x, HO.out⟩, (Kept.refl X w).setCell (p := ⟨d, 3, none⟩) hoff _⟩
  · simp only [if_true]
    go_enter Try.func30, Try.ntmps30
    go_wp2_with (go_at_call 82; refine (power_any HH.out).mono ?_; rintro e w' ⟨rfl, rfl⟩; simp only [if_true])
    go_ret
    exact ⟨rfl, ⟨HK.out, H, S, v, HH.out, HO.out⟩, Kept.refl X w⟩

theorem fail_k (h : DiskM w X d n k) (hX : ∀ b, X b → b < w.heap.size) (x : Int) (x0 : -9223372036854775808 ≤ x) (x1 : x ≤ 9223372036854775807) :
    Calls Try.prog 31 #[.pointer (some ⟨d, 0, none⟩), .int .i64 x] w fun e w' => e = .returned (.int .i64 k.pow) ∧ DiskM w' X d n (k.fail x) ∧ Kept X w w' := by
  obtain ⟨hok, H, S, v, h, ho⟩ := h
  have HH := Lib.hid h
  obtain ⟨_, _, _, _, c4, _, _⟩ := h.cell
  have hz := h.frozen 4
  have hoff := ho.1
  obtain ⟨safe, pend, armed, fails, dead, ops⟩ := k
  unfold Dk.pow Dk.fail
  simp only [] at h HH c4 ⊢
  clear h
  have HO := Lib.hid ho
  have HK := Lib.hid hok
  clear ho hok
  cases dead
  · simp only [Bool.false_eq_true, if_false]
    go_enter Try.func31, Try.ntmps31
    go_wp2_with (go_at_call 82; refine (power_any HH.out).mono ?_; rintro e w' ⟨rfl, rfl⟩; simp only [Bool.false_eq_true, if_false])
    go_ret
    exact ⟨rfl, ⟨{ HK.out with f0 := x0, f1 := x1 }, H, S, v, HH.out.fails_ x, HO.out⟩, (Kept.refl X w).setCell (p := ⟨d, 4, none⟩) hoff _⟩
  · simp only [if_true]
    go_enter Try.func31, Try.ntmps31
    go_wp2_with (go_at_call 82; refine (power_any HH.out).mono ?_; rintro e w' ⟨rfl, rfl⟩; simp only [if_true])
    go_ret
    exact ⟨rfl, ⟨HK.out, H, S, v, HH.out, HO.out⟩, Kept.refl X w⟩

theorem pending_none (h : DiskM w X d n k) (hp : k.pend = []) :
    Calls Try.prog 25 #[.pointer (some ⟨d, 0, none⟩)] w fun e w' => e = .returned (.slice none 0 0) ∧ w = w' := by
  obtain ⟨hok, H, S, v, h, ho⟩ := h
  rw [hp] at h
  obtain ⟨_, _, c2, _, _, _, _⟩ := h.cell
  obtain ⟨A, cap, rfl, _, _⟩ := own_slice (l := []) h.own
  simp only [List.length_nil] at c2
  clear h ho hok hp
  go_enter Try.func25, Try.ntmps25
  go_wp2
  go_rounds 1
  go_ret
  exact ⟨rfl, rfl⟩

set_option maxHeartbeats 1000000 in
theorem crash_k (h : DiskM w X d n k) (hX : ∀ b, X b → b < w.heap.size) (A : Option Addr) (len cap : Nat) (xs : List Bool) (hxs : RowB w X A len xs) :
    Calls Try.prog 32 #[.pointer (some ⟨d, 0, none⟩), .slice A len cap] w fun e w' => e = .returned (.int .i64 0) ∧ DiskM w' X d n (k.crash xs) ∧ Kept X w w' := by
  have hmf : ∀ (fn : Fn) (first cap : Array Value) (w : World), (Instr.makeFunc fn first cap).run Try.prog w = .ok (.func fn first cap) w := fun _ _ _ _ => rfl
  have hok' := h.ok.crash xs
  obtain ⟨hok, H, S, v, h, ho⟩ := h
  have hdl := h.blk.lt
  have hHl := h.hh.lt
  have hSl := h.ss.lt
  have HM := Lib.hid (h.alloc (.cells #[.slice A len cap] 57))
  have HG := Lib.hid (show Blk (w.alloc (.cells #[.slice A len cap] 57)) w.heap.size 57 #[.slice A len cap] from Blk.new w _ _)
  have HB := Lib.hid (show Below w.heap.size w (w.alloc (.cells #[.slice A len cap] 57)) from (Below.refl _ _).alloc (Nat.le_refl _) _)
  have HXS := Lib.hid (hxs.below HB.out hX)
  have HOK := Lib.hid hok
  have HOK2 := Lib.hid hok'
  have HO := Lib.hid ho
  clear h hok hok' hxs
  go_enter Try.func32, Try.ntmps32
  go_wp2_with fail
  generalize hw1 : w.alloc (.cells #[.slice A len cap] 57) = w1 at *
  have hz1 := HG.out.lt
  refine (settle_keep HM.out HOK.out.secs rfl HOK.out.len HOK.out.small HOK.out.fits w.heap.size A len cap xs X (HG.out.cell 0) ⟨hz1, by omega, by omega, by omega⟩ HXS.out (fun b x => ⟨Nat.lt_of_lt_of_le (hX b x) HB.out.size, fun e => ho.1 (e ▸ x), fun e => ho.2.1 (e ▸ x), fun e => ho.2.2.1 (e ▸ x)⟩)).mono ?_
  rintro e w2 ⟨rfl, hd2, hk2⟩
  have hk3 : Kept X w w2 := (Kept.of_below HB.out hX).trans hk2 (fun b x => ⟨Nat.lt_of_lt_of_le (hX b x) HB.out.size, fun e => ho.1 (e ▸ x), fun e => ho.2.1 (e ▸ x), fun e => ho.2.2.1 (e ▸ x)⟩)
  have HD2 := Lib.hid hd2
  have HK3 := Lib.hid hk3
  obtain ⟨_, _, _, c3, c4, c5, _⟩ := hd2.cell
  have z3 := hd2.frozen 3
  have z4 := hd2.frozen 4
  have z5 := hd2.frozen 5
  have hod := ho.1
  clear hd2 hk2 hk3 ho
  go_wp2
  go_ret
  refine ⟨rfl, ⟨HOK2.out, H, S, .slice none 0 0, ?_, HO.out.1, HO.out.2.1, HO.out.2.2.1, fun g hg => (by simp [Value.ownBlock] at hg)⟩, ((HK3.out.setCell (p := ⟨d, 3, none⟩) hod _).setCell (p := ⟨d, 4, none⟩) hod _).setCell (p := ⟨d, 5, none⟩) hod _⟩
  exact ((HD2.out.armed_ (-1)).fails_ (-1)).dead_ false
end

end Go.Proofs.Ytkmbbfdjdmkjpaa
