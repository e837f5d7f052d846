/- Texts of LogOpens, packed. -/
import Derived.Test.YtodcohkblgjfeaaGreatPackLogOpens5
set_option linter.unusedVariables false
set_option linter.unusedSimpArgs false
namespace Go.Proofs.YtodcohkblgjfeaaGreat
set_option maxRecDepth 100000
open Go.RowKit
set_option linter.unusedVariables false
set_option linter.unusedSimpArgs false
theorem flat_sec0 (n : Nat) : flat (sec0 n) = noughts (n * 64) := by
  induction n with
  | zero => rfl
  | succ n ih =>
    have e : sec0 (n + 1) = [noughts 64] ++ sec0 n := by simp [sec0, List.replicate_succ]
    rw [e, flat_append, flat_one, ih]
    simp only [noughts, List.replicate_append_replicate]
    congr 1
    omega
theorem run_make_secs (k : Nat) (hk : k ≤ 2199023255552) (w : World) : (Instr.makeSlice 36 (.int .i64 k) (.int .i64 k)).run Tryz.prog w = .ok (.slice (some ⟨w.heap.size, 0, none⟩) k k) (w.alloc (.cells (cells8 (noughts (k * 64))) 84)) := by
  obtain ⟨i0, hi, hz0, hz1, hz2⟩ := info_parts info_blk
  have hr := run_make (P := Tryz.prog) w 36 84 i0 (.agg (cells8 (noughts 64))) Tryz.underlying36 hi hz0 .i64 .i64 k k (by omega) (by omega) (by rw [hz2]; omega) (by omega)
  simp only [Int.toNat_natCast, hz1, Value.cells, made_secs] at hr
  exact hr
section
variable {w w' : World} {X Y : Nat → Prop} {d n : Nat} {k : Dk}
theorem fresh_disk {w : World} {H S n : Nat} {w1 : World} (hn2 : n ≤ 2048) (hH : ArrB w1 H (noughts (n * 64))) (hS : ArrB w1 S (noughts (n * 64))) (hne : H ≠ S) (h1 : w.heap.size ≤ H) (h2 : w.heap.size ≤ S) (hb : Below w.heap.size w w1) :
    DiskM (w1.alloc (.cells #[.slice (some ⟨H, 0, none⟩) n n, .slice (some ⟨S, 0, none⟩) n n, .slice none 0 0, .int .i64 (-1), .int .i64 (-1), .bool false, .int .i64 0] 158)) (fun b => b < w.heap.size) w1.heap.size n (Dk.fresh n) := by
  refine ⟨Dk.Ok.fresh hn2, H, S, .slice none 0 0, ⟨Blk.new w1 _ _, ?_, ?_, ⟨rfl, .inl ⟨rfl, rfl⟩⟩, hne⟩, by have := hb.size; omega, by omega, by omega, fun g hg => (by simp [Value.ownBlock] at hg)⟩
  · show ArrB _ H (flat (over (sec0 n) []))
    rw [over_nil, flat_sec0]
    exact Blk.alloc hH _
  · show ArrB _ S (flat (sec0 n))
    rw [flat_sec0]
    exact Blk.alloc hS _
theorem fresh_drew {w : World} {H S n : Nat} (hn2 : n ≤ 2048) (h : H = w.heap.size ∧ S = w.heap.size + 1 ∨ H = w.heap.size + 1 ∧ S = w.heap.size) :
    DiskM (((w.alloc (.cells (cells8 (noughts (n * 64))) 84)).alloc (.cells (cells8 (noughts (n * 64))) 84)).alloc (.cells #[.slice (some ⟨H, 0, none⟩) n n, .slice (some ⟨S, 0, none⟩) n n, .slice none 0 0, .int .i64 (-1), .int .i64 (-1), .bool false, .int .i64 0] 158)).drew (fun b => b < w.heap.size) (w.heap.size + 1 + 1) n (Dk.fresh n) ∧
      Below w.heap.size w (((w.alloc (.cells (cells8 (noughts (n * 64))) 84)).alloc (.cells (cells8 (noughts (n * 64))) 84)).alloc (.cells #[.slice (some ⟨H, 0, none⟩) n n, .slice (some ⟨S, 0, none⟩) n n, .slice none 0 0, .int .i64 (-1), .int .i64 (-1), .bool false, .int .i64 0] 158)).drew := by
  have g0 : ArrB ((w.alloc (.cells (cells8 (noughts (n * 64))) 84)).alloc (.cells (cells8 (noughts (n * 64))) 84)) w.heap.size (noughts (n * 64)) := (Blk.new w _ _).alloc _
  have g1 : ArrB ((w.alloc (.cells (cells8 (noughts (n * 64))) 84)).alloc (.cells (cells8 (noughts (n * 64))) 84)) (w.heap.size + 1) (noughts (n * 64)) := blk_new2 w _ _ _
  have hb : Below w.heap.size w ((w.alloc (.cells (cells8 (noughts (n * 64))) 84)).alloc (.cells (cells8 (noughts (n * 64))) 84)) := ((Below.refl _ _).alloc (Nat.le_refl _) _).alloc (by simp) _
  have hs : ((w.alloc (.cells (cells8 (noughts (n * 64))) 84)).alloc (.cells (cells8 (noughts (n * 64))) 84)).heap.size = w.heap.size + 1 + 1 := by simp
  generalize (w.alloc (.cells (cells8 (noughts (n * 64))) 84)).alloc (.cells (cells8 (noughts (n * 64))) 84) = w1 at *
  have hd : DiskM (w1.alloc (.cells #[.slice (some ⟨H, 0, none⟩) n n, .slice (some ⟨S, 0, none⟩) n n, .slice none 0 0, .int .i64 (-1), .int .i64 (-1), .bool false, .int .i64 0] 158)) (fun b => b < w.heap.size) w1.heap.size n (Dk.fresh n) := by
    rcases h with ⟨rfl, rfl⟩ | ⟨rfl, rfl⟩
    · exact fresh_disk hn2 g0 g1 (by omega) (by omega) (by omega) hb
    · exact fresh_disk hn2 g1 g0 (by omega) (by omega) (by omega) hb
  rw [hs] at hd
  exact ⟨hd.below (Below.refl _ _).drew (fun b _ h => h), (hb.alloc hb.size _).drew⟩
set_option maxHeartbeats 1000000 in
set_option maxRecDepth 100000 in
theorem new_k (w : World) (n : Nat) (h1 : 1 ≤ n) (h2 : n ≤ 2048) :
    Calls Tryz.prog 43 #[.int .i64 n] w fun e w' => ∃ d, e = .returned (.tuple #[.pointer (some ⟨d, 0, none⟩), .int .i64 0]) ∧ DiskM w' (fun b => b < w.heap.size) d n (Dk.fresh n) ∧ Below w.heap.size w w' := by
  have d1 : decide ((n : Int) < 1) = false := by simp; omega
  have d2 : decide ((2048 : Int) < (n : Int)) = false := by simp; omega
  have hmk := run_make_secs n (by omega)
  go_enter Tryz.func43, Tryz.ntmps43
  go_wp2
  go_region_held3 (fun W => True) (exact trivial)
    (fail)
  all_goals
    go_wp2
    go_ret2
    exact ⟨_, rfl, fresh_drew h2 (by omega)⟩
theorem arm_k (h : DiskM w X d n k) (hX : ∀ b, X b → b < w.heap.size) (x : Int) (x0 : -9223372036854775808 ≤ x) (x1 : x ≤ 9223372036854775807) :
    Calls Tryz.prog 38 #[.pointer (some ⟨d, 0, none⟩), .int .i64 x] w fun e w' => e = .returned (.int .i64 k.pow) ∧ DiskM w' X d n (k.arm x) ∧ Kept X w w' := by
  obtain ⟨hok, H, S, v, h, ho⟩ := h
  have HH := Lib.hid h
  obtain ⟨_, _, _, c3, _, _, _⟩ := h.cell
  have hz := h.frozen 3
  have hoff := ho.1
  obtain ⟨safe, pend, armed, fails, dead, ops⟩ := k
  unfold Dk.pow Dk.arm
  simp only [] at h HH c3 ⊢
  clear h
  have HO := Lib.hid ho
  have HK := Lib.hid hok
  clear ho hok
  cases dead
  · simp only [Bool.false_eq_true, if_false]
    go_enter Tryz.func38, Tryz.ntmps38
    go_wp2_with (go_at_call 84; refine (power_any HH.out).mono ?_; rintro e w' ⟨rfl, rfl⟩; simp only [Bool.false_eq_true, if_false])
    go_ret
    exact ⟨rfl, ⟨{ HK.out with a0 := x0, a1 := x1 }, H, S, v, HH.out.armed_ x, HO.out⟩, (Kept.refl X w).setCell (p := ⟨d, 3, none⟩) hoff _⟩
  · simp only [if_true]
    go_enter Tryz.func38, Tryz.ntmps38
    go_wp2_with (go_at_call 84; refine (power_any HH.out).mono ?_; rintro e w' ⟨rfl, rfl⟩; simp only [if_true])
    go_ret
    exact ⟨rfl, ⟨HK.out, H, S, v, HH.out, HO.out⟩, Kept.refl X w⟩
theorem fail_k (h : DiskM w X d n k) (hX : ∀ b, X b → b < w.heap.size) (x : Int) (x0 : -9223372036854775808 ≤ x) (x1 : x ≤ 9223372036854775807) :
    Calls Tryz.prog 37 #[.pointer (some ⟨d, 0, none⟩), .int .i64 x] w fun e w' => e = .returned (.int .i64 k.pow) ∧ DiskM w' X d n (k.fail x) ∧ Kept X w w' := by
  obtain ⟨hok, H, S, v, h, ho⟩ := h
  have HH := Lib.hid h
  obtain ⟨_, _, _, _, c4, _, _⟩ := h.cell
  have hz := h.frozen 4
  have hoff := ho.1
  obtain ⟨safe, pend, armed, fails, dead, ops⟩ := k
  unfold Dk.pow Dk.fail
  simp only [] at h HH c4 ⊢
  clear h
  have HO := Lib.hid ho
  have HK := Lib.hid hok
  clear ho hok
  cases dead
  · simp only [Bool.false_eq_true, if_false]
    go_enter Tryz.func37, Tryz.ntmps37
    go_wp2_with (go_at_call 84; refine (power_any HH.out).mono ?_; rintro e w' ⟨rfl, rfl⟩; simp only [Bool.false_eq_true, if_false])
    go_ret
    exact ⟨rfl, ⟨{ HK.out with f0 := x0, f1 := x1 }, H, S, v, HH.out.fails_ x, HO.out⟩, (Kept.refl X w).setCell (p := ⟨d, 4, none⟩) hoff _⟩
  · simp only [if_true]
    go_enter Tryz.func37, Tryz.ntmps37
    go_wp2_with (go_at_call 84; refine (power_any HH.out).mono ?_; rintro e w' ⟨rfl, rfl⟩; simp only [if_true])
    go_ret
    exact ⟨rfl, ⟨HK.out, H, S, v, HH.out, HO.out⟩, Kept.refl X w⟩
set_option maxHeartbeats 1000000 in
theorem crash_k (h : DiskM w X d n k) (hX : ∀ b, X b → b < w.heap.size) (A : Option Addr) (len cap : Nat) (xs : List Bool) (hxs : RowB w X A len xs) :
    Calls Tryz.prog 39 #[.pointer (some ⟨d, 0, none⟩), .slice A len cap] w fun e w' => e = .returned (.int .i64 0) ∧ DiskM w' X d n (k.crash xs) ∧ Kept X w w' := by
  have hmf : ∀ (fn : Fn) (first cap : Array Value) (w : World), (Instr.makeFunc fn first cap).run Tryz.prog w = .ok (.func fn first cap) w := fun _ _ _ _ => rfl
  have hok' := h.ok.crash xs
  obtain ⟨hok, H, S, v, h, ho⟩ := h
  have hdl := h.blk.lt
  have hHl := h.hh.lt
  have hSl := h.ss.lt
  have HM := Lib.hid (h.alloc (.cells #[.slice A len cap] 94))
  have HG := Lib.hid (show Blk (w.alloc (.cells #[.slice A len cap] 94)) w.heap.size 94 #[.slice A len cap] from Blk.new w _ _)
  have HB := Lib.hid (show Below w.heap.size w (w.alloc (.cells #[.slice A len cap] 94)) from (Below.refl _ _).alloc (Nat.le_refl _) _)
  have HXS := Lib.hid (hxs.below HB.out hX)
  have HOK := Lib.hid hok
  have HOK2 := Lib.hid hok'
  have HO := Lib.hid ho
  clear h hok hok' hxs
  go_enter Tryz.func39, Tryz.ntmps39
  go_wp2_with fail
  generalize hw1 : w.alloc (.cells #[.slice A len cap] 94) = w1 at *
  have hz1 := HG.out.lt
  refine (settle_keep HM.out HOK.out.secs rfl HOK.out.len HOK.out.small HOK.out.fits w.heap.size A len cap xs X (HG.out.cell 0) ⟨hz1, by omega, by omega, by omega⟩ HXS.out (fun b x => ⟨Nat.lt_of_lt_of_le (hX b x) HB.out.size, fun e => ho.1 (e ▸ x), fun e => ho.2.1 (e ▸ x), fun e => ho.2.2.1 (e ▸ x)⟩)).mono ?_
  rintro e w2 ⟨rfl, hd2, hk2⟩
  have hk3 : Kept X w w2 := (Kept.of_below HB.out hX).trans hk2 (fun b x => ⟨Nat.lt_of_lt_of_le (hX b x) HB.out.size, fun e => ho.1 (e ▸ x), fun e => ho.2.1 (e ▸ x), fun e => ho.2.2.1 (e ▸ x)⟩)
  have HD2 := Lib.hid hd2
  have HK3 := Lib.hid hk3
  obtain ⟨_, _, _, c3, c4, c5, _⟩ := hd2.cell
  have z3 := hd2.frozen 3
  have z4 := hd2.frozen 4
  have z5 := hd2.frozen 5
  have hod := ho.1
  clear hd2 hk2 hk3 ho
  go_wp2
  go_ret
  refine ⟨rfl, ⟨HOK2.out, H, S, .slice none 0 0, ?_, HO.out.1, HO.out.2.1, HO.out.2.2.1, fun g hg => (by simp [Value.ownBlock] at hg)⟩, ((HK3.out.setCell (p := ⟨d, 3, none⟩) hod _).setCell (p := ⟨d, 4, none⟩) hod _).setCell (p := ⟨d, 5, none⟩) hod _⟩
  exact ((HD2.out.armed_ (-1)).fails_ (-1)).dead_ false
end
end Go.Proofs.YtodcohkblgjfeaaGreat

namespace Go.Proofs.YtodcohkblgjfeaaGreat
set_option maxRecDepth 100000
open Go.RowKit
set_option linter.unusedVariables false
set_option linter.unusedSimpArgs false
theorem sector_any (a b g r v f t : Int) (w : World) (h0 : 0 ≤ t) (h1 : t ≤ 18446744073709551615) :
    Calls Tryz.prog 94 #[.agg (turC a b g r v f t)] w fun e w' => e = .returned (.int .i64 (t % 2)) ∧ Below w.heap.size w w' := by
  have e1 : IntKind.u64.wrap (t.tmod 2) = t % 2 := by rw [Int.tmod_eq_emod_of_nonneg h0, IntKind.wrap_u64]; omega
  have e2 : IntKind.i64.wrap (t % 2) = t % 2 := IntWalk.i64_in _ ⟨by omega, by omega⟩
  go_enter Tryz.func94, Tryz.ntmps94
  go_wp2
  go_ret
  refine ⟨ret_int ?_, (Below.refl _ _).alloc (Nat.le_refl _) _⟩
  first | rfl | (rw [e1, e2]) | (rw [e1]) | omega
def nxt (t : Int) : Int := (t + 1) % 18446744073709551616
theorem nxt_in (t : Int) : 0 ≤ nxt t ∧ nxt t ≤ 18446744073709551615 := by unfold nxt; omega
theorem next_any_s7 (a b g r v f t : Int) (w : World) :
    Calls Tryz.prog 95 #[.agg (turC a b g r v f t)] w fun e w' => e = .returned (.agg (turC a b g r v f (nxt t))) ∧ Below w.heap.size w w' := by
  have e1 : IntKind.u64.wrap (t + 1) = nxt t := by rw [IntKind.wrap_u64]; rfl
  go_enter Tryz.func95, Tryz.ntmps95
  go_wp2_with (with_reducible refine halt_end ?_)
  exact Halt.ret (results_row1 (p := 2) rfl _ _ (w.heap.size + 1) 151 (turC a b g r v f (nxt t)) _ rfl (blk_new2 w _ _ _) Tryz.underlying151 rfl size_tur) rfl ⟨rfl, ((Below.refl _ _).alloc (Nat.le_refl _) _).alloc (by simp) _⟩
def BackS (g r v f g' r' v' f' : Int) : Prop := g' < g ∨ r' < r ∨ v' < v ∨ f' < f
instance aI7Sup10 (g r v f g' r' v' f' : Int) : Decidable (BackS g r v f g' r' v' f') := by unfold BackS; infer_instance
theorem back_any (a b g r v f a' b' g' r' v' f' : Int) (w : World) :
    Calls Tryz.prog 120 #[.agg (supC a b g r v f), .agg (supC a' b' g' r' v' f')] w fun e w' => e = .returned (.bool (decide (BackS g r v f g' r' v' f'))) ∧ Below w.heap.size w w' := by
  by_cases h0 : g' < g
  case pos =>
    have hyes : decide (BackS g r v f g' r' v' f') = true := decide_eq_true (Or.inl h0)
    rw [hyes]
    have e0 : decide (g' < g) = true := decide_eq_true h0
    go_enter Tryz.func120, Tryz.ntmps120
    go_wp2
    go_ret
    exact ⟨rfl, ((Below.refl _ _).alloc (Nat.le_refl _) _).alloc (by simp) _⟩
  have e0 : decide (g' < g) = false := decide_eq_false h0
  by_cases h1 : r' < r
  case pos =>
    have hyes : decide (BackS g r v f g' r' v' f') = true := decide_eq_true (Or.inr (Or.inl h1))
    rw [hyes]
    have e1 : decide (r' < r) = true := decide_eq_true h1
    go_enter Tryz.func120, Tryz.ntmps120
    go_wp2
    go_ret
    exact ⟨rfl, ((Below.refl _ _).alloc (Nat.le_refl _) _).alloc (by simp) _⟩
  have e1 : decide (r' < r) = false := decide_eq_false h1
  by_cases h2 : v' < v
  case pos =>
    have hyes : decide (BackS g r v f g' r' v' f') = true := decide_eq_true (Or.inr (Or.inr (Or.inl h2)))
    rw [hyes]
    have e2 : decide (v' < v) = true := decide_eq_true h2
    go_enter Tryz.func120, Tryz.ntmps120
    go_wp2
    go_ret
    exact ⟨rfl, ((Below.refl _ _).alloc (Nat.le_refl _) _).alloc (by simp) _⟩
  have e2 : decide (v' < v) = false := decide_eq_false h2
  by_cases h3 : f' < f
  case pos =>
    have hyes : decide (BackS g r v f g' r' v' f') = true := decide_eq_true (Or.inr (Or.inr (Or.inr h3)))
    rw [hyes]
    have e3 : decide (f' < f) = true := decide_eq_true h3
    go_enter Tryz.func120, Tryz.ntmps120
    go_wp2
    go_ret
    exact ⟨rfl, ((Below.refl _ _).alloc (Nat.le_refl _) _).alloc (by simp) _⟩
  have e3 : decide (f' < f) = false := decide_eq_false h3
  have hno : decide (BackS g r v f g' r' v' f') = false := decide_eq_false (fun h => by rcases h with h | h | h | h; exact h0 h; exact h1 h; exact h2 h; exact h3 h)
  rw [hno]
  go_enter Tryz.func120, Tryz.ntmps120
  go_wp2
  go_ret
  exact ⟨rfl, ((Below.refl _ _).alloc (Nat.le_refl _) _).alloc (by simp) _⟩
theorem area_in {a b g r : Int} (h : MayS a b g r) : 96 ≤ a * b ∧ a * b ≤ 1024 := by
  obtain ⟨h1, h2, h3, h4, _⟩ := h
  have e1 : (4 : Int) * 24 ≤ a * b := Int.mul_le_mul h1 h3 (by omega) (by omega)
  have e2 : a * b ≤ 16 * 64 := Int.mul_le_mul h2 h4 (by omega) (by omega)
  omega
theorem room_any {w : World} {X : Nat → Prop} {d n : Nat} {k : Dk} (hd : DiskM w X d n k) (a b g r v f : Int) (h : MayS a b g r) :
    Calls Tryz.prog 90 #[.pointer (some ⟨d, 0, none⟩), .agg (supC a b g r v f)] w fun e w' => e = .returned (.bool (decide (2 + a * b ≤ (n : Int)))) ∧ Below w.heap.size w w' := by
  have har := area_in h
  have e1 : IntKind.i64.wrap (a * b) = a * b := IntWalk.i64_in _ ⟨by omega, by omega⟩
  have e2 : IntKind.i64.wrap (2 + a * b) = 2 + a * b := IntWalk.i64_in _ ⟨by omega, by omega⟩
  have HD := Lib.hid (hd.below (w' := w.alloc (.cells (supC a b g r v f) 32)) ((Below.refl _ _).alloc (Nat.le_refl _) _) (fun b _ h => h))
  clear hd h har
  go_enter Tryz.func90, Tryz.ntmps90
  go_wp2
  go_quiet ((go_at_call 87; exact quiet_draw ((len_k (HD.out.drewN _)).mono (fun e w' ⟨h1, h2⟩ => ⟨h1, 0, h2⟩))))
  go_wp2
  go_ret
  exact ⟨rfl, below_drewN ((Below.refl _ _).alloc (Nat.le_refl _) _) _⟩
end Go.Proofs.YtodcohkblgjfeaaGreat

namespace Go.Proofs.YtodcohkblgjfeaaGreat
set_option maxRecDepth 100000
open Go.RowKit
set_option linter.unusedVariables false
set_option linter.unusedSimpArgs false
theorem one_sup (a b g r v f : Int) : (supC a b g r v f).all (·.oneCell') = true := by simp [supC, Value.oneCell']
abbrev dc0 : Oper := { dst := some 12, op := Go.Op.fieldAddr 95 (Go.Operand.tmp 5) 0, type := 0, pos := "super.go:142", after := #[], guard := none }
abbrev dc1 : Oper := { dst := some 13, op := Go.Op.load 24 (Go.Operand.tmp 12), type := 24, pos := "super.go:142", after := #[{ on := 0, ground := Go.Ground.data }], guard := none }
abbrev dc2 : Oper := { dst := some 14, op := Go.Op.fieldAddr 95 (Go.Operand.tmp 5) 1, type := 0, pos := "super.go:142", after := #[{ on := 5, ground := Go.Ground.gcOnly Go.Departure.lateStores }], guard := none }
abbrev dc3 : Oper := { dst := some 15, op := Go.Op.load 22 (Go.Operand.tmp 14), type := 22, pos := "super.go:142", after := #[{ on := 2, ground := Go.Ground.data }, { on := 5, ground := Go.Ground.gcOnly Go.Departure.lateStores }], guard := none }
abbrev dc4 : Oper := { dst := some 16, op := Go.Op.move (Go.Operand.tmp 6), type := 28, pos := "super.go:142", after := #[{ on := 6, ground := Go.Ground.gcOnly Go.Departure.lateStores }], guard := none }
abbrev dc5 : Oper := { dst := none, op := Go.Op.store 24 (Go.Operand.tmp 2) (Go.Operand.tmp 13), type := 0, pos := "super.go:142", after := #[{ on := 1, ground := Go.Ground.data }, { on := 0, ground := Go.Ground.phase }, { on := 1, ground := Go.Ground.phase }, { on := 2, ground := Go.Ground.textOnly Go.Departure.lateStores }, { on := 3, ground := Go.Ground.textOnly Go.Departure.lateStores }, { on := 4, ground := Go.Ground.textOnly Go.Departure.lateStores }], guard := none }
abbrev dc6 : Oper := { dst := some 3, op := Go.Op.assign (Go.Operand.tmp 15), type := 22, pos := "super.go:142", after := #[{ on := 3, ground := Go.Ground.data }, { on := 5, ground := Go.Ground.chain }, { on := 0, ground := Go.Ground.phase }, { on := 1, ground := Go.Ground.phase }, { on := 2, ground := Go.Ground.phase }, { on := 3, ground := Go.Ground.phase }, { on := 4, ground := Go.Ground.textOnly Go.Departure.lateStores }, { on := 5, ground := Go.Ground.phase }], guard := none }
abbrev dc7 : Oper := { dst := some 4, op := Go.Op.assign (Go.Operand.tmp 16), type := 28, pos := "super.go:142", after := #[{ on := 4, ground := Go.Ground.data }, { on := 6, ground := Go.Ground.chain }, { on := 0, ground := Go.Ground.phase }, { on := 1, ground := Go.Ground.phase }, { on := 2, ground := Go.Ground.phase }, { on := 3, ground := Go.Ground.phase }, { on := 4, ground := Go.Ground.phase }, { on := 5, ground := Go.Ground.phase }, { on := 6, ground := Go.Ground.phase }], guard := none }
theorem get_nil (w : World) : Calls Tryz.prog 27 #[.pointer none] w fun e w' => e = .returned (.agg (supC 0 0 0 0 0 0)) ∧ Below w.heap.size w w' := by
  go_enter Tryz.func27, Tryz.ntmps27
  go_wp2_with (with_reducible refine halt_end ?_)
  exact Halt.ret (results_row1 (p := 2) rfl _ _ w.heap.size 32 (supC 0 0 0 0 0 0) _ rfl (Blk.new w _ _) Tryz.underlying32 rfl size_sup) rfl ⟨rfl, (Below.refl _ _).alloc (Nat.le_refl _) _⟩
theorem disk_nil (w : World) : Calls Tryz.prog 63 #[.pointer none] w fun e w' => e = .returned (.pointer none) ∧ w = w' := by
  go_enter Tryz.func63, Tryz.ntmps63
  go_wp2
  go_ret
  exact ⟨rfl, rfl⟩
theorem base_nil (i : Int) (w : World) : Calls Tryz.prog 31 #[.pointer none, .int .i64 i] w fun e w' => e = .returned (.tuple #[.int .i64 0, .int .i64 1]) ∧ w = w' := by
  go_enter Tryz.func31, Tryz.ntmps31
  go_wp2
  go_ret2
  exact ⟨rfl, rfl⟩
theorem set_nil (a b g r v f : Int) (w : World) : Calls Tryz.prog 70 #[.pointer none, .agg (supC a b g r v f)] w fun e w' => e = .returned (.int .i64 1) ∧ Below w.heap.size w w' := by
  go_enter Tryz.func70, Tryz.ntmps70
  go_wp2
  go_ret
  exact ⟨rfl, (Below.refl _ _).alloc (Nat.le_refl _) _⟩
theorem format_nil (a b : Int) (w : World) : Calls Tryz.prog 44 #[.pointer none, .int .i64 a, .int .i64 b] w fun e w' => e = .returned (.tuple #[.pointer none, .int .i64 1]) ∧ w = w' := by
  go_enter Tryz.func44, Tryz.ntmps44
  go_wp2
  go_ret2
  exact ⟨rfl, rfl⟩
theorem open_nil (w : World) : Calls Tryz.prog 40 #[.pointer none] w fun e w' => e = .returned (.tuple #[.pointer none, .int .i64 1]) ∧ w = w' := by
  go_enter Tryz.func40, Tryz.ntmps40
  go_wp2
  go_ret2
  exact ⟨rfl, rfl⟩
end Go.Proofs.YtodcohkblgjfeaaGreat

namespace Go.Proofs.YtodcohkblgjfeaaGreat
set_option maxRecDepth 100000
open Go.RowKit
set_option linter.unusedVariables false
set_option linter.unusedSimpArgs false
abbrev stoC (a b g r v f t : Int) (d : Nat) : Array Value := #[.int .i64 a, .int .i64 b, .int .u64 g, .int .u64 r, .int .u64 v, .int .u64 f, .int .u64 t, .pointer (some ⟨d, 0, none⟩)]
def StoreM (w : World) (X : Nat → Prop) (p d n : Nat) (a b g r v f t : Int) (k : Dk) : Prop :=
  Blk w p 153 (stoC a b g r v f t d) ∧ DiskM w (fun c => X c ∨ c = p) d n k ∧ ¬ X p
theorem format_arg {w : World} {X : Nat → Prop} {d n : Nat} {k : Dk} (hd : DiskM w X d n k) (a b : Int) (h : ¬ MayS a b 0 0) :
    Calls Tryz.prog 44 #[.pointer (some ⟨d, 0, none⟩), .int .i64 a, .int .i64 b] w fun e w' => e = .returned (.tuple #[.pointer none, .int .i64 2]) ∧ Below w.heap.size w w' := by
  have HNO := Lib.hid h
  clear h hd
  go_enter Tryz.func44, Tryz.ntmps44
  go_wp2_with fail
  refine (block_bad a b 0 0 0 0 0 _ HNO.out).mono ?_
  rintro e w2 ⟨rfl, hb⟩
  have HB2 := Lib.hid (((Below.refl w.heap.size w).alloc (Nat.le_refl _) (.cells (turC a b 0 0 0 0 0) 151)).trans (hb.mono (by simp)))
  clear hb
  go_wp2_with (first
    | (refine wpList_alloc_blk rfl rfl ?_)
    | (refine wpList_store_new (.tmp 9) (.tmp 23) rfl rfl w2 (noughts 64) rfl rfl (noughts 64) rfl (noughts_length 64) (noughts_length 64) ?_))
  go_ret2
  exact ⟨rfl, HB2.out.alloc HB2.out.size _⟩
theorem format_room {w : World} {X : Nat → Prop} {d n : Nat} {k : Dk} (hd : DiskM w X d n k) (a b : Int) (h : MayS a b 0 0) (hr : (n : Int) < 2 + a * b) :
    Calls Tryz.prog 44 #[.pointer (some ⟨d, 0, none⟩), .int .i64 a, .int .i64 b] w fun e w' => e = .returned (.tuple #[.pointer none, .int .i64 170]) ∧ Below w.heap.size w w' := by
  have HMAY := Lib.hid h
  have HRM := Lib.hid (show decide (2 + a * b ≤ (n : Int)) = false from decide_eq_false (by omega))
  have hin : InS a b 0 0 0 0 := by obtain ⟨_, _, _, _, _⟩ := h; unfold InS; omega
  have HIN := Lib.hid hin
  have hsl := supL_length a b 0 0 0 0 0
  have HBK := Lib.hid (fun u => block_ok a b 0 0 0 0 0 u h hin ⟨by omega, by omega⟩)
  generalize supL a b 0 0 0 0 0 = sl at *
  have HSL := Lib.hid hsl
  have HD := Lib.hid hd
  clear h hr hin hsl hd
  go_enter Tryz.func44, Tryz.ntmps44
  go_wp2_with fail
  have HT1 := Lib.hid (show Blk (w.alloc (.cells (turC a b 0 0 0 0 0) 151)) w.heap.size 151 (turC a b 0 0 0 0 0) from Blk.new w _ _)
  have HB1 := Lib.hid (show Below w.heap.size w (w.alloc (.cells (turC a b 0 0 0 0 0) 151)) from (Below.refl _ _).alloc (Nat.le_refl _) _)
  generalize hw1 : w.alloc (.cells (turC a b 0 0 0 0 0) 151) = w1 at *
  clear hw1
  refine (HBK.out _).mono ?_
  rintro e w2 ⟨rfl, hb⟩
  have HB2 := Lib.hid (HB1.out.trans (hb.mono HB1.out.size))
  have HT2 := Lib.hid (HT1.out.below hb HT1.out.lt)
  obtain ⟨w3, hw3⟩ : ∃ w3, w3 = w2.alloc (.cells (cells8 sl) 84) := ⟨_, rfl⟩
  have HW3 := Lib.hid hw3
  have HT3 := Lib.hid (show Blk w3 w.heap.size 151 (turC a b 0 0 0 0 0) by rw [hw3]; exact HT2.out.alloc _)
  have HB3 := Lib.hid (show Below w.heap.size w w3 by rw [hw3]; exact HB2.out.alloc HB2.out.size _)
  clear hb hw3
  obtain ⟨c0, c1, c2, c3, c4, c5⟩ : _ ∧ _ ∧ _ ∧ _ ∧ _ ∧ _ := ⟨HT3.out.cell 0, HT3.out.cell 1, HT3.out.cell 2, HT3.out.cell 3, HT3.out.cell 4, HT3.out.cell 5⟩
  simp only [List.getElem?_toArray, List.getElem?_cons_zero, List.getElem?_cons_succ] at c0 c1 c2 c3 c4 c5
  go_wp2_with (first
    | (refine wpList_alloc_blk rfl rfl ?_)
    | (refine wpList_store_new (.tmp 9) (.tmp 23) rfl rfl w2 sl rfl rfl (noughts 64) rfl (noughts_length 64) HSL.out ?_; rw [← HW3.out]))
  refine (room_any (HD.out.below (Y := X) HB3.out (fun b _ h => h)) a b 0 0 0 0 HMAY.out).mono ?_
  rintro e w4 ⟨rfl, hb⟩
  rw [HRM.out]
  have HB4 := Lib.hid (HB3.out.trans (hb.mono HB3.out.size))
  clear hb
  go_wp2_with fail
  go_ret2
  exact ⟨rfl, HB4.out⟩
abbrev fm0 : Oper := { dst := some 35, op := Go.Op.move (Go.Operand.tmp 0), type := 27, pos := "super.go:45", after := #[], guard := none }
abbrev fm1 : Oper := { dst := some 36, op := Go.Op.load 151 (Go.Operand.tmp 8), type := 151, pos := "super.go:45", after := #[], guard := none }
abbrev fm2 : Oper := { dst := some 37, op := Go.Op.call { callee := Go.Callee.value (Go.Operand.func 94), args := #[Go.Operand.tmp 36], argTypes := #[151] }, type := 3, pos := "super.go:45", after := #[{ on := 1, ground := Go.Ground.data }], guard := none }
abbrev fm3 : Oper := { dst := some 38, op := Go.Op.load 84 (Go.Operand.tmp 9), type := 84, pos := "super.go:45", after := #[], guard := none }
abbrev fm4 : Oper := { dst := some 39, op := Go.Op.call { callee := Go.Callee.value (Go.Operand.func 32), args := #[Go.Operand.tmp 35, Go.Operand.tmp 37, Go.Operand.tmp 38], argTypes := #[27, 3, 84] }, type := 49, pos := "super.go:45", after := #[{ on := 0, ground := Go.Ground.data }, { on := 2, ground := Go.Ground.data }, { on := 3, ground := Go.Ground.data }, { on := 2, ground := Go.Ground.chain }], guard := none }
abbrev fm5 : Oper := { dst := some 11, op := Go.Op.assign (Go.Operand.tmp 39), type := 49, pos := "super.go:45", after := #[{ on := 4, ground := Go.Ground.data }, { on := 4, ground := Go.Ground.chain }, { on := 0, ground := Go.Ground.phase }, { on := 1, ground := Go.Ground.phase }, { on := 2, ground := Go.Ground.phase }, { on := 3, ground := Go.Ground.phase }, { on := 4, ground := Go.Ground.phase }], guard := none }
set_option maxHeartbeats 2000000 in
set_option maxRecDepth 100000 in
theorem format_go {w : World} {X : Nat → Prop} {d n : Nat} {k : Dk} (hd : DiskM w X d n k) (hX : ∀ c, X c → c < w.heap.size) (a b : Int) (h : MayS a b 0 0) (hr : 2 + a * b ≤ (n : Int)) (hp : k.pend.length ≤ 1000) (h0 : k.wre = 0)
    (h1 : (k.wr (Dk.put 0 (supL a b 0 0 0 0 0))).wre = 0) (h2 : ((k.wr (Dk.put 0 (supL a b 0 0 0 0 0))).wr (Dk.put 1 (noughts 64))).wre = 0) :
    Calls Tryz.prog 44 #[.pointer (some ⟨d, 0, none⟩), .int .i64 a, .int .i64 b] w fun e w' => ∃ p, e = .returned (.tuple #[.pointer (some ⟨p, 0, none⟩), .int .i64 0]) ∧
      StoreM w' X p d n a b 0 0 0 0 0 (((k.wr (Dk.put 0 (supL a b 0 0 0 0 0))).wr (Dk.put 1 (noughts 64))).wr Dk.sync) ∧ Kept X w w' := by
  have hn2 : 98 ≤ n := by have := (area_in h).1; omega
  have hp1 : (k.wr (Dk.put 0 (supL a b 0 0 0 0 0))).pend.length ≤ 1000000 := by
    unfold Dk.wr
    split
    · omega
    split
    · show k.pend.length ≤ _; omega
    split
    · show k.pend.length ≤ _; omega
    · show (k.pend ++ [_]).length ≤ _; simp; omega
  have HMAY := Lib.hid h
  have HRM := Lib.hid (show decide (2 + a * b ≤ (n : Int)) = true from decide_eq_true hr)
  have hin : InS a b 0 0 0 0 := by obtain ⟨_, _, _, _, _⟩ := h; unfold InS; omega
  have hsl := supL_length a b 0 0 0 0 0
  have hsb := supL_bytes a b 0 0 0 0 0
  have HBK := Lib.hid (fun u => block_ok a b 0 0 0 0 0 u h hin ⟨by omega, by omega⟩)
  generalize supL a b 0 0 0 0 0 = sl at *
  have HSL := Lib.hid hsl
  have HSB := Lib.hid hsb
  have HD := Lib.hid hd
  have HX := Lib.hid hX
  have H0 := Lib.hid h0
  have H1 := Lib.hid h1
  have H2 := Lib.hid h2
  have HP1 := Lib.hid hp1
  clear h hr hin hsl hd hX h0 h1 h2 hsb hp1
  go_enter Tryz.func44, Tryz.ntmps44
  go_wp2_with fail
  have HT1 := Lib.hid (show Blk (w.alloc (.cells (turC a b 0 0 0 0 0) 151)) w.heap.size 151 (turC a b 0 0 0 0 0) from Blk.new w _ _)
  have HB1 := Lib.hid (show Below w.heap.size w (w.alloc (.cells (turC a b 0 0 0 0 0) 151)) from (Below.refl _ _).alloc (Nat.le_refl _) _)
  generalize hw1 : w.alloc (.cells (turC a b 0 0 0 0 0) 151) = w1 at *
  clear hw1
  refine (HBK.out _).mono ?_
  rintro e w2 ⟨rfl, hb⟩
  have HB2 := Lib.hid (HB1.out.trans (hb.mono HB1.out.size))
  have HT2 := Lib.hid (HT1.out.below hb HT1.out.lt)
  have HZ2 := Lib.hid (show w.heap.size < w2.heap.size from HT2.out.lt)
  obtain ⟨w3, hw3⟩ : ∃ w3, w3 = w2.alloc (.cells (cells8 sl) 84) := ⟨_, rfl⟩
  have HW3 := Lib.hid hw3
  have HT3 := Lib.hid (show Blk w3 w.heap.size 151 (turC a b 0 0 0 0 0) by rw [hw3]; exact HT2.out.alloc _)
  have HV3 := Lib.hid (show ArrB w3 w2.heap.size sl by rw [hw3]; exact Blk.new w2 _ _)
  have HB3 := Lib.hid (show Below w.heap.size w w3 by rw [hw3]; exact HB2.out.alloc HB2.out.size _)
  clear hb hw3
  obtain ⟨c0, c1, c2, c3, c4, c5⟩ : _ ∧ _ ∧ _ ∧ _ ∧ _ ∧ _ := ⟨HT3.out.cell 0, HT3.out.cell 1, HT3.out.cell 2, HT3.out.cell 3, HT3.out.cell 4, HT3.out.cell 5⟩
  simp only [List.getElem?_toArray, List.getElem?_cons_zero, List.getElem?_cons_succ] at c0 c1 c2 c3 c4 c5
  go_wp2_with (first
    | (refine wpList_alloc_blk rfl rfl ?_)
    | (refine wpList_store_new (.tmp 9) (.tmp 23) rfl rfl w2 sl rfl rfl (noughts 64) rfl (noughts_length 64) HSL.out ?_; rw [← HW3.out]))
  clear c0 c1 c2 c3 c4 c5
  have HD3 := Lib.hid (show DiskM w3 (fun c => X c ∨ c = w.heap.size ∨ c = w2.heap.size) d n k from HD.out.below HB3.out (fun c hc h => by rcases h with h | h | h; exact h; omega; have := HZ2.out; omega))
  refine (room_any HD3.out a b 0 0 0 0 HMAY.out).mono ?_
  rintro e w4 ⟨rfl, hb⟩
  rw [HRM.out]
  have HD4 := Lib.hid (HD3.out.below (Y := fun c => X c ∨ c = w.heap.size ∨ c = w2.heap.size) hb (fun c _ h => h))
  have HT4 := Lib.hid (HT3.out.below hb HT3.out.lt)
  have HV4 := Lib.hid (show ArrB w4 w2.heap.size sl from Arr.below HV3.out hb HV3.out.lt)
  have HB4 := Lib.hid (HB3.out.trans (hb.mono HB3.out.size))
  clear hb
  go_wp2_with fail
  have hr8 : w4.rangeAt w.heap.size 0 (turC a b 0 0 0 0 0).toList := Blk.rangeL (cs := (turC a b 0 0 0 0 0).toList) HT4.out
  have hr9 := HV4.out.range
  have hu65 := Tryz.underlying151
  have hu26 := Tryz.underlying84
  have hs65 : (Tryz.prog.info? 151).map (·.size) = some (turC a b 0 0 0 0 0).toList.length := size_tur
  have hs26 : (Tryz.prog.info? 84).map (·.size) = some (sl.map (Value.int .u8)).length := by rw [size_blk, List.length_map, HSL.out]
  refine wp_region_noPanic ?_
  refine Tillst.region (fun W => W.rangeAt w.heap.size 0 (turC a b 0 0 0 0 0).toList ∧ W.rangeAt w2.heap.size 0 (sl.map (Value.int .u8))) [] (by kernel_rfl) ⟨hr8, hr9⟩ (fun hHeld => ?_)
  refine Tillst.take (i := 0) (oi := fm0) (v := ?_) rfl (by kernel_rfl) (by kernel_rfl) (by kernel_rfl) (by kernel_rfl) (fun _ _ _ h => h) (by rfl) ?_ hHeld ?_
  rotate_left
  · intro W hSW; (try dsimp only at hSW); unfold fm0; go_simp; with_reducible rfl
  simp only [fm0, Act.put, List.setIfInBounds_toArray, List.set_cons_zero, List.set_cons_succ]
  refine Tillst.take (i := 1) (oi := fm1) (v := ?_) rfl (by kernel_rfl) (by kernel_rfl) (by kernel_rfl) (by kernel_rfl) (fun _ _ _ h => h) (by rfl) ?_ hHeld ?_
  rotate_left
  · intro W hSW; refine exec_load_row (.tmp 8) 151 ?_ w.heap.size 0 ?_ (turC a b 0 0 0 0 0).toList _ hu65 rfl hs65 hSW.1 <;> rfl
  simp only [fm1, Act.put, List.setIfInBounds_toArray, List.set_cons_zero, List.set_cons_succ]
  refine Tillst.take (i := 3) (oi := fm3) (v := ?_) rfl (by kernel_rfl) (by kernel_rfl) (by kernel_rfl) (by kernel_rfl) (fun _ _ _ h => h) (by rfl) ?_ hHeld ?_
  rotate_left
  · intro W hSW; refine exec_load_row (.tmp 9) 84 ?_ w2.heap.size 0 ?_ (sl.map (Value.int .u8)) _ hu26 rfl hs26 hSW.2 <;> rfl
  simp only [fm3, Act.put, List.setIfInBounds_toArray, List.set_cons_zero, List.set_cons_succ]
  refine Tillst.one (i := 2) (o := fm2) (by kernel_rfl) rfl ?_
  intro K hK
  refine step_call 94 #[.tmp 36] #[151] rfl rfl Tryz.func94 rfl rfl [.agg (turC a b 0 0 0 0 0)] rfl ?_
  refine (sector_any a b 0 0 0 0 0 w4.drew (by omega) (by omega)).mono ?_
  rintro e w5 ⟨rfl, hb⟩
  have hb5 : Below w4.heap.size w4 w5 := (Below.refl _ _).drew.trans hb
  have HD5 := Lib.hid (HD4.out.below (Y := fun c => X c ∨ c = w.heap.size ∨ c = w2.heap.size) hb5 (fun c _ h => h))
  have HT5 := Lib.hid (HT4.out.below hb5 HT4.out.lt)
  have HV5 := Lib.hid (show ArrB w5 w2.heap.size sl from Arr.below HV4.out hb5 HV4.out.lt)
  have HB5 := Lib.hid (HB4.out.trans (hb5.mono HB4.out.size))
  have HZ5 := Lib.hid (show w2.heap.size < w5.heap.size from HV5.out.lt)
  have hS := And.intro (Blk.rangeL (cs := (turC a b 0 0 0 0 0).toList) HT5.out) HV5.out.range
  clear hb hb5
  refine ⟨_, rfl, ?_⟩
  simp only [fm2, Act.put, List.setIfInBounds_toArray, List.set_cons_zero, List.set_cons_succ]
  refine hK.out _ _ (fun _ => hS) (fun hHeld => ?_)
  replace hHeld := hHeld (by decide)
  clear hK K hS
  refine Tillst.one (i := 4) (o := fm4) (by kernel_rfl) rfl ?_
  intro K hK
  refine step_call 32 #[.tmp 35, .tmp 37, .tmp 38] #[27, 3, 84] rfl rfl Tryz.func32 rfl rfl [.pointer (some ⟨d, 0, none⟩), .int .i64 0, .agg (cells8 sl)] rfl ?_
  refine (write_k HD5.out (fun c h => by rcases h with h | h | h; exact Nat.lt_of_lt_of_le (HX.out c h) HB5.out.size; have := HZ2.out; have := HZ5.out; omega; have := HZ5.out; omega) 0 (by omega) sl HSL.out HSB.out (by omega)).mono ?_
  rintro e w6 ⟨rfl, hd6, hk6⟩
  rw [H0.out]
  have HD6 := Lib.hid hd6
  have HT6 := Lib.hid (HT5.out.kept hk6 (.inr (.inl rfl)))
  have HV6 := Lib.hid (show ArrB w6 w2.heap.size sl from Arr.kept HV5.out hk6 (.inr (.inr rfl)))
  have HK6 := Lib.hid (show Kept X w w6 from (Kept.of_below HB5.out HX.out).trans hk6 (fun c h => .inl h))
  have HZ6 := Lib.hid (show w2.heap.size < w6.heap.size from HV6.out.lt)
  have hS := And.intro (Blk.rangeL (cs := (turC a b 0 0 0 0 0).toList) HT6.out) HV6.out.range
  clear hd6 hk6
  refine ⟨_, rfl, ?_⟩
  simp only [fm4, Act.put, List.setIfInBounds_toArray, List.set_cons_zero, List.set_cons_succ]
  refine hK.out _ _ (fun _ => hS) (fun hHeld => ?_)
  replace hHeld := hHeld (by decide)
  clear hK K hS
  refine Tillst.one (i := 5) (o := fm5) (by kernel_rfl) rfl ?_
  intro K hK
  refine step_value ?_ rfl ?_ ?_
  rotate_left
  · unfold fm5; go_simp; with_reducible rfl
  simp only [fm5, Act.put, List.setIfInBounds_toArray, List.set_cons_zero, List.set_cons_succ]
  refine hK.out _ _ (fun _ => hHeld) (fun hHeld => ?_)
  replace hHeld := hHeld (by decide)
  clear hK K
  refine Tillst.done (by kernel_rfl) ?_ _
  refine NoPanic.normal ?_
  clear hHeld hr8 hr9 hs26
  obtain ⟨c0, c1, c2, c3, c4, c5, c6⟩ : _ ∧ _ ∧ _ ∧ _ ∧ _ ∧ _ ∧ _ := ⟨HT6.out.cell 0, HT6.out.cell 1, HT6.out.cell 2, HT6.out.cell 3, HT6.out.cell 4, HT6.out.cell 5, HT6.out.cell 6⟩
  simp only [List.getElem?_toArray, List.getElem?_cons_zero, List.getElem?_cons_succ] at c0 c1 c2 c3 c4 c5 c6
  go_wp2_with fail
  clear c0 c1 c2 c3 c4 c5 c6
  refine (next_any_s7 a b 0 0 0 0 0 _).mono ?_
  rintro e w7 ⟨rfl, hb⟩
  have hb7 : Below w6.heap.size w6 w7 := hb
  go_wp2_with fail
  refine (sector_any a b 0 0 0 0 (nxt 0) _ (nxt_in 0).1 (nxt_in 0).2).mono ?_
  rintro e w8 ⟨rfl, hb⟩
  have hb8 : Below w6.heap.size w6 w8 := hb7.trans (hb.mono hb7.size)
  have HD8 := Lib.hid (HD6.out.below (Y := fun c => X c ∨ c = w.heap.size ∨ c = w2.heap.size) hb8 (fun c _ h => h))
  have HT8 := Lib.hid (HT6.out.below hb8 HT6.out.lt)
  have HK8 := Lib.hid (show Kept X w w8 from HK6.out.below hb8 (fun c h => Nat.lt_of_lt_of_le (HX.out c h) HK6.out.size))
  have HZ8 := Lib.hid (show w2.heap.size < w8.heap.size from Nat.lt_of_lt_of_le HZ6.out hb8.size)
  have e1 : nxt 0 % 2 = 1 := by decide
  rw [e1]
  clear hb hb7 hb8 e1
  go_wp2_with (refine wpList_build_blk rfl rfl ?_)
  have hw : (1 : Int) = ((1 : Nat) : Int) := rfl
  rw [hw]
  clear hw
  refine (write_k HD8.out (fun c h => by rcases h with h | h | h; exact Nat.lt_of_lt_of_le (HX.out c h) HK8.out.size; have := HZ2.out; have := HZ8.out; omega; have := HZ8.out; omega) 1 (by omega) (noughts 64) (noughts_length 64) (noughts_bytes 64) HP1.out).mono ?_
  rintro e w9 ⟨rfl, hd9, hk9⟩
  rw [H1.out]
  have HD9 := Lib.hid hd9
  have HT9 := Lib.hid (HT8.out.kept hk9 (.inr (.inl rfl)))
  have HK9 := Lib.hid (show Kept X w w9 from HK8.out.trans hk9 (fun c h => .inl h))
  clear hd9 hk9
  go_wp2_with fail
  have hlt9 := HT9.out.lt
  refine (sync_k (HD9.out.mono (Y := fun c => X c ∨ c = w.heap.size) (fun c _ h => by rcases h with h | h; exact .inl h; exact .inr (.inl h))) (fun c h => by rcases h with h | h; exact Nat.lt_of_lt_of_le (HX.out c h) HK9.out.size; omega)).mono ?_
  rintro e wa ⟨rfl, hda, hka⟩
  rw [H2.out]
  have HDa := Lib.hid hda
  have HTa := Lib.hid (HT9.out.kept hka (.inr rfl))
  have HKa := Lib.hid (show Kept X w wa from HK9.out.trans hka (fun c h => .inl h))
  clear hda hka
  obtain ⟨c0, c1, c2, c3, c4, c5, c6⟩ : _ ∧ _ ∧ _ ∧ _ ∧ _ ∧ _ ∧ _ := ⟨HTa.out.cell 0, HTa.out.cell 1, HTa.out.cell 2, HTa.out.cell 3, HTa.out.cell 4, HTa.out.cell 5, HTa.out.cell 6⟩
  simp only [List.getElem?_toArray, List.getElem?_cons_zero, List.getElem?_cons_succ] at c0 c1 c2 c3 c4 c5 c6
  go_wp2_with fail
  go_ret2
  refine ⟨wa.heap.size, rfl, ⟨Blk.new wa _ _, HDa.out.below ((Below.refl _ _).alloc (Nat.le_refl _) _) (fun c hc h => ?_), ?_⟩, HKa.out.alloc (fun c h => Nat.lt_of_lt_of_le (HX.out c h) HKa.out.size) _⟩
  · rcases h with h | h
    · exact .inl h
    · exact absurd h (by omega)
  · intro h
    have := HX.out _ h
    have := HKa.out.size
    omega
end Go.Proofs.YtodcohkblgjfeaaGreat
