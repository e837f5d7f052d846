/- Texts of LogOpens, packed. -/
import Derived.Test.YtodcohkblgjfeaaGreatPackLogOpens7
import Derived.Deep.MidRow
import Derived.Deep.WholeRow
import Derived.Laws.StructEq
import Derived.Deep.RegionHeld3
namespace Go.Proofs.YtodcohkblgjfeaaGreat
set_option maxRecDepth 100000
open Go.RowKit
set_option linter.unusedVariables false
set_option linter.unusedSimpArgs false
def TurnT (w : World) (sec : Int) (E : Int) (ys : List Seg) (e : Ending) (w' : World) : Prop :=
  (E = 0 ∧ (∃ v, e = .returned (.tuple #[v, .int .i64 0]) ∧ RingO w' w.heap.size v sec ys) ∨
   E ≠ 0 ∧ e = .returned (.tuple #[ringV 0 none 0 0, .int .i64 E])) ∧ Below w.heap.size w w'
theorem TurnT.no {w w' : World} {sec E : Int} {ys : List Seg} (h0 : E ≠ 0) (hb : Below w.heap.size w w') : TurnT w sec E ys (.returned (.tuple #[ringV 0 none 0 0, .int .i64 E])) w' := ⟨.inr ⟨h0, rfl⟩, hb⟩
theorem seal_yes {sec : Int} {xs : List Seg} (h : sealE sec xs = 0) : OkR sec xs ∧ ¬ opnR xs < 0 := by
  unfold sealE at h
  by_cases hk : OkR sec xs
  · rw [if_neg (fun k => k hk)] at h
    by_cases h1 : opnR xs < 0
    · rw [if_pos h1] at h; omega
    · exact ⟨hk, h1⟩
  · rw [if_pos hk] at h; omega
theorem use_seal {sec : Int} {xs : List Seg} {n : Int} (h : sealE sec xs ≠ 0) : useE sec xs n = sealE sec xs := by
  unfold useE sealE at *
  by_cases hk : OkR sec xs
  · by_cases h1 : opnR xs < 0
    · simp [hk, h1]
    · simp [hk, h1] at h
  · simp [hk]
theorem use_arg {sec : Int} {xs : List Seg} {n : Int} (h : sealE sec xs = 0) (h2 : n < 0) : useE sec xs n = 2 := by
  obtain ⟨hk, h1⟩ := seal_yes h
  unfold useE; rw [if_neg (fun k => k hk), if_neg h1, if_pos h2]
theorem use_full {sec : Int} {xs : List Seg} {n : Int} (h : sealE sec xs = 0) (h2 : ¬ n < 0) (h3 : leftR sec xs < n) : useE sec xs n = 6 := by
  obtain ⟨hk, h1⟩ := seal_yes h
  unfold useE; rw [if_neg (fun k => k hk), if_neg h1, if_neg h2, if_pos h3]
theorem use_go {sec : Int} {xs : List Seg} {n : Int} (h : sealE sec xs = 0) (h2 : ¬ n < 0) (h3 : ¬ leftR sec xs < n) : useE sec xs n = 0 := by
  obtain ⟨hk, h1⟩ := seal_yes h
  unfold useE; rw [if_neg (fun k => k hk), if_neg h1, if_neg h2, if_neg h3]
theorem opn_nat {sec : Int} {xs : List Seg} (h : OkR sec xs) (h1 : ¬ opnR xs < 0) : ∃ i : Nat, i < xs.length ∧ opnR xs = i ∧ stG xs i = 1 := by
  rcases opn_or h with ⟨e, _⟩ | ⟨i, hi, e, _, hs⟩
  · omega
  · exact ⟨i, hi, e, hs⟩
theorem used_bound {sec : Int} {xs : List Seg} (h : OkR sec xs) {i : Nat} (hi : i < xs.length) : 0 ≤ usedG xs i ∧ usedG xs i ≤ 64 ∧ 24 ≤ sec ∧ sec ≤ 64 := by
  have h1 := h.1
  unfold SizedR at h1
  have h2 := may_at h.2.1 hi
  unfold MayG at h2
  split at h2
  · simp only [usedG]; omega
  · simp only [usedG]; omega
set_option maxRecDepth 100000 in
set_option maxHeartbeats 4000000 in
theorem use_any {w : World} {A : Option Addr} {n cap : Nat} {xs : List Seg} (h : RowZ w (· < w.heap.size) A n xs) (sec v : Int) :
    Calls Tryz.prog 103 #[ringV sec A n cap, .int .i64 v] w fun e w' => TurnT w sec (useE sec xs v) (useX xs v) e w' := by
  have HX := Lib.hid h
  have HV0 := Lib.hid (OV.start w sec A n cap 3 (.int .i64 v))
  have HC := Lib.hid (working_any (cap := cap) (row_now h HV0.out.1) sec)
  clear h
  by_cases hs : sealE sec xs = 0
  case neg =>
    rw [use_seal hs]
    have d : (sealE sec xs != 0) = true := by simpa using hs
    have HS := Lib.hid hs
    clear hs
    generalize sealE sec xs = se at *
    generalize openedV sec xs = ov at *
    go_enter Tryz.func103, Tryz.ntmps103
    go_wp2_with (first
      | (go_at_call 145; refine HC.out.mono ?_; rintro e w1 ⟨rfl, hb1⟩; have HV1 := Lib.hid (HV0.out.next hb1); obtain ⟨q0, q1, q2, q3, q4, f3, f4⟩ := HV1.out.cells; clear hb1)
      | (with_reducible refine halt_end ?_))
    exact Halt.ret (results_row2 (p := 4) (u := 5) rfl _ _ (w.heap.size + 1 + 1) 35 #[.int .i64 0, .slice none 0 0] _ rfl (HV1.out.res 0 none 0 0) Tryz.underlying35 rfl size_ring) rfl (TurnT.no HS.out (HV1.out.below _ _))
  obtain ⟨hk, ho⟩ := seal_yes hs
  obtain ⟨i, hi, hio, hst⟩ := opn_nat hk ho
  have hov : openedV sec xs = i := by rw [(opened_yes hk ho).2, hio]
  rw [hs, hov] at HC
  have HK := Lib.hid hk
  have HSE := Lib.hid hs
  have HIO := Lib.hid hio
  have HST := Lib.hid hst
  have hin : i < n := by rw [← HX.out.1]; exact hi
  have HI := Lib.hid hi
  clear hk ho hio hst hov hs hi
  by_cases h2 : v < 0
  · have d2 : decide (v < 0) = true := decide_eq_true h2
    rw [use_arg HSE.out h2]
    go_enter Tryz.func103, Tryz.ntmps103
    go_wp2_with (first
      | (go_at_call 145; refine HC.out.mono ?_; rintro e w1 ⟨rfl, hb1⟩; have HV1 := Lib.hid (HV0.out.next hb1); obtain ⟨q0, q1, q2, q3, q4, f3, f4⟩ := HV1.out.cells; clear hb1)
      | (with_reducible refine halt_end ?_))
    exact Halt.ret (results_row2 (p := 4) (u := 5) rfl _ _ (w.heap.size + 1 + 1) 35 #[.int .i64 0, .slice none 0 0] _ rfl (HV1.out.res 0 none 0 0) Tryz.underlying35 rfl size_ring) rfl (TurnT.no (by decide) (HV1.out.below _ _))
  have d2 : decide (v < 0) = false := decide_eq_false h2
  have HLE := Lib.hid (show leftW sec xs = leftR sec xs from if_pos HK.out)
  have HLF := Lib.hid (fun (W : World) (hh : RowZ W (· < W.heap.size) A n xs) => left_ring (cap := cap) hh sec)
  rw [HLE.out] at HLF
  have HG := Lib.hid (fun h3 => use_full (n := v) HSE.out h2 h3)
  have HGO := Lib.hid (fun h3 => use_go (n := v) HSE.out h2 h3)
  obtain ⟨lr, hlr⟩ : ∃ lr, leftR sec xs = lr := ⟨_, rfl⟩
  have HLR := Lib.hid hlr
  rw [hlr] at HLF HG HGO
  clear hlr HLE
  obtain ⟨E, hE⟩ : ∃ E, useE sec xs v = E := ⟨_, rfl⟩
  obtain ⟨Y, hY⟩ : ∃ Y, useX xs v = Y := ⟨_, rfl⟩
  rw [hE] at HG HGO
  rw [hE, hY]
  have HY := Lib.hid hY
  clear hE hY
  obtain ⟨bb, hbb⟩ : ∃ bb, decide (lr < v) = bb := ⟨_, rfl⟩
  go_enter Tryz.func103, Tryz.ntmps103
  go_wp2_with (first
    | (go_at_call 145; refine HC.out.mono ?_; rintro e w1 ⟨rfl, hb1⟩; have HV1 := Lib.hid (HV0.out.next hb1); obtain ⟨q0, q1, q2, q3, q4, f3, f4⟩ := HV1.out.cells; clear hb1))
  refine calm_region (fun W => OV w sec A n cap 3 (.int .i64 v) W) (by kernel_rfl) (by kernel_rfl) (HV1.out.next (Below.refl _ _).drew) ?_
  refine calm_load_cell (.tmp 3) 3 rfl rfl ⟨w.heap.size + 1, 0, none⟩ rfl (.int .i64 v) (fun W h => by simp [go_sem, h, Tryz.underlying3]) (fun W h => h.cells.2.2.1) ?_
  simp only [Act.put, List.setIfInBounds_toArray, List.set_cons_zero, List.set_cons_succ]
  refine calm_load_row (.tmp 2) 35 rfl rfl w.heap.size rfl 35 [.int .i64 sec, .slice A n cap] _ Tryz.underlying35 rfl size_ring (fun W h => h.2.1) ?_
  simp only [Act.put, List.setIfInBounds_toArray, List.set_cons_zero, List.set_cons_succ]
  refine calm_call 48 #[.tmp 25] #[35] rfl rfl Tryz.func48 rfl rfl (.int .i64 lr) [ringV sec A n cap] rfl (fun W h => (HLF.out W (row_now HX.out h.1)).mono fun e w' ⟨h1, h2⟩ => ⟨h1, h.next h2⟩) ?_
  simp only [Act.put, List.setIfInBounds_toArray, List.set_cons_zero, List.set_cons_succ]
  refine calm_by (.bool bb) rfl (fun W _ => by unfold execOp; simp [go_sem, Tryz.underlying3, hbb]) ?_
  simp only [Act.put, List.setIfInBounds_toArray, List.set_cons_zero, List.set_cons_succ]
  go_big_quiet_step (fail)
  refine wpQuiet_nil ?_
  intro w5 hw5
  have HV5 := Lib.hid hw5
  obtain ⟨r0, r1, r2, r3, r4, f5, f6⟩ := HV5.out.cells
  clear hw5 q0 q1 q2 q3 q4 f3 f4
  by_cases h3 : lr < v
  · obtain rfl : bb = true := by rw [← hbb]; exact decide_eq_true h3
    obtain rfl := HG.out h3
    go_wp2_with (with_reducible refine halt_end ?_)
    exact Halt.ret (results_row2 (p := 4) (u := 5) rfl _ _ (w.heap.size + 1 + 1) 35 #[.int .i64 0, .slice none 0 0] _ rfl (HV5.out.res 0 none 0 0) Tryz.underlying35 rfl size_ring) rfl (TurnT.no (by decide) (HV5.out.below _ _))
  · obtain rfl : bb = false := by rw [← hbb]; exact decide_eq_false h3
    obtain rfl := HGO.out (by omega)
    have hub := used_bound HK.out HI.out
    have hul : leftR sec xs = sec - usedG xs i := by unfold leftR; rw [HIO.out, if_pos (by omega), Int.toNat_natCast]
    have hw : wrap64 (usedG xs i + v) = usedG xs i + v := by have := HLR.out; unfold wrap64; omega
    have HXX := Lib.hid (show Y = xs.set i (stG xs i, genG xs i, wrap64 (usedG xs i + v)) by rw [← HY.out]; unfold useX; rw [HIO.out, Int.toNat_natCast, hw])
    have HT := Lib.hid (fun (W : World) (hh : RowZ W (· < W.heap.size) A n xs) (hG : w.heap.size + 1 < W.heap.size) (hc : W.cell? ⟨w.heap.size + 1, 0, none⟩ = some (.int .i64 v)) => turned_use (cap := cap) hh sec (by have := (ok_n HK.out HX.out.1).2; omega) i hin v (w.heap.size + 1) hG hc)
    clear hub hul hw
    go_wp2_with (first
      | (go_at_call 122; refine (HT.out _ (row_now HX.out HV5.out.1) HV5.out.2.2.1.lt r2).mono ?_; rintro e w6 ⟨⟨A', cap', rfl, hown⟩, hb6⟩; have HV6 := Lib.hid (HV5.out.next hb6); obtain ⟨t0, t1, t2, t3, t4, f9, f0⟩ := HV6.out.cells; have HOW := Lib.hid hown; clear hb6 hown)
      | (with_reducible refine halt_end ?_))
    have hlt := HV5.out.lt
    have hown := ((HOW.out.far (p := ⟨w.heap.size + 1 + 1, 0, none⟩) hlt (.int .i64 sec)).far (p := ⟨w.heap.size + 1 + 1, 1, none⟩) hlt (.slice A' n cap')).base HV5.out.1.size
    rw [← HXX.out] at hown
    exact Halt.ret (results_row2 (p := 4) (u := 5) rfl _ _ (w.heap.size + 1 + 1) 35 #[.int .i64 sec, .slice A' n cap'] _ rfl (HV6.out.res sec A' n cap') Tryz.underlying35 rfl size_ring) rfl ⟨.inl ⟨rfl, _, rfl, ⟨A', n, cap', rfl, hown⟩⟩, HV6.out.below _ _⟩
end Go.Proofs.YtodcohkblgjfeaaGreat

namespace Go.Proofs.YtodcohkblgjfeaaGreat
set_option maxRecDepth 100000
open Go.RowKit
set_option linter.unusedVariables false
set_option linter.unusedSimpArgs false
def OW (w : World) (sec : Int) (A : Option Addr) (n cap : Nat) (W : World) : Prop :=
  Below w.heap.size w W ∧ Blk W w.heap.size 35 #[.int .i64 sec, .slice A n cap] ∧ Blk W (w.heap.size + 1) 35 #[.int .i64 0, .slice none 0 0]
section
variable {w : World} {sec : Int} {A : Option Addr} {n cap : Nat} {W W' : World}
theorem OW.start (w : World) (sec : Int) (A : Option Addr) (n cap : Nat) : OW w sec A n cap ((w.alloc (.cells #[.int .i64 sec, .slice A n cap] 35)).alloc (.cells #[.int .i64 0, .slice none 0 0] 35)) :=
  ⟨((Below.refl _ w).alloc (Nat.le_refl _) _).alloc (by simp) _, (Blk.new w _ _).alloc _, blk_new2 w _ _ _⟩
theorem OW.next (h : OW w sec A n cap W) (hb : Below W.heap.size W W') : OW w sec A n cap W' :=
  ⟨h.1.trans (hb.mono h.1.size), h.2.1.below hb h.2.1.lt, h.2.2.below hb h.2.2.lt⟩
theorem OW.cells (h : OW w sec A n cap W) : W.cell? ⟨w.heap.size, 0, none⟩ = some (.int .i64 sec) ∧ W.cell? ⟨w.heap.size, 1, none⟩ = some (.slice A n cap) ∧
    W.cell? ⟨w.heap.size + 1, 0, none⟩ = some (.int .i64 0) ∧ W.cell? ⟨w.heap.size + 1, 1, none⟩ = some (.slice none 0 0) ∧ W.frozen? ⟨w.heap.size + 1, 0, none⟩ = false ∧ W.frozen? ⟨w.heap.size + 1, 1, none⟩ = false :=
  ⟨h.2.1.cell 0, h.2.1.cell 1, h.2.2.cell 0, h.2.2.cell 1, h.2.2.frozen 0, h.2.2.frozen 1⟩
theorem OW.res (h : OW w sec A n cap W) (s : Int) (B : Option Addr) (m c : Nat) : Blk ((W.setCell ⟨w.heap.size + 1, 0, none⟩ (.int .i64 s)).setCell ⟨w.heap.size + 1, 1, none⟩ (.slice B m c)) (w.heap.size + 1) 35 #[.int .i64 s, .slice B m c] :=
  (h.2.2.set_ 0 (.int .i64 s)).set_ 1 (.slice B m c)
theorem OW.below (h : OW w sec A n cap W) (u v : Value) : Below w.heap.size w ((W.setCell ⟨w.heap.size + 1, 0, none⟩ u).setCell ⟨w.heap.size + 1, 1, none⟩ v) :=
  (h.1.setCell (p := ⟨w.heap.size + 1, 0, none⟩) (by simp) u).setCell (p := ⟨w.heap.size + 1, 1, none⟩) (by simp) v
theorem OW.lt (h : OW w sec A n cap W) : w.heap.size + 1 < W.heap.size := h.2.2.lt
end
set_option maxRecDepth 100000 in
set_option maxHeartbeats 4000000 in
theorem seal_any {w : World} {A : Option Addr} {n cap : Nat} {xs : List Seg} (h : RowZ w (· < w.heap.size) A n xs) (sec : Int) :
    Calls Tryz.prog 141 #[ringV sec A n cap] w fun e w' => TurnT w sec (sealE sec xs) (sealX xs) e w' := by
  have HX := Lib.hid h
  have HV0 := Lib.hid (OW.start w sec A n cap)
  have HC := Lib.hid (working_any (cap := cap) (row_now h HV0.out.1) sec)
  clear h
  by_cases hs : sealE sec xs = 0
  case neg =>
    have d : (sealE sec xs != 0) = true := by simpa using hs
    have HS := Lib.hid hs
    clear hs
    generalize sealE sec xs = se at *
    generalize openedV sec xs = ov at *
    go_enter Tryz.func141, Tryz.ntmps141
    go_wp2_with (first
      | (go_at_call 145; refine HC.out.mono ?_; rintro e w1 ⟨rfl, hb1⟩; have HV1 := Lib.hid (HV0.out.next hb1); obtain ⟨q0, q1, q3, q4, f3, f4⟩ := HV1.out.cells; clear hb1)
      | (with_reducible refine halt_end ?_))
    exact Halt.ret (results_row2 (p := 2) (u := 3) rfl _ _ (w.heap.size + 1) 35 #[.int .i64 0, .slice none 0 0] _ rfl (HV1.out.res 0 none 0 0) Tryz.underlying35 rfl size_ring) rfl (TurnT.no HS.out (HV1.out.below _ _))
  obtain ⟨hk, ho⟩ := seal_yes hs
  obtain ⟨i, hi, hio, hst⟩ := opn_nat hk ho
  have hov : openedV sec xs = i := by rw [(opened_yes hk ho).2, hio]
  rw [hs, hov] at HC
  have hin : i < n := by rw [← HX.out.1]; exact hi
  have HXX := Lib.hid (show sealX xs = xs.set i (2, genG xs i, usedG xs i) by unfold sealX; rw [hio, Int.toNat_natCast])
  have HT := Lib.hid (fun (W : World) (hh : RowZ W (· < W.heap.size) A n xs) => turned_seal (cap := cap) hh sec (by have := (ok_n hk HX.out.1).2; omega) i hin)
  rw [hs]
  clear hk ho hio hst hov hs hi
  go_enter Tryz.func141, Tryz.ntmps141
  go_wp2_with (first
    | (go_at_call 145; refine HC.out.mono ?_; rintro e w1 ⟨rfl, hb1⟩; have HV1 := Lib.hid (HV0.out.next hb1); obtain ⟨q0, q1, q3, q4, f3, f4⟩ := HV1.out.cells; clear hb1)
    | (go_at_call 122; refine (HT.out _ (row_now HX.out HV1.out.1)).mono ?_; rintro e w6 ⟨⟨A', cap', rfl, hown⟩, hb6⟩; have HV6 := Lib.hid (HV1.out.next hb6); obtain ⟨t0, t1, t3, t4, f9, f0⟩ := HV6.out.cells; have HOW := Lib.hid hown; clear hb6 hown)
    | (with_reducible refine halt_end ?_))
  have hlt := HV1.out.lt
  have hown := ((HOW.out.far (p := ⟨w.heap.size + 1, 0, none⟩) hlt (.int .i64 sec)).far (p := ⟨w.heap.size + 1, 1, none⟩) hlt (.slice A' n cap')).base HV1.out.1.size
  rw [← HXX.out] at hown
  exact Halt.ret (results_row2 (p := 2) (u := 3) rfl _ _ (w.heap.size + 1) 35 #[.int .i64 sec, .slice A' n cap'] _ rfl (HV6.out.res sec A' n cap') Tryz.underlying35 rfl size_ring) rfl ⟨.inl ⟨rfl, _, rfl, ⟨A', n, cap', rfl, hown⟩⟩, HV6.out.below _ _⟩
theorem free_bad {sec : Int} {xs : List Seg} {i : Int} (h : ¬ OkR sec xs) : freeE sec xs i = 180 := if_pos h
theorem free_arg {sec : Int} {xs : List Seg} {i : Int} (h : OkR sec xs) (h1 : i < 0 ∨ (xs.length : Int) ≤ i) : freeE sec xs i = 2 := by unfold freeE; rw [if_neg (fun k => k h), if_pos h1]
theorem free_state {sec : Int} {xs : List Seg} {i : Nat} (h : OkR sec xs) (h1 : i < xs.length) (h2 : stG xs i ≠ 2) : freeE sec xs i = 181 := by unfold freeE; rw [if_neg (fun k => k h), if_neg (by omega), if_pos (by simpa using h2)]
theorem free_go {sec : Int} {xs : List Seg} {i : Nat} (h : OkR sec xs) (h1 : i < xs.length) (h2 : stG xs i = 2) : freeE sec xs i = 0 := by unfold freeE; rw [if_neg (fun k => k h), if_neg (by omega), if_neg (by simpa using h2)]
set_option maxRecDepth 100000 in
set_option maxHeartbeats 4000000 in
theorem free_any {w : World} {A : Option Addr} {n cap : Nat} {xs : List Seg} (h : RowZ w (· < w.heap.size) A n xs) (sec v : Int) :
    Calls Tryz.prog 71 #[ringV sec A n cap, .int .i64 v] w fun e w' => TurnT w sec (freeE sec xs v) (freeX xs v) e w' := by
  have HX := Lib.hid h
  have HV0 := Lib.hid (OW.start w sec A n cap)
  have HC := Lib.hid (check_any (cap := cap) (row_now h HV0.out.1) sec)
  clear h
  by_cases hk : OkR sec xs
  case neg =>
    rw [free_bad hk]
    rw [if_neg hk] at HC
    clear hk
    go_enter Tryz.func71, Tryz.ntmps71
    go_wp2_with (first
      | (go_at_call 81; refine HC.out.mono ?_; rintro e w1 ⟨rfl, hb1⟩; have HV1 := Lib.hid (HV0.out.next hb1); obtain ⟨q0, q1, q3, q4, f3, f4⟩ := HV1.out.cells; clear hb1)
      | (with_reducible refine halt_end ?_))
    exact Halt.ret (results_row2 (p := 4) (u := 5) rfl _ _ (w.heap.size + 1) 35 #[.int .i64 0, .slice none 0 0] _ rfl (HV1.out.res 0 none 0 0) Tryz.underlying35 rfl size_ring) rfl (TurnT.no (by decide) (HV1.out.below _ _))
  rw [if_pos hk] at HC
  have HK := Lib.hid hk
  have hln := HX.out.1
  clear hk
  by_cases h1 : v < 0
  · have d1 : decide (v < 0) = true := decide_eq_true h1
    rw [free_arg HK.out (.inl h1)]
    go_enter Tryz.func71, Tryz.ntmps71
    go_wp2_with (first
      | (go_at_call 81; refine HC.out.mono ?_; rintro e w1 ⟨rfl, hb1⟩; have HV1 := Lib.hid (HV0.out.next hb1); obtain ⟨q0, q1, q3, q4, f3, f4⟩ := HV1.out.cells; clear hb1)
      | (with_reducible refine halt_end ?_))
    exact Halt.ret (results_row2 (p := 4) (u := 5) rfl _ _ (w.heap.size + 1) 35 #[.int .i64 0, .slice none 0 0] _ rfl (HV1.out.res 0 none 0 0) Tryz.underlying35 rfl size_ring) rfl (TurnT.no (by decide) (HV1.out.below _ _))
  have d1 : decide (v < 0) = false := decide_eq_false h1
  by_cases h2 : (n : Int) ≤ v
  · have d2 : decide ((n : Int) ≤ v) = true := decide_eq_true h2
    rw [free_arg HK.out (.inr (by rw [hln]; exact h2))]
    go_enter Tryz.func71, Tryz.ntmps71
    go_wp2_with (first
      | (go_at_call 81; refine HC.out.mono ?_; rintro e w1 ⟨rfl, hb1⟩; have HV1 := Lib.hid (HV0.out.next hb1); obtain ⟨q0, q1, q3, q4, f3, f4⟩ := HV1.out.cells; clear hb1)
      | (with_reducible refine halt_end ?_))
    exact Halt.ret (results_row2 (p := 4) (u := 5) rfl _ _ (w.heap.size + 1) 35 #[.int .i64 0, .slice none 0 0] _ rfl (HV1.out.res 0 none 0 0) Tryz.underlying35 rfl size_ring) rfl (TurnT.no (by decide) (HV1.out.below _ _))
  obtain ⟨i, rfl⟩ : ∃ i : Nat, v = i := ⟨v.toNat, by omega⟩
  have hin : i < n := by omega
  have d2 : decide ((n : Int) ≤ (i : Int)) = false := decide_eq_false h2
  obtain ⟨b, off, rfl, hbb, hcc⟩ := seg_get HX.out hin
  have HCC := Lib.hid (hcc i hin).1
  have HFS := Lib.hid (fun h2 => free_state HK.out (by rw [hln]; exact hin) h2)
  have HFG := Lib.hid (fun h2 => free_go HK.out (by rw [hln]; exact hin) h2)
  clear hcc hln h1 h2
  generalize stG xs i = st at *
  by_cases h3 : st = 2
  · subst h3
    have HXX := Lib.hid (show freeX xs i = xs.set i seg0 by unfold freeX; rw [Int.toNat_natCast])
    have HT := Lib.hid (fun (W : World) (hh : RowZ W (· < W.heap.size) (some ⟨b, off, none⟩) n xs) => turned_free (cap := cap) hh sec (by have := (ok_n HK.out HX.out.1).2; omega) i hin)
    rw [HFG.out rfl]
    go_enter Tryz.func71, Tryz.ntmps71
    go_wp2_with (first
      | (go_at_call 81; refine HC.out.mono ?_; rintro e w1 ⟨rfl, hb1⟩; have HV1 := Lib.hid (HV0.out.next hb1); obtain ⟨q0, q1, q3, q4, f3, f4⟩ := HV1.out.cells; have kG : w1.cell? ⟨b, off + i * 3, none⟩ = some (.int .i64 2) := (Below.cell HV1.out.1 (p := ⟨b, _, none⟩) hbb).trans HCC.out; clear hb1)
      | (go_at_call 122; refine (HT.out _ (row_now HX.out HV1.out.1)).mono ?_; rintro e w6 ⟨⟨A', cap', rfl, hown⟩, hb6⟩; have HV6 := Lib.hid (HV1.out.next hb6); obtain ⟨t0, t1, t3, t4, f9, f0⟩ := HV6.out.cells; have HOW := Lib.hid hown; clear hb6 hown)
      | (with_reducible refine halt_end ?_))
    have hlt := HV1.out.lt
    have hown := ((HOW.out.far (p := ⟨w.heap.size + 1, 0, none⟩) hlt (.int .i64 sec)).far (p := ⟨w.heap.size + 1, 1, none⟩) hlt (.slice A' n cap')).base HV1.out.1.size
    rw [← HXX.out] at hown
    exact Halt.ret (results_row2 (p := 4) (u := 5) rfl _ _ (w.heap.size + 1) 35 #[.int .i64 sec, .slice A' n cap'] _ rfl (HV6.out.res sec A' n cap') Tryz.underlying35 rfl size_ring) rfl ⟨.inl ⟨rfl, _, rfl, ⟨A', n, cap', rfl, hown⟩⟩, HV6.out.below _ _⟩
  · have d3 : (st != 2) = true := by simpa using h3
    rw [HFS.out h3]
    go_enter Tryz.func71, Tryz.ntmps71
    go_wp2_with (first
      | (go_at_call 81; refine HC.out.mono ?_; rintro e w1 ⟨rfl, hb1⟩; have HV1 := Lib.hid (HV0.out.next hb1); obtain ⟨q0, q1, q3, q4, f3, f4⟩ := HV1.out.cells; have kG : w1.cell? ⟨b, off + i * 3, none⟩ = some (.int .i64 st) := (Below.cell HV1.out.1 (p := ⟨b, _, none⟩) hbb).trans HCC.out; clear hb1)
      | (with_reducible refine halt_end ?_))
    exact Halt.ret (results_row2 (p := 4) (u := 5) rfl _ _ (w.heap.size + 1) 35 #[.int .i64 0, .slice none 0 0] _ rfl (HV1.out.res 0 none 0 0) Tryz.underlying35 rfl size_ring) rfl (TurnT.no (by decide) (HV1.out.below _ _))
end Go.Proofs.YtodcohkblgjfeaaGreat

namespace Go.Proofs.YtodcohkblgjfeaaGreat
open Go.RowKit
set_option maxRecDepth 100000
set_option linter.unusedVariables false
set_option linter.unusedSimpArgs false
section
variable {w w' : World} {X Y : Nat → Prop} {l p d n m c : Nat} {s : Sup} {t : Int} {k : Dk} {sec : Int} {A : Option Addr} {xs : List Seg} {br : Bool}
theorem LogM.put (h : LogM w X l p d n s t k sec A m c xs br) (hX : ∀ b, X b → b < w.heap.size) (hb : Below w.heap.size w w') {A2 : Option Addr} {c2 : Nat} {ys : List Seg} (ho : OwnZ w' w.heap.size A2 m c2 ys) :
    LogM ((w'.setCell ⟨l, 1, none⟩ (.int .i64 sec)).setCell ⟨l, 2, none⟩ (.slice A2 m c2)) X l p d n s t k sec A2 m c2 ys br ∧ Kept X w ((w'.setCell ⟨l, 1, none⟩ (.int .i64 sec)).setCell ⟨l, 2, none⟩ (.slice A2 m c2)) := by
  obtain ⟨h1, h2, R, h3, h4, h5⟩ := h
  have hlt := h1.lt
  have hk : Kept (fun b => b < w.heap.size ∧ b ≠ l) w ((w'.setCell ⟨l, 1, none⟩ (.int .i64 sec)).setCell ⟨l, 2, none⟩ (.slice A2 m c2)) :=
    ((Kept.of_below hb (fun b h => h.1)).setCell (p := ⟨l, 1, none⟩) (fun h => h.2 rfl) _).setCell (p := ⟨l, 2, none⟩) (fun h => h.2 rfl) _
  have ho2 := (ho.far (p := ⟨l, 1, none⟩) hlt (.int .i64 sec)).far (p := ⟨l, 2, none⟩) hlt (.slice A2 m c2)
  refine ⟨⟨((h1.below hb hlt).set_ 1 (.int .i64 sec)).set_ 2 (.slice A2 m c2), h2, From w.heap.size ((w'.setCell ⟨l, 1, none⟩ (.int .i64 sec)).setCell ⟨l, 2, none⟩ (.slice A2 m c2)), ?_, ho2.row, fun b hb => ⟨hb.2, by have := hb.1; omega⟩⟩, hk.mono (fun b hx => ⟨hX b hx, fun e => h2 (e ▸ hx)⟩)⟩
  refine StoreM.kept h3 hk (fun b hb hx => ⟨hb, fun e => hx (.inr (.inl e))⟩) (fun b hb hy => ?_)
  rcases hy with h | h | h
  · exact .inl h
  · exact .inr (.inl h)
  · have := h.1; omega
theorem StoreM.grow {a b g r v f : Int} (h : StoreM w Y p d n a b g r v f t k) (hb : Below w.heap.size w w') : StoreM w' (fun b => Y b ∨ (w.heap.size ≤ b ∧ b < w'.heap.size)) p d n a b g r v f t k :=
  StoreM.kept (Z := fun b => b < w.heap.size) h (Kept.of_below hb (fun b h => h)) (fun b hb _ => hb) (fun b hb hy => by
    rcases hy with h | h
    · exact h
    · omega)
theorem grow_lt (hY : ∀ b, Y b → b < w.heap.size) (hs : w.heap.size ≤ w'.heap.size) : ∀ b, (Y b ∨ (w.heap.size ≤ b ∧ b < w'.heap.size)) → b < w'.heap.size := fun b h => by
  rcases h with h | h
  · exact Nat.lt_of_lt_of_le (hY b h) hs
  · exact h.2
noncomputable def sealedX (sec : Int) (xs : List Seg) : List Seg := if sealE sec xs = 0 then sealX xs else xs
def BegC (w : World) (X : Nat → Prop) (l p d n : Nat) (s : Sup) (t : Int) (k : Dk) (sec : Int) (m : Nat) (zs : List Seg) (wx : World) : Prop :=
  ∃ A c, LogM wx X l p d n s t k sec A m c zs false ∧ Kept X w wx ∧ m ≤ c ∧ (A = none → c = 0)
theorem seal_len (xs : List Seg) : (sealX xs).length = xs.length := by unfold sealX; rw [List.length_set]
end
end Go.Proofs.YtodcohkblgjfeaaGreat

namespace Go.Proofs.YtodcohkblgjfeaaGreat
open Go.RowKit
set_option maxRecDepth 100000
set_option linter.unusedVariables false
set_option linter.unusedSimpArgs false
abbrev lw0 : Oper := { dst := some 33, op := Go.Op.move (Go.Operand.tmp 0), type := 26, pos := "log.go:343", after := #[], guard := none }
abbrev lw1 : Oper := { dst := some 34, op := Go.Op.nilCheck (Go.Operand.tmp 33), type := 0, pos := "log.go:343", after := #[{ on := 0, ground := Go.Ground.data }], guard := none }
abbrev lw2 : Oper := { dst := some 35, op := Go.Op.fieldAddr 117 (Go.Operand.tmp 34) 0, type := 0, pos := "log.go:343", after := #[{ on := 1, ground := Go.Ground.data }], guard := none }
abbrev lw3 : Oper := { dst := some 36, op := Go.Op.load 70 (Go.Operand.tmp 35), type := 70, pos := "log.go:343", after := #[{ on := 2, ground := Go.Ground.data }], guard := none }
abbrev lw4 : Oper := { dst := some 37, op := Go.Op.call { callee := Go.Callee.value (Go.Operand.func 63), args := #[Go.Operand.tmp 36], argTypes := #[70] }, type := 27, pos := "log.go:343", after := #[{ on := 3, ground := Go.Ground.data }], guard := none }
abbrev lw5 : Oper := { dst := some 38, op := Go.Op.move (Go.Operand.tmp 9), type := 3, pos := "log.go:343", after := #[], guard := none }
abbrev lw6 : Oper := { dst := some 39, op := Go.Op.move (Go.Operand.tmp 2), type := 3, pos := "log.go:343", after := #[], guard := none }
abbrev lw7 : Oper := { dst := some 40, op := Go.Op.binOp Go.BinOp.add 3 (Go.Operand.tmp 38) (Go.Operand.tmp 39) 3, type := 3, pos := "log.go:343", after := #[{ on := 5, ground := Go.Ground.data }, { on := 6, ground := Go.Ground.data }], guard := none }
abbrev lw8 : Oper := { dst := some 41, op := Go.Op.move (Go.Operand.tmp 11), type := 3, pos := "log.go:343", after := #[], guard := none }
abbrev lw9 : Oper := { dst := some 42, op := Go.Op.binOp Go.BinOp.add 3 (Go.Operand.tmp 40) (Go.Operand.tmp 41) 3, type := 3, pos := "log.go:343", after := #[{ on := 7, ground := Go.Ground.data }, { on := 8, ground := Go.Ground.data }], guard := none }
abbrev lw10 : Oper := { dst := some 43, op := Go.Op.load 84 (Go.Operand.tmp 12), type := 84, pos := "log.go:343", after := #[], guard := none }
abbrev lw11 : Oper := { dst := some 44, op := Go.Op.call { callee := Go.Callee.value (Go.Operand.func 32), args := #[Go.Operand.tmp 37, Go.Operand.tmp 42, Go.Operand.tmp 43], argTypes := #[27, 3, 84] }, type := 49, pos := "log.go:343", after := #[{ on := 4, ground := Go.Ground.data }, { on := 9, ground := Go.Ground.data }, { on := 10, ground := Go.Ground.data }, { on := 4, ground := Go.Ground.chain }], guard := none }
abbrev lw12 : Oper := { dst := some 13, op := Go.Op.assign (Go.Operand.tmp 44), type := 49, pos := "log.go:343", after := #[{ on := 11, ground := Go.Ground.data }, { on := 11, ground := Go.Ground.chain }, { on := 0, ground := Go.Ground.phase }, { on := 1, ground := Go.Ground.phase }, { on := 2, ground := Go.Ground.phase }, { on := 3, ground := Go.Ground.phase }, { on := 4, ground := Go.Ground.phase }, { on := 5, ground := Go.Ground.phase }, { on := 6, ground := Go.Ground.phase }, { on := 7, ground := Go.Ground.phase }, { on := 8, ground := Go.Ground.phase }, { on := 9, ground := Go.Ground.phase }, { on := 10, ground := Go.Ground.phase }, { on := 11, ground := Go.Ground.phase }], guard := none }
def wrs (k : Dk) (i : Nat) : List (List Int) → Dk × Int
  | [] => (k, 0)
  | ys :: r => if k.wre = 0 then wrs (k.wr (Dk.put i ys)) (i + 1) r else (k.wr (Dk.put i ys), k.wre)
theorem wr_pend (k : Dk) (i : Nat) (ys : List Int) : (k.wr (Dk.put i ys)).pend.length ≤ k.pend.length + 1 := by
  unfold Dk.wr
  split
  · omega
  split
  · show k.pend.length ≤ _; omega
  split
  · show k.pend.length ≤ _; omega
  · show (k.pend ++ [_]).length ≤ _; simp
section
variable {w : World} {Y : Nat → Prop} {l p d N m c : Nat} {s : Sup} {t : Int} {k : Dk} {A : Option Addr} {xss : List (List Int)}
def WrI (w : World) (Y : Nat → Prop) (l p d N : Nat) (s : Sup) (t : Int) (k : Dk) (i0 : Nat) (xss : List (List Int)) (j : Nat) (wr : World) : Prop :=
  ∃ kj : Dk, StoS wr Y p d N s t kj ∧ Kept Y w wr ∧ wrs k i0 xss = wrs kj (i0 + j) (xss.drop j) ∧ kj.pend.length ≤ k.pend.length + j
set_option maxHeartbeats 2000000 in
theorem write_log (hs : StoS w Y p d N s t k) (hY : ∀ b, Y b → b < w.heap.size) (hl : Y l) (c0 : w.cell? ⟨l, 0, none⟩ = some (.pointer (some ⟨p, 0, none⟩))) (hrow : RowK w Y A m xss) (hby : ∀ i, Bytes (xss.getD i [])) (hss : Secs xss)
    (i at_ i0 : Nat) (hi : (i : Int) < s.a) (ha : s.a ≤ 16) (hb : 0 ≤ s.b ∧ s.b ≤ 64) (hi0 : (i0 : Int) = 2 + i * s.b + at_) (hN : i0 + m ≤ N) (hN2 : N ≤ 2048) (hp : k.pend.length ≤ 900000) :
    Calls Tryz.prog 104 #[.pointer (some ⟨l, 0, none⟩), .int .i64 i, .int .i64 at_, .slice A m c] w fun e w' => e = .returned (.int .i64 (wrs k i0 xss).2) ∧ StoS w' Y p d N s t (wrs k i0 xss).1 ∧ Kept Y w w' := by
  have HS := Lib.hid hs
  have HYY := Lib.hid hY
  have HYL := Lib.hid hl
  have HRW := Lib.hid hrow
  have HBYS := Lib.hid hby
  have HSS := Lib.hid hss
  have HBS := Lib.hid (sto_base hs i hi ha hb)
  obtain ⟨x, hx⟩ : ∃ x : Int, (2 : Int) + i * s.b = x := ⟨_, rfl⟩
  rw [hx] at HBS hi0
  have HC0 := Lib.hid c0
  have HLEN := Lib.hid hrow.1
  have HP := Lib.hid hp
  have hx0 : x = (i0 : Int) - at_ := by omega
  have HX0 := Lib.hid hx0
  have hib : i0 ≤ 2048 ∧ at_ ≤ 2048 := by
    have h1 : 0 ≤ (i : Int) * s.b := Int.mul_nonneg (by omega) hb.1
    omega
  have HIB := Lib.hid hib
  clear hs hY hl hrow hby hss hi ha hb hx hp hx0 hi0
  go_enter Tryz.func104, Tryz.ntmps104
  go_wp2_with fail
  refine HBS.out.mono ?_
  rintro e w1 ⟨rfl, rfl⟩
  go_wp2_with fail
  clear c0
  go_loopw [8, 28] (fun _ v wr => ∃ j : Nat, j ≤ m ∧ v = .int .i64 j ∧ WrI w1 Y l p d N s t k i0 xss j wr) (fun _ v _ => m - (intOf v).toNat)
  case atStart => exact ⟨0, Nat.zero_le _, rfl, k, HS.out, Kept.refl _ _, rfl, Nat.le_refl _⟩
  case round =>
    obtain ⟨j, hj, rfl, kj, hsj, hkj, hwj, hpj⟩ := hrel
    have HSJ := Lib.hid hsj
    have HKJ := Lib.hid hkj
    have HWJ := Lib.hid hwj
    have HPJ := Lib.hid hpj
    clear hsj hkj hwj hpj
    by_cases hlt : j < m
    case neg =>
      obtain rfl : j = m := by omega
      have hd : xss.drop j = [] := List.drop_eq_nil_of_le (by rw [HLEN.out]; exact Nat.le_refl _)
      have hw2 := HWJ.out
      rw [hd] at hw2
      have HW2 := Lib.hid hw2
      clear hw2 hd
      go_wp2_with fail
      go_ret
      rw [HW2.out]
      exact ⟨rfl, HSJ.out, HKJ.out⟩
    obtain ⟨gb, off, rfl, hgb, hrng⟩ := HRW.out.2 (by omega)
    obtain ⟨ys, hys⟩ : ∃ ys, xss.getD j [] = ys := ⟨_, rfl⟩
    have hjx : j < xss.length := by rw [HLEN.out]; exact hlt
    have hye : xss[j] = ys := by rw [← hys]; simp [List.getD, List.getElem?_eq_getElem hjx]
    have HLY := Lib.hid (show ys.length = 64 by rw [← hye]; exact HSS.out _ (List.getElem_mem hjx))
    have HBY := Lib.hid (show Bytes ys by rw [← hys]; exact HBYS.out j)
    have HRY := Lib.hid (show wr.rangeAt gb (off + j * 64) (ys.map (Value.int .u8)) from fun q u hu => by
      have h := hrng j hlt q u (by rw [hys]; exact hu)
      rw [← h]
      exact HKJ.out.cell (p := ⟨gb, _, none⟩) hgb)
    have hdrop : xss.drop j = ys :: xss.drop (j + 1) := by rw [List.drop_eq_getElem_cons hjx, hye]
    have hw2 := HWJ.out
    rw [hdrop] at hw2
    obtain ⟨E, hE⟩ : ∃ E, kj.wre = E := ⟨_, rfl⟩
    unfold wrs at hw2
    rw [hE] at hw2
    have HW2 := Lib.hid (show wrs k i0 xss = if E = 0 then wrs (kj.wr (Dk.put (i0 + j) ys)) (i0 + j + 1) (xss.drop (j + 1)) else (kj.wr (Dk.put (i0 + j) ys), E) by
      rw [← hw2]
      cases xss <;> rfl)
    have HWE := Lib.hid hE
    have hal := (Below.refl wr.heap.size wr).alloc (Nat.le_refl _) (.cells (cells8 ys) 84)
    have HSD := Lib.hid (show StoS (wr.alloc (.cells (cells8 ys) 84)).drew Y p d N s t kj from StoreM.below HSJ.out hal.drew)
    have HDD := Lib.hid (show DiskM (wr.alloc (.cells (cells8 ys) 84)).drew (fun c => (Y c ∨ c = p) ∨ c = wr.heap.size) d N kj from HSJ.out.2.1.below hal.drew (fun b hb h => by rcases h with h | h; exact h; omega))
    have hpl := HSJ.out.1.lt
    have HXD := Lib.hid (show ∀ c, ((Y c ∨ c = p) ∨ c = wr.heap.size) → c < (wr.alloc (.cells (cells8 ys) 84)).drew.heap.size from fun c h => by
      have hz := hal.drew.size
      have hz2 : wr.heap.size < (wr.alloc (.cells (cells8 ys) 84)).drew.heap.size := by simp [World.drew]
      rcases h with (h | h) | h
      · exact Nat.lt_of_lt_of_le (Nat.lt_of_lt_of_le (HYY.out c h) HKJ.out.size) hz
      · omega
      · omega)
    have HVD := Lib.hid (show Kept Y wr (wr.alloc (.cells (cells8 ys) 84)).drew from Kept.of_below hal.drew (fun b h => Nat.lt_of_lt_of_le (HYY.out b h) HKJ.out.size))
    have HC1 := Lib.hid (show (wr.alloc (.cells (cells8 ys) 84)).drew.cell? ⟨l, 0, none⟩ = some (.pointer (some ⟨p, 0, none⟩)) from (HVD.out.cell (p := ⟨l, 0, none⟩) HYL.out).trans ((HKJ.out.cell (p := ⟨l, 0, none⟩) HYL.out).trans HC0.out))
    have HR1 := Lib.hid (show (wr.alloc (.cells (cells8 ys) 84)).drew.rangeAt wr.heap.size 0 (ys.map (Value.int .u8)) from fun q u hu => by
      have h := (show ArrB (wr.alloc (.cells (cells8 ys) 84)) wr.heap.size ys from Blk.new wr _ _).range q u hu
      exact h)
    have HWK := Lib.hid (show Calls Tryz.prog 32 #[.pointer (some ⟨d, 0, none⟩), .int .i64 ((i0 : Int) + (j : Int)), .agg (cells8 ys)] (wr.alloc (.cells (cells8 ys) 84)).drew fun e w' => e = .returned (.int .i64 E) ∧ DiskM w' (fun c => (Y c ∨ c = p) ∨ c = wr.heap.size) d N (kj.wr (Dk.put (i0 + j) ys)) ∧ Kept (fun c => (Y c ∨ c = p) ∨ c = wr.heap.size) (wr.alloc (.cells (cells8 ys) 84)).drew w' by
      have h := write_k HDD.out HXD.out (i0 + j) (by omega) ys HLY.out HBY.out (by have h1 := HPJ.out; have h2 := HP.out; omega)
      rw [Int.natCast_add, hE] at h
      exact h)
    have HPN := Lib.hid (show (kj.wr (Dk.put (i0 + j) ys)).pend.length ≤ k.pend.length + (j + 1) by have h1 := HPJ.out; have h2 := wr_pend kj (i0 + j) ys; omega)
    have HWI := Lib.hid (show IntKind.i64.wrap (IntKind.i64.wrap (i0 : Int) + (j : Int)) = (i0 : Int) + (j : Int) by
      have e : IntKind.i64.wrap (i0 : Int) = (i0 : Int) := by rw [IntKind.wrap_i64]; omega
      rw [e, IntKind.wrap_i64]
      omega)
    have hx0 := HX0.out
    have hjm : (j : Int) < (m : Int) := by omega
    have hmb : (m : Int) ≤ 2048 := by omega
    clear hgb hrng hys hye hdrop hw2 hE hal hpl
    go_wp2_with (first
      | (refine wpList_load_blk (.tmp 31) rfl rfl gb (off + j * 64) rfl ys HLY.out HRY.out ?_)
      | (refine wpList_alloc_blk rfl rfl ?_)
      | (refine wpList_store_new (.tmp 12) (.tmp 32) rfl rfl wr ys rfl rfl (noughts 64) rfl (noughts_length 64) HLY.out ?_))
    have hu26 := Tryz.underlying84
    have hs26 : (Tryz.prog.info? 84).map (·.size) = some (ys.map (Value.int .u8)).length := by rw [size_blk, List.length_map, HLY.out]
    refine wp_region_noPanic ?_
    refine Tillst.region (fun W => W.cell? ⟨l, 0, none⟩ = some (.pointer (some ⟨p, 0, none⟩)) ∧ W.rangeAt wr.heap.size 0 (ys.map (Value.int .u8))) [] (by kernel_rfl) ⟨HC1.out, HR1.out⟩ (fun hHeld => ?_)
    generalize (wr.alloc (.cells (cells8 ys) 84)).drew = vd at *
    refine Tillst.take (i := 0) (oi := lw0) (v := ?_) rfl (by kernel_rfl) (by kernel_rfl) (by kernel_rfl) (by kernel_rfl) (fun _ _ _ h => h) (by rfl) ?_ hHeld ?_
    rotate_left
    · intro W hSW; (try dsimp only at hSW); unfold lw0; go_simp; with_reducible rfl
    simp only [lw0, Act.put, List.setIfInBounds_toArray, List.set_cons_zero, List.set_cons_succ]
    refine Tillst.take (i := 1) (oi := lw1) (v := ?_) rfl (by kernel_rfl) (by kernel_rfl) (by kernel_rfl) (by kernel_rfl) (fun _ _ _ h => h) (by rfl) ?_ hHeld ?_
    rotate_left
    · intro W hSW; (try dsimp only at hSW); unfold lw1; go_simp; with_reducible rfl
    simp only [lw1, Act.put, List.setIfInBounds_toArray, List.set_cons_zero, List.set_cons_succ]
    refine Tillst.take (i := 2) (oi := lw2) (v := ?_) rfl (by kernel_rfl) (by kernel_rfl) (by kernel_rfl) (by kernel_rfl) (fun _ _ _ h => h) (by rfl) ?_ hHeld ?_
    rotate_left
    · intro W hSW; (try dsimp only at hSW); unfold lw2; go_simp; with_reducible rfl
    simp only [lw2, Act.put, List.setIfInBounds_toArray, List.set_cons_zero, List.set_cons_succ]
    refine Tillst.take (i := 3) (oi := lw3) (v := ?_) rfl (by kernel_rfl) (by kernel_rfl) (by kernel_rfl) (by kernel_rfl) (fun _ _ _ h => h) (by rfl) ?_ hHeld ?_
    rotate_left
    · intro W' hSW; have c0 := hSW.1; unfold lw3; go_simp; with_reducible rfl
    simp only [lw3, Act.put, List.setIfInBounds_toArray, List.set_cons_zero, List.set_cons_succ]
    refine Tillst.take (i := 5) (oi := lw5) (v := ?_) rfl (by kernel_rfl) (by kernel_rfl) (by kernel_rfl) (by kernel_rfl) (fun _ _ _ h => h) (by rfl) ?_ hHeld ?_
    rotate_left
    · intro W hSW; (try dsimp only at hSW); unfold lw5; go_simp; with_reducible rfl
    simp only [lw5, Act.put, List.setIfInBounds_toArray, List.set_cons_zero, List.set_cons_succ]
    refine Tillst.take (i := 6) (oi := lw6) (v := ?_) rfl (by kernel_rfl) (by kernel_rfl) (by kernel_rfl) (by kernel_rfl) (fun _ _ _ h => h) (by rfl) ?_ hHeld ?_
    rotate_left
    · intro W hSW; (try dsimp only at hSW); unfold lw6; go_simp; with_reducible rfl
    simp only [lw6, Act.put, List.setIfInBounds_toArray, List.set_cons_zero, List.set_cons_succ]
    refine Tillst.take (i := 7) (oi := lw7) (v := ?_) rfl (by kernel_rfl) (by kernel_rfl) (by kernel_rfl) (by kernel_rfl) (fun _ _ _ h => h) (by rfl) ?_ hHeld ?_
    rotate_left
    · intro W hSW; (try dsimp only at hSW); unfold lw7; go_simp; with_reducible rfl
    simp only [lw7, Act.put, List.setIfInBounds_toArray, List.set_cons_zero, List.set_cons_succ]
    refine Tillst.take (i := 8) (oi := lw8) (v := ?_) rfl (by kernel_rfl) (by kernel_rfl) (by kernel_rfl) (by kernel_rfl) (fun _ _ _ h => h) (by rfl) ?_ hHeld ?_
    rotate_left
    · intro W hSW; (try dsimp only at hSW); unfold lw8; go_simp; with_reducible rfl
    simp only [lw8, Act.put, List.setIfInBounds_toArray, List.set_cons_zero, List.set_cons_succ]
    refine Tillst.take (i := 9) (oi := lw9) (v := ?_) rfl (by kernel_rfl) (by kernel_rfl) (by kernel_rfl) (by kernel_rfl) (fun _ _ _ h => h) (by rfl) ?_ hHeld ?_
    rotate_left
    · intro W hSW; (try dsimp only at hSW); unfold lw9; go_simp; with_reducible rfl
    simp only [lw9, Act.put, List.setIfInBounds_toArray, List.set_cons_zero, List.set_cons_succ]
    refine Tillst.take (i := 10) (oi := lw10) (v := ?_) rfl (by kernel_rfl) (by kernel_rfl) (by kernel_rfl) (by kernel_rfl) (fun _ _ _ h => h) (by rfl) ?_ hHeld ?_
    rotate_left
    · intro W' hSW; refine exec_load_row (.tmp 12) 84 ?_ wr.heap.size 0 ?_ (ys.map (Value.int .u8)) _ hu26 rfl hs26 hSW.2 <;> rfl
    simp only [lw10, Act.put, List.setIfInBounds_toArray, List.set_cons_zero, List.set_cons_succ]
    refine Tillst.one (i := 4) (o := lw4) (by kernel_rfl) rfl ?_
    intro K hK
    refine step_call 63 #[.tmp 36] #[70] rfl rfl Tryz.func63 rfl rfl [.pointer (some ⟨p, 0, none⟩)] rfl ?_
    refine (sto_disk HSD.out).mono ?_
    rintro e v1 ⟨rfl, rfl⟩
    refine ⟨_, rfl, ?_⟩
    simp only [lw4, Act.put, List.setIfInBounds_toArray, List.set_cons_zero, List.set_cons_succ]
    refine hK.out _ _ (fun _ => hHeld) (fun hHeld => ?_)
    replace hHeld := hHeld (by decide)
    clear hK K
    rw [HWI.out]
    refine Tillst.one (i := 11) (o := lw11) (by kernel_rfl) rfl ?_
    intro K hK
    refine step_call 32 #[.tmp 37, .tmp 42, .tmp 43] #[27, 3, 84] rfl rfl Tryz.func32 rfl rfl [.pointer (some ⟨d, 0, none⟩), .int .i64 ((i0 : Int) + (j : Int)), .agg (cells8 ys)] rfl ?_
    refine HWK.out.mono ?_
    rintro e v2 ⟨rfl, hd2, hk2⟩
    have HD2 := Lib.hid hd2
    have HK2 := Lib.hid hk2
    have hS2 := And.intro (show v2.cell? ⟨l, 0, none⟩ = some (.pointer (some ⟨p, 0, none⟩)) from (hk2.cell (p := ⟨l, 0, none⟩) (.inl (.inl HYL.out))).trans hHeld.1) (show v2.rangeAt wr.heap.size 0 (ys.map (Value.int .u8)) from fun q u hu => (hk2.cell (p := ⟨wr.heap.size, 0 + q, none⟩) (.inr rfl)).trans (hHeld.2 q u hu))
    clear hd2 hk2
    refine ⟨_, rfl, ?_⟩
    simp only [lw11, Act.put, List.setIfInBounds_toArray, List.set_cons_zero, List.set_cons_succ]
    refine hK.out _ _ (fun _ => hS2) (fun hHeld => ?_)
    replace hHeld := hHeld (by decide)
    clear hK K hS2
    refine Tillst.one (i := 12) (o := lw12) (by kernel_rfl) rfl ?_
    intro K hK
    refine step_value ?_ rfl ?_ ?_
    rotate_left
    · unfold lw12; go_simp; with_reducible rfl
    simp only [lw12, Act.put, List.setIfInBounds_toArray, List.set_cons_zero, List.set_cons_succ]
    refine hK.out _ _ (fun _ => hHeld) (fun hHeld => ?_)
    replace hHeld := hHeld (by decide)
    clear hK K
    refine Tillst.done (by kernel_rfl) ?_ _
    refine NoPanic.normal ?_
    clear hHeld
    have HKA := Lib.hid (HKJ.out.trans (HVD.out.trans HK2.out (fun b h => .inl (.inl h))) (fun b h => h))
    have HSA := Lib.hid (show StoS v2 Y p d N s t (kj.wr (Dk.put (i0 + j) ys)) from ⟨HSD.out.1.kept HK2.out (.inl (.inr rfl)), HD2.out.mono (fun b hb h => .inl h), HSD.out.2.2⟩)
    by_cases hz : E = 0
    · have hw3 := HW2.out
      rw [if_pos hz] at hw3
      have HW3 := Lib.hid hw3
      subst hz
      clear hw3
      go_wp2_with fail
      go_roundw
      case rel => exact ⟨_, _, _, _, _, ⟨j + 1, by omega, (by rw [Int.natCast_add]; rfl), kj.wr (Dk.put (i0 + j) ys), HSA.out, HKA.out, by rw [HW3.out]; rfl, HPN.out⟩, rfl, rfl, rfl, rfl, rfl⟩
      case measure => simp [intOf]; omega
    · have hw3 := HW2.out
      rw [if_neg hz] at hw3
      have HW3 := Lib.hid hw3
      have d1 : (E != 0) = true := by simpa using hz
      clear hw3 hz
      go_wp2_with fail
      go_ret
      rw [HW3.out]
      exact ⟨rfl, HSA.out, HKA.out⟩
end
end Go.Proofs.YtodcohkblgjfeaaGreat

namespace Go.Proofs.YtodcohkblgjfeaaGreat
set_option maxRecDepth 100000
open Go.RowKit
set_option linter.unusedVariables false
section
variable {w : World} {ops : Array Oper} {rest : List Oper} {o : Oper} {a : Act} {Q : Exit → Act → World → Prop}
end
theorem size_stamp : (Tryz.prog.info? 147).map (·.size) = some 3 := by kernel_rfl
section
variable {w : World} {ops : Array Oper} {rest : List Oper} {o : Oper} {a : Act} {Q : Exit → Act → World → Prop}
end
end Go.Proofs.YtodcohkblgjfeaaGreat

namespace Go.Proofs.YtodcohkblgjfeaaGreat
set_option maxRecDepth 100000
open Go.RowKit
set_option linter.unusedVariables false
def headL (gen pos n : Int) : List Int := beBytes gen 8 ++ beBytes pos 4 ++ beBytes n 2 ++ beBytes 0 2
def packL (gen pos : Int) (pay : List Int) : List Int := headL gen pos pay.length ++ pay ++ noughts (48 - pay.length)
theorem headL_length (gen pos n : Int) : (headL gen pos n).length = 16 := by simp [headL, beBytes_length]
theorem packL_length (gen pos : Int) (pay : List Int) (h : pay.length ≤ 48) : (packL gen pos pay).length = 64 := by simp [packL, headL_length, noughts_length]; omega
theorem pack_zero (pos : Int) (A : Option Addr) (n cap : Nat) (w : World) :
    Calls Tryz.prog 144 #[.int .u64 0, .int .u32 pos, .slice A n cap] w fun e w' => e = .returned (.tuple #[.agg (cells8 (noughts 64)), .int .i64 2]) ∧ Below w.heap.size w w' := by
  go_enter Tryz.func144, Tryz.ntmps144
  go_wp2_with (first | (with_reducible refine halt_end ?_) | (refine wpList_alloc_blk rfl rfl ?_) | (refine wpList_build_blk rfl rfl ?_) | (refine wpList_store_new _ _ rfl rfl w (noughts 64) rfl rfl (noughts 64) rfl (noughts_length 64) (noughts_length 64) ?_))
  exact Halt.ret (results_blk2 rfl _ _ w.heap.size 84 (noughts 64) rfl (Blk.new w _ _) (noughts_length 64)) rfl ⟨rfl, (Below.refl _ _).alloc (Nat.le_refl _) _⟩
theorem pack_long (gen pos : Int) (A : Option Addr) (n cap : Nat) (w : World) (hg : 1 ≤ gen) (hn : 48 < n) (hn2 : n ≤ 9223372036854775807) :
    Calls Tryz.prog 144 #[.int .u64 gen, .int .u32 pos, .slice A n cap] w fun e w' => e = .returned (.tuple #[.agg (cells8 (noughts 64)), .int .i64 3]) ∧ Below w.heap.size w w' := by
  have h0 : (gen == 0) = false := by simp; omega
  have h1 : decide ((48 : Int) < (n : Int)) = true := by simp; omega
  go_enter Tryz.func144, Tryz.ntmps144
  go_wp2_with (first | (with_reducible refine halt_end ?_) | (refine wpList_alloc_blk rfl rfl ?_) | (refine wpList_build_blk rfl rfl ?_) | (refine wpList_store_new _ _ rfl rfl w (noughts 64) rfl rfl (noughts 64) rfl (noughts_length 64) (noughts_length 64) ?_))
  exact Halt.ret (results_blk2 rfl _ _ w.heap.size 84 (noughts 64) rfl (Blk.new w _ _) (noughts_length 64)) rfl ⟨rfl, (Below.refl _ _).alloc (Nat.le_refl _) _⟩
theorem splice_at_s5 {α : Type} (H zs cs : List α) (k : Nat) (z : α) (h : zs = H ++ List.replicate k z) (hk : cs.length ≤ k) : splice zs H.length cs = H ++ cs ++ List.replicate (k - cs.length) z := by
  subst h
  unfold splice
  rw [List.take_left, List.drop_append, List.drop_eq_nil_of_le (by omega), List.nil_append, List.drop_replicate, show k - (H.length + cs.length - H.length) = k - cs.length by omega, List.append_assoc]
set_option maxHeartbeats 1000000 in
theorem pack_ok (gen pos : Int) (A : Option Addr) (n cap : Nat) (xs : List Int) (S : Nat → Prop) (w : World) (hx : RowI .u8 w S A n xs) (hS : ∀ b, S b → b < w.heap.size)
    (hg : 1 ≤ gen) (hg2 : gen ≤ 18446744073709551615) (hp : 0 ≤ pos) (hp2 : pos ≤ 4294967295) (hn : n ≤ 48) :
    Calls Tryz.prog 144 #[.int .u64 gen, .int .u32 pos, .slice A n cap] w fun e w' => e = .returned (.tuple #[.agg (cells8 (packL gen pos xs)), .int .i64 0]) ∧ Below w.heap.size w w' := by
  have h0 : (gen == 0) = false := by simp; omega
  have h1 : decide ((48 : Int) < (n : Int)) = false := by simp; omega
  have HX := Lib.hid hx
  have HL := Lib.hid hx.1
  clear hx
  go_enter Tryz.func144, Tryz.ntmps144
  go_wp2_with (first | (with_reducible refine halt_end ?_) | (refine wpList_alloc_blk rfl rfl ?_))
  generalize hw1 : w.alloc (.cells (cells8 (noughts 64)) 84) = w1
  have HB1 := Lib.hid (show Below w.heap.size w w1 by rw [← hw1]; exact (Below.refl _ _).alloc (Nat.le_refl _) _)
  have HR1 := Lib.hid (show ArrB w1 w.heap.size (noughts 64) by rw [← hw1]; exact Blk.new w _ _)
  clear hw1
  refine (put64_any none 0 0 [] (fun _ => False) gen _ (RowG.nil _ _ _ _ _) (fun _ h => h.elim) (by omega) (by omega) hg2).mono ?_
  rintro e w2 ⟨rfl, ha, hb⟩
  have HA2 := Lib.hid ha
  have HB2 := Lib.hid hb
  clear ha hb
  go_wp2_with fail
  refine (put32_any (some ⟨w1.heap.size, 0, none⟩) 8 8 ([] ++ beBytes gen 8) (· = w1.heap.size) pos _ (HA2.out.rowN 0 (by simp [beBytes_length]) rfl) (fun b h => by subst h; exact HA2.out.lt) (by omega) hp hp2).mono ?_
  rintro e w3 ⟨rfl, ha, hb⟩
  have HA3 := Lib.hid ha
  have HB3 := Lib.hid (HB2.out.trans (hb.mono HB2.out.size))
  clear ha hb HA2 HB2
  go_wp2_with fail
  refine (put16_any (some ⟨w2.heap.size, 0, none⟩) 12 12 ([] ++ beBytes gen 8 ++ beBytes pos 4) (· = w2.heap.size) n _ (HA3.out.rowN 0 (by simp [beBytes_length]) rfl) (fun b h => by subst h; exact HA3.out.lt) (by omega) (by omega) (by omega)).mono ?_
  rintro e w4 ⟨rfl, ha, hb⟩
  have HA4 := Lib.hid ha
  have HB4 := Lib.hid (HB3.out.trans (hb.mono HB3.out.size))
  clear ha hb HA3 HB3
  go_wp2_with fail
  refine (put16_any (some ⟨w3.heap.size, 0, none⟩) 14 14 ([] ++ beBytes gen 8 ++ beBytes pos 4 ++ beBytes n 2) (· = w3.heap.size) 0 _ (HA4.out.rowN 0 (by simp [beBytes_length]) rfl) (fun b h => by subst h; exact HA4.out.lt) (by omega) (by omega) (by omega)).mono ?_
  rintro e w5 ⟨rfl, ha, hb⟩
  have HA5 := Lib.hid (show ArrU w5 w4.heap.size (headL gen pos xs.length) by rw [show (xs.length : Int) = n by rw [HL.out]]; simpa [headL] using ha)
  have HB5 := Lib.hid (HB4.out.trans (hb.mono HB4.out.size))
  clear ha hb HA4 HB4
  generalize hh : headL gen pos xs.length = hd at *
  have HH := Lib.hid hh
  have hl16 : hd.length = 16 := by rw [← hh]; exact headL_length _ _ _
  obtain ⟨w6, hw6⟩ : ∃ w6, w6 = w5.alloc (.cells (cells8 (noughts 64)) 84) := ⟨_, rfl⟩
  have HB6 := Lib.hid (show Below w1.heap.size w1 w6 by rw [hw6]; exact HB5.out.alloc HB5.out.size _)
  have HG6 := Lib.hid (show w6.heap[w5.heap.size]? = some (.cells ((noughts 64).map (Value.int .u8)).toArray 84 (0, 0)) by rw [hw6]; exact Blk.new w5 _ _)
  have HA6 := Lib.hid (show ArrU w6 w4.heap.size hd by rw [hw6]; exact Blk.alloc HA5.out _)
  have HW6 := Lib.hid hw6
  have HBG := Lib.hid HB5.out.size
  have HR6 := Lib.hid (show ArrB w6 w.heap.size (noughts 64) from HR1.out.below HB6.out HR1.out.lt)
  have HX6 := Lib.hid ((HX.out.below HB1.out hS).below HB6.out (fun b h => Nat.lt_of_lt_of_le (hS b h) HB1.out.size))
  have c1 := Lib.hid (show (hd.map (Value.int .u8)).length = Nat.min 16 64 by simp [hl16])
  have c2 := Lib.hid (row_src (HA6.out.rowN 0 hl16 (S := fun _ => True) trivial) (by omega))
  have c3 := Lib.hid (show 0 + (hd.map (Value.int .u8)).length ≤ ((noughts 64).map (Value.int .u8)).length by simp [hl16, noughts_length])
  have d1 := Lib.hid (show splice ((noughts 64).map (Value.int .u8)) 0 (hd.map (Value.int .u8)) = (hd ++ noughts 48).map (Value.int .u8) by
    rw [splice_head _ _ 48 (Value.int .u8 0) (by simp [noughts, hl16])]
    simp [noughts])
  have c4 := Lib.hid (show (xs.map (Value.int .u8)).length = Nat.min n 48 by rw [List.length_map, HL.out]; exact (Nat.min_eq_left hn).symm)
  have c6 := Lib.hid (show 16 + (xs.map (Value.int .u8)).length ≤ ((hd ++ noughts 48).map (Value.int .u8)).length by simp [hl16, noughts_length]; have := HL.out; omega)
  have d2 := Lib.hid (show splice ((hd ++ noughts 48).map (Value.int .u8)) 16 (xs.map (Value.int .u8)) = (hd ++ xs ++ noughts (48 - xs.length)).map (Value.int .u8) by
    have := splice_at_s5 (hd.map (Value.int .u8)) ((hd ++ noughts 48).map (Value.int .u8)) (xs.map (Value.int .u8)) 48 (.int .u8 0) (by simp [noughts]) (by simp; have := HL.out; omega)
    rw [List.length_map, hl16] at this
    rw [this]
    simp [noughts])
  have HPL := Lib.hid (packL_length gen pos xs (by have := HL.out; omega))
  clear hh hw6 hl16 HA5
  go_wp2_with (first | (refine wpList_alloc_blk rfl rfl ?_; rw [← HW6.out]) | (refine wpList_copy_splice rfl (.tmp 31) (.tmp 32) 42 42 rfl 5 Tryz.underlying42 size_u8 _ _ _ _ _ _ rfl rfl w5.heap.size 0 ((noughts 64).map (Value.int .u8)) 84 HG6.out (hd.map (Value.int .u8)) c1.out (fun _ => ⟨rfl, c2.out⟩) c3.out (one_u8 hd) w1.heap.size w1 HB6.out HBG.out ?_; intro w7 hg7 hb7; rw [d1.out] at hg7; have HG7 := Lib.hid hg7; have HB7 := Lib.hid hb7; have HX7 := Lib.hid ((HX.out.below HB1.out hS).below HB7.out (fun b h => Nat.lt_of_lt_of_le (hS b h) HB1.out.size)); clear hg7 hb7) | (refine wpList_copy_splice rfl (.tmp 36) (.tmp 37) 42 42 rfl 5 Tryz.underlying42 size_u8 _ _ _ _ _ _ rfl rfl w5.heap.size 16 ((hd ++ noughts 48).map (Value.int .u8)) 84 HG7.out (xs.map (Value.int .u8)) c4.out (fun h => ⟨rfl, row_src HX7.out (by simpa [HL.out] using h)⟩) c6.out (one_u8 xs) w1.heap.size w1 HB7.out HBG.out ?_; intro w8 hg8 hb8; rw [d2.out] at hg8; have HA8 := Lib.hid (show ArrB w8 w5.heap.size (packL gen pos xs) by rw [packL, HH.out]; exact hg8); have HB8 := Lib.hid hb8; clear hg8 hb8) |
    (refine wpList_load_blk (.tmp 9) rfl rfl w5.heap.size 0 rfl (packL gen pos xs) HPL.out HA8.out.range ?_) |
    (refine wpList_store_blk (.tmp 6) (.tmp 39) rfl rfl w.heap.size (packL gen pos xs) rfl rfl 84 (noughts 64) (HR1.out.below HB8.out HR1.out.lt) (noughts_length 64) HPL.out ?_) |
    (with_reducible refine halt_end ?_))
  exact Halt.ret (results_blk2 rfl _ _ w.heap.size 84 (packL gen pos xs) rfl ((HR1.out.below HB8.out HR1.out.lt).setRow (packL gen pos xs)) HPL.out) rfl
    ⟨rfl, below_setRow (HB1.out.trans (HB8.out.mono HB1.out.size)) (Nat.le_refl _) _⟩
end Go.Proofs.YtodcohkblgjfeaaGreat
-- x

namespace Go.Proofs.YtodcohkblgjfeaaGreat
open Go.RowKit
set_option maxRecDepth 100000
set_option linter.unusedVariables false
set_option linter.unusedSimpArgs false
def hdrL (i : Nat) (g : Int) : List Int := packL g 0 [(i : Int) / 256, (i : Int)]
theorem hdrL_length (i : Nat) (g : Int) : (hdrL i g).length = 64 := packL_length _ _ _ (by simp)
set_option maxHeartbeats 1000000 in
theorem header_any (i : Nat) (g : Int) (w : World) (hi : i ≤ 15) (hg : 1 ≤ g ∧ g ≤ 18446744073709551615) :
    Calls Tryz.prog 125 #[.int .i64 i, .int .u64 g] w fun e w' => e = .returned (.tuple #[.agg (cells8 (hdrL i g)), .int .i64 0]) ∧ Below w.heap.size w w' := by
  have hi2 : (i : Int) ≤ 15 := by omega
  obtain ⟨ys, hys⟩ : ∃ ys, hdrL i g = ys := ⟨_, rfl⟩
  have HL := Lib.hid (show ys.length = 64 by rw [← hys]; exact hdrL_length i g)
  have HY := Lib.hid (show packL g 0 [(i : Int) / 256, (i : Int)] = ys from hys)
  rw [hys]
  clear hys
  go_enter Tryz.func125, Tryz.ntmps125
  go_wp2_with (refine wpList_alloc_blk rfl rfl ?_)
  have HA := Lib.hid (show Arr (Value.int .u8) ((w.alloc (.cells (cells8 (noughts 64)) 84)).alloc (.cells #[.int .u8 ((i : Int) / 256), .int .u8 (i : Int)] 5)) (w.heap.size + 1) 5 [(i : Int) / 256, (i : Int)] from blk_new2 w _ _ _)
  have HR := Lib.hid (show Arr (Value.int .u8) ((w.alloc (.cells (cells8 (noughts 64)) 84)).alloc (.cells #[.int .u8 ((i : Int) / 256), .int .u8 (i : Int)] 5)) w.heap.size 84 (noughts 64) from (Blk.new w _ _).alloc _)
  have HB := Lib.hid (((Below.refl w.heap.size w).alloc (Nat.le_refl _) (.cells (cells8 (noughts 64)) 84)).alloc (by simp) (.cells #[.int .u8 ((i : Int) / 256), .int .u8 (i : Int)] 5))
  refine (pack_ok g 0 _ 2 2 [(i : Int) / 256, (i : Int)] (· < _) _ (HA.out.row 0 (Blk.lt HA.out)) (fun b h => h) hg.1 hg.2 (by omega) (by omega) (by omega)).mono ?_
  rintro e w2 ⟨rfl, hb⟩
  have HR2 := Lib.hid (show Arr (Value.int .u8) w2 w.heap.size 84 (noughts 64) from Blk.below HR.out hb (Blk.lt HR.out))
  have HB2 := Lib.hid (HB.out.trans (hb.mono HB.out.size))
  rw [HY.out]
  clear hb
  go_wp2_with (first
    | (refine wpList_store_blk (.tmp 4) (.tmp 16) rfl rfl w.heap.size ys rfl rfl 84 (noughts 64) HR2.out (noughts_length 64) HL.out ?_)
    | (with_reducible refine halt_end ?_))
  exact Halt.ret (results_blk2 (p := 4) (u := 5) rfl _ _ w.heap.size 84 ys rfl (HR2.out.setRow ys) HL.out) rfl ⟨rfl, below_setRow HB2.out (Nat.le_refl _) _⟩
end Go.Proofs.YtodcohkblgjfeaaGreat

namespace Go.Proofs.YtodcohkblgjfeaaGreat
set_option maxRecDepth 100000
open Go.RowKit
set_option linter.unusedVariables false
section
variable {P : Program} {w : World} {ops : Array Oper} {o : Oper} {a : Act} {Q : Exit → Act → World → Prop} {K : Act → World → Prop} {E : Prop}
theorem step_load_row (x : Operand) (ty : TypeId) (ho : o.op = .load ty x) (hgd : Region.wanted o (yielded ops a.tmps) = true) (b : Nat) (hx : a.eval x = .pointer (some ⟨b, 0, none⟩))
    (t : TypeId) (cs : List Value) (d : TypeDesc) (hu : P.underlying ty = some d) (hd : d.isRow = true) (hi : (P.info? ty).map (·.size) = some cs.length) (hc : Blk w b t cs.toArray)
    (h : K (a.put o.dst (.agg cs.toArray)) w) : if Region.wanted o (yielded ops a.tmps) = true then Oper.wp P o a w K Q else E := by
  rw [if_pos hgd]
  exact wp_load_mid ty x ho b 0 hx cs d hc.rangeL hu hd hi h
theorem step_store_row (x y : Operand) (ty : TypeId) (ho : o.op = .store ty x y) (hgd : Region.wanted o (yielded ops a.tmps) = true) (g : Nat) (cs : Array Value) (hx : a.eval x = .pointer (some ⟨g, 0, none⟩)) (hy : a.eval y = .agg cs)
    (t : TypeId) (cs0 : Array Value) (hg : Blk w g t cs0) (hi : (P.info? ty).map (·.size) = some cs.size) (hl : cs0.size = cs.size) (hone : cs.all (·.oneCell') = true)
    (h : K (a.put o.dst undef) (w.setRow g cs)) : if Region.wanted o (yielded ops a.tmps) = true then Oper.wp P o a w K Q else E := by
  rw [if_pos hgd]
  exact wp_store_row ty x y ho g cs hx hy t cs0 hg hi hl hone h
theorem row_runs {o : Oper} {a : Act} {W : World} (x : Operand) (ty : TypeId) (ho : o.op = .load ty x) (b : Nat) (hx : a.eval x = .pointer (some ⟨b, 0, none⟩))
    (t : TypeId) (cs : List Value) (d : TypeDesc) (hu : P.underlying ty = some d) (hd : d.isRow = true) (hi : (P.info? ty).map (·.size) = some cs.length) (hc : Blk W b t cs.toArray) :
    (execOp a.eval o).run P W = .ok (.value (.agg cs.toArray)) W := by
  have hr := run_loadAt_mid (P := P) W b 0 ty cs d hc.rangeL hu hd hi
  unfold execOp
  simp only [ho, hx, Sem.run_bind, hr, Result.andThen_ok, Sem.run_pure]
end
end Go.Proofs.YtodcohkblgjfeaaGreat

namespace Go.Proofs.YtodcohkblgjfeaaGreat
open Go.RowKit
set_option maxRecDepth 100000
set_option linter.unusedVariables false
set_option linter.unusedSimpArgs false
def pickS9 (E sec : Int) : Int := if E = 0 then sec else 0
def pickY9 (E : Int) (ys : List Seg) : List Seg := if E = 0 then ys else []
theorem pickS9_zero (sec : Int) : pickS9 0 sec = sec := if_pos rfl
theorem pickY9_zero (ys : List Seg) : pickY9 0 ys = ys := if_pos rfl
theorem OpenT.told9 {w w' : World} {sec g : Int} {xs : List Seg} {e : Ending} (h : OpenT w sec xs g e w') :
    ∃ A cap, e = .returned (.tuple #[ringV (pickS9 (openE sec xs g) sec) A (pickY9 (openE sec xs g) (openX xs g)).length cap, .int .i64 (if openE sec xs g = 0 then nxtR xs else 0), .int .i64 (openE sec xs g)]) ∧
      OwnZ w' w.heap.size A (pickY9 (openE sec xs g) (openX xs g)).length cap (pickY9 (openE sec xs g) (openX xs g)) ∧ Below w.heap.size w w' := by
  obtain ⟨⟨h0, v, rfl, A, n, cap, rfl, ho⟩ | ⟨h0, rfl⟩, hb⟩ := h
  · unfold pickS9 pickY9
    simp only [h0, if_pos]
    obtain rfl : n = (openX xs g).length := ho.1.symm
    exact ⟨A, cap, rfl, ho, hb⟩
  · unfold pickS9 pickY9
    simp only [if_neg h0]
    exact ⟨none, 0, rfl, ⟨rfl, ⟨rfl, .inl ⟨rfl, rfl⟩⟩, fun _ => rfl, Nat.le_refl _⟩, hb⟩
theorem OwnZ.setRow9 {w : World} {base : Nat} {A : Option Addr} {n cap : Nat} {xs : List Seg} (h : OwnZ w base A n cap xs) {g : Nat} (hg : g < base) (cs : Array Value) : OwnZ (w.setRow g cs) base A n cap xs :=
  ⟨h.1, h.2.1.kept (row := some g) ⟨rfl, rfl, rfl, by simp [World.setRow], fun k _ hne => setRow_other w g k cs (fun e => hne (by rw [e]))⟩ (.inr (fun e => by have := own_least h.2.1 e; omega)), h.2.2⟩
theorem zero_ring (w : World) : (zeroValue 35).run Tryz.prog w = .ok (.agg #[.int .i64 0, .slice none 0 0]) w := (Tryz.zeroValue35 w).trans rfl
theorem ring_one (a : Int) (A : Option Addr) (n c : Nat) : (#[Value.int .i64 a, Value.slice A n c] : Array Value).all (·.oneCell') = true := by simp [Value.oneCell']
theorem open_nxt {sec : Int} {xs : List Seg} {g : Int} (h : openE sec xs g = 0) : ¬ nxtR xs < 0 := by
  intro h3
  by_cases h0 : OkR sec xs
  · by_cases h1 : 0 ≤ opnR xs
    · rw [open_state h0 h1] at h; omega
    by_cases h2 : g ≤ topG xs
    · rw [open_arg h0 h1 h2] at h; omega
    rw [open_full h0 h1 h2 h3] at h
    omega
  · rw [open_bad h0] at h; omega
def OpnC (v : World) (sec : Int) (zs : List Seg) (g : Int) (t i e : Value) (wy : World) : Prop :=
  e = .int .i64 (openE sec zs g) ∧ i = .int .i64 (if openE sec zs g = 0 then nxtR zs else 0) ∧ ∃ nb A c, t = .pointer (some ⟨nb, 0, none⟩) ∧ v.heap.size ≤ nb ∧
    Blk wy nb 35 #[.int .i64 (pickS9 (openE sec zs g) sec), .slice A (pickY9 (openE sec zs g) (openX zs g)).length c] ∧ OwnZ wy v.heap.size A (pickY9 (openE sec zs g) (openX zs g)).length c (pickY9 (openE sec zs g) (openX zs g)) ∧ Below v.heap.size v wy
section
variable {v v7 v8 : World} {sec : Int} {zs : List Seg} {g : Int} {A : Option Addr} {c : Nat}
theorem OpnC.call (ho : OwnZ v7 v.heap.size A (pickY9 (openE sec zs g) (openX zs g)).length c (pickY9 (openE sec zs g) (openX zs g))) (hb : Below v.heap.size v v7) :
    OpnC v sec zs g (.pointer (some ⟨v7.heap.size, 0, none⟩)) (.int .i64 (if openE sec zs g = 0 then nxtR zs else 0)) (.int .i64 (openE sec zs g))
      ((v7.alloc (.cells #[.int .i64 0, .slice none 0 0] 35)).setRow v7.heap.size #[.int .i64 (pickS9 (openE sec zs g) sec), .slice A (pickY9 (openE sec zs g) (openX zs g)).length c]) := by
  have h1 := below_setRow ((Below.refl v7.heap.size v7).alloc (Nat.le_refl _) (.cells #[.int .i64 0, .slice none 0 0] 35)) (Nat.le_refl _) #[.int .i64 (pickS9 (openE sec zs g) sec), .slice A (pickY9 (openE sec zs g) (openX zs g)).length c]
  exact ⟨rfl, rfl, _, A, c, rfl, hb.size, setRow_heap _ _ _ _ _ _ (Blk.new v7 _ _), ho.below h1, hb.trans (h1.mono hb.size)⟩
theorem OpnC.laid (ho : OwnZ v8 (v.alloc (.cells #[.int .i64 0, .slice none 0 0] 35)).heap.size A (pickY9 (openE sec zs g) (openX zs g)).length c (pickY9 (openE sec zs g) (openX zs g))) (hb : Below (v.alloc (.cells #[.int .i64 0, .slice none 0 0] 35)).heap.size (v.alloc (.cells #[.int .i64 0, .slice none 0 0] 35)) v8) :
    OpnC v sec zs g (.pointer (some ⟨v.heap.size, 0, none⟩)) (.int .i64 (if openE sec zs g = 0 then nxtR zs else 0)) (.int .i64 (openE sec zs g))
      (v8.setRow v.heap.size #[.int .i64 (pickS9 (openE sec zs g) sec), .slice A (pickY9 (openE sec zs g) (openX zs g)).length c]) := by
  have hlt : v.heap.size < (v.alloc (.cells #[.int .i64 0, .slice none 0 0] 35)).heap.size := by simp
  have hk := Blk.below (Blk.new v 35 #[.int .i64 0, .slice none 0 0]) hb hlt
  have h1 := ((Below.refl v.heap.size v).alloc (Nat.le_refl _) (.cells #[.int .i64 0, .slice none 0 0] 35)).trans (hb.mono (Nat.le_of_lt hlt))
  exact ⟨rfl, rfl, _, A, c, rfl, Nat.le_refl _, setRow_heap _ _ _ _ _ _ hk, (ho.setRow9 hlt _).base (Nat.le_of_lt hlt), below_setRow h1 (Nat.le_refl _) _⟩
end
end Go.Proofs.YtodcohkblgjfeaaGreat

namespace Go.Proofs.YtodcohkblgjfeaaGreat
set_option maxRecDepth 100000
open Go.RowKit
set_option linter.unusedVariables false
theorem raw_short (w : World) (r g : Nat) (xs : List Int) (pos n : Nat) (h : Rd w r g xs pos 0) (hn : xs.length - pos < n) :
    Calls Tryz.prog 151 #[.pointer (some ⟨r, 0, none⟩), .int .i64 n] w fun e w' => ∃ b, e = .returned (.slice (some ⟨b, 0, none⟩) 0 0) ∧ w.heap.size ≤ b ∧
      b < w'.heap.size ∧ Kept (fun b => b < w.heap.size ∧ b ≠ r) w w' := by
  have H := Lib.hid h
  clear h
  go_enter Tryz.func151, Tryz.ntmps151
  go_wp2_with (first
    | (go_at_call 167; refine (take_short _ r g xs pos n H.out hn).mono ?_; rintro e w1 ⟨rfl, hrd, hk⟩; have HD := Lib.hid hrd; have HK := Lib.hid hk; clear hrd hk)
    | (go_at_call 164; refine (clone_any none 0 0 [] (fun _ => False) _ (RowG.nil _ _ _ _ _) (fun _ h => h.elim) (by omega)).mono ?_; rintro e w2 ⟨rfl, ha, hb⟩; have HA := Lib.hid ha; have HB := Lib.hid hb; clear ha hb))
  go_ret
  exact ⟨_, rfl, HK.out.size, HA.out.lt, HK.out.below HB.out (fun b h => Nat.lt_of_lt_of_le h.1 HK.out.size)⟩
def genOf (xs : List Int) : Int := numOf (xs.take 8)
def posOf (xs : List Int) : Int := numOf ((xs.drop 8).take 4)
def fillOf (xs : List Int) : Nat := (numOf ((xs.drop 12).take 2)).toNat
def twoOf (xs : List Int) : Int := numOf ((xs.drop 14).take 2)
def meantOf (xs : List Int) : List Int := if fillOf xs ≤ 48 then (xs.drop 16).take (fillOf xs) else []
theorem fill_eq {xs : List Int} (hb : Bytes xs) : numOf ((xs.drop 12).take 2) = (fillOf xs : Int) := by
  have := (numOf_bounds _ (bytes_part hb 12 2)).1
  unfold fillOf
  omega
theorem fill_lt {xs : List Int} (hb : Bytes xs) : fillOf xs ≤ 65535 := by
  have h := (numOf_bounds _ (bytes_part hb 12 2)).2
  have h2 : ((xs.drop 12).take 2).length ≤ 2 := by simp; omega
  have h3 : (256 ^ ((xs.drop 12).take 2).length : Nat) ≤ 256 ^ 2 := Nat.pow_le_pow_right (by omega) h2
  unfold fillOf
  omega
theorem gen_bounds {xs : List Int} (hb : Bytes xs) (hl : xs.length = 64) : 0 ≤ genOf xs ∧ genOf xs ≤ 18446744073709551615 := by
  have h := numOf_bounds _ (hb.take 8)
  rw [List.length_take, hl] at h
  exact ⟨h.1, Int.le_of_lt_add_one h.2⟩
theorem pos_bounds {xs : List Int} (hb : Bytes xs) (hl : xs.length = 64) : 0 ≤ posOf xs ∧ posOf xs ≤ 4294967295 := by
  have h := numOf_bounds _ (bytes_part hb 8 4)
  rw [List.length_take, List.length_drop, hl] at h
  exact ⟨h.1, Int.le_of_lt_add_one h.2⟩
theorem meant_le (xs : List Int) : (meantOf xs).length ≤ 48 := by
  unfold meantOf
  split
  · simp; omega
  · simp
theorem raw_meant (w : World) (r g : Nat) (xs : List Int) (h : Rd w r g xs 16 0) (hl : xs.length = 64) :
    Calls Tryz.prog 151 #[.pointer (some ⟨r, 0, none⟩), .int .i64 (fillOf xs)] w fun e w' => ∃ b, e = .returned (.slice (some ⟨b, 0, none⟩) (meantOf xs).length (meantOf xs).length) ∧
      RowI .u8 w' (fun b => w.heap.size ≤ b ∧ b < w'.heap.size) (some ⟨b, 0, none⟩) (meantOf xs).length (meantOf xs) ∧ Kept (fun b => b < w.heap.size ∧ b ≠ r) w w' := by
  by_cases hf : fillOf xs ≤ 48
  · have hm : meantOf xs = (xs.drop 16).take (fillOf xs) := if_pos hf
    have hml : (meantOf xs).length = fillOf xs := by rw [hm]; simp; omega
    refine (raw_ok w r g xs 16 (fillOf xs) h (by omega)).mono ?_
    rintro e w' ⟨b, rfl, hb, ha, hk⟩
    rw [← hm] at ha
    refine ⟨b, by rw [hml], ha.row 0 ⟨hb, ha.lt⟩, hk⟩
  · have hm : meantOf xs = [] := if_neg hf
    refine (raw_short w r g xs 16 (fillOf xs) h (by omega)).mono ?_
    rintro e w' ⟨b, rfl, hb, hlt, hk⟩
    rw [hm]
    exact ⟨b, rfl, RowG.nil _ _ _ _ _, hk⟩
def stampV (xs : List Int) : Value := .agg #[.int .u64 (genOf xs), .int .u32 (posOf xs), .int .i64 (fillOf xs)]
def SaidTold (xs : List Int) (w : World) (e : Ending) (w' : World) : Prop :=
  ∃ A c, e = .returned (.tuple #[.agg #[.int .u64 (genOf xs), .int .u32 (posOf xs), .int .i64 (fillOf xs)], .slice A (meantOf xs).length c]) ∧
    RowI .u8 w' (fun b => w.heap.size ≤ b ∧ b < w'.heap.size) A (meantOf xs).length (meantOf xs) ∧ Below w.heap.size w w' ∧ (A = none → c = 0)
def SaidTold2 (xs : List Int) (w : World) (e : Ending) (w' : World) : Prop :=
  ∃ A c, e = .returned (.tuple #[.agg #[.int .u64 (genOf xs), .int .u32 (posOf xs), .int .i64 (fillOf xs)], .slice A (meantOf xs).length c]) ∧
    RowI .u8 w' (fun b => w.heap.size ≤ b ∧ b < w'.heap.size) A (meantOf xs).length (meantOf xs) ∧ Below w.heap.size w w' ∧ (A = none → c = 0) ∧ (meantOf xs).length ≤ c
structure Saying (w wi : World) (r : Nat) (xs : List Int) (pos : Nat) (A B C : Value) : Prop where
  rd : Rd wi r (w.heap.size + 3) xs pos 0
  lo : w.heap.size + 3 < r
  zero : Blk wi (w.heap.size + 1) 147 #[.int .u64 0, .int .u32 0, .int .i64 0]
  st : Blk wi (w.heap.size + 1 + 1) 147 #[A, B, C]
  bel : Below w.heap.size w wi
theorem Saying.cells {w wi w' : World} {r : Nat} {xs : List Int} {pos : Nat} {A B C : Value} (h : Saying w wi r xs pos A B C) (hk : Kept (fun b => b < wi.heap.size ∧ b ≠ r) wi w') :
    (w'.cell? ⟨w.heap.size + 1 + 1, 0, none⟩ = some A ∧ w'.cell? ⟨w.heap.size + 1 + 1, 1, none⟩ = some B ∧ w'.cell? ⟨w.heap.size + 1 + 1, 2, none⟩ = some C) ∧ Blk w' (w.heap.size + 1) 147 #[.int .u64 0, .int .u32 0, .int .i64 0] := by
  have hs := h.st.kept hk ⟨h.st.lt, by have := h.lo; omega⟩
  exact ⟨⟨hs.cell 0, hs.cell 1, hs.cell 2⟩, h.zero.kept hk ⟨h.zero.lt, by have := h.lo; omega⟩⟩
theorem Saying.drew {w wi : World} {r : Nat} {xs : List Int} {pos : Nat} {A B C : Value} (h : Saying w wi r xs pos A B C) : Saying w wi.drew r xs pos A B C := ⟨h.rd, h.lo, h.zero, h.st, h.bel.drew⟩
theorem Saying.read {w wi w' : World} {r : Nat} {xs : List Int} {pos pos' : Nat} {A B C : Value} (h : Saying w wi r xs pos A B C) (hr : Rd w' r (w.heap.size + 3) xs pos' 0) (hk : Kept (fun b => b < wi.heap.size ∧ b ≠ r) wi w') : Saying w w' r xs pos' A B C :=
  ⟨hr, h.lo, h.zero.kept hk ⟨h.zero.lt, by have := h.lo; omega⟩, h.st.kept hk ⟨h.st.lt, by have := h.lo; omega⟩, h.bel.trans (hk.to_below fun b hb => ⟨Nat.lt_of_lt_of_le hb h.bel.size, by have := h.lo; omega⟩)⟩
theorem Saying.set {w wi : World} {r : Nat} {xs : List Int} {pos : Nat} {A B C A' B' C' : Value} (h : Saying w wi r xs pos A B C) (i : Nat) (u : Value) (hu : (#[A, B, C] : Array Value).setIfInBounds i u = #[A', B', C']) :
    Saying w (wi.setCell ⟨w.heap.size + 1 + 1, i, none⟩ u) r xs pos A' B' C' :=
  ⟨h.rd.far (by have := h.lo; show w.heap.size + 1 + 1 ≠ r; omega) (by show w.heap.size + 1 + 1 ≠ w.heap.size + 3; omega) u, h.lo, h.zero.far (by show w.heap.size + 1 ≠ w.heap.size + 1 + 1; omega) u, hu ▸ h.st.set_ i u, h.bel.setCell (by show w.heap.size ≤ w.heap.size + 1 + 1; omega) u⟩
set_option maxHeartbeats 1000000 in
theorem said_any2 (xs : List Int) (w : World) (hl : xs.length = 64) (hb : Bytes xs) :
    Calls Tryz.prog 157 #[.agg (cells8 xs)] w (SaidTold2 xs w) := by
  have HBY := Lib.hid hb
  have HL := Lib.hid hl
  clear hb hl
  go_enter Tryz.func157, Tryz.ntmps157
  go_wp2_with fail
  generalize hw1 : ((w.alloc _).alloc _).alloc _ = w1
  have HBL1 := Lib.hid (show Below w.heap.size w w1 by rw [← hw1]; exact (((Below.refl _ _).alloc (Nat.le_refl _) _).alloc (by simp) _).alloc (by simp; omega) _)
  have HS1 := Lib.hid (show w1.heap.size = w.heap.size + 3 by rw [← hw1]; simp)
  have HX1 := Lib.hid (show ArrB w1 w.heap.size xs by rw [← hw1]; exact ((Blk.new w _ _).alloc _).alloc _)
  have HZ1 := Lib.hid (show Blk w1 (w.heap.size + 1) 147 #[.int .u64 0, .int .u32 0, .int .i64 0] by rw [← hw1]; have := (Blk.new (w.alloc (.cells (cells8 xs) 84)) 147 #[.int .u64 0, .int .u32 0, .int .i64 0]).alloc (.cells #[.int .u64 0, .int .u32 0, .int .i64 0] 147); simpa using this)
  have HT1 := Lib.hid (show Blk w1 (w.heap.size + 1 + 1) 147 #[.int .u64 0, .int .u32 0, .int .i64 0] by rw [← hw1]; have := Blk.new ((w.alloc (.cells (cells8 xs) 84)).alloc (.cells #[.int .u64 0, .int .u32 0, .int .i64 0] 147)) 147 #[.int .u64 0, .int .u32 0, .int .i64 0]; simpa using this)
  clear hw1
  refine (read_any _ 64 64 xs (· = w.heap.size) w1 (HX1.out.rowN 0 HL.out rfl) (fun b h => by have := HS1.out; omega) (by omega)).mono ?_
  rintro e w2 ⟨r, rfl, hr, hrd, hb⟩
  have HY2 := Lib.hid (show Saying w w2 r xs 0 (.int .u64 0) (.int .u32 0) (.int .i64 0) from
    ⟨by rw [← HS1.out]; exact hrd, by have := HS1.out; omega, HZ1.out.below hb (by have := HS1.out; omega), HT1.out.below hb (by have := HS1.out; omega), HBL1.out.trans (hb.mono HBL1.out.size)⟩)
  clear hr hrd hb
  go_wp2_with fail
  refine (u64_ok w2 r _ xs 0 HY2.out.rd (by have := HL.out; omega) HBY.out).mono ?_
  rintro e w3 ⟨rfl, hrd, hk⟩
  rw [List.drop_zero]
  have HY3 := Lib.hid ((HY2.out.read hrd hk).set 0 (.int .u64 (genOf xs)) rfl)
  have hc := (HY2.out.read hrd hk).st.cell 0
  have hf := (HY2.out.read hrd hk).st.frozen 0
  clear hrd hk
  go_wp2_with fail
  refine (u32_ok _ r _ xs 8 HY3.out.rd (by have := HL.out; omega) HBY.out).mono ?_
  rintro e w4 ⟨rfl, hrd, hk⟩
  have HY4 := Lib.hid ((HY3.out.read hrd hk).set 1 (.int .u32 (posOf xs)) rfl)
  have hc := (HY3.out.read hrd hk).st.cell 1
  have hf := (HY3.out.read hrd hk).st.frozen 1
  clear hrd hk
  go_wp2_with fail
  refine (u16_ok _ r _ xs 12 HY4.out.rd (by have := HL.out; omega) HBY.out).mono ?_
  rintro e w5 ⟨rfl, hrd, hk⟩
  rw [fill_eq HBY.out]
  have HY5 := Lib.hid ((HY4.out.read hrd hk).set 2 (.int .i64 (fillOf xs)) rfl)
  have hc := (HY4.out.read hrd hk).st.cell 2
  have hf := (HY4.out.read hrd hk).st.frozen 2
  have hfl := fill_lt HBY.out
  clear hrd hk
  go_wp2_with fail
  refine (u16_ok _ r _ xs 14 HY5.out.rd (by have := HL.out; omega) HBY.out).mono ?_
  rintro e w6 ⟨rfl, hrd, hk⟩
  have HY6 := Lib.hid (HY5.out.read hrd hk)
  clear hrd hk
  go_wp2_with fail
  have c0 := HY6.out.st.cell 0
  have c1 := HY6.out.st.cell 1
  have c2 := HY6.out.st.cell 2
  simp only [List.getElem?_toArray, List.getElem?_cons_zero, List.getElem?_cons_succ] at c0 c1 c2
  go_region_held3 (fun W => W.cell? ⟨w.heap.size + 1 + 1, 0, none⟩ = some (.int .u64 (genOf xs)) ∧ W.cell? ⟨w.heap.size + 1 + 1, 1, none⟩ = some (.int .u32 (posOf xs)) ∧ W.cell? ⟨w.heap.size + 1 + 1, 2, none⟩ = some (.int .i64 (fillOf xs)))
    (first | exact ⟨c0, c1, c2⟩ | exact ⟨d0, d1, d2⟩ | exact ⟨e0, e1, e2⟩)
    (first
      | (go_at_call 151; refine (raw_meant _ r (w.heap.size + 3) xs ?_ ?_).mono ?_; exact HY6.out.rd; exact HL.out; rintro e w7 ⟨b7, rfl, hrow, hk⟩; have HROW := Lib.hid hrow; have HK7 := Lib.hid hk; clear hrow hk; have hcz := HY6.out.drew.cells HK7.out; obtain ⟨⟨d0, d1, d2⟩, hz⟩ := hcz; have HZ7 := Lib.hid hz; have z0 := hz.cell 0; have z1 := hz.cell 1; have z2 := hz.cell 2; have y0 := hz.frozen 0; have y1 := hz.frozen 1; have y2 := hz.frozen 2; have e0 := (cell_far3 w7 (w.heap.size + 1) (.int .u64 (genOf xs)) (.int .u32 (posOf xs)) (.int .i64 (fillOf xs)) (show w.heap.size + 1 + 1 ≠ w.heap.size + 1 by omega)).trans d0; have e1 := (cell_far3 w7 (w.heap.size + 1) (.int .u64 (genOf xs)) (.int .u32 (posOf xs)) (.int .i64 (fillOf xs)) (show w.heap.size + 1 + 1 ≠ w.heap.size + 1 by omega)).trans d1; have e2 := (cell_far3 w7 (w.heap.size + 1) (.int .u64 (genOf xs)) (.int .u32 (posOf xs)) (.int .i64 (fillOf xs)) (show w.heap.size + 1 + 1 ≠ w.heap.size + 1 by omega)).trans d2; clear hz; simp only [List.getElem?_toArray, List.getElem?_cons_zero, List.getElem?_cons_succ] at z0 z1 z2))
  clear c0 c1 c2 d0 d1 d2 z0 z1 z2 y0 y1 y2 e0 e1 e2
  go_wp2_with (with_reducible refine halt_end ?_)
  have hz := HZ7.out.set3 (.int .u64 (genOf xs)) (.int .u32 (posOf xs)) (.int .i64 (fillOf xs))
  refine Halt.ret (results_row2 rfl _ _ (w.heap.size + 1) 147 _ _ rfl hz Tryz.underlying147 rfl size_stamp) rfl ⟨_, _, rfl, ?_, ?_, (fun h => by cases h), Nat.le_refl _⟩
  · have hb7 := HY6.out.bel.size
    have hs1 := HY6.out.st.lt
    refine (HROW.out.keep (fun p hp => cell_far3 w7 (w.heap.size + 1) _ _ _ ?_)).more (fun b hb => ⟨?_, ?_⟩)
    · have := hp.1
      have h6 : w6.drew.heap.size = w6.heap.size := rfl
      omega
    · have h6 : w6.drew.heap.size = w6.heap.size := rfl
      omega
    · simpa using hb.2
  · exact below_set3 (HY6.out.drew.bel.trans (HK7.out.to_below fun b hb => ⟨Nat.lt_of_lt_of_le hb HY6.out.drew.bel.size, by have := HY6.out.lo; omega⟩)) (by omega) _ _ _
theorem said_any (xs : List Int) (w : World) (hl : xs.length = 64) (hb : Bytes xs) : Calls Tryz.prog 157 #[.agg (cells8 xs)] w (SaidTold xs w) :=
  (said_any2 xs w hl hb).mono fun _ _ ⟨A, c, h1, h2, h3, h4, _⟩ => ⟨A, c, h1, h2, h3, h4⟩
end Go.Proofs.YtodcohkblgjfeaaGreat

namespace Go.Proofs.YtodcohkblgjfeaaGreat
set_option maxRecDepth 100000
open Go.RowKit
set_option linter.unusedVariables false
def stamped (xs : List Int) : Bool := decide (1 ≤ genOf xs) && (packL (genOf xs) (posOf xs) (meantOf xs) == xs)
def ReadTold (xs : List Int) (w : World) (e : Ending) (w' : World) : Prop :=
  ∃ A c, e = .returned (.tuple #[.agg #[.int .u64 (genOf xs), .int .u32 (posOf xs), .int .i64 (fillOf xs)], .slice A (meantOf xs).length c, .int .i64 0]) ∧
    RowI .u8 w' (fun b => w.heap.size ≤ b ∧ b < w'.heap.size) A (meantOf xs).length (meantOf xs) ∧ Below w.heap.size w w' ∧ (A = none → c = 0)
def ReadTold2 (xs : List Int) (w : World) (e : Ending) (w' : World) : Prop :=
  ∃ A c, e = .returned (.tuple #[.agg #[.int .u64 (genOf xs), .int .u32 (posOf xs), .int .i64 (fillOf xs)], .slice A (meantOf xs).length c, .int .i64 0]) ∧
    RowI .u8 w' (fun b => w.heap.size ≤ b ∧ b < w'.heap.size) A (meantOf xs).length (meantOf xs) ∧ Below w.heap.size w w' ∧ (A = none → c = 0) ∧ (meantOf xs).length ≤ c
set_option maxHeartbeats 1000000 in
theorem read_ok2 (xs : List Int) (w : World) (hl : xs.length = 64) (hb : Bytes xs) (hst : stamped xs = true) :
    Calls Tryz.prog 124 #[.agg (cells8 xs)] w (ReadTold2 xs w) := by
  have hgb := gen_bounds hb hl
  have hpb := pos_bounds hb hl
  have hml := meant_le xs
  have hpk := packL_length (genOf xs) (posOf xs) (meantOf xs) hml
  have hg1 : 1 ≤ genOf xs := by simp [stamped] at hst; exact hst.1
  have hsame : (packL (genOf xs) (posOf xs) (meantOf xs) == xs) = true := by simp [stamped] at hst; simpa using hst.2
  have HBY := Lib.hid hb
  have HL := Lib.hid hl
  have HGB := Lib.hid hgb
  have HPB := Lib.hid hpb
  have HPK := Lib.hid hpk
  have HSAME := Lib.hid hsame
  have HX0 := Lib.hid (show ArrB ((w.alloc (.cells (cells8 xs) 84)).alloc (.cells #[.int .u64 0, .int .u32 0, .int .i64 0] 147)) w.heap.size xs from (Blk.new w _ _).alloc _)
  clear hb hl hst hgb hpb hpk hsame
  go_enter Tryz.func124, Tryz.ntmps124
  go_wp2_with (refine wpList_load_blk (.tmp 1) rfl rfl w.heap.size 0 rfl xs HL.out HX0.out.range ?_)
  generalize hw1 : (w.alloc _).alloc _ = w1 at *
  have HZ1 := Lib.hid (show Blk w1 (w.heap.size + 1) 147 #[.int .u64 0, .int .u32 0, .int .i64 0] by rw [← hw1]; have := Blk.new (w.alloc (.cells (cells8 xs) 84)) 147 #[.int .u64 0, .int .u32 0, .int .i64 0]; simpa using this)
  have HB1 := Lib.hid (show Below w.heap.size w w1 by rw [← hw1]; exact ((Below.refl _ _).alloc (Nat.le_refl _) _).alloc (by simp) _)
  clear hw1
  refine (said_any2 xs w1 HL.out HBY.out).mono ?_
  rintro e w2 ⟨A, c, rfl, hrow, hb, hnil, hcap⟩
  have HNIL := Lib.hid (And.intro hnil hcap)
  clear hnil hcap
  have HR2 := Lib.hid hrow
  have HB2 := Lib.hid hb
  have HZ2 := Lib.hid (HZ1.out.below hb HZ1.out.lt)
  have HX2 := Lib.hid (HX0.out.below hb HX0.out.lt)
  clear hrow hb
  go_wp2_with fail
  generalize hw3 : w2.alloc _ = w3 at *
  have hb3 : Below w2.heap.size w2 w3 := by rw [← hw3]; exact (Below.refl _ _).alloc (Nat.le_refl _) _
  have HS3 := Lib.hid (show Blk w3 w2.heap.size 147 #[.int .u64 (genOf xs), .int .u32 (posOf xs), .int .i64 (fillOf xs)] by rw [← hw3]; exact Blk.new w2 _ _)
  have HB3 := Lib.hid hb3
  have HR3 := Lib.hid (HR2.out.below hb3 (fun b h => h.2))
  clear hw3 hb3
  refine (pack_ok (genOf xs) (posOf xs) A (meantOf xs).length c (meantOf xs) _ w3 HR3.out (fun b h => Nat.lt_of_lt_of_le h.2 HB3.out.size) hg1 HGB.out.2 HPB.out.1 HPB.out.2 hml).mono ?_
  rintro e w4 ⟨rfl, hb⟩
  have HB4 := Lib.hid hb
  have HX4 := Lib.hid ((HX2.out.below HB3.out HX2.out.lt).below hb (Nat.lt_of_lt_of_le HX2.out.lt HB3.out.size))
  have HZ4 := Lib.hid ((HZ2.out.below HB3.out HZ2.out.lt).below hb (Nat.lt_of_lt_of_le HZ2.out.lt HB3.out.size))
  have HS4 := Lib.hid (HS3.out.below hb HS3.out.lt)
  have HR4 := Lib.hid (HR3.out.below hb (fun b h => Nat.lt_of_lt_of_le h.2 HB3.out.size))
  obtain ⟨w5, hw5⟩ : ∃ w5, w5 = w4.alloc (.cells (cells8 (packL (genOf xs) (posOf xs) (meantOf xs))) 84) := ⟨_, rfl⟩
  have HX5 := Lib.hid (show ArrB w5 w.heap.size xs by rw [hw5]; exact HX4.out.alloc _)
  have HP5 := Lib.hid (show ArrB w5 w4.heap.size (packL (genOf xs) (posOf xs) (meantOf xs)) by rw [hw5]; exact Blk.new w4 _ _)
  have HS5 := Lib.hid (show Blk w5 w2.heap.size 147 #[.int .u64 (genOf xs), .int .u32 (posOf xs), .int .i64 (fillOf xs)] by rw [hw5]; exact HS4.out.alloc _)
  have HZ5 := Lib.hid (show Blk w5 (w.heap.size + 1) 147 #[.int .u64 0, .int .u32 0, .int .i64 0] by rw [hw5]; exact HZ4.out.alloc _)
  have HR5 := Lib.hid (HR4.out.below (w' := w5) (B := w4.heap.size) (by rw [hw5]; exact (Below.refl _ _).alloc (Nat.le_refl _) _) (fun b h => Nat.lt_of_lt_of_le h.2 (Nat.le_trans HB3.out.size HB4.out.size)))
  have HB5 := Lib.hid (show Below w4.heap.size w4 w5 by rw [hw5]; exact (Below.refl _ _).alloc (Nat.le_refl _) _)
  have HW5 := Lib.hid hw5
  clear hw5
  have c0 := HS5.out.cell 0
  have c1 := HS5.out.cell 1
  have c2 := HS5.out.cell 2
  have z0 := HZ5.out.cell 0
  have z1 := HZ5.out.cell 1
  have z2 := HZ5.out.cell 2
  have y0 := HZ5.out.frozen 0
  have y1 := HZ5.out.frozen 1
  have y2 := HZ5.out.frozen 2
  simp only [List.getElem?_toArray, List.getElem?_cons_zero, List.getElem?_cons_succ] at c0 c1 c2 z0 z1 z2
  clear hb
  go_wp2_with (first
    | (with_reducible refine halt_end ?_)
    | (refine wpList_alloc_blk rfl rfl ?_)
    | (refine wpList_store_new _ _ rfl rfl w4 (packL (genOf xs) (posOf xs) (meantOf xs)) rfl rfl (noughts 64) rfl (noughts_length 64) HPK.out ?_; rw [← HW5.out])
    | (refine wpList_load_blk (.tmp 7) rfl rfl w4.heap.size 0 rfl _ HPK.out HP5.out.range ?_)
    | (refine wpList_load_blk (.tmp 1) rfl rfl w.heap.size 0 rfl _ HL.out HX5.out.range ?_)
    | (refine wpList_neq_blk (.tmp 26) (.tmp 27) _ rfl rfl _ _ rfl rfl HPK.out HL.out ?_; rw [HSAME.out]))
  have hz := HZ5.out.set3 (.int .u64 (genOf xs)) (.int .u32 (posOf xs)) (.int .i64 (fillOf xs))
  have hs1 := HB1.out.size
  have hs2 := HB2.out.size
  have hs3 := HB3.out.size
  have hs4 := HB4.out.size
  have hs5 := HB5.out.size
  have hz1 := HZ1.out.lt
  refine Halt.ret (results_row3 rfl _ _ (w.heap.size + 1) 147 _ _ rfl hz Tryz.underlying147 rfl size_stamp) rfl ⟨_, _, rfl, ?_, ?_, HNIL.out.1, HNIL.out.2⟩
  · refine (HR5.out.keep (fun p hp => cell_far3 w5 (w.heap.size + 1) _ _ _ ?_)).more (fun b hb => ⟨?_, ?_⟩)
    · have := hp.1
      omega
    · omega
    · have := hb.2
      simp
      omega
  · exact below_set3 ((((HB1.out.trans (HB2.out.mono (by omega))).trans (HB3.out.mono (by omega))).trans (HB4.out.mono (by omega))).trans (HB5.out.mono (by omega))) (by omega) _ _ _
theorem read_ok_s5 (xs : List Int) (w : World) (hl : xs.length = 64) (hb : Bytes xs) (hst : stamped xs = true) : Calls Tryz.prog 124 #[.agg (cells8 xs)] w (ReadTold xs w) :=
  (read_ok2 xs w hl hb hst).mono fun _ _ ⟨A, c, h1, h2, h3, h4, _⟩ => ⟨A, c, h1, h2, h3, h4⟩
set_option maxHeartbeats 1000000 in
theorem read_bad (xs : List Int) (w : World) (hl : xs.length = 64) (hb : Bytes xs) (hst : stamped xs = false) :
    Calls Tryz.prog 124 #[.agg (cells8 xs)] w fun e w' => e = .returned (.tuple #[.agg #[.int .u64 0, .int .u32 0, .int .i64 0], .slice none 0 0, .int .i64 150]) ∧ Below w.heap.size w w' := by
  have hgb := gen_bounds hb hl
  have hpb := pos_bounds hb hl
  have hml := meant_le xs
  have hpk := packL_length (genOf xs) (posOf xs) (meantOf xs) hml
  have HBY := Lib.hid hb
  have HL := Lib.hid hl
  have HGB := Lib.hid hgb
  have HPB := Lib.hid hpb
  have HPK := Lib.hid hpk
  have HST := Lib.hid hst
  have HX0 := Lib.hid (show ArrB ((w.alloc (.cells (cells8 xs) 84)).alloc (.cells #[.int .u64 0, .int .u32 0, .int .i64 0] 147)) w.heap.size xs from (Blk.new w _ _).alloc _)
  clear hb hl hst hgb hpb hpk
  go_enter Tryz.func124, Tryz.ntmps124
  go_wp2_with (refine wpList_load_blk (.tmp 1) rfl rfl w.heap.size 0 rfl xs HL.out HX0.out.range ?_)
  generalize hw1 : (w.alloc _).alloc _ = w1 at *
  have HZ1 := Lib.hid (show Blk w1 (w.heap.size + 1) 147 #[.int .u64 0, .int .u32 0, .int .i64 0] by rw [← hw1]; have := Blk.new (w.alloc (.cells (cells8 xs) 84)) 147 #[.int .u64 0, .int .u32 0, .int .i64 0]; simpa using this)
  have HB1 := Lib.hid (show Below w.heap.size w w1 by rw [← hw1]; exact ((Below.refl _ _).alloc (Nat.le_refl _) _).alloc (by simp) _)
  clear hw1
  refine (said_any xs w1 HL.out HBY.out).mono ?_
  rintro e w2 ⟨A, c, rfl, hrow, hb, hnil⟩
  have HNIL := Lib.hid hnil
  clear hnil
  have HR2 := Lib.hid hrow
  have HB2 := Lib.hid hb
  have HZ2 := Lib.hid (HZ1.out.below hb HZ1.out.lt)
  have HX2 := Lib.hid (HX0.out.below hb HX0.out.lt)
  clear hrow hb
  by_cases hg1 : 1 ≤ genOf xs
  · have HNE := Lib.hid (show (packL (genOf xs) (posOf xs) (meantOf xs) == xs) = false by
      have h := HST.out
      unfold stamped at h
      rw [decide_eq_true hg1, Bool.true_and] at h
      exact h)
    go_wp2_with fail
    generalize hw3 : w2.alloc _ = w3 at *
    have hb3 : Below w2.heap.size w2 w3 := by rw [← hw3]; exact (Below.refl _ _).alloc (Nat.le_refl _) _
    have HB3 := Lib.hid hb3
    have HR3 := Lib.hid (HR2.out.below hb3 (fun b h => h.2))
    clear hw3 hb3
    refine (pack_ok (genOf xs) (posOf xs) A (meantOf xs).length c (meantOf xs) _ w3 HR3.out (fun b h => Nat.lt_of_lt_of_le h.2 HB3.out.size) hg1 HGB.out.2 HPB.out.1 HPB.out.2 hml).mono ?_
    rintro e w4 ⟨rfl, hb⟩
    have HB4 := Lib.hid hb
    have HX4 := Lib.hid ((HX2.out.below HB3.out HX2.out.lt).below hb (Nat.lt_of_lt_of_le HX2.out.lt HB3.out.size))
    have HZ4 := Lib.hid ((HZ2.out.below HB3.out HZ2.out.lt).below hb (Nat.lt_of_lt_of_le HZ2.out.lt HB3.out.size))
    obtain ⟨w5, hw5⟩ : ∃ w5, w5 = w4.alloc (.cells (cells8 (packL (genOf xs) (posOf xs) (meantOf xs))) 84) := ⟨_, rfl⟩
    have HX5 := Lib.hid (show ArrB w5 w.heap.size xs by rw [hw5]; exact HX4.out.alloc _)
    have HP5 := Lib.hid (show ArrB w5 w4.heap.size (packL (genOf xs) (posOf xs) (meantOf xs)) by rw [hw5]; exact Blk.new w4 _ _)
    have HZ5 := Lib.hid (show Blk w5 (w.heap.size + 1) 147 #[.int .u64 0, .int .u32 0, .int .i64 0] by rw [hw5]; exact HZ4.out.alloc _)
    have HB5 := Lib.hid (show Below w4.heap.size w4 w5 by rw [hw5]; exact (Below.refl _ _).alloc (Nat.le_refl _) _)
    have HW5 := Lib.hid hw5
    clear hw5
    have z0 := HZ5.out.cell 0
    have z1 := HZ5.out.cell 1
    have z2 := HZ5.out.cell 2
    have y0 := HZ5.out.frozen 0
    have y1 := HZ5.out.frozen 1
    have y2 := HZ5.out.frozen 2
    simp only [List.getElem?_toArray, List.getElem?_cons_zero, List.getElem?_cons_succ] at z0 z1 z2
    clear hb
    go_wp2_with (first
      | (with_reducible refine halt_end ?_)
      | (refine wpList_alloc_blk rfl rfl ?_)
      | (refine wpList_store_new _ _ rfl rfl w4 (packL (genOf xs) (posOf xs) (meantOf xs)) rfl rfl (noughts 64) rfl (noughts_length 64) HPK.out ?_; rw [← HW5.out])
      | (refine wpList_load_blk (.tmp 7) rfl rfl w4.heap.size 0 rfl _ HPK.out HP5.out.range ?_)
      | (refine wpList_load_blk (.tmp 1) rfl rfl w.heap.size 0 rfl _ HL.out HX5.out.range ?_)
      | (refine wpList_neq_blk (.tmp 26) (.tmp 27) _ rfl rfl _ _ rfl rfl HPK.out HL.out ?_; rw [HNE.out]))
    have hz := HZ5.out.set3 (.int .u64 0) (.int .u32 0) (.int .i64 0)
    have hs1 := HB1.out.size
    have hs2 := HB2.out.size
    have hs3 := HB3.out.size
    have hs4 := HB4.out.size
    have hs5 := HB5.out.size
    refine Halt.ret (results_row3 rfl _ _ (w.heap.size + 1) 147 _ _ rfl hz Tryz.underlying147 rfl size_stamp) rfl ⟨rfl, ?_⟩
    exact below_set3 ((((HB1.out.trans (HB2.out.mono (by omega))).trans (HB3.out.mono (by omega))).trans (HB4.out.mono (by omega))).trans (HB5.out.mono (by omega))) (by omega) _ _ _
  · have HG := Lib.hid (show genOf xs = 0 by have := HGB.out; omega)
    go_wp2_with fail
    generalize hw3 : w2.alloc _ = w3 at *
    have hb3 : Below w2.heap.size w2 w3 := by rw [← hw3]; exact (Below.refl _ _).alloc (Nat.le_refl _) _
    have HB3 := Lib.hid hb3
    rw [HG.out]
    clear hw3 hb3
    refine (pack_zero (posOf xs) A (meantOf xs).length c w3).mono ?_
    rintro e w4 ⟨rfl, hb⟩
    have HB4 := Lib.hid hb
    have HZ4 := Lib.hid ((HZ2.out.below HB3.out HZ2.out.lt).below hb (Nat.lt_of_lt_of_le HZ2.out.lt HB3.out.size))
    obtain ⟨w5, hw5⟩ : ∃ w5, w5 = w4.alloc (.cells (cells8 (noughts 64)) 84) := ⟨_, rfl⟩
    have HZ5 := Lib.hid (show Blk w5 (w.heap.size + 1) 147 #[.int .u64 0, .int .u32 0, .int .i64 0] by rw [hw5]; exact HZ4.out.alloc _)
    have HB5 := Lib.hid (show Below w4.heap.size w4 w5 by rw [hw5]; exact (Below.refl _ _).alloc (Nat.le_refl _) _)
    have HW5 := Lib.hid hw5
    clear hw5
    have z0 := HZ5.out.cell 0
    have z1 := HZ5.out.cell 1
    have z2 := HZ5.out.cell 2
    have y0 := HZ5.out.frozen 0
    have y1 := HZ5.out.frozen 1
    have y2 := HZ5.out.frozen 2
    simp only [List.getElem?_toArray, List.getElem?_cons_zero, List.getElem?_cons_succ] at z0 z1 z2
    clear hb
    go_wp2_with (first
      | (with_reducible refine halt_end ?_)
      | (refine wpList_alloc_blk rfl rfl ?_)
      | (refine wpList_store_new _ _ rfl rfl w4 (noughts 64) rfl rfl (noughts 64) rfl (noughts_length 64) (noughts_length 64) ?_; rw [← HW5.out]))
    have hz := HZ5.out.set3 (.int .u64 0) (.int .u32 0) (.int .i64 0)
    have hs1 := HB1.out.size
    have hs2 := HB2.out.size
    have hs3 := HB3.out.size
    have hs4 := HB4.out.size
    have hs5 := HB5.out.size
    refine Halt.ret (results_row3 rfl _ _ (w.heap.size + 1) 147 _ _ rfl hz Tryz.underlying147 rfl size_stamp) rfl ⟨rfl, ?_⟩
    exact below_set3 ((((HB1.out.trans (HB2.out.mono (by omega))).trans (HB3.out.mono (by omega))).trans (HB4.out.mono (by omega))).trans (HB5.out.mono (by omega))) (by omega) _ _ _
end Go.Proofs.YtodcohkblgjfeaaGreat

namespace Go.Proofs.YtodcohkblgjfeaaGreat
set_option maxRecDepth 100000
open Go.RowKit
set_option linter.unusedVariables false
theorem five_parts (xs : List Int) (hl : xs.length = 64) : xs = (((xs.take 8 ++ (xs.drop 8).take 4) ++ (xs.drop 12).take 2) ++ (xs.drop 14).take 2) ++ xs.drop 16 := by
  apply getD_ext
  · simp; omega
  · intro j hj
    simp only [List.getD, List.getElem?_append, List.getElem?_take, List.getElem?_drop, List.length_append, List.length_take, List.length_drop, hl]
    by_cases h1 : j < 8
    · simp [h1, show j < 10 by omega, show j < 12 by omega, show j < 14 by omega, show j < 16 by omega]
    · by_cases h2 : j < 12
      · simp [h1, h2, show j < 14 by omega, show j < 16 by omega, show j - 8 < 4 by omega, show 8 + (j - 8) = j by omega]
      · by_cases h3 : j < 14
        · simp [h1, h2, h3, show j < 16 by omega, show j - 12 < 2 by omega, show 12 + (j - 12) = j by omega]
        · by_cases h4 : j < 16
          · simp [h1, h2, h3, h4, show j - 14 < 2 by omega, show 14 + (j - 14) = j by omega]
          · simp [h1, h2, h3, h4, show 16 + (j - 16) = j by omega]
def Right (xs : List Int) : Prop := 1 ≤ genOf xs ∧ fillOf xs ≤ 48 ∧ xs.getD 14 0 = 0 ∧ xs.getD 15 0 = 0 ∧ ∀ i, 16 + fillOf xs ≤ i → i < 64 → xs.getD i 0 = 0
theorem pack_same (xs : List Int) (hl : xs.length = 64) (hb : Bytes xs) :
    packL (genOf xs) (posOf xs) (meantOf xs) = xs ↔ beBytes (meantOf xs).length 2 = (xs.drop 12).take 2 ∧ beBytes 0 2 = (xs.drop 14).take 2 ∧ meantOf xs ++ noughts (48 - (meantOf xs).length) = xs.drop 16 := by
  have h1 : beBytes (genOf xs) 8 = xs.take 8 := be_num 8 _ (hb.take 8) (by simp; omega)
  have h2 : beBytes (posOf xs) 4 = (xs.drop 8).take 4 := be_num 4 _ (bytes_part hb 8 4) (by simp; omega)
  have h5 := five_parts xs hl
  constructor
  · intro h
    rw [h5] at h
    conv at h => lhs; rw [← h5]
    unfold packL headL at h
    rw [h1, h2, List.append_assoc] at h
    have a1 := List.append_inj h (by simp [beBytes_length]; omega)
    have a2 := List.append_inj a1.1 (by simp [beBytes_length]; omega)
    have a3 := List.append_inj a2.1 (by simp)
    exact ⟨a3.2, a2.2, a1.2⟩
  · rintro ⟨e1, e2, e3⟩
    unfold packL headL
    rw [h1, h2, e1, e2, List.append_assoc, e3]
    exact h5.symm
theorem two_parts (xs : List Int) (hl : xs.length = 64) : (xs.drop 14).take 2 = [xs.getD 14 0, xs.getD 15 0] := by
  apply getD_ext
  · simp; omega
  · intro j hj
    have hj : j < 2 := by simp at hj; omega
    match j, hj with
    | 0, _ => simp [List.getD]
    | 1, _ => simp [List.getD]
theorem stamped_iff (xs : List Int) (hl : xs.length = 64) (hb : Bytes xs) : stamped xs = true ↔ Right xs := by
  unfold stamped Right
  rw [Bool.and_eq_true, decide_eq_true_eq, beq_iff_eq, pack_same xs hl hb]
  have hz : beBytes 0 2 = [0, 0] := rfl
  rw [hz, two_parts xs hl]
  refine and_congr_right fun hg => ?_
  have hfe := fill_eq hb
  constructor
  · rintro ⟨e1, e2, e3⟩
    have hm : ((meantOf xs).length : Int) = (fillOf xs : Int) := by
      rw [← hfe, ← e1, num_be 2 _ (by omega) (by have := meant_le xs; simp; omega)]
    have hf : fillOf xs ≤ 48 := by have := meant_le xs; omega
    injection e2 with e20 e21
    injection e21 with e21 _
    refine ⟨hf, e20.symm, e21.symm, fun i h1 h2 => ?_⟩
    have : xs.getD i 0 = (xs.drop 16).getD (i - 16) 0 := by simp [List.getD, List.getElem?_drop, show 16 + (i - 16) = i by omega]
    rw [this, ← e3, List.getD, List.getElem?_append_right (by omega)]
    exact noughts_get _ _
  · rintro ⟨hf, e14, e15, e5⟩
    have hm : meantOf xs = (xs.drop 16).take (fillOf xs) := if_pos hf
    have hml : (meantOf xs).length = fillOf xs := by rw [hm]; simp; omega
    refine ⟨?_, by rw [e14, e15], ?_⟩
    · rw [hml, ← hfe]
      exact be_num 2 _ (bytes_part hb 12 2) (by simp; omega)
    · apply getD_ext
      · rw [List.length_append, hml, noughts_length]; simp; omega
      · intro j hj
        rw [List.length_append, hml, noughts_length] at hj
        by_cases h : j < fillOf xs
        · rw [List.getD, List.getElem?_append_left (by omega), hm]
          simp [List.getD, List.getElem?_take, h]
        · rw [List.getD, List.getElem?_append_right (by omega)]
          have := e5 (16 + j) (by omega) (by omega)
          rw [show (xs.drop 16).getD j 0 = xs.getD (16 + j) 0 by simp [List.getD, List.getElem?_drop], this]
          exact noughts_get _ _
theorem pack_bytes (g p : Int) (pay : List Int) (hb : Bytes pay) : Bytes (packL g p pay) := by
  have key : ∀ a b : List Int, Bytes a → Bytes b → Bytes (a ++ b) := by
    intro a b ha hb j
    by_cases h : j < a.length
    · have := ha j; simpa [List.getD, List.getElem?_append_left h] using this
    · have := hb (j - a.length); simpa [List.getD, List.getElem?_append_right (Nat.le_of_not_lt h)] using this
  exact key _ _ (key _ _ (key _ _ (key _ _ (key _ _ (beBytes_bytes _ _) (beBytes_bytes _ _)) (beBytes_bytes _ _)) (beBytes_bytes _ _)) hb) (noughts_bytes _)
theorem pack_said (g p : Int) (pay : List Int) (hg : 0 ≤ g) (hg2 : g ≤ 18446744073709551615) (hp : 0 ≤ p) (hp2 : p ≤ 4294967295) (hl : pay.length ≤ 48) :
    genOf (packL g p pay) = g ∧ posOf (packL g p pay) = p ∧ fillOf (packL g p pay) = pay.length ∧ meantOf (packL g p pay) = pay := by
  have e1 : (packL g p pay).take 8 = beBytes g 8 := by
    unfold packL headL
    simp only [List.append_assoc]
    exact List.take_left' (beBytes_length _ _)
  have e2 : ((packL g p pay).drop 8).take 4 = beBytes p 4 := by
    unfold packL headL
    simp only [List.append_assoc]
    rw [List.drop_left' (beBytes_length _ _)]
    exact List.take_left' (beBytes_length _ _)
  have e3 : ((packL g p pay).drop 12).take 2 = beBytes pay.length 2 := by
    unfold packL headL
    simp only [List.append_assoc]
    rw [← List.append_assoc, List.drop_left' (by simp [beBytes_length])]
    exact List.take_left' (beBytes_length _ _)
  have e4 : (packL g p pay).drop 16 = pay ++ noughts (48 - pay.length) := by
    unfold packL
    rw [List.append_assoc]
    exact List.drop_left' (headL_length _ _ _)
  have hf : fillOf (packL g p pay) = pay.length := by
    unfold fillOf
    rw [e3, num_be 2 _ (by omega) (by simp; omega)]
    omega
  refine ⟨?_, ?_, hf, ?_⟩
  · unfold genOf
    rw [e1, num_be 8 _ hg (by simp; omega)]
  · unfold posOf
    rw [e2, num_be 4 _ hp (by simp; omega)]
  · unfold meantOf
    rw [if_pos (by omega), hf, e4]
    exact List.take_left' rfl
theorem pack_stamped (g p : Int) (pay : List Int) (hg : 1 ≤ g) (hg2 : g ≤ 18446744073709551615) (hp : 0 ≤ p) (hp2 : p ≤ 4294967295) (hl : pay.length ≤ 48) : stamped (packL g p pay) = true := by
  obtain ⟨e1, e2, e3, e4⟩ := pack_said g p pay (by omega) hg2 hp hp2 hl
  unfold stamped
  rw [e1, e2, e4, decide_eq_true hg]
  simp
end Go.Proofs.YtodcohkblgjfeaaGreat

namespace Go.Proofs.YtodcohkblgjfeaaGreat
set_option maxRecDepth 100000
open Go.RowKit
set_option linter.unusedVariables false
set_option linter.unusedSimpArgs false
theorem bad_same {sec : Int} {xs : List Seg} (ho : OkR sec xs) {k j : Nat} (hk : k < xs.length) (hj : j < xs.length) (hne : ¬ k = j) (h : genG xs k = genG xs j) (hl : stG xs j ≠ 0) : False := by
  have hg := (may_live (may_at ho.2.1 hj) hl).2.1
  by_cases h0 : stG xs k = 0
  · have hm := may_at ho.2.1 hk
    unfold MayG at hm
    rw [if_pos h0] at hm
    simp only [genG] at h
    omega
  · exact (ho.2.2 k hk j hj hne h0 hl).1 h
theorem bad_above {sec : Int} {xs : List Seg} (ho : OkR sec xs) {k j : Nat} (hk : k < xs.length) (hj : j < xs.length) (hne : ¬ k = j) (h : genG xs j < genG xs k) (hl : stG xs j = 1) : False := by
  have hl0 : stG xs j ≠ 0 := by rw [hl]; decide
  have hg := (may_live (may_at ho.2.1 hj) hl0).2.1
  by_cases h0 : stG xs k = 0
  · have hm := may_at ho.2.1 hk
    unfold MayG at hm
    rw [if_pos h0] at hm
    simp only [genG] at h
    omega
  · have := (ho.2.2 j hj k hk (fun e => hne e.symm) hl0 h0).2 hl
    simp only [genG] at h
    omega
def FoundR (sec : Int) (xs : List Seg) (n j : Nat) : Prop := MayG (xs.getD j seg0) sec ∧ (stG xs j ≠ 0 → ∀ m, m < n → m ≠ j → genG xs m ≠ genG xs j ∧ (stG xs j = 1 → genG xs m ≤ genG xs j))
theorem right_next {sec : Int} {xs : List Seg} {n j : Nat} (h : ∀ k, k < j → FoundR sec xs n k) (hj : FoundR sec xs n j) : ∀ k, k < j + 1 → FoundR sec xs n k := fun k hk => by
  by_cases e : k < j
  · exact h k e
  · obtain rfl : k = j := by omega
    exact hj
theorem right_all {sec : Int} {xs : List Seg} {n : Nat} (hn : xs.length = n) (hsz : SizedR n sec) (h : ∀ k, k < n → FoundR sec xs n k) : OkR sec xs := by
  subst hn
  refine ⟨hsz, fun s hs => ?_, fun i hi j hj hne hi0 hj0 => ?_⟩
  · obtain ⟨i, hi, rfl⟩ := List.getElem_of_mem hs
    have := (h i hi).1
    simpa [List.getD, hi] using this
  · have h1 := (h i hi).2 hi0 j hj (fun e => hne e.symm)
    refine ⟨fun e => h1.1 e.symm, fun ho => ?_⟩
    have h2 := h1.2 ho
    have h3 := h1.1
    simp only [genG] at h2 h3
    omega
set_option maxRecDepth 100000 in
set_option maxHeartbeats 4000000 in
theorem ref_right {w : World} {A : Option Addr} {n cap : Nat} {xs : List Seg} (h : RowZ w (· < w.heap.size) A n xs) (sec : Int) (hn : n ≤ 40) (hpos : ∀ i, i < n → 0 ≤ genG xs i) :
    Calls Tryz.prog 35 #[ringV sec A n cap] w fun e w' => e = .returned (.bool (decide (OkR sec xs))) ∧ Below w.heap.size w w' := by
  have HX := Lib.hid h
  clear h
  by_cases hs : SizedR n sec
  case neg =>
    have hd : decide (SizedR (n : Int) sec) = false := decide_eq_false hs
    have HSI := Lib.hid (fun (W : World) => by have h := ref_sized_any n sec W; rw [hd] at h; exact h)
    have HF := Lib.hid (show ¬ OkR sec xs from fun ho => hs (by have := ho.1; rw [HX.out.1] at this; exact this))
    rw [decide_eq_false HF.out]
    clear hs hd
    go_enter Tryz.func35, Tryz.ntmps35
    go_wp2_with (go_at_call 83; refine (HSI.out _).mono ?_; rintro e w' ⟨rfl, rfl⟩)
    go_ret
    exact ⟨rfl, (Below.refl _ w).alloc (Nat.le_refl _) _⟩
  have hd : decide (SizedR (n : Int) sec) = true := decide_eq_true hs
  have HSI := Lib.hid (fun (W : World) => by have h := ref_sized_any n sec W; rw [hd] at h; exact h)
  have HSZ := Lib.hid hs
  have HK0 := Lib.hid (Blk.new w 35 #[.int .i64 sec, .slice A n cap])
  obtain ⟨RR, hRR⟩ : ∃ RR, decide (OkR sec xs) = RR := ⟨_, rfl⟩
  have HRR := Lib.hid hRR
  rw [hRR]
  clear hs hd hRR
  go_enter Tryz.func35, Tryz.ntmps35
  go_wp2_with (go_at_call 83; refine (HSI.out _).mono ?_; rintro e w' ⟨rfl, rfl⟩)
  go_loopw [17] (fun i wr => ∃ j : Nat, j ≤ n ∧ i = .int .i64 j ∧ Blk wr w.heap.size 35 #[.int .i64 sec, .slice A n cap] ∧ Below w.heap.size w wr ∧ ∀ k, k < j → FoundR sec xs n k) (fun i _ => n - (intOf i).toNat)
  case atStart => exact ⟨0, Nat.zero_le _, rfl, HK0.out, (Below.refl _ w).alloc (Nat.le_refl _) _, fun k h => absurd h (by omega)⟩
  case round =>
    obtain ⟨j, hj, rfl, hb, hbel, hfound⟩ := hrel
    have HB := Lib.hid hb
    have HW := Lib.hid hbel
    have HJ := Lib.hid hfound
    obtain ⟨k0, k1⟩ := ring_cells hb
    clear hb hbel hfound
    by_cases hlt : j < n
    · obtain ⟨b, off, rfl, hbb, hcc⟩ := seg_get (HX.out.below HW.out (fun b h => h)) hlt
      obtain ⟨c0, c1, c2⟩ := hcc j hlt
      have hjl := Lib.hid (show j < xs.length by rw [HX.out.1]; exact hlt)
      obtain ⟨st, hst⟩ : ∃ st, stG xs j = st := ⟨_, rfl⟩
      obtain ⟨g, hg⟩ : ∃ g, genG xs j = g := ⟨_, rfl⟩
      obtain ⟨u, hu⟩ : ∃ u, usedG xs j = u := ⟨_, rfl⟩
      rw [hst] at c0
      rw [hg] at c1
      rw [hu] at c2
      have HSS := Lib.hid hst
      have HG := Lib.hid hg
      have HU := Lib.hid hu
      have HW2 := Lib.hid (HW.out.alloc HW.out.size (.cells #[.int .i64 st, .int .u64 g, .int .i64 u] 128))
      have HB2 := Lib.hid (HB.out.alloc (.cells #[.int .i64 st, .int .u64 g, .int .i64 u] 128))
      have HS2 := Lib.hid (Blk.new wr 128 #[.int .i64 st, .int .u64 g, .int .i64 u])
      obtain ⟨q0, q1⟩ := ring_cells HB2.out
      clear hcc hbb hst hg hu
      by_cases h0 : st = 0
      · subst h0
        by_cases hg0 : g = 0
        · subst hg0
          by_cases hu0 : u = 0
          · subst hu0
            go_wp2
            go_roundw
            case rel => exact ⟨j + 1, by omega, by simp, HB2.out, HW2.out, right_next HJ.out ⟨by unfold MayG; rw [if_pos (show (xs.getD j seg0).1 = 0 from HSS.out)]; exact ⟨HG.out, HU.out⟩, fun h => absurd HSS.out h⟩⟩
            case measure => simp [intOf]; omega
          · have f2 : (u != 0) = true := by simpa using hu0
            have HF := Lib.hid (show ¬ OkR sec xs from fun ho => hu0 (by have h := may_at ho.2.1 hjl.out; unfold MayG at h; rw [if_pos (show (xs.getD j seg0).1 = 0 from HSS.out)] at h; rw [← HU.out]; exact h.2))
            go_wp2
            go_ret
            exact ⟨by rw [← HRR.out, decide_eq_false HF.out]; rfl, HW2.out⟩
        · have f1 : (g != 0) = true := by simpa using hg0
          have HF := Lib.hid (show ¬ OkR sec xs from fun ho => hg0 (by have h := may_at ho.2.1 hjl.out; unfold MayG at h; rw [if_pos (show (xs.getD j seg0).1 = 0 from HSS.out)] at h; rw [← HG.out]; exact h.1))
          go_wp2
          go_ret
          exact ⟨by rw [← HRR.out, decide_eq_false HF.out]; rfl, HW2.out⟩
      have e0 : (st == 0) = false := by simpa using h0
      by_cases h1 : st = 1
      · subst h1
        have HST := Lib.hid (show stG xs j = 1 from HSS.out)
        by_cases hg0 : g = 0
        · subst hg0
          have HF := Lib.hid (show ¬ OkR sec xs from fun ho => by have h := (may_live (may_at ho.2.1 hjl.out) (by show stG xs j ≠ 0; rw [HST.out]; decide)).2.1; rw [show (xs.getD j seg0).2.1 = 0 from HG.out] at h; omega)
          go_wp2
          go_ret
          exact ⟨by rw [← HRR.out, decide_eq_false HF.out]; rfl, HW2.out⟩
        have f1 : (g == 0) = false := by simpa using hg0
        by_cases hu1 : u < 1
        · have f2 : decide (u < 1) = true := decide_eq_true hu1
          have HF := Lib.hid (show ¬ OkR sec xs from fun ho => by have h := (may_live (may_at ho.2.1 hjl.out) (by show stG xs j ≠ 0; rw [HST.out]; decide)).2.2.1; rw [show (xs.getD j seg0).2.2 = u from HU.out] at h; omega)
          go_wp2
          go_ret
          exact ⟨by rw [← HRR.out, decide_eq_false HF.out]; rfl, HW2.out⟩
        have f2 : decide (u < 1) = false := decide_eq_false hu1
        by_cases hus : sec < u
        · have f3 : decide (sec < u) = true := decide_eq_true hus
          have HF := Lib.hid (show ¬ OkR sec xs from fun ho => by have h := (may_live (may_at ho.2.1 hjl.out) (by show stG xs j ≠ 0; rw [HST.out]; decide)).2.2.2; rw [show (xs.getD j seg0).2.2 = u from HU.out] at h; omega)
          go_wp2
          go_ret
          exact ⟨by rw [← HRR.out, decide_eq_false HF.out]; rfl, HW2.out⟩
        have f3 : decide (sec < u) = false := decide_eq_false hus
        have hgp : 0 ≤ g := by rw [← HG.out]; exact hpos j hlt
        obtain ⟨wo, hwo⟩ : ∃ wo : World, wo = wr := ⟨_, rfl⟩
        rw [← hwo] at HB2 HS2 HW2
        have HWO := Lib.hid hwo
        go_wp2
        rw [← HWO.out]
        clear HWO hwo
        go_loopw [55] (fun i wi => ∃ k : Nat, k ≤ n ∧ i = .int .i64 k ∧ Blk wi w.heap.size 35 #[.int .i64 sec, .slice (some ⟨b, off, none⟩) n cap] ∧ Blk wi wo.heap.size 128 #[.int .i64 1, .int .u64 g, .int .i64 u] ∧ Below w.heap.size w wi ∧ ∀ m, m < k → (m ≠ j → genG xs m ≠ g) ∧ (stG xs j = 1 → genG xs m ≤ g)) (fun i _ => n - (intOf i).toNat)
        case atStart => exact ⟨0, Nat.zero_le _, rfl, HB2.out, HS2.out, HW2.out, fun m h => absurd h (by omega)⟩
        case round =>
          obtain ⟨k, hk, rfl, hb3, hs3, hw3, hall⟩ := hrel
          have HB3 := Lib.hid hb3
          have HS3 := Lib.hid hs3
          have HW3 := Lib.hid hw3
          have HAL := Lib.hid hall
          obtain ⟨k0, k1⟩ := ring_cells hb3
          obtain ⟨v0, v1, v2⟩ : wr.cell? ⟨wo.heap.size, 0, none⟩ = some (.int .i64 1) ∧ wr.cell? ⟨wo.heap.size, 1, none⟩ = some (.int .u64 g) ∧ wr.cell? ⟨wo.heap.size, 2, none⟩ = some (.int .i64 u) := ⟨hs3.cell 0, hs3.cell 1, hs3.cell 2⟩
          clear hb3 hs3 hw3 hall
          by_cases hkn : k < n
          · obtain ⟨gb, go, ge, hbb3, hcc3⟩ := seg_get (HX.out.below HW3.out (fun b h => h)) hkn
            obtain ⟨rfl, rfl⟩ : b = gb ∧ off = go := by injection ge with ge; injection ge with h1 h2; exact ⟨h1, h2⟩
            obtain ⟨d0, d1, d2⟩ := hcc3 k hkn
            have hkl := Lib.hid (show k < xs.length by rw [HX.out.1]; exact hkn)
            obtain ⟨gk, hgk⟩ : ∃ gk, genG xs k = gk := ⟨_, rfl⟩
            obtain ⟨sk, hsk⟩ : ∃ sk, stG xs k = sk := ⟨_, rfl⟩
            obtain ⟨uk, huk⟩ : ∃ uk, usedG xs k = uk := ⟨_, rfl⟩
            rw [hsk] at d0
            rw [hgk] at d1
            rw [huk] at d2
            have HGK := Lib.hid hgk
            have hin := (Below.refl wr.heap.size wr).alloc (Nat.le_refl _) (.cells #[.int .i64 sk, .int .u64 gk, .int .i64 uk] 128)
            have a1 : (wr.alloc (.cells #[.int .i64 sk, .int .u64 gk, .int .i64 uk] 128)).cell? ⟨wo.heap.size, 1, none⟩ = some (.int .u64 g) := (HS3.out.alloc _).cell 1
            have a0 : (wr.alloc (.cells #[.int .i64 sk, .int .u64 gk, .int .i64 uk] 128)).cell? ⟨wo.heap.size, 0, none⟩ = some (.int .i64 1) := (HS3.out.alloc _).cell 0
            have HIN := Lib.hid hin
            clear ge hbb3 hcc3 hgk hsk huk hin
            by_cases hkj : k = j
            · subst hkj
              obtain rfl : g = gk := by rw [← HGK.out, HG.out]
              have f1 : ((k : Int) != (k : Int)) = false := by simp
              have f3 : decide (g < g) = false := decide_eq_false (by omega)
              go_wp2
              go_roundw
              case rel => exact ⟨k + 1, by omega, by simp, HB3.out.alloc _, HS3.out.alloc _, HW3.out.alloc HW3.out.size _, fun m hm => by
                by_cases e : m < k
                · exact HAL.out m e
                · obtain rfl : m = k := by omega
                  exact ⟨fun h => absurd rfl h, fun _ => by rw [HGK.out]; omega⟩⟩
              case measure => simp [intOf]; omega
            have f1 : ((k : Int) != (j : Int)) = true := by simp; omega
            by_cases hge : gk = g
            · obtain rfl : g = gk := hge.symm
              have HF := Lib.hid (show ¬ OkR sec xs from fun ho => bad_same ho hkl.out hjl.out hkj (by rw [HGK.out, HG.out]) (by show stG xs j ≠ 0; rw [HST.out]; decide))
              go_wp2
              go_ret
              exact ⟨by rw [← HRR.out, decide_eq_false HF.out]; rfl, HW3.out.alloc HW3.out.size _⟩
            have f2 : (gk == g) = false := by simpa using hge
            by_cases hgt : g < gk
            · have f3 : decide (g < gk) = true := decide_eq_true hgt
              have HF := Lib.hid (show ¬ OkR sec xs from fun ho => bad_above ho hkl.out hjl.out hkj (by rw [HGK.out, HG.out]; exact hgt) HST.out)
              go_wp2
              go_ret
              exact ⟨by rw [← HRR.out, decide_eq_false HF.out]; rfl, HW3.out.alloc HW3.out.size _⟩
            have f3 : decide (g < gk) = false := decide_eq_false hgt
            go_wp2
            go_roundw
            case rel => exact ⟨k + 1, by omega, by simp, HB3.out.alloc _, HS3.out.alloc _, HW3.out.alloc HW3.out.size _, fun m hm => by
              by_cases e : m < k
              · exact HAL.out m e
              · obtain rfl : m = k := by omega
                exact ⟨fun _ => by rw [HGK.out]; exact hge, fun h1 => by rw [HGK.out]; omega⟩⟩
            case measure => simp [intOf]; omega
          · obtain rfl : k = n := by omega
            go_wp2
            go_roundw
            case rel => exact ⟨j + 1, by omega, by simp, HB3.out, HW3.out, right_next HJ.out ⟨by unfold MayG; rw [show (xs.getD j seg0).1 = 1 from HST.out, if_neg (by decide)]; exact ⟨.inl rfl, by have := HG.out; simp only [genG] at this; omega, by have := HU.out; simp only [usedG] at this; omega, by have := HU.out; simp only [usedG] at this; omega⟩, fun _ m hm hmj => by have := HAL.out m hm; rw [HG.out]; exact ⟨this.1 hmj, this.2⟩⟩⟩
            case measure => simp [intOf]; omega
      by_cases h2 : st = 2
      · subst h2
        have HST := Lib.hid (show stG xs j = 2 from HSS.out)
        by_cases hg0 : g = 0
        · subst hg0
          have HF := Lib.hid (show ¬ OkR sec xs from fun ho => by have h := (may_live (may_at ho.2.1 hjl.out) (by show stG xs j ≠ 0; rw [HST.out]; decide)).2.1; rw [show (xs.getD j seg0).2.1 = 0 from HG.out] at h; omega)
          go_wp2
          go_ret
          exact ⟨by rw [← HRR.out, decide_eq_false HF.out]; rfl, HW2.out⟩
        have f1 : (g == 0) = false := by simpa using hg0
        by_cases hu1 : u < 1
        · have f2 : decide (u < 1) = true := decide_eq_true hu1
          have HF := Lib.hid (show ¬ OkR sec xs from fun ho => by have h := (may_live (may_at ho.2.1 hjl.out) (by show stG xs j ≠ 0; rw [HST.out]; decide)).2.2.1; rw [show (xs.getD j seg0).2.2 = u from HU.out] at h; omega)
          go_wp2
          go_ret
          exact ⟨by rw [← HRR.out, decide_eq_false HF.out]; rfl, HW2.out⟩
        have f2 : decide (u < 1) = false := decide_eq_false hu1
        by_cases hus : sec < u
        · have f3 : decide (sec < u) = true := decide_eq_true hus
          have HF := Lib.hid (show ¬ OkR sec xs from fun ho => by have h := (may_live (may_at ho.2.1 hjl.out) (by show stG xs j ≠ 0; rw [HST.out]; decide)).2.2.2; rw [show (xs.getD j seg0).2.2 = u from HU.out] at h; omega)
          go_wp2
          go_ret
          exact ⟨by rw [← HRR.out, decide_eq_false HF.out]; rfl, HW2.out⟩
        have f3 : decide (sec < u) = false := decide_eq_false hus
        have hgp : 0 ≤ g := by rw [← HG.out]; exact hpos j hlt
        obtain ⟨wo, hwo⟩ : ∃ wo : World, wo = wr := ⟨_, rfl⟩
        rw [← hwo] at HB2 HS2 HW2
        have HWO := Lib.hid hwo
        go_wp2
        rw [← HWO.out]
        clear HWO hwo
        go_loopw [55] (fun i wi => ∃ k : Nat, k ≤ n ∧ i = .int .i64 k ∧ Blk wi w.heap.size 35 #[.int .i64 sec, .slice (some ⟨b, off, none⟩) n cap] ∧ Blk wi wo.heap.size 128 #[.int .i64 2, .int .u64 g, .int .i64 u] ∧ Below w.heap.size w wi ∧ ∀ m, m < k → (m ≠ j → genG xs m ≠ g) ∧ (stG xs j = 1 → genG xs m ≤ g)) (fun i _ => n - (intOf i).toNat)
        case atStart => exact ⟨0, Nat.zero_le _, rfl, HB2.out, HS2.out, HW2.out, fun m h => absurd h (by omega)⟩
        case round =>
          obtain ⟨k, hk, rfl, hb3, hs3, hw3, hall⟩ := hrel
          have HB3 := Lib.hid hb3
          have HS3 := Lib.hid hs3
          have HW3 := Lib.hid hw3
          have HAL := Lib.hid hall
          obtain ⟨k0, k1⟩ := ring_cells hb3
          obtain ⟨v0, v1, v2⟩ : wr.cell? ⟨wo.heap.size, 0, none⟩ = some (.int .i64 2) ∧ wr.cell? ⟨wo.heap.size, 1, none⟩ = some (.int .u64 g) ∧ wr.cell? ⟨wo.heap.size, 2, none⟩ = some (.int .i64 u) := ⟨hs3.cell 0, hs3.cell 1, hs3.cell 2⟩
          clear hb3 hs3 hw3 hall
          by_cases hkn : k < n
          · obtain ⟨gb, go, ge, hbb3, hcc3⟩ := seg_get (HX.out.below HW3.out (fun b h => h)) hkn
            obtain ⟨rfl, rfl⟩ : b = gb ∧ off = go := by injection ge with ge; injection ge with h1 h2; exact ⟨h1, h2⟩
            obtain ⟨d0, d1, d2⟩ := hcc3 k hkn
            have hkl := Lib.hid (show k < xs.length by rw [HX.out.1]; exact hkn)
            obtain ⟨gk, hgk⟩ : ∃ gk, genG xs k = gk := ⟨_, rfl⟩
            obtain ⟨sk, hsk⟩ : ∃ sk, stG xs k = sk := ⟨_, rfl⟩
            obtain ⟨uk, huk⟩ : ∃ uk, usedG xs k = uk := ⟨_, rfl⟩
            rw [hsk] at d0
            rw [hgk] at d1
            rw [huk] at d2
            have HGK := Lib.hid hgk
            have hin := (Below.refl wr.heap.size wr).alloc (Nat.le_refl _) (.cells #[.int .i64 sk, .int .u64 gk, .int .i64 uk] 128)
            have a1 : (wr.alloc (.cells #[.int .i64 sk, .int .u64 gk, .int .i64 uk] 128)).cell? ⟨wo.heap.size, 1, none⟩ = some (.int .u64 g) := (HS3.out.alloc _).cell 1
            have a0 : (wr.alloc (.cells #[.int .i64 sk, .int .u64 gk, .int .i64 uk] 128)).cell? ⟨wo.heap.size, 0, none⟩ = some (.int .i64 2) := (HS3.out.alloc _).cell 0
            have HIN := Lib.hid hin
            clear ge hbb3 hcc3 hgk hsk huk hin
            by_cases hkj : k = j
            · subst hkj
              obtain rfl : g = gk := by rw [← HGK.out, HG.out]
              have f1 : ((k : Int) != (k : Int)) = false := by simp
              have f3 : decide (g < g) = false := decide_eq_false (by omega)
              go_wp2
              go_roundw
              case rel => exact ⟨k + 1, by omega, by simp, HB3.out.alloc _, HS3.out.alloc _, HW3.out.alloc HW3.out.size _, fun m hm => by
                by_cases e : m < k
                · exact HAL.out m e
                · obtain rfl : m = k := by omega
                  exact ⟨fun h => absurd rfl h, fun _ => by rw [HGK.out]; omega⟩⟩
              case measure => simp [intOf]; omega
            have f1 : ((k : Int) != (j : Int)) = true := by simp; omega
            by_cases hge : gk = g
            · obtain rfl : g = gk := hge.symm
              have HF := Lib.hid (show ¬ OkR sec xs from fun ho => bad_same ho hkl.out hjl.out hkj (by rw [HGK.out, HG.out]) (by show stG xs j ≠ 0; rw [HST.out]; decide))
              go_wp2
              go_ret
              exact ⟨by rw [← HRR.out, decide_eq_false HF.out]; rfl, HW3.out.alloc HW3.out.size _⟩
            have f2 : (gk == g) = false := by simpa using hge
            go_wp2
            go_roundw
            case rel => exact ⟨k + 1, by omega, by simp, HB3.out.alloc _, HS3.out.alloc _, HW3.out.alloc HW3.out.size _, fun m hm => by
              by_cases e : m < k
              · exact HAL.out m e
              · obtain rfl : m = k := by omega
                exact ⟨fun _ => by rw [HGK.out]; exact hge, fun h1 => by rw [HGK.out]; rw [HST.out] at h1; exact absurd h1 (by decide)⟩⟩
            case measure => simp [intOf]; omega
          · obtain rfl : k = n := by omega
            go_wp2
            go_roundw
            case rel => exact ⟨j + 1, by omega, by simp, HB3.out, HW3.out, right_next HJ.out ⟨by unfold MayG; rw [show (xs.getD j seg0).1 = 2 from HST.out, if_neg (by decide)]; exact ⟨.inr rfl, by have := HG.out; simp only [genG] at this; omega, by have := HU.out; simp only [usedG] at this; omega, by have := HU.out; simp only [usedG] at this; omega⟩, fun _ m hm hmj => by have := HAL.out m hm; rw [HG.out]; exact ⟨this.1 hmj, this.2⟩⟩⟩
            case measure => simp [intOf]; omega
      have e1 : (st == 1) = false := by simpa using h1
      have e2 : (st == 2) = false := by simpa using h2
      have HF := Lib.hid (show ¬ OkR sec xs from fun ho => by have h := (may_live (may_at ho.2.1 hjl.out) (by show stG xs j ≠ 0; rw [HSS.out]; exact h0)).1; rw [show (xs.getD j seg0).1 = st from HSS.out] at h; omega)
      go_wp2
      go_ret
      exact ⟨by rw [← HRR.out, decide_eq_false HF.out]; rfl, HW2.out⟩
    · obtain rfl : j = n := by omega
      have HT := Lib.hid (show OkR sec xs from right_all HX.out.1 HSZ.out HJ.out)
      go_wp2
      go_ret
      exact ⟨by rw [← HRR.out, decide_eq_true HT.out]; rfl, HW.out⟩
end Go.Proofs.YtodcohkblgjfeaaGreat
