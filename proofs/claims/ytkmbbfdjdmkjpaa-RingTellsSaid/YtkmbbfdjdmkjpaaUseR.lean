/- Package ring: Use. -/
import Derived.Test.YtkmbbfdjdmkjpaaOpenR
import Derived.Test.YtkmbbfdjdmkjpaaCalm
namespace Go.Proofs.Ytkmbbfdjdmkjpaa
open Go.RowKit
set_option linter.unusedVariables false
set_option linter.unusedSimpArgs false

/-- What a call tells that answers a ring and an error. -/
def TurnT (w : World) (sec : Int) (E : Int) (ys : List Seg) (e : Ending) (w' : World) : Prop :=
  (E = 0 ∧ (∃ v, e = .returned (.tuple #[v, .int .i64 0]) ∧ RingO w' w.heap.size v sec ys) ∨
   E ≠ 0 ∧ e = .returned (.tuple #[ringV 0 none 0 0, .int .i64 E])) ∧ Below w.heap.size w w'
theorem TurnT.no {w w' : World} {sec E : Int} {ys : List Seg} (h0 : E ≠ 0) (hb : Below w.heap.size w w') : TurnT w sec E ys (.returned (.tuple #[ringV 0 none 0 0, .int .i64 E])) w' := ⟨.inr ⟨h0, rfl⟩, hb⟩
theorem seal_yes {sec : Int} {xs : List Seg} (h : sealE sec xs = 0) : OkR sec xs ∧ ¬ opnR xs < 0 := by
  unfold sealE at h
  by_cases hk : OkR sec xs
  · rw [if_neg (fun k => k hk)] at h
    by_cases h1 : opnR xs < 0
    · rw [if_pos h1] at h; omega
    · exact ⟨hk, h1⟩
  · rw [if_pos hk] at h; omega
theorem use_seal {sec : Int} {xs : List Seg} {n : Int} (h : sealE sec xs ≠ 0) : useE sec xs n = sealE sec xs := by
  unfold useE sealE at *
  by_cases hk : OkR sec xs
  · by_cases h1 : opnR xs < 0
    · simp [hk, h1]
    · simp [hk, h1] at h
  · simp [hk]
theorem use_arg {sec : Int} {xs : List Seg} {n : Int} (h : sealE sec xs = 0) (h2 : n < 0) : useE sec xs n = 2 := by
  obtain ⟨hk, h1⟩ := seal_yes h
  unfold useE; rw [if_neg (fun k => k hk), if_neg h1, if_pos h2]
theorem use_full {sec : Int} {xs : List Seg} {n : Int} (h : sealE sec xs = 0) (h2 : ¬ n < 0) (h3 : leftR sec xs < n) : useE sec xs n = 6 := by
  obtain ⟨hk, h1⟩ := seal_yes h
  unfold useE; rw [if_neg (fun k => k hk), if_neg h1, if_neg h2, if_pos h3]
theorem use_go {sec : Int} {xs : List Seg} {n : Int} (h : sealE sec xs = 0) (h2 : ¬ n < 0) (h3 : ¬ leftR sec xs < n) : useE sec xs n = 0 := by
  obtain ⟨hk, h1⟩ := seal_yes h
  unfold useE; rw [if_neg (fun k => k hk), if_neg h1, if_neg h2, if_neg h3]
theorem opn_nat {sec : Int} {xs : List Seg} (h : OkR sec xs) (h1 : ¬ opnR xs < 0) : ∃ i : Nat, i < xs.length ∧ opnR xs = i ∧ stG xs i = 1 := by
  rcases opn_or h with ⟨e, _⟩ | ⟨i, hi, e, _, hs⟩
  · omega
  · exact ⟨i, hi, e, hs⟩
theorem used_bound {sec : Int} {xs : List Seg} (h : OkR sec xs) {i : Nat} (hi : i < xs.length) : 0 ≤ usedG xs i ∧ usedG xs i ≤ 64 ∧ 24 ≤ sec ∧ sec ≤ 64 := by
  have h1 := h.1
  unfold SizedR at h1
  have h2 := may_at h.2.1 hi
  unfold MayG at h2
  split at h2
  · simp only [usedG]; omega
  · simp only [usedG]; omega

set_option maxRecDepth 100000 in
set_option maxHeartbeats 4000000 in
theorem use_any {w : World} {A : Option Addr} {n cap : Nat} {xs : List Seg} (h : RowZ w (· < w.heap.size) A n xs) (sec v : Int) :
    Calls Try.prog 54 #[ringV sec A n cap, .int .i64 v] w fun e w' => TurnT w sec (useE sec xs v) (useX xs v) e w' := by
  have HX := Lib.hid h
  have HV0 := Lib.hid (OV.start w sec A n cap 3 (.int .i64 v))
  have HC := Lib.hid (working_any (cap := cap) (row_now h HV0.out.1) sec)
  clear h
  by_cases hs : sealE sec xs = 0
  case neg =>
    rw [use_seal hs]
    have d : (sealE sec xs != 0) = true := by simpa using hs
    have HS := Lib.hid hs
    clear hs
    generalize sealE sec xs = se at *
    generalize openedV sec xs = ov at *
    go_enter Try.func54, Try.ntmps54
    go_wp2_with (first
      | (go_at_call 95; refine HC.out.mono ?_; rintro e w1 ⟨rfl, hb1⟩; have HV1 := Lib.hid (HV0.out.next hb1); obtain ⟨q0, q1, q2, q3, q4, f3, f4⟩ := HV1.out.cells; clear hb1)
      | (with_reducible refine halt_end ?_))
    exact Halt.ret (results_row2 (p := 4) (u := 5) rfl _ _ (w.heap.size + 1 + 1) 66 #[.int .i64 0, .slice none 0 0] _ rfl (HV1.out.res 0 none 0 0) Try.underlying66 rfl size_ring) rfl (TurnT.no HS.out (HV1.out.below _ _))
  obtain ⟨hk, ho⟩ := seal_yes hs
  obtain ⟨i, hi, hio, hst⟩ := opn_nat hk ho
  have hov : openedV sec xs = i := by rw [(opened_yes hk ho).2, hio]
  rw [hs, hov] at HC
  have HK := Lib.hid hk
  have HSE := Lib.hid hs
  have HIO := Lib.hid hio
  have HST := Lib.hid hst
  have hin : i < n := by rw [← HX.out.1]; exact hi
  have HI := Lib.hid hi
  clear hk ho hio hst hov hs hi
  by_cases h2 : v < 0
  · have d2 : decide (v < 0) = true := decide_eq_true h2
    rw [use_arg HSE.out h2]
    go_enter Try.func54, Try.ntmps54
    go_wp2_with (first
      | (go_at_call 95; refine HC.out.mono ?_; rintro e w1 ⟨rfl, hb1⟩; have HV1 := Lib.hid (HV0.out.next hb1); obtain ⟨q0, q1, q2, q3, q4, f3, f4⟩ := HV1.out.cells; clear hb1)
      | (with_reducible refine halt_end ?_))
    exact Halt.ret (results_row2 (p := 4) (u := 5) rfl _ _ (w.heap.size + 1 + 1) 66 #[.int .i64 0, .slice none 0 0] _ rfl (HV1.out.res 0 none 0 0) Try.underlying66 rfl size_ring) rfl (TurnT.no (by decide) (HV1.out.below _ _))
  have d2 : decide (v < 0) = false := decide_eq_false h2
  have HLE := Lib.hid (show leftW sec xs = leftR sec xs from if_pos HK.out)
  have HLF := Lib.hid (fun (W : World) (hh : RowZ W (· < W.heap.size) A n xs) => left_ring (cap := cap) hh sec)
  rw [HLE.out] at HLF
  have HG := Lib.hid (fun h3 => use_full (n := v) HSE.out h2 h3)
  have HGO := Lib.hid (fun h3 => use_go (n := v) HSE.out h2 h3)
  obtain ⟨lr, hlr⟩ : ∃ lr, leftR sec xs = lr := ⟨_, rfl⟩
  have HLR := Lib.hid hlr
  rw [hlr] at HLF HG HGO
  clear hlr HLE
  obtain ⟨E, hE⟩ : ∃ E, useE sec xs v = E := ⟨_, rfl⟩
  obtain ⟨Y, hY⟩ : ∃ Y, useX xs v = Y := ⟨_, rfl⟩
  rw [hE] at HG HGO
  rw [hE, hY]
  have HY := Lib.hid hY
  clear hE hY
  obtain ⟨bb, hbb⟩ : ∃ bb, decide (lr < v) = bb := ⟨_, rfl⟩
  go_enter Try.func54, Try.ntmps54
  go_wp2_with (first
    | (go_at_call 95; refine HC.out.mono ?_; rintro e w1 ⟨rfl, hb1⟩; have HV1 := Lib.hid (HV0.out.next hb1); obtain ⟨q0, q1, q2, q3, q4, f3, f4⟩ := HV1.out.cells; clear hb1))
  refine calm_region (fun W => OV w sec A n cap 3 (.int .i64 v) W) (by kernel_rfl) (by kernel_rfl) (HV1.out.next (Below.refl _ _).drew) ?_
  refine calm_load_cell (.tmp 3) 3 rfl rfl ⟨w.heap.size + 1, 0, none⟩ rfl (.int .i64 v) (fun W h => by simp [go_sem, h, Try.underlying3]) (fun W h => h.cells.2.2.1) ?_
  simp only [Act.put, List.setIfInBounds_toArray, List.set_cons_zero, List.set_cons_succ]
  refine calm_load_row (.tmp 2) 66 rfl rfl w.heap.size rfl 66 [.int .i64 sec, .slice A n cap] _ Try.underlying66 rfl size_ring (fun W h => h.2.1) ?_
  simp only [Act.put, List.setIfInBounds_toArray, List.set_cons_zero, List.set_cons_succ]
  refine calm_call 40 #[.tmp 25] #[66] rfl rfl Try.func40 rfl rfl (.int .i64 lr) [ringV sec A n cap] rfl (fun W h => (HLF.out W (row_now HX.out h.1)).mono fun e w' ⟨h1, h2⟩ => ⟨h1, h.next h2⟩) ?_
  simp only [Act.put, List.setIfInBounds_toArray, List.set_cons_zero, List.set_cons_succ]
  refine calm_by (.bool bb) rfl (fun W _ => by unfold execOp; simp [go_sem, Try.underlying3, hbb]) ?_
  simp only [Act.put, List.setIfInBounds_toArray, List.set_cons_zero, List.set_cons_succ]
  go_big_quiet_step (fail)
  refine wpQuiet_nil ?_
  intro w5 hw5
  have HV5 := Lib.hid hw5
  obtain ⟨r0, r1, r2, r3, r4, f5, f6⟩ := HV5.out.cells
  clear hw5 q0 q1 q2 q3 q4 f3 f4
  by_cases h3 : lr < v
  · obtain rfl : bb = true := by rw [← hbb]; exact decide_eq_true h3
    obtain rfl := HG.out h3
    go_wp2_with (with_reducible refine halt_end ?_)
    exact Halt.ret (results_row2 (p := 4) (u := 5) rfl _ _ (w.heap.size + 1 + 1) 66 #[.int .i64 0, .slice none 0 0] _ rfl (HV5.out.res 0 none 0 0) Try.underlying66 rfl size_ring) rfl (TurnT.no (by decide) (HV5.out.below _ _))
  · obtain rfl : bb = false := by rw [← hbb]; exact decide_eq_false h3
    obtain rfl := HGO.out (by omega)
    have hub := used_bound HK.out HI.out
    have hul : leftR sec xs = sec - usedG xs i := by unfold leftR; rw [HIO.out, if_pos (by omega), Int.toNat_natCast]
    have hw : wrap64 (usedG xs i + v) = usedG xs i + v := by have := HLR.out; unfold wrap64; omega
    have HXX := Lib.hid (show Y = xs.set i (stG xs i, genG xs i, wrap64 (usedG xs i + v)) by rw [← HY.out]; unfold useX; rw [HIO.out, Int.toNat_natCast, hw])
    have HT := Lib.hid (fun (W : World) (hh : RowZ W (· < W.heap.size) A n xs) (hG : w.heap.size + 1 < W.heap.size) (hc : W.cell? ⟨w.heap.size + 1, 0, none⟩ = some (.int .i64 v)) => turned_use (cap := cap) hh sec (by have := (ok_n HK.out HX.out.1).2; omega) i hin v (w.heap.size + 1) hG hc)
    clear hub hul hw
    go_wp2_with (first
      | (go_at_call 92; refine (HT.out _ (row_now HX.out HV5.out.1) HV5.out.2.2.1.lt r2).mono ?_; rintro e w6 ⟨⟨A', cap', rfl, hown⟩, hb6⟩; have HV6 := Lib.hid (HV5.out.next hb6); obtain ⟨t0, t1, t2, t3, t4, f9, f0⟩ := HV6.out.cells; have HOW := Lib.hid hown; clear hb6 hown)
      | (with_reducible refine halt_end ?_))
    have hlt := HV5.out.lt
    have hown := ((HOW.out.far (p := ⟨w.heap.size + 1 + 1, 0, none⟩) hlt (.int .i64 sec)).far (p := ⟨w.heap.size + 1 + 1, 1, none⟩) hlt (.slice A' n cap')).base HV5.out.1.size
    rw [← HXX.out] at hown
    exact Halt.ret (results_row2 (p := 4) (u := 5) rfl _ _ (w.heap.size + 1 + 1) 66 #[.int .i64 sec, .slice A' n cap'] _ rfl (HV6.out.res sec A' n cap') Try.underlying66 rfl size_ring) rfl ⟨.inl ⟨rfl, _, rfl, ⟨A', n, cap', rfl, hown⟩⟩, HV6.out.below _ _⟩

end Go.Proofs.Ytkmbbfdjdmkjpaa
