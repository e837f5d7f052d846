/- Package ring: Seal, Free. -/
import Derived.Test.YtkmbbfdjdmkjpaaUseR
namespace Go.Proofs.Ytkmbbfdjdmkjpaa
open Go.RowKit
set_option linter.unusedVariables false
set_option linter.unusedSimpArgs false

/-- The variables of a call: the ring, the ring that is told. -/
def OW (w : World) (sec : Int) (A : Option Addr) (n cap : Nat) (W : World) : Prop :=
  Below w.heap.size w W ∧ Blk W w.heap.size 66 #[.int .i64 sec, .slice A n cap] ∧ Blk W (w.heap.size + 1) 66 #[.int .i64 0, .slice none 0 0]
section
variable {w : World} {sec : Int} {A : Option Addr} {n cap : Nat} {W W' : World}
theorem OW.start (w : World) (sec : Int) (A : Option Addr) (n cap : Nat) : OW w sec A n cap ((w.alloc (.cells #[.int .i64 sec, .slice A n cap] 66)).alloc (.cells #[.int .i64 0, .slice none 0 0] 66)) :=
  ⟨((Below.refl _ w).alloc (Nat.le_refl _) _).alloc (by simp) _, (Blk.new w _ _).alloc _, blk_new2 w _ _ _⟩
theorem OW.next (h : OW w sec A n cap W) (hb : Below W.heap.size W W') : OW w sec A n cap W' :=
  ⟨h.1.trans (hb.mono h.1.size), h.2.1.below hb h.2.1.lt, h.2.2.below hb h.2.2.lt⟩
theorem OW.cells (h : OW w sec A n cap W) : W.cell? ⟨w.heap.size, 0, none⟩ = some (.int .i64 sec) ∧ W.cell? ⟨w.heap.size, 1, none⟩ = some (.slice A n cap) ∧
    W.cell? ⟨w.heap.size + 1, 0, none⟩ = some (.int .i64 0) ∧ W.cell? ⟨w.heap.size + 1, 1, none⟩ = some (.slice none 0 0) ∧ W.frozen? ⟨w.heap.size + 1, 0, none⟩ = false ∧ W.frozen? ⟨w.heap.size + 1, 1, none⟩ = false :=
  ⟨h.2.1.cell 0, h.2.1.cell 1, h.2.2.cell 0, h.2.2.cell 1, h.2.2.frozen 0, h.2.2.frozen 1⟩
theorem OW.res (h : OW w sec A n cap W) (s : Int) (B : Option Addr) (m c : Nat) : Blk ((W.setCell ⟨w.heap.size + 1, 0, none⟩ (.int .i64 s)).setCell ⟨w.heap.size + 1, 1, none⟩ (.slice B m c)) (w.heap.size + 1) 66 #[.int .i64 s, .slice B m c] :=
  (h.2.2.set_ 0 (.int .i64 s)).set_ 1 (.slice B m c)
theorem OW.below (h : OW w sec A n cap W) (u v : Value) : Below w.heap.size w ((W.setCell ⟨w.heap.size + 1, 0, none⟩ u).setCell ⟨w.heap.size + 1, 1, none⟩ v) :=
  (h.1.setCell (p := ⟨w.heap.size + 1, 0, none⟩) (by simp) u).setCell (p := ⟨w.heap.size + 1, 1, none⟩) (by simp) v
theorem OW.lt (h : OW w sec A n cap W) : w.heap.size + 1 < W.heap.size := h.2.2.lt
end

set_option maxRecDepth 100000 in
set_option maxHeartbeats 4000000 in
theorem seal_any {w : World} {A : Option Addr} {n cap : Nat} {xs : List Seg} (h : RowZ w (· < w.heap.size) A n xs) (sec : Int) :
    Calls Try.prog 56 #[ringV sec A n cap] w fun e w' => TurnT w sec (sealE sec xs) (sealX xs) e w' := by
  have HX := Lib.hid h
  have HV0 := Lib.hid (OW.start w sec A n cap)
  have HC := Lib.hid (working_any (cap := cap) (row_now h HV0.out.1) sec)
  clear h
  by_cases hs : sealE sec xs = 0
  case neg =>
    have d : (sealE sec xs != 0) = true := by simpa using hs
    have HS := Lib.hid hs
    clear hs
    generalize sealE sec xs = se at *
    generalize openedV sec xs = ov at *
    go_enter Try.func56, Try.ntmps56
    go_wp2_with (first
      | (go_at_call 95; refine HC.out.mono ?_; rintro e w1 ⟨rfl, hb1⟩; have HV1 := Lib.hid (HV0.out.next hb1); obtain ⟨q0, q1, q3, q4, f3, f4⟩ := HV1.out.cells; clear hb1)
      | (with_reducible refine halt_end ?_))
    exact Halt.ret (results_row2 (p := 2) (u := 3) rfl _ _ (w.heap.size + 1) 66 #[.int .i64 0, .slice none 0 0] _ rfl (HV1.out.res 0 none 0 0) Try.underlying66 rfl size_ring) rfl (TurnT.no HS.out (HV1.out.below _ _))
  obtain ⟨hk, ho⟩ := seal_yes hs
  obtain ⟨i, hi, hio, hst⟩ := opn_nat hk ho
  have hov : openedV sec xs = i := by rw [(opened_yes hk ho).2, hio]
  rw [hs, hov] at HC
  have hin : i < n := by rw [← HX.out.1]; exact hi
  have HXX := Lib.hid (show sealX xs = xs.set i (2, genG xs i, usedG xs i) by unfold sealX; rw [hio, Int.toNat_natCast])
  have HT := Lib.hid (fun (W : World) (hh : RowZ W (· < W.heap.size) A n xs) => turned_seal (cap := cap) hh sec (by have := (ok_n hk HX.out.1).2; omega) i hin)
  rw [hs]
  clear hk ho hio hst hov hs hi
  go_enter Try.func56, Try.ntmps56
  go_wp2_with (first
    | (go_at_call 95; refine HC.out.mono ?_; rintro e w1 ⟨rfl, hb1⟩; have HV1 := Lib.hid (HV0.out.next hb1); obtain ⟨q0, q1, q3, q4, f3, f4⟩ := HV1.out.cells; clear hb1)
    | (go_at_call 92; refine (HT.out _ (row_now HX.out HV1.out.1)).mono ?_; rintro e w6 ⟨⟨A', cap', rfl, hown⟩, hb6⟩; have HV6 := Lib.hid (HV1.out.next hb6); obtain ⟨t0, t1, t3, t4, f9, f0⟩ := HV6.out.cells; have HOW := Lib.hid hown; clear hb6 hown)
    | (with_reducible refine halt_end ?_))
  have hlt := HV1.out.lt
  have hown := ((HOW.out.far (p := ⟨w.heap.size + 1, 0, none⟩) hlt (.int .i64 sec)).far (p := ⟨w.heap.size + 1, 1, none⟩) hlt (.slice A' n cap')).base HV1.out.1.size
  rw [← HXX.out] at hown
  exact Halt.ret (results_row2 (p := 2) (u := 3) rfl _ _ (w.heap.size + 1) 66 #[.int .i64 sec, .slice A' n cap'] _ rfl (HV6.out.res sec A' n cap') Try.underlying66 rfl size_ring) rfl ⟨.inl ⟨rfl, _, rfl, ⟨A', n, cap', rfl, hown⟩⟩, HV6.out.below _ _⟩

theorem free_bad {sec : Int} {xs : List Seg} {i : Int} (h : ¬ OkR sec xs) : freeE sec xs i = 180 := if_pos h
theorem free_arg {sec : Int} {xs : List Seg} {i : Int} (h : OkR sec xs) (h1 : i < 0 ∨ (xs.length : Int) ≤ i) : freeE sec xs i = 2 := by unfold freeE; rw [if_neg (fun k => k h), if_pos h1]
theorem free_state {sec : Int} {xs : List Seg} {i : Nat} (h : OkR sec xs) (h1 : i < xs.length) (h2 : stG xs i ≠ 2) : freeE sec xs i = 181 := by unfold freeE; rw [if_neg (fun k => k h), if_neg (by omega), if_pos (by simpa using h2)]
theorem free_go {sec : Int} {xs : List Seg} {i : Nat} (h : OkR sec xs) (h1 : i < xs.length) (h2 : stG xs i = 2) : freeE sec xs i = 0 := by unfold freeE; rw [if_neg (fun k => k h), if_neg (by omega), if_neg (by simpa using h2)]

set_option maxRecDepth 100000 in
set_option maxHeartbeats 4000000 in
theorem free_any {w : World} {A : Option Addr} {n cap : Nat} {xs : List Seg} (h : RowZ w (· < w.heap.size) A n xs) (sec v : Int) :
    Calls Try.prog 58 #[ringV sec A n cap, .int .i64 v] w fun e w' => TurnT w sec (freeE sec xs v) (freeX xs v) e w' := by
  have HX := Lib.hid h
  have HV0 := Lib.hid (OW.start w sec A n cap)
  have HC := Lib.hid (check_any (cap := cap) (row_now h HV0.out.1) sec)
  clear h
  by_cases hk : OkR sec xs
  case neg =>
    rw [free_bad hk]
    rw [if_neg hk] at HC
    clear hk
    go_enter Try.func58, Try.ntmps58
    go_wp2_with (first
      | (go_at_call 44; refine HC.out.mono ?_; rintro e w1 ⟨rfl, hb1⟩; have HV1 := Lib.hid (HV0.out.next hb1); obtain ⟨q0, q1, q3, q4, f3, f4⟩ := HV1.out.cells; clear hb1)
      | (with_reducible refine halt_end ?_))
    exact Halt.ret (results_row2 (p := 4) (u := 5) rfl _ _ (w.heap.size + 1) 66 #[.int .i64 0, .slice none 0 0] _ rfl (HV1.out.res 0 none 0 0) Try.underlying66 rfl size_ring) rfl (TurnT.no (by decide) (HV1.out.below _ _))
  rw [if_pos hk] at HC
  have HK := Lib.hid hk
  have hln := HX.out.1
  clear hk
  by_cases h1 : v < 0
  · have d1 : decide (v < 0) = true := decide_eq_true h1
    rw [free_arg HK.out (.inl h1)]
    go_enter Try.func58, Try.ntmps58
    go_wp2_with (first
      | (go_at_call 44; refine HC.out.mono ?_; rintro e w1 ⟨rfl, hb1⟩; have HV1 := Lib.hid (HV0.out.next hb1); obtain ⟨q0, q1, q3, q4, f3, f4⟩ := HV1.out.cells; clear hb1)
      | (with_reducible refine halt_end ?_))
    exact Halt.ret (results_row2 (p := 4) (u := 5) rfl _ _ (w.heap.size + 1) 66 #[.int .i64 0, .slice none 0 0] _ rfl (HV1.out.res 0 none 0 0) Try.underlying66 rfl size_ring) rfl (TurnT.no (by decide) (HV1.out.below _ _))
  have d1 : decide (v < 0) = false := decide_eq_false h1
  by_cases h2 : (n : Int) ≤ v
  · have d2 : decide ((n : Int) ≤ v) = true := decide_eq_true h2
    rw [free_arg HK.out (.inr (by rw [hln]; exact h2))]
    go_enter Try.func58, Try.ntmps58
    go_wp2_with (first
      | (go_at_call 44; refine HC.out.mono ?_; rintro e w1 ⟨rfl, hb1⟩; have HV1 := Lib.hid (HV0.out.next hb1); obtain ⟨q0, q1, q3, q4, f3, f4⟩ := HV1.out.cells; clear hb1)
      | (with_reducible refine halt_end ?_))
    exact Halt.ret (results_row2 (p := 4) (u := 5) rfl _ _ (w.heap.size + 1) 66 #[.int .i64 0, .slice none 0 0] _ rfl (HV1.out.res 0 none 0 0) Try.underlying66 rfl size_ring) rfl (TurnT.no (by decide) (HV1.out.below _ _))
  obtain ⟨i, rfl⟩ : ∃ i : Nat, v = i := ⟨v.toNat, by omega⟩
  have hin : i < n := by omega
  have d2 : decide ((n : Int) ≤ (i : Int)) = false := decide_eq_false h2
  obtain ⟨b, off, rfl, hbb, hcc⟩ := seg_get HX.out hin
  have HCC := Lib.hid (hcc i hin).1
  have HFS := Lib.hid (fun h2 => free_state HK.out (by rw [hln]; exact hin) h2)
  have HFG := Lib.hid (fun h2 => free_go HK.out (by rw [hln]; exact hin) h2)
  clear hcc hln h1 h2
  generalize stG xs i = st at *
  by_cases h3 : st = 2
  · subst h3
    have HXX := Lib.hid (show freeX xs i = xs.set i seg0 by unfold freeX; rw [Int.toNat_natCast])
    have HT := Lib.hid (fun (W : World) (hh : RowZ W (· < W.heap.size) (some ⟨b, off, none⟩) n xs) => turned_free (cap := cap) hh sec (by have := (ok_n HK.out HX.out.1).2; omega) i hin)
    rw [HFG.out rfl]
    go_enter Try.func58, Try.ntmps58
    go_wp2_with (first
      | (go_at_call 44; refine HC.out.mono ?_; rintro e w1 ⟨rfl, hb1⟩; have HV1 := Lib.hid (HV0.out.next hb1); obtain ⟨q0, q1, q3, q4, f3, f4⟩ := HV1.out.cells; have kG : w1.cell? ⟨b, off + i * 3, none⟩ = some (.int .i64 2) := (Below.cell HV1.out.1 (p := ⟨b, _, none⟩) hbb).trans HCC.out; clear hb1)
      | (go_at_call 92; refine (HT.out _ (row_now HX.out HV1.out.1)).mono ?_; rintro e w6 ⟨⟨A', cap', rfl, hown⟩, hb6⟩; have HV6 := Lib.hid (HV1.out.next hb6); obtain ⟨t0, t1, t3, t4, f9, f0⟩ := HV6.out.cells; have HOW := Lib.hid hown; clear hb6 hown)
      | (with_reducible refine halt_end ?_))
    have hlt := HV1.out.lt
    have hown := ((HOW.out.far (p := ⟨w.heap.size + 1, 0, none⟩) hlt (.int .i64 sec)).far (p := ⟨w.heap.size + 1, 1, none⟩) hlt (.slice A' n cap')).base HV1.out.1.size
    rw [← HXX.out] at hown
    exact Halt.ret (results_row2 (p := 4) (u := 5) rfl _ _ (w.heap.size + 1) 66 #[.int .i64 sec, .slice A' n cap'] _ rfl (HV6.out.res sec A' n cap') Try.underlying66 rfl size_ring) rfl ⟨.inl ⟨rfl, _, rfl, ⟨A', n, cap', rfl, hown⟩⟩, HV6.out.below _ _⟩
  · have d3 : (st != 2) = true := by simpa using h3
    rw [HFS.out h3]
    go_enter Try.func58, Try.ntmps58
    go_wp2_with (first
      | (go_at_call 44; refine HC.out.mono ?_; rintro e w1 ⟨rfl, hb1⟩; have HV1 := Lib.hid (HV0.out.next hb1); obtain ⟨q0, q1, q3, q4, f3, f4⟩ := HV1.out.cells; have kG : w1.cell? ⟨b, off + i * 3, none⟩ = some (.int .i64 st) := (Below.cell HV1.out.1 (p := ⟨b, _, none⟩) hbb).trans HCC.out; clear hb1)
      | (with_reducible refine halt_end ?_))
    exact Halt.ret (results_row2 (p := 4) (u := 5) rfl _ _ (w.heap.size + 1) 66 #[.int .i64 0, .slice none 0 0] _ rfl (HV1.out.res 0 none 0 0) Try.underlying66 rfl size_ring) rfl (TurnT.no (by decide) (HV1.out.below _ _))

end Go.Proofs.Ytkmbbfdjdmkjpaa
