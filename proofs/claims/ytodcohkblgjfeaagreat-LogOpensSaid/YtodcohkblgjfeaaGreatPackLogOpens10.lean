/- Texts of LogOpens, packed. -/
import Derived.Test.YtodcohkblgjfeaaGreatPackLogOpens9
import Derived.Deep.RegionHeld3
set_option linter.unusedVariables false
set_option linter.unusedSimpArgs false
namespace Go.Proofs.YtodcohkblgjfeaaGreat
set_option maxRecDepth 100000
open Go.RowKit
set_option linter.unusedVariables false
set_option linter.unusedSimpArgs false
def OW (w : World) (sec : Int) (A : Option Addr) (n cap : Nat) (W : World) : Prop :=
  Below w.heap.size w W ∧ Blk W w.heap.size 35 #[.int .i64 sec, .slice A n cap] ∧ Blk W (w.heap.size + 1) 35 #[.int .i64 0, .slice none 0 0]
section
variable {w : World} {sec : Int} {A : Option Addr} {n cap : Nat} {W W' : World}
theorem OW.start (w : World) (sec : Int) (A : Option Addr) (n cap : Nat) : OW w sec A n cap ((w.alloc (.cells #[.int .i64 sec, .slice A n cap] 35)).alloc (.cells #[.int .i64 0, .slice none 0 0] 35)) :=
  ⟨((Below.refl _ w).alloc (Nat.le_refl _) _).alloc (by simp) _, (Blk.new w _ _).alloc _, blk_new2 w _ _ _⟩
theorem OW.next (h : OW w sec A n cap W) (hb : Below W.heap.size W W') : OW w sec A n cap W' :=
  ⟨h.1.trans (hb.mono h.1.size), h.2.1.below hb h.2.1.lt, h.2.2.below hb h.2.2.lt⟩
theorem OW.cells (h : OW w sec A n cap W) : W.cell? ⟨w.heap.size, 0, none⟩ = some (.int .i64 sec) ∧ W.cell? ⟨w.heap.size, 1, none⟩ = some (.slice A n cap) ∧
    W.cell? ⟨w.heap.size + 1, 0, none⟩ = some (.int .i64 0) ∧ W.cell? ⟨w.heap.size + 1, 1, none⟩ = some (.slice none 0 0) ∧ W.frozen? ⟨w.heap.size + 1, 0, none⟩ = false ∧ W.frozen? ⟨w.heap.size + 1, 1, none⟩ = false :=
  ⟨h.2.1.cell 0, h.2.1.cell 1, h.2.2.cell 0, h.2.2.cell 1, h.2.2.frozen 0, h.2.2.frozen 1⟩
theorem OW.res (h : OW w sec A n cap W) (s : Int) (B : Option Addr) (m c : Nat) : Blk ((W.setCell ⟨w.heap.size + 1, 0, none⟩ (.int .i64 s)).setCell ⟨w.heap.size + 1, 1, none⟩ (.slice B m c)) (w.heap.size + 1) 35 #[.int .i64 s, .slice B m c] :=
  (h.2.2.set_ 0 (.int .i64 s)).set_ 1 (.slice B m c)
theorem OW.below (h : OW w sec A n cap W) (u v : Value) : Below w.heap.size w ((W.setCell ⟨w.heap.size + 1, 0, none⟩ u).setCell ⟨w.heap.size + 1, 1, none⟩ v) :=
  (h.1.setCell (p := ⟨w.heap.size + 1, 0, none⟩) (by simp) u).setCell (p := ⟨w.heap.size + 1, 1, none⟩) (by simp) v
theorem OW.lt (h : OW w sec A n cap W) : w.heap.size + 1 < W.heap.size := h.2.2.lt
end
set_option maxRecDepth 100000 in
set_option maxHeartbeats 4000000 in
theorem seal_any {w : World} {A : Option Addr} {n cap : Nat} {xs : List Seg} (h : RowZ w (· < w.heap.size) A n xs) (sec : Int) :
    Calls Tryz.prog 141 #[ringV sec A n cap] w fun e w' => TurnT w sec (sealE sec xs) (sealX xs) e w' := by
  have HX := Lib.hid h
  have HV0 := Lib.hid (OW.start w sec A n cap)
  have HC := Lib.hid (working_any (cap := cap) (row_now h HV0.out.1) sec)
  clear h
  by_cases hs : sealE sec xs = 0
  case neg =>
    have d : (sealE sec xs != 0) = true := by simpa using hs
    have HS := Lib.hid hs
    clear hs
    generalize sealE sec xs = se at *
    generalize openedV sec xs = ov at *
    go_enter Tryz.func141, Tryz.ntmps141
    go_wp2_with (first
      | (go_at_call 145; refine HC.out.mono ?_; rintro e w1 ⟨rfl, hb1⟩; have HV1 := Lib.hid (HV0.out.next hb1); obtain ⟨q0, q1, q3, q4, f3, f4⟩ := HV1.out.cells; clear hb1)
      | (with_reducible refine halt_end ?_))
    exact Halt.ret (results_row2 (p := 2) (u := 3) rfl _ _ (w.heap.size + 1) 35 #[.int .i64 0, .slice none 0 0] _ rfl (HV1.out.res 0 none 0 0) Tryz.underlying35 rfl size_ring) rfl (TurnT.no HS.out (HV1.out.below _ _))
  obtain ⟨hk, ho⟩ := seal_yes hs
  obtain ⟨i, hi, hio, hst⟩ := opn_nat hk ho
  have hov : openedV sec xs = i := by rw [(opened_yes hk ho).2, hio]
  rw [hs, hov] at HC
  have hin : i < n := by rw [← HX.out.1]; exact hi
  have HXX := Lib.hid (show sealX xs = xs.set i (2, genG xs i, usedG xs i) by unfold sealX; rw [hio, Int.toNat_natCast])
  have HT := Lib.hid (fun (W : World) (hh : RowZ W (· < W.heap.size) A n xs) => turned_seal (cap := cap) hh sec (by have := (ok_n hk HX.out.1).2; omega) i hin)
  rw [hs]
  clear hk ho hio hst hov hs hi
  go_enter Tryz.func141, Tryz.ntmps141
  go_wp2_with (first
    | (go_at_call 145; refine HC.out.mono ?_; rintro e w1 ⟨rfl, hb1⟩; have HV1 := Lib.hid (HV0.out.next hb1); obtain ⟨q0, q1, q3, q4, f3, f4⟩ := HV1.out.cells; clear hb1)
    | (go_at_call 122; refine (HT.out _ (row_now HX.out HV1.out.1)).mono ?_; rintro e w6 ⟨⟨A', cap', rfl, hown⟩, hb6⟩; have HV6 := Lib.hid (HV1.out.next hb6); obtain ⟨t0, t1, t3, t4, f9, f0⟩ := HV6.out.cells; have HOW := Lib.hid hown; clear hb6 hown)
    | (with_reducible refine halt_end ?_))
  have hlt := HV1.out.lt
  have hown := ((HOW.out.far (p := ⟨w.heap.size + 1, 0, none⟩) hlt (.int .i64 sec)).far (p := ⟨w.heap.size + 1, 1, none⟩) hlt (.slice A' n cap')).base HV1.out.1.size
  rw [← HXX.out] at hown
  exact Halt.ret (results_row2 (p := 2) (u := 3) rfl _ _ (w.heap.size + 1) 35 #[.int .i64 sec, .slice A' n cap'] _ rfl (HV6.out.res sec A' n cap') Tryz.underlying35 rfl size_ring) rfl ⟨.inl ⟨rfl, _, rfl, ⟨A', n, cap', rfl, hown⟩⟩, HV6.out.below _ _⟩
theorem free_bad {sec : Int} {xs : List Seg} {i : Int} (h : ¬ OkR sec xs) : freeE sec xs i = 180 := if_pos h
theorem free_arg {sec : Int} {xs : List Seg} {i : Int} (h : OkR sec xs) (h1 : i < 0 ∨ (xs.length : Int) ≤ i) : freeE sec xs i = 2 := by unfold freeE; rw [if_neg (fun k => k h), if_pos h1]
theorem free_state {sec : Int} {xs : List Seg} {i : Nat} (h : OkR sec xs) (h1 : i < xs.length) (h2 : stG xs i ≠ 2) : freeE sec xs i = 181 := by unfold freeE; rw [if_neg (fun k => k h), if_neg (by omega), if_pos (by simpa using h2)]
theorem free_go {sec : Int} {xs : List Seg} {i : Nat} (h : OkR sec xs) (h1 : i < xs.length) (h2 : stG xs i = 2) : freeE sec xs i = 0 := by unfold freeE; rw [if_neg (fun k => k h), if_neg (by omega), if_neg (by simpa using h2)]
set_option maxRecDepth 100000 in
set_option maxHeartbeats 4000000 in
theorem free_any {w : World} {A : Option Addr} {n cap : Nat} {xs : List Seg} (h : RowZ w (· < w.heap.size) A n xs) (sec v : Int) :
    Calls Tryz.prog 71 #[ringV sec A n cap, .int .i64 v] w fun e w' => TurnT w sec (freeE sec xs v) (freeX xs v) e w' := by
  have HX := Lib.hid h
  have HV0 := Lib.hid (OW.start w sec A n cap)
  have HC := Lib.hid (check_any (cap := cap) (row_now h HV0.out.1) sec)
  clear h
  by_cases hk : OkR sec xs
  case neg =>
    rw [free_bad hk]
    rw [if_neg hk] at HC
    clear hk
    go_enter Tryz.func71, Tryz.ntmps71
    go_wp2_with (first
      | (go_at_call 81; refine HC.out.mono ?_; rintro e w1 ⟨rfl, hb1⟩; have HV1 := Lib.hid (HV0.out.next hb1); obtain ⟨q0, q1, q3, q4, f3, f4⟩ := HV1.out.cells; clear hb1)
      | (with_reducible refine halt_end ?_))
    exact Halt.ret (results_row2 (p := 4) (u := 5) rfl _ _ (w.heap.size + 1) 35 #[.int .i64 0, .slice none 0 0] _ rfl (HV1.out.res 0 none 0 0) Tryz.underlying35 rfl size_ring) rfl (TurnT.no (by decide) (HV1.out.below _ _))
  rw [if_pos hk] at HC
  have HK := Lib.hid hk
  have hln := HX.out.1
  clear hk
  by_cases h1 : v < 0
  · have d1 : decide (v < 0) = true := decide_eq_true h1
    rw [free_arg HK.out (.inl h1)]
    go_enter Tryz.func71, Tryz.ntmps71
    go_wp2_with (first
      | (go_at_call 81; refine HC.out.mono ?_; rintro e w1 ⟨rfl, hb1⟩; have HV1 := Lib.hid (HV0.out.next hb1); obtain ⟨q0, q1, q3, q4, f3, f4⟩ := HV1.out.cells; clear hb1)
      | (with_reducible refine halt_end ?_))
    exact Halt.ret (results_row2 (p := 4) (u := 5) rfl _ _ (w.heap.size + 1) 35 #[.int .i64 0, .slice none 0 0] _ rfl (HV1.out.res 0 none 0 0) Tryz.underlying35 rfl size_ring) rfl (TurnT.no (by decide) (HV1.out.below _ _))
  have d1 : decide (v < 0) = false := decide_eq_false h1
  by_cases h2 : (n : Int) ≤ v
  · have d2 : decide ((n : Int) ≤ v) = true := decide_eq_true h2
    rw [free_arg HK.out (.inr (by rw [hln]; exact h2))]
    go_enter Tryz.func71, Tryz.ntmps71
    go_wp2_with (first
      | (go_at_call 81; refine HC.out.mono ?_; rintro e w1 ⟨rfl, hb1⟩; have HV1 := Lib.hid (HV0.out.next hb1); obtain ⟨q0, q1, q3, q4, f3, f4⟩ := HV1.out.cells; clear hb1)
      | (with_reducible refine halt_end ?_))
    exact Halt.ret (results_row2 (p := 4) (u := 5) rfl _ _ (w.heap.size + 1) 35 #[.int .i64 0, .slice none 0 0] _ rfl (HV1.out.res 0 none 0 0) Tryz.underlying35 rfl size_ring) rfl (TurnT.no (by decide) (HV1.out.below _ _))
  obtain ⟨i, rfl⟩ : ∃ i : Nat, v = i := ⟨v.toNat, by omega⟩
  have hin : i < n := by omega
  have d2 : decide ((n : Int) ≤ (i : Int)) = false := decide_eq_false h2
  obtain ⟨b, off, rfl, hbb, hcc⟩ := seg_get HX.out hin
  have HCC := Lib.hid (hcc i hin).1
  have HFS := Lib.hid (fun h2 => free_state HK.out (by rw [hln]; exact hin) h2)
  have HFG := Lib.hid (fun h2 => free_go HK.out (by rw [hln]; exact hin) h2)
  clear hcc hln h1 h2
  generalize stG xs i = st at *
  by_cases h3 : st = 2
  · subst h3
    have HXX := Lib.hid (show freeX xs i = xs.set i seg0 by unfold freeX; rw [Int.toNat_natCast])
    have HT := Lib.hid (fun (W : World) (hh : RowZ W (· < W.heap.size) (some ⟨b, off, none⟩) n xs) => turned_free (cap := cap) hh sec (by have := (ok_n HK.out HX.out.1).2; omega) i hin)
    rw [HFG.out rfl]
    go_enter Tryz.func71, Tryz.ntmps71
    go_wp2_with (first
      | (go_at_call 81; refine HC.out.mono ?_; rintro e w1 ⟨rfl, hb1⟩; have HV1 := Lib.hid (HV0.out.next hb1); obtain ⟨q0, q1, q3, q4, f3, f4⟩ := HV1.out.cells; have kG : w1.cell? ⟨b, off + i * 3, none⟩ = some (.int .i64 2) := (Below.cell HV1.out.1 (p := ⟨b, _, none⟩) hbb).trans HCC.out; clear hb1)
      | (go_at_call 122; refine (HT.out _ (row_now HX.out HV1.out.1)).mono ?_; rintro e w6 ⟨⟨A', cap', rfl, hown⟩, hb6⟩; have HV6 := Lib.hid (HV1.out.next hb6); obtain ⟨t0, t1, t3, t4, f9, f0⟩ := HV6.out.cells; have HOW := Lib.hid hown; clear hb6 hown)
      | (with_reducible refine halt_end ?_))
    have hlt := HV1.out.lt
    have hown := ((HOW.out.far (p := ⟨w.heap.size + 1, 0, none⟩) hlt (.int .i64 sec)).far (p := ⟨w.heap.size + 1, 1, none⟩) hlt (.slice A' n cap')).base HV1.out.1.size
    rw [← HXX.out] at hown
    exact Halt.ret (results_row2 (p := 4) (u := 5) rfl _ _ (w.heap.size + 1) 35 #[.int .i64 sec, .slice A' n cap'] _ rfl (HV6.out.res sec A' n cap') Tryz.underlying35 rfl size_ring) rfl ⟨.inl ⟨rfl, _, rfl, ⟨A', n, cap', rfl, hown⟩⟩, HV6.out.below _ _⟩
  · have d3 : (st != 2) = true := by simpa using h3
    rw [HFS.out h3]
    go_enter Tryz.func71, Tryz.ntmps71
    go_wp2_with (first
      | (go_at_call 81; refine HC.out.mono ?_; rintro e w1 ⟨rfl, hb1⟩; have HV1 := Lib.hid (HV0.out.next hb1); obtain ⟨q0, q1, q3, q4, f3, f4⟩ := HV1.out.cells; have kG : w1.cell? ⟨b, off + i * 3, none⟩ = some (.int .i64 st) := (Below.cell HV1.out.1 (p := ⟨b, _, none⟩) hbb).trans HCC.out; clear hb1)
      | (with_reducible refine halt_end ?_))
    exact Halt.ret (results_row2 (p := 4) (u := 5) rfl _ _ (w.heap.size + 1) 35 #[.int .i64 0, .slice none 0 0] _ rfl (HV1.out.res 0 none 0 0) Tryz.underlying35 rfl size_ring) rfl (TurnT.no (by decide) (HV1.out.below _ _))
end Go.Proofs.YtodcohkblgjfeaaGreat

namespace Go.Proofs.YtodcohkblgjfeaaGreat
set_option maxRecDepth 100000
open Go.RowKit
set_option linter.unusedVariables false
set_option linter.unusedSimpArgs false
theorem bad_same {sec : Int} {xs : List Seg} (ho : OkR sec xs) {k j : Nat} (hk : k < xs.length) (hj : j < xs.length) (hne : ¬ k = j) (h : genG xs k = genG xs j) (hl : stG xs j ≠ 0) : False := by
  have hg := (may_live (may_at ho.2.1 hj) hl).2.1
  by_cases h0 : stG xs k = 0
  · have hm := may_at ho.2.1 hk
    unfold MayG at hm
    rw [if_pos h0] at hm
    simp only [genG] at h
    omega
  · exact (ho.2.2 k hk j hj hne h0 hl).1 h
theorem bad_above {sec : Int} {xs : List Seg} (ho : OkR sec xs) {k j : Nat} (hk : k < xs.length) (hj : j < xs.length) (hne : ¬ k = j) (h : genG xs j < genG xs k) (hl : stG xs j = 1) : False := by
  have hl0 : stG xs j ≠ 0 := by rw [hl]; decide
  have hg := (may_live (may_at ho.2.1 hj) hl0).2.1
  by_cases h0 : stG xs k = 0
  · have hm := may_at ho.2.1 hk
    unfold MayG at hm
    rw [if_pos h0] at hm
    simp only [genG] at h
    omega
  · have := (ho.2.2 j hj k hk (fun e => hne e.symm) hl0 h0).2 hl
    simp only [genG] at h
    omega
def FoundR (sec : Int) (xs : List Seg) (n j : Nat) : Prop := MayG (xs.getD j seg0) sec ∧ (stG xs j ≠ 0 → ∀ m, m < n → m ≠ j → genG xs m ≠ genG xs j ∧ (stG xs j = 1 → genG xs m ≤ genG xs j))
theorem right_next {sec : Int} {xs : List Seg} {n j : Nat} (h : ∀ k, k < j → FoundR sec xs n k) (hj : FoundR sec xs n j) : ∀ k, k < j + 1 → FoundR sec xs n k := fun k hk => by
  by_cases e : k < j
  · exact h k e
  · obtain rfl : k = j := by omega
    exact hj
theorem right_all {sec : Int} {xs : List Seg} {n : Nat} (hn : xs.length = n) (hsz : SizedR n sec) (h : ∀ k, k < n → FoundR sec xs n k) : OkR sec xs := by
  subst hn
  refine ⟨hsz, fun s hs => ?_, fun i hi j hj hne hi0 hj0 => ?_⟩
  · obtain ⟨i, hi, rfl⟩ := List.getElem_of_mem hs
    have := (h i hi).1
    simpa [List.getD, hi] using this
  · have h1 := (h i hi).2 hi0 j hj (fun e => hne e.symm)
    refine ⟨fun e => h1.1 e.symm, fun ho => ?_⟩
    have h2 := h1.2 ho
    have h3 := h1.1
    simp only [genG] at h2 h3
    omega
set_option maxRecDepth 100000 in
set_option maxHeartbeats 4000000 in
theorem ref_right {w : World} {A : Option Addr} {n cap : Nat} {xs : List Seg} (h : RowZ w (· < w.heap.size) A n xs) (sec : Int) (hn : n ≤ 40) (hpos : ∀ i, i < n → 0 ≤ genG xs i) :
    Calls Tryz.prog 35 #[ringV sec A n cap] w fun e w' => e = .returned (.bool (decide (OkR sec xs))) ∧ Below w.heap.size w w' := by
  have HX := Lib.hid h
  clear h
  by_cases hs : SizedR n sec
  case neg =>
    have hd : decide (SizedR (n : Int) sec) = false := decide_eq_false hs
    have HSI := Lib.hid (fun (W : World) => by have h := ref_sized_any n sec W; rw [hd] at h; exact h)
    have HF := Lib.hid (show ¬ OkR sec xs from fun ho => hs (by have := ho.1; rw [HX.out.1] at this; exact this))
    rw [decide_eq_false HF.out]
    clear hs hd
    go_enter Tryz.func35, Tryz.ntmps35
    go_wp2_with (go_at_call 83; refine (HSI.out _).mono ?_; rintro e w' ⟨rfl, rfl⟩)
    go_ret
    exact ⟨rfl, (Below.refl _ w).alloc (Nat.le_refl _) _⟩
  have hd : decide (SizedR (n : Int) sec) = true := decide_eq_true hs
  have HSI := Lib.hid (fun (W : World) => by have h := ref_sized_any n sec W; rw [hd] at h; exact h)
  have HSZ := Lib.hid hs
  have HK0 := Lib.hid (Blk.new w 35 #[.int .i64 sec, .slice A n cap])
  obtain ⟨RR, hRR⟩ : ∃ RR, decide (OkR sec xs) = RR := ⟨_, rfl⟩
  have HRR := Lib.hid hRR
  rw [hRR]
  clear hs hd hRR
  go_enter Tryz.func35, Tryz.ntmps35
  go_wp2_with (go_at_call 83; refine (HSI.out _).mono ?_; rintro e w' ⟨rfl, rfl⟩)
  go_loopw [17] (fun i wr => ∃ j : Nat, j ≤ n ∧ i = .int .i64 j ∧ Blk wr w.heap.size 35 #[.int .i64 sec, .slice A n cap] ∧ Below w.heap.size w wr ∧ ∀ k, k < j → FoundR sec xs n k) (fun i _ => n - (intOf i).toNat)
  case atStart => exact ⟨0, Nat.zero_le _, rfl, HK0.out, (Below.refl _ w).alloc (Nat.le_refl _) _, fun k h => absurd h (by omega)⟩
  case round =>
    obtain ⟨j, hj, rfl, hb, hbel, hfound⟩ := hrel
    have HB := Lib.hid hb
    have HW := Lib.hid hbel
    have HJ := Lib.hid hfound
    obtain ⟨k0, k1⟩ := ring_cells hb
    clear hb hbel hfound
    by_cases hlt : j < n
    · obtain ⟨b, off, rfl, hbb, hcc⟩ := seg_get (HX.out.below HW.out (fun b h => h)) hlt
      obtain ⟨c0, c1, c2⟩ := hcc j hlt
      have hjl := Lib.hid (show j < xs.length by rw [HX.out.1]; exact hlt)
      obtain ⟨st, hst⟩ : ∃ st, stG xs j = st := ⟨_, rfl⟩
      obtain ⟨g, hg⟩ : ∃ g, genG xs j = g := ⟨_, rfl⟩
      obtain ⟨u, hu⟩ : ∃ u, usedG xs j = u := ⟨_, rfl⟩
      rw [hst] at c0
      rw [hg] at c1
      rw [hu] at c2
      have HSS := Lib.hid hst
      have HG := Lib.hid hg
      have HU := Lib.hid hu
      have HW2 := Lib.hid (HW.out.alloc HW.out.size (.cells #[.int .i64 st, .int .u64 g, .int .i64 u] 128))
      have HB2 := Lib.hid (HB.out.alloc (.cells #[.int .i64 st, .int .u64 g, .int .i64 u] 128))
      have HS2 := Lib.hid (Blk.new wr 128 #[.int .i64 st, .int .u64 g, .int .i64 u])
      obtain ⟨q0, q1⟩ := ring_cells HB2.out
      clear hcc hbb hst hg hu
      by_cases h0 : st = 0
      · subst h0
        by_cases hg0 : g = 0
        · subst hg0
          by_cases hu0 : u = 0
          · subst hu0
            go_wp2
            go_roundw
            case rel => exact ⟨j + 1, by omega, by simp, HB2.out, HW2.out, right_next HJ.out ⟨by unfold MayG; rw [if_pos (show (xs.getD j seg0).1 = 0 from HSS.out)]; exact ⟨HG.out, HU.out⟩, fun h => absurd HSS.out h⟩⟩
            case measure => simp [intOf]; omega
          · have f2 : (u != 0) = true := by simpa using hu0
            have HF := Lib.hid (show ¬ OkR sec xs from fun ho => hu0 (by have h := may_at ho.2.1 hjl.out; unfold MayG at h; rw [if_pos (show (xs.getD j seg0).1 = 0 from HSS.out)] at h; rw [← HU.out]; exact h.2))
            go_wp2
            go_ret
            exact ⟨by rw [← HRR.out, decide_eq_false HF.out]; rfl, HW2.out⟩
        · have f1 : (g != 0) = true := by simpa using hg0
          have HF := Lib.hid (show ¬ OkR sec xs from fun ho => hg0 (by have h := may_at ho.2.1 hjl.out; unfold MayG at h; rw [if_pos (show (xs.getD j seg0).1 = 0 from HSS.out)] at h; rw [← HG.out]; exact h.1))
          go_wp2
          go_ret
          exact ⟨by rw [← HRR.out, decide_eq_false HF.out]; rfl, HW2.out⟩
      have e0 : (st == 0) = false := by simpa using h0
      by_cases h1 : st = 1
      · subst h1
        have HST := Lib.hid (show stG xs j = 1 from HSS.out)
        by_cases hg0 : g = 0
        · subst hg0
          have HF := Lib.hid (show ¬ OkR sec xs from fun ho => by have h := (may_live (may_at ho.2.1 hjl.out) (by show stG xs j ≠ 0; rw [HST.out]; decide)).2.1; rw [show (xs.getD j seg0).2.1 = 0 from HG.out] at h; omega)
          go_wp2
          go_ret
          exact ⟨by rw [← HRR.out, decide_eq_false HF.out]; rfl, HW2.out⟩
        have f1 : (g == 0) = false := by simpa using hg0
        by_cases hu1 : u < 1
        · have f2 : decide (u < 1) = true := decide_eq_true hu1
          have HF := Lib.hid (show ¬ OkR sec xs from fun ho => by have h := (may_live (may_at ho.2.1 hjl.out) (by show stG xs j ≠ 0; rw [HST.out]; decide)).2.2.1; rw [show (xs.getD j seg0).2.2 = u from HU.out] at h; omega)
          go_wp2
          go_ret
          exact ⟨by rw [← HRR.out, decide_eq_false HF.out]; rfl, HW2.out⟩
        have f2 : decide (u < 1) = false := decide_eq_false hu1
        by_cases hus : sec < u
        · have f3 : decide (sec < u) = true := decide_eq_true hus
          have HF := Lib.hid (show ¬ OkR sec xs from fun ho => by have h := (may_live (may_at ho.2.1 hjl.out) (by show stG xs j ≠ 0; rw [HST.out]; decide)).2.2.2; rw [show (xs.getD j seg0).2.2 = u from HU.out] at h; omega)
          go_wp2
          go_ret
          exact ⟨by rw [← HRR.out, decide_eq_false HF.out]; rfl, HW2.out⟩
        have f3 : decide (sec < u) = false := decide_eq_false hus
        have hgp : 0 ≤ g := by rw [← HG.out]; exact hpos j hlt
        obtain ⟨wo, hwo⟩ : ∃ wo : World, wo = wr := ⟨_, rfl⟩
        rw [← hwo] at HB2 HS2 HW2
        have HWO := Lib.hid hwo
        go_wp2
        rw [← HWO.out]
        clear HWO hwo
        go_loopw [55] (fun i wi => ∃ k : Nat, k ≤ n ∧ i = .int .i64 k ∧ Blk wi w.heap.size 35 #[.int .i64 sec, .slice (some ⟨b, off, none⟩) n cap] ∧ Blk wi wo.heap.size 128 #[.int .i64 1, .int .u64 g, .int .i64 u] ∧ Below w.heap.size w wi ∧ ∀ m, m < k → (m ≠ j → genG xs m ≠ g) ∧ (stG xs j = 1 → genG xs m ≤ g)) (fun i _ => n - (intOf i).toNat)
        case atStart => exact ⟨0, Nat.zero_le _, rfl, HB2.out, HS2.out, HW2.out, fun m h => absurd h (by omega)⟩
        case round =>
          obtain ⟨k, hk, rfl, hb3, hs3, hw3, hall⟩ := hrel
          have HB3 := Lib.hid hb3
          have HS3 := Lib.hid hs3
          have HW3 := Lib.hid hw3
          have HAL := Lib.hid hall
          obtain ⟨k0, k1⟩ := ring_cells hb3
          obtain ⟨v0, v1, v2⟩ : wr.cell? ⟨wo.heap.size, 0, none⟩ = some (.int .i64 1) ∧ wr.cell? ⟨wo.heap.size, 1, none⟩ = some (.int .u64 g) ∧ wr.cell? ⟨wo.heap.size, 2, none⟩ = some (.int .i64 u) := ⟨hs3.cell 0, hs3.cell 1, hs3.cell 2⟩
          clear hb3 hs3 hw3 hall
          by_cases hkn : k < n
          · obtain ⟨gb, go, ge, hbb3, hcc3⟩ := seg_get (HX.out.below HW3.out (fun b h => h)) hkn
            obtain ⟨rfl, rfl⟩ : b = gb ∧ off = go := by injection ge with ge; injection ge with h1 h2; exact ⟨h1, h2⟩
            obtain ⟨d0, d1, d2⟩ := hcc3 k hkn
            have hkl := Lib.hid (show k < xs.length by rw [HX.out.1]; exact hkn)
            obtain ⟨gk, hgk⟩ : ∃ gk, genG xs k = gk := ⟨_, rfl⟩
            obtain ⟨sk, hsk⟩ : ∃ sk, stG xs k = sk := ⟨_, rfl⟩
            obtain ⟨uk, huk⟩ : ∃ uk, usedG xs k = uk := ⟨_, rfl⟩
            rw [hsk] at d0
            rw [hgk] at d1
            rw [huk] at d2
            have HGK := Lib.hid hgk
            have hin := (Below.refl wr.heap.size wr).alloc (Nat.le_refl _) (.cells #[.int .i64 sk, .int .u64 gk, .int .i64 uk] 128)
            have a1 : (wr.alloc (.cells #[.int .i64 sk, .int .u64 gk, .int .i64 uk] 128)).cell? ⟨wo.heap.size, 1, none⟩ = some (.int .u64 g) := (HS3.out.alloc _).cell 1
            have a0 : (wr.alloc (.cells #[.int .i64 sk, .int .u64 gk, .int .i64 uk] 128)).cell? ⟨wo.heap.size, 0, none⟩ = some (.int .i64 1) := (HS3.out.alloc _).cell 0
            have HIN := Lib.hid hin
            clear ge hbb3 hcc3 hgk hsk huk hin
            by_cases hkj : k = j
            · subst hkj
              obtain rfl : g = gk := by rw [← HGK.out, HG.out]
              have f1 : ((k : Int) != (k : Int)) = false := by simp
              have f3 : decide (g < g) = false := decide_eq_false (by omega)
              go_wp2
              go_roundw
              case rel => exact ⟨k + 1, by omega, by simp, HB3.out.alloc _, HS3.out.alloc _, HW3.out.alloc HW3.out.size _, fun m hm => by
                by_cases e : m < k
                · exact HAL.out m e
                · obtain rfl : m = k := by omega
                  exact ⟨fun h => absurd rfl h, fun _ => by rw [HGK.out]; omega⟩⟩
              case measure => simp [intOf]; omega
            have f1 : ((k : Int) != (j : Int)) = true := by simp; omega
            by_cases hge : gk = g
            · obtain rfl : g = gk := hge.symm
              have HF := Lib.hid (show ¬ OkR sec xs from fun ho => bad_same ho hkl.out hjl.out hkj (by rw [HGK.out, HG.out]) (by show stG xs j ≠ 0; rw [HST.out]; decide))
              go_wp2
              go_ret
              exact ⟨by rw [← HRR.out, decide_eq_false HF.out]; rfl, HW3.out.alloc HW3.out.size _⟩
            have f2 : (gk == g) = false := by simpa using hge
            by_cases hgt : g < gk
            · have f3 : decide (g < gk) = true := decide_eq_true hgt
              have HF := Lib.hid (show ¬ OkR sec xs from fun ho => bad_above ho hkl.out hjl.out hkj (by rw [HGK.out, HG.out]; exact hgt) HST.out)
              go_wp2
              go_ret
              exact ⟨by rw [← HRR.out, decide_eq_false HF.out]; rfl, HW3.out.alloc HW3.out.size _⟩
            have f3 : decide (g < gk) = false := decide_eq_false hgt
            go_wp2
            go_roundw
            case rel => exact ⟨k + 1, by omega, by simp, HB3.out.alloc _, HS3.out.alloc _, HW3.out.alloc HW3.out.size _, fun m hm => by
              by_cases e : m < k
              · exact HAL.out m e
              · obtain rfl : m = k := by omega
                exact ⟨fun _ => by rw [HGK.out]; exact hge, fun h1 => by rw [HGK.out]; omega⟩⟩
            case measure => simp [intOf]; omega
          · obtain rfl : k = n := by omega
            go_wp2
            go_roundw
            case rel => exact ⟨j + 1, by omega, by simp, HB3.out, HW3.out, right_next HJ.out ⟨by unfold MayG; rw [show (xs.getD j seg0).1 = 1 from HST.out, if_neg (by decide)]; exact ⟨.inl rfl, by have := HG.out; simp only [genG] at this; omega, by have := HU.out; simp only [usedG] at this; omega, by have := HU.out; simp only [usedG] at this; omega⟩, fun _ m hm hmj => by have := HAL.out m hm; rw [HG.out]; exact ⟨this.1 hmj, this.2⟩⟩⟩
            case measure => simp [intOf]; omega
      by_cases h2 : st = 2
      · subst h2
        have HST := Lib.hid (show stG xs j = 2 from HSS.out)
        by_cases hg0 : g = 0
        · subst hg0
          have HF := Lib.hid (show ¬ OkR sec xs from fun ho => by have h := (may_live (may_at ho.2.1 hjl.out) (by show stG xs j ≠ 0; rw [HST.out]; decide)).2.1; rw [show (xs.getD j seg0).2.1 = 0 from HG.out] at h; omega)
          go_wp2
          go_ret
          exact ⟨by rw [← HRR.out, decide_eq_false HF.out]; rfl, HW2.out⟩
        have f1 : (g == 0) = false := by simpa using hg0
        by_cases hu1 : u < 1
        · have f2 : decide (u < 1) = true := decide_eq_true hu1
          have HF := Lib.hid (show ¬ OkR sec xs from fun ho => by have h := (may_live (may_at ho.2.1 hjl.out) (by show stG xs j ≠ 0; rw [HST.out]; decide)).2.2.1; rw [show (xs.getD j seg0).2.2 = u from HU.out] at h; omega)
          go_wp2
          go_ret
          exact ⟨by rw [← HRR.out, decide_eq_false HF.out]; rfl, HW2.out⟩
        have f2 : decide (u < 1) = false := decide_eq_false hu1
        by_cases hus : sec < u
        · have f3 : decide (sec < u) = true := decide_eq_true hus
          have HF := Lib.hid (show ¬ OkR sec xs from fun ho => by have h := (may_live (may_at ho.2.1 hjl.out) (by show stG xs j ≠ 0; rw [HST.out]; decide)).2.2.2; rw [show (xs.getD j seg0).2.2 = u from HU.out] at h; omega)
          go_wp2
          go_ret
          exact ⟨by rw [← HRR.out, decide_eq_false HF.out]; rfl, HW2.out⟩
        have f3 : decide (sec < u) = false := decide_eq_false hus
        have hgp : 0 ≤ g := by rw [← HG.out]; exact hpos j hlt
        obtain ⟨wo, hwo⟩ : ∃ wo : World, wo = wr := ⟨_, rfl⟩
        rw [← hwo] at HB2 HS2 HW2
        have HWO := Lib.hid hwo
        go_wp2
        rw [← HWO.out]
        clear HWO hwo
        go_loopw [55] (fun i wi => ∃ k : Nat, k ≤ n ∧ i = .int .i64 k ∧ Blk wi w.heap.size 35 #[.int .i64 sec, .slice (some ⟨b, off, none⟩) n cap] ∧ Blk wi wo.heap.size 128 #[.int .i64 2, .int .u64 g, .int .i64 u] ∧ Below w.heap.size w wi ∧ ∀ m, m < k → (m ≠ j → genG xs m ≠ g) ∧ (stG xs j = 1 → genG xs m ≤ g)) (fun i _ => n - (intOf i).toNat)
        case atStart => exact ⟨0, Nat.zero_le _, rfl, HB2.out, HS2.out, HW2.out, fun m h => absurd h (by omega)⟩
        case round =>
          obtain ⟨k, hk, rfl, hb3, hs3, hw3, hall⟩ := hrel
          have HB3 := Lib.hid hb3
          have HS3 := Lib.hid hs3
          have HW3 := Lib.hid hw3
          have HAL := Lib.hid hall
          obtain ⟨k0, k1⟩ := ring_cells hb3
          obtain ⟨v0, v1, v2⟩ : wr.cell? ⟨wo.heap.size, 0, none⟩ = some (.int .i64 2) ∧ wr.cell? ⟨wo.heap.size, 1, none⟩ = some (.int .u64 g) ∧ wr.cell? ⟨wo.heap.size, 2, none⟩ = some (.int .i64 u) := ⟨hs3.cell 0, hs3.cell 1, hs3.cell 2⟩
          clear hb3 hs3 hw3 hall
          by_cases hkn : k < n
          · obtain ⟨gb, go, ge, hbb3, hcc3⟩ := seg_get (HX.out.below HW3.out (fun b h => h)) hkn
            obtain ⟨rfl, rfl⟩ : b = gb ∧ off = go := by injection ge with ge; injection ge with h1 h2; exact ⟨h1, h2⟩
            obtain ⟨d0, d1, d2⟩ := hcc3 k hkn
            have hkl := Lib.hid (show k < xs.length by rw [HX.out.1]; exact hkn)
            obtain ⟨gk, hgk⟩ : ∃ gk, genG xs k = gk := ⟨_, rfl⟩
            obtain ⟨sk, hsk⟩ : ∃ sk, stG xs k = sk := ⟨_, rfl⟩
            obtain ⟨uk, huk⟩ : ∃ uk, usedG xs k = uk := ⟨_, rfl⟩
            rw [hsk] at d0
            rw [hgk] at d1
            rw [huk] at d2
            have HGK := Lib.hid hgk
            have hin := (Below.refl wr.heap.size wr).alloc (Nat.le_refl _) (.cells #[.int .i64 sk, .int .u64 gk, .int .i64 uk] 128)
            have a1 : (wr.alloc (.cells #[.int .i64 sk, .int .u64 gk, .int .i64 uk] 128)).cell? ⟨wo.heap.size, 1, none⟩ = some (.int .u64 g) := (HS3.out.alloc _).cell 1
            have a0 : (wr.alloc (.cells #[.int .i64 sk, .int .u64 gk, .int .i64 uk] 128)).cell? ⟨wo.heap.size, 0, none⟩ = some (.int .i64 2) := (HS3.out.alloc _).cell 0
            have HIN := Lib.hid hin
            clear ge hbb3 hcc3 hgk hsk huk hin
            by_cases hkj : k = j
            · subst hkj
              obtain rfl : g = gk := by rw [← HGK.out, HG.out]
              have f1 : ((k : Int) != (k : Int)) = false := by simp
              have f3 : decide (g < g) = false := decide_eq_false (by omega)
              go_wp2
              go_roundw
              case rel => exact ⟨k + 1, by omega, by simp, HB3.out.alloc _, HS3.out.alloc _, HW3.out.alloc HW3.out.size _, fun m hm => by
                by_cases e : m < k
                · exact HAL.out m e
                · obtain rfl : m = k := by omega
                  exact ⟨fun h => absurd rfl h, fun _ => by rw [HGK.out]; omega⟩⟩
              case measure => simp [intOf]; omega
            have f1 : ((k : Int) != (j : Int)) = true := by simp; omega
            by_cases hge : gk = g
            · obtain rfl : g = gk := hge.symm
              have HF := Lib.hid (show ¬ OkR sec xs from fun ho => bad_same ho hkl.out hjl.out hkj (by rw [HGK.out, HG.out]) (by show stG xs j ≠ 0; rw [HST.out]; decide))
              go_wp2
              go_ret
              exact ⟨by rw [← HRR.out, decide_eq_false HF.out]; rfl, HW3.out.alloc HW3.out.size _⟩
            have f2 : (gk == g) = false := by simpa using hge
            go_wp2
            go_roundw
            case rel => exact ⟨k + 1, by omega, by simp, HB3.out.alloc _, HS3.out.alloc _, HW3.out.alloc HW3.out.size _, fun m hm => by
              by_cases e : m < k
              · exact HAL.out m e
              · obtain rfl : m = k := by omega
                exact ⟨fun _ => by rw [HGK.out]; exact hge, fun h1 => by rw [HGK.out]; rw [HST.out] at h1; exact absurd h1 (by decide)⟩⟩
            case measure => simp [intOf]; omega
          · obtain rfl : k = n := by omega
            go_wp2
            go_roundw
            case rel => exact ⟨j + 1, by omega, by simp, HB3.out, HW3.out, right_next HJ.out ⟨by unfold MayG; rw [show (xs.getD j seg0).1 = 2 from HST.out, if_neg (by decide)]; exact ⟨.inr rfl, by have := HG.out; simp only [genG] at this; omega, by have := HU.out; simp only [usedG] at this; omega, by have := HU.out; simp only [usedG] at this; omega⟩, fun _ m hm hmj => by have := HAL.out m hm; rw [HG.out]; exact ⟨this.1 hmj, this.2⟩⟩⟩
            case measure => simp [intOf]; omega
      have e1 : (st == 1) = false := by simpa using h1
      have e2 : (st == 2) = false := by simpa using h2
      have HF := Lib.hid (show ¬ OkR sec xs from fun ho => by have h := (may_live (may_at ho.2.1 hjl.out) (by show stG xs j ≠ 0; rw [HSS.out]; exact h0)).1; rw [show (xs.getD j seg0).1 = st from HSS.out] at h; omega)
      go_wp2
      go_ret
      exact ⟨by rw [← HRR.out, decide_eq_false HF.out]; rfl, HW2.out⟩
    · obtain rfl : j = n := by omega
      have HT := Lib.hid (show OkR sec xs from right_all HX.out.1 HSZ.out HJ.out)
      go_wp2
      go_ret
      exact ⟨by rw [← HRR.out, decide_eq_true HT.out]; rfl, HW.out⟩
end Go.Proofs.YtodcohkblgjfeaaGreat

namespace Go.Proofs.YtodcohkblgjfeaaGreat
set_option maxRecDepth 100000
open Go.RowKit
set_option linter.unusedVariables false
set_option linter.unusedSimpArgs false
set_option maxRecDepth 100000 in
set_option maxHeartbeats 2000000 in
theorem ref_next {w : World} {A : Option Addr} {n cap : Nat} {xs : List Seg} (h : RowZ w (· < w.heap.size) A n xs) (sec : Int) (hn : n ≤ 40) :
    Calls Tryz.prog 56 #[ringV sec A n cap] w fun e w' => e = .returned (.int .i64 (nxtR xs)) ∧ Below w.heap.size w w' := by
  have HX := Lib.hid h
  have HL := Lib.hid (ref_latest (w := w.alloc (.cells #[.int .i64 sec, .slice A n cap] 35)) (cap := cap) ((h.below ((Below.refl w.heap.size w).alloc (Nat.le_refl _) (.cells #[.int .i64 sec, .slice A n cap] 35)) (fun b h => h)).more (fun b h => Nat.lt_of_lt_of_le h (by simp))) sec hn)
  have hlat := ref_latest_sp xs xs.length
  rw [h.1] at hlat
  have e : latTo xs n = latR xs := by unfold latR; rw [h.1]
  have e2 : nxtR xs = nxtTo xs (latR xs) n := by unfold nxtR; rw [h.1]
  rw [e] at hlat
  rw [e2]
  clear h e e2
  generalize latR xs = a at *
  have HA := Lib.hid hlat
  clear hlat
  go_enter Tryz.func56, Tryz.ntmps56
  go_wp2_with (go_at_call 107; refine HL.out.mono ?_; rintro e w1 ⟨rfl, hb1⟩)
  have HB0 := Lib.hid ((Blk.new w 35 #[.int .i64 sec, .slice A n cap]).below hb1 (by simp))
  have HBE0 := Lib.hid (((Below.refl w.heap.size w).alloc (Nat.le_refl _) (.cells #[.int .i64 sec, .slice A n cap] 35)).trans (hb1.mono (by simp)))
  clear hb1
  go_loopw [4] (fun i wr => ∃ j : Nat, j ≤ n ∧ i = .int .i64 ((j + 1 : Nat) : Int) ∧ Blk wr w.heap.size 35 #[.int .i64 sec, .slice A n cap] ∧ Below w.heap.size w wr ∧ nxtTo xs a j = -1) (fun i _ => n + 1 - (intOf i).toNat)
  case atStart => exact ⟨0, Nat.zero_le _, rfl, HB0.out, HBE0.out, rfl⟩
  case round =>
    obtain ⟨j, hj, rfl, hb, hbel, ho⟩ := hrel
    have HB := Lib.hid hb
    have HBEL := Lib.hid hbel
    have HO := Lib.hid ho
    obtain ⟨k0, k1⟩ : wr.cell? ⟨w.heap.size, 0, none⟩ = some (.int .i64 sec) ∧ wr.cell? ⟨w.heap.size, 1, none⟩ = some (.slice A n cap) := ⟨hb.cell 0, hb.cell 1⟩
    clear hb hbel ho
    by_cases hlt : j < n
    · obtain ⟨m, hm⟩ : ∃ m : Nat, a + ((j + 1 : Nat) : Int) = m := ⟨(a + ((j + 1 : Nat) : Int)).toNat, by rcases HA.out with h | ⟨i, _, h⟩ <;> omega⟩
      have hm80 : m ≤ 80 := by rcases HA.out with h | ⟨i, _, h⟩ <;> omega
      have HM := Lib.hid hm
      clear hm
      have hmod : (wrap64 (a + ((j : Int) + 1))).tmod n = ((m % n : Nat) : Int) := by
        have e : wrap64 (a + ((j : Int) + 1)) = (m : Int) := by
          have h := HM.out
          rw [show a + ((j : Int) + 1) = (m : Int) by omega]
          unfold wrap64; omega
        rw [e]
        exact (Int.ofNat_tmod _ _).symm
      have hlm : m % n < n := Nat.mod_lt _ (by omega)
      obtain ⟨b, off, rfl, hbb, hcc⟩ := seg_get (HX.out.below HBEL.out (fun b h => h)) hlm
      obtain ⟨c0, c1, c2⟩ := hcc (m % n) hlm
      have e1 : nxtTo xs a (j + 1) = if stG xs (m % n) = 0 then ((m % n : Nat) : Int) else -1 := by
        conv => (lhs; unfold nxtTo)
        rw [HO.out, if_neg (by omega), show (a + 1 + (j : Int)).toNat = m by have := HM.out; omega, HX.out.1]
      have E1 := Lib.hid e1
      clear hcc e1 c1 c2
      generalize stG xs (m % n) = st at *
      generalize m % n = q at *
      by_cases h0 : st = 0
      · subst h0
        go_wp2
        go_ret
        have h2 := E1.out
        simp only [if_true] at h2
        obtain ⟨d, hd⟩ : ∃ d, n = (j + 1) + d := ⟨n - (j + 1), by omega⟩
        have e : nxtTo xs a n = (q : Int) := by rw [hd, nxt_stay xs a (by omega), h2]
        exact ⟨by rw [e]; rfl, HBEL.out⟩
      · have d0 : (st == 0) = false := by simpa using h0
        go_wp2
        go_roundw
        case rel => exact ⟨j + 1, by omega, by go_num, HB.out, HBEL.out, by rw [E1.out, if_neg h0]⟩
        case measure => simp [intOf]; omega
    · obtain rfl : j = n := by omega
      go_wp2
      go_ret
      exact ⟨by rw [HO.out]; rfl, HBEL.out⟩
end Go.Proofs.YtodcohkblgjfeaaGreat

namespace Go.Proofs.YtodcohkblgjfeaaGreat
set_option maxRecDepth 100000
open Go.RowKit
set_option linter.unusedVariables false
set_option linter.unusedSimpArgs false
def PosG (xs : List Seg) (n : Nat) : Prop := ∀ i, i < n → 0 ≤ genG xs i
theorem opn_range (xs : List Seg) : opnR xs = -1 ∨ ∃ i : Nat, i < xs.length ∧ opnR xs = (i : Int) := by
  rcases opn_spec xs xs.length with ⟨e, _⟩ | ⟨i, hi, e, _⟩
  · exact .inl e
  · exact .inr ⟨i, hi, e⟩
set_option maxRecDepth 100000 in
set_option maxHeartbeats 2000000 in
theorem ref_left {w : World} {A : Option Addr} {n cap : Nat} {xs : List Seg} (h : RowZ w (· < w.heap.size) A n xs) (sec : Int) (hn : n ≤ 40) (hpos : PosG xs n) :
    Calls Tryz.prog 54 #[ringV sec A n cap] w fun e w' => e = .returned (.int .i64 (leftW sec xs)) ∧ Below w.heap.size w w' := by
  have HX := Lib.hid h
  have HP := Lib.hid hpos
  have HB1 := Lib.hid ((Below.refl w.heap.size w).alloc (Nat.le_refl _) (.cells #[.int .i64 sec, .slice A n cap] 35))
  have HC := Lib.hid (ref_opened (cap := cap) (row_now h HB1.out) sec hn)
  have HR := Lib.hid (fun (W : World) (hh : RowZ W (· < W.heap.size) A n xs) => ref_right (cap := cap) hh sec hn hpos)
  clear h hpos
  by_cases hk : OkR sec xs
  case neg =>
    rw [decide_eq_false hk] at HR
    rw [show leftW sec xs = 0 from if_neg hk]
    clear hk
    generalize opnR xs = o at *
    go_enter Tryz.func54, Tryz.ntmps54
    go_wp2_with (first
      | (go_at_call 36; refine HC.out.mono ?_; rintro e w1 ⟨rfl, hb1⟩; have HB2 := Lib.hid (ring_first hb1); obtain ⟨k0, k1⟩ := ring_cells HB2.out.2; clear hb1)
      | (go_at_call 35; refine (HR.out _ (row_now HX.out HB2.out.1)).mono ?_; rintro e w2 ⟨rfl, hb2⟩; have HB3 := Lib.hid (HB2.out.1.trans (hb2.mono HB2.out.1.size)); clear hb2))
    go_ret
    exact ⟨rfl, HB3.out⟩
  rw [decide_eq_true hk] at HR
  have HK := Lib.hid hk
  have hop := opn_or hk
  rw [show leftW sec xs = leftR sec xs from if_pos hk]
  clear hk
  rcases hop with ⟨ho, _⟩ | ⟨i, hi, ho, _, hs⟩
  · rw [show leftR sec xs = 0 from if_neg (by omega)]
    rw [ho] at HC
    clear ho
    go_enter Tryz.func54, Tryz.ntmps54
    go_wp2_with (first
      | (go_at_call 36; refine HC.out.mono ?_; rintro e w1 ⟨rfl, hb1⟩; have HB2 := Lib.hid (ring_first hb1); obtain ⟨k0, k1⟩ := ring_cells HB2.out.2; clear hb1)
      | (go_at_call 35; refine (HR.out _ (row_now HX.out HB2.out.1)).mono ?_; rintro e w2 ⟨rfl, hb2⟩; have HB3 := Lib.hid (HB2.out.1.trans (hb2.mono HB2.out.1.size)); clear hb2))
    go_ret
    exact ⟨rfl, HB3.out⟩
  · have hu := used_bound HK.out hi
    rw [show leftR sec xs = sec - usedG xs i by unfold leftR; rw [ho, if_pos (by omega), Int.toNat_natCast]]
    rw [ho] at HC
    have hin : i < n := by rw [← HX.out.1]; exact hi
    obtain ⟨b, off, rfl, hbb, hcc⟩ := seg_get HX.out hin
    have HCC := Lib.hid (hcc i hin).2.2
    clear ho hi hs hcc
    generalize usedG xs i = u at *
    go_enter Tryz.func54, Tryz.ntmps54
    go_wp2_with (first
      | (go_at_call 36; refine HC.out.mono ?_; rintro e w1 ⟨rfl, hb1⟩; have HB2 := Lib.hid (ring_first hb1); obtain ⟨k0, k1⟩ := ring_cells HB2.out.2; clear hb1)
      | (go_at_call 35; refine (HR.out _ (row_now HX.out HB2.out.1)).mono ?_; rintro e w2 ⟨rfl, hb2⟩; have HB3 := Lib.hid (HB2.out.1.trans (hb2.mono HB2.out.1.size)); have HK3 := Lib.hid (HB2.out.2.below hb2 HB2.out.2.lt); obtain ⟨q0, q1⟩ := ring_cells HK3.out; have kG : w2.cell? ⟨b, off + i * 3 + 2, none⟩ = some (.int .i64 u) := (Below.cell HB3.out (p := ⟨b, _, none⟩) hbb).trans HCC.out; clear hb2))
    go_quiet (fail)
    go_wp2
    go_ret
    exact ⟨rfl, below_drewN HB3.out _⟩
theorem OwnZ.of {w : World} {base : Nat} {A : Option Addr} {n cap : Nat} {xs : List Seg} (h1 : xs.length = n) (h : n ≤ cap ∧ (A = none → cap = 0) ∧ w.ownsRow base 128 3 (.slice A n cap) n (flatG xs)) : OwnZ w base A n cap xs := ⟨h1, h.2.2, h.2.1, h.1⟩
set_option maxRecDepth 100000 in
set_option maxHeartbeats 4000000 in
theorem ref_free {w : World} {A : Option Addr} {n cap : Nat} {xs : List Seg} (h : RowZ w (· < w.heap.size) A n xs) (hnil : A = none → cap = 0) (sec v : Int) (hn : n ≤ 40) (hpos : PosG xs n) :
    Calls Tryz.prog 73 #[ringV sec A n cap, .int .i64 v] w fun e w' => TurnT w sec (freeE sec xs v) (freeX xs v) e w' := by
  have HX := Lib.hid h
  have HV0 := Lib.hid (OW.start w sec A n cap)
  have HR := Lib.hid (ref_right (cap := cap) (row_now h HV0.out.1) sec hn hpos)
  have HNIL := Lib.hid hnil
  clear h hpos hnil
  by_cases hk : OkR sec xs
  case neg =>
    rw [decide_eq_false hk] at HR
    rw [free_bad hk]
    clear hk
    go_enter Tryz.func73, Tryz.ntmps73
    go_wp2_with (first
      | (go_at_call 35; refine HR.out.mono ?_; rintro e w1 ⟨rfl, hb1⟩; have HV1 := Lib.hid (HV0.out.next hb1); obtain ⟨q0, q1, q3, q4, f3, f4⟩ := HV1.out.cells; clear hb1)
      | (with_reducible refine halt_end ?_))
    exact Halt.ret (results_row2 (p := 4) (u := 5) rfl _ _ (w.heap.size + 1) 35 #[.int .i64 0, .slice none 0 0] _ rfl (HV1.out.res 0 none 0 0) Tryz.underlying35 rfl size_ring) rfl (TurnT.no (by decide) (HV1.out.below _ _))
  rw [decide_eq_true hk] at HR
  have HK := Lib.hid hk
  have hln := HX.out.1
  clear hk
  by_cases h1 : v < 0
  · have d1 : decide (v < 0) = true := decide_eq_true h1
    rw [free_arg HK.out (.inl h1)]
    go_enter Tryz.func73, Tryz.ntmps73
    go_wp2_with (first
      | (go_at_call 35; refine HR.out.mono ?_; rintro e w1 ⟨rfl, hb1⟩; have HV1 := Lib.hid (HV0.out.next hb1); obtain ⟨q0, q1, q3, q4, f3, f4⟩ := HV1.out.cells; clear hb1)
      | (with_reducible refine halt_end ?_))
    exact Halt.ret (results_row2 (p := 4) (u := 5) rfl _ _ (w.heap.size + 1) 35 #[.int .i64 0, .slice none 0 0] _ rfl (HV1.out.res 0 none 0 0) Tryz.underlying35 rfl size_ring) rfl (TurnT.no (by decide) (HV1.out.below _ _))
  have d1 : decide (v < 0) = false := decide_eq_false h1
  by_cases h2 : (n : Int) ≤ v
  · have d2 : decide ((n : Int) ≤ v) = true := decide_eq_true h2
    rw [free_arg HK.out (.inr (by rw [hln]; exact h2))]
    go_enter Tryz.func73, Tryz.ntmps73
    go_wp2_with (first
      | (go_at_call 35; refine HR.out.mono ?_; rintro e w1 ⟨rfl, hb1⟩; have HV1 := Lib.hid (HV0.out.next hb1); obtain ⟨q0, q1, q3, q4, f3, f4⟩ := HV1.out.cells; clear hb1)
      | (with_reducible refine halt_end ?_))
    exact Halt.ret (results_row2 (p := 4) (u := 5) rfl _ _ (w.heap.size + 1) 35 #[.int .i64 0, .slice none 0 0] _ rfl (HV1.out.res 0 none 0 0) Tryz.underlying35 rfl size_ring) rfl (TurnT.no (by decide) (HV1.out.below _ _))
  obtain ⟨i, rfl⟩ : ∃ i : Nat, v = i := ⟨v.toNat, by omega⟩
  have hin : i < n := by omega
  have d2 : decide ((n : Int) ≤ (i : Int)) = false := decide_eq_false h2
  obtain ⟨b, off, rfl, hbb, hcc⟩ := seg_get HX.out hin
  have HCC := Lib.hid (hcc i hin).1
  have HFS := Lib.hid (fun h2 => free_state HK.out (by rw [hln]; exact hin) h2)
  have HFG := Lib.hid (fun h2 => free_go HK.out (by rw [hln]; exact hin) h2)
  clear hcc hln h1 h2
  generalize stG xs i = st at *
  by_cases h3 : st = 2
  · subst h3
    have HXX := Lib.hid (show freeX xs i = xs.set i seg0 by unfold freeX; rw [Int.toNat_natCast])
    have HT := Lib.hid (fun (W : World) (hh : RowZ W (· < W.heap.size) (some ⟨b, off, none⟩) n xs) => ref_with hh HNIL.out sec (by omega) i hin seg0)
    rw [HFG.out rfl]
    go_enter Tryz.func73, Tryz.ntmps73
    go_wp2_with (first
      | (go_at_call 35; refine HR.out.mono ?_; rintro e w1 ⟨rfl, hb1⟩; have HV1 := Lib.hid (HV0.out.next hb1); obtain ⟨q0, q1, q3, q4, f3, f4⟩ := HV1.out.cells; have kG : w1.cell? ⟨b, off + i * 3, none⟩ = some (.int .i64 2) := (Below.cell HV1.out.1 (p := ⟨b, _, none⟩) hbb).trans HCC.out; clear hb1)
      | (go_at_call 106; refine (HT.out _ (row_now HX.out HV1.out.1)).mono ?_; rintro e w6 ⟨⟨A', cap', rfl, hown⟩, hb6⟩; have HV6 := Lib.hid (HV1.out.next hb6); obtain ⟨t0, t1, t3, t4, f9, f0⟩ := HV6.out.cells; have HOW := Lib.hid hown; clear hb6 hown)
      | (with_reducible refine halt_end ?_))
    have hlt := HV1.out.lt
    have hown := (((OwnZ.of (by rw [List.length_set]; exact HX.out.1) HOW.out).far (p := ⟨w.heap.size + 1, 0, none⟩) hlt (.int .i64 sec)).far (p := ⟨w.heap.size + 1, 1, none⟩) hlt (.slice A' n cap')).base HV1.out.1.size
    rw [← HXX.out] at hown
    exact Halt.ret (results_row2 (p := 4) (u := 5) rfl _ _ (w.heap.size + 1) 35 #[.int .i64 sec, .slice A' n cap'] _ rfl (HV6.out.res sec A' n cap') Tryz.underlying35 rfl size_ring) rfl ⟨.inl ⟨rfl, _, rfl, ⟨A', n, cap', rfl, hown⟩⟩, HV6.out.below _ _⟩
  · have d3 : (st != 2) = true := by simpa using h3
    rw [HFS.out h3]
    go_enter Tryz.func73, Tryz.ntmps73
    go_wp2_with (first
      | (go_at_call 35; refine HR.out.mono ?_; rintro e w1 ⟨rfl, hb1⟩; have HV1 := Lib.hid (HV0.out.next hb1); obtain ⟨q0, q1, q3, q4, f3, f4⟩ := HV1.out.cells; have kG : w1.cell? ⟨b, off + i * 3, none⟩ = some (.int .i64 st) := (Below.cell HV1.out.1 (p := ⟨b, _, none⟩) hbb).trans HCC.out; clear hb1)
      | (with_reducible refine halt_end ?_))
    exact Halt.ret (results_row2 (p := 4) (u := 5) rfl _ _ (w.heap.size + 1) 35 #[.int .i64 0, .slice none 0 0] _ rfl (HV1.out.res 0 none 0 0) Tryz.underlying35 rfl size_ring) rfl (TurnT.no (by decide) (HV1.out.below _ _))
end Go.Proofs.YtodcohkblgjfeaaGreat

namespace Go.Proofs.YtodcohkblgjfeaaGreat
set_option maxRecDepth 100000
open Go.RowKit
set_option linter.unusedVariables false
set_option linter.unusedSimpArgs false
theorem lat_range (xs : List Seg) : latR xs = -1 ∨ ∃ i : Nat, i < xs.length ∧ latR xs = (i : Int) := by
  rcases lat_or xs with ⟨e, _⟩ | ⟨i, hi, e, _⟩
  · exact .inl e
  · exact .inr ⟨i, hi, e⟩
theorem nxt_range (xs : List Seg) : nxtR xs < 0 ∨ ∃ i : Nat, i < xs.length ∧ nxtR xs = i := by
  rcases nxt_or xs with ⟨e, _⟩ | ⟨k, hk2, e, _⟩
  · exact .inl (by omega)
  · exact .inr ⟨(latR xs + 1 + (k : Nat)).toNat % xs.length, Nat.mod_lt _ (by omega), e⟩
set_option maxRecDepth 100000 in
set_option maxHeartbeats 4000000 in
theorem ref_open {w : World} {A : Option Addr} {n cap : Nat} {xs : List Seg} (h : RowZ w (· < w.heap.size) A n xs) (hnil : A = none → cap = 0) (sec g : Int) (hn : n ≤ 40) (hpos : PosG xs n) :
    Calls Tryz.prog 57 #[ringV sec A n cap, .int .u64 g] w fun e w' => OpenT w sec xs g e w' := by
  have HX := Lib.hid h
  have HV0 := Lib.hid (OW.start w sec A n cap)
  have HL := Lib.hid (ref_latest (cap := cap) (row_now h HV0.out.1) sec hn)
  have HR := Lib.hid (fun (W : World) (hh : RowZ W (· < W.heap.size) A n xs) => ref_right (cap := cap) hh sec hn hpos)
  have HO := Lib.hid (fun (W : World) (hh : RowZ W (· < W.heap.size) A n xs) => ref_opened (cap := cap) hh sec hn)
  have HN := Lib.hid (fun (W : World) (hh : RowZ W (· < W.heap.size) A n xs) => ref_next (cap := cap) hh sec hn)
  have HNIL := Lib.hid hnil
  clear h hpos hnil
  by_cases hk : OkR sec xs
  case neg =>
    rw [decide_eq_false hk] at HR
    have HE := Lib.hid (open_bad (g := g) hk)
    clear hk
    generalize latR xs = a at *
    go_enter Tryz.func57, Tryz.ntmps57
    go_wp2_with fail
    refine HL.out.mono ?_
    rintro e w1 ⟨rfl, hb1⟩
    have HV1 := Lib.hid (HV0.out.next hb1)
    obtain ⟨q0, q1, q3, q4, f3, f4⟩ := HV1.out.cells
    clear hb1
    go_wp2_with fail
    refine (HR.out _ (row_now HX.out HV1.out.1)).mono ?_
    rintro e w2 ⟨rfl, hb2⟩
    have HV2 := Lib.hid (HV1.out.next hb2)
    clear hb2 q0 q1 q3 q4 f3 f4
    obtain ⟨q0, q1, q3, q4, f3, f4⟩ := HV2.out.cells
    go_wp2_with fail
    refine (HR.out _ (row_now HX.out HV2.out.1)).mono ?_
    rintro e w3 ⟨rfl, hb3⟩
    have HV3 := Lib.hid (HV2.out.next hb3)
    clear hb3 q0 q1 q3 q4 f3 f4
    obtain ⟨q0, q1, q3, q4, f3, f4⟩ := HV3.out.cells
    go_wp2_with (with_reducible refine halt_end ?_)
    exact Halt.ret (results_row3 (p := 4) (u := 5) (v := 6) rfl _ _ (w.heap.size + 1) 35 #[.int .i64 0, .slice none 0 0] _ rfl (HV3.out.res 0 none 0 0) Tryz.underlying35 rfl size_ring) rfl (OpenT.no HE.out (by decide) (HV3.out.below _ _))
  rw [decide_eq_true hk] at HR
  have HK := Lib.hid hk
  obtain ⟨T, hT⟩ : ∃ T, topG xs = T := ⟨_, rfl⟩
  have HT := Lib.hid hT
  obtain ⟨o, ho⟩ : ∃ o, opnR xs = o := ⟨_, rfl⟩
  have HOO := Lib.hid ho
  obtain ⟨x, hx⟩ : ∃ x, nxtR xs = x := ⟨_, rfl⟩
  have HNX := Lib.hid hx
  have HNR := Lib.hid (show x < 0 ∨ ∃ i : Nat, i < n ∧ x = i by rw [← hx, ← HX.out.1]; exact nxt_range xs)
  rw [ho] at HO
  rw [hx] at HN
  have hlr := lat_range xs
  have HTT := Lib.hid (show topG xs = if latR xs < 0 then 0 else genG xs (latR xs).toNat from rfl)
  clear hk hT ho hx
  rcases hlr with hl | ⟨m, hm, hl⟩
  · have hT0 : T = 0 := by rw [← HT.out, HTT.out, hl]; rfl
    subst hT0
    rw [hl] at HL
    clear hl
    by_cases ho : 0 ≤ o
    · have d1 : decide (0 ≤ o) = true := decide_eq_true ho
      have HE := Lib.hid (open_state (g := g) HK.out (by rw [HOO.out]; exact ho))
      go_enter Tryz.func57, Tryz.ntmps57
      go_wp2_with fail
      refine HL.out.mono ?_
      rintro e w1 ⟨rfl, hb1⟩
      have HV1 := Lib.hid (HV0.out.next hb1)
      obtain ⟨q0, q1, q3, q4, f3, f4⟩ := HV1.out.cells
      clear hb1
      go_wp2_with fail
      refine (HR.out _ (row_now HX.out HV1.out.1)).mono ?_
      rintro e w2 ⟨rfl, hb2⟩
      have HV2 := Lib.hid (HV1.out.next hb2)
      clear hb2 q0 q1 q3 q4 f3 f4
      obtain ⟨q0, q1, q3, q4, f3, f4⟩ := HV2.out.cells
      go_wp2_with fail
      refine (HR.out _ (row_now HX.out HV2.out.1)).mono ?_
      rintro e w3 ⟨rfl, hb3⟩
      have HV3 := Lib.hid (HV2.out.next hb3)
      clear hb3 q0 q1 q3 q4 f3 f4
      obtain ⟨q0, q1, q3, q4, f3, f4⟩ := HV3.out.cells
      go_wp2_with fail
      refine (HO.out _ (row_now HX.out HV3.out.1)).mono ?_
      rintro e w4 ⟨rfl, hb4⟩
      have HV4 := Lib.hid (HV3.out.next hb4)
      clear hb4 q0 q1 q3 q4 f3 f4
      obtain ⟨q0, q1, q3, q4, f3, f4⟩ := HV4.out.cells
      go_wp2_with (with_reducible refine halt_end ?_)
      exact Halt.ret (results_row3 (p := 4) (u := 5) (v := 6) rfl _ _ (w.heap.size + 1) 35 #[.int .i64 0, .slice none 0 0] _ rfl (HV4.out.res 0 none 0 0) Tryz.underlying35 rfl size_ring) rfl (OpenT.no HE.out (by decide) (HV4.out.below _ _))
    have d1 : decide (0 ≤ o) = false := decide_eq_false ho
    have HNO := Lib.hid (show ¬ 0 ≤ opnR xs by rw [HOO.out]; exact ho)
    by_cases hg : g ≤ 0
    · have d2 : decide (g ≤ 0) = true := decide_eq_true hg
      have HE := Lib.hid (open_arg (g := g) HK.out HNO.out (by rw [HT.out]; exact hg))
      go_enter Tryz.func57, Tryz.ntmps57
      go_wp2_with fail
      refine HL.out.mono ?_
      rintro e w1 ⟨rfl, hb1⟩
      have HV1 := Lib.hid (HV0.out.next hb1)
      obtain ⟨q0, q1, q3, q4, f3, f4⟩ := HV1.out.cells
      clear hb1
      go_wp2_with fail
      refine (HR.out _ (row_now HX.out HV1.out.1)).mono ?_
      rintro e w2 ⟨rfl, hb2⟩
      have HV2 := Lib.hid (HV1.out.next hb2)
      clear hb2 q0 q1 q3 q4 f3 f4
      obtain ⟨q0, q1, q3, q4, f3, f4⟩ := HV2.out.cells
      go_wp2_with fail
      refine (HR.out _ (row_now HX.out HV2.out.1)).mono ?_
      rintro e w3 ⟨rfl, hb3⟩
      have HV3 := Lib.hid (HV2.out.next hb3)
      clear hb3 q0 q1 q3 q4 f3 f4
      obtain ⟨q0, q1, q3, q4, f3, f4⟩ := HV3.out.cells
      go_wp2_with fail
      refine (HO.out _ (row_now HX.out HV3.out.1)).mono ?_
      rintro e w4 ⟨rfl, hb4⟩
      have HV4 := Lib.hid (HV3.out.next hb4)
      clear hb4 q0 q1 q3 q4 f3 f4
      obtain ⟨q0, q1, q3, q4, f3, f4⟩ := HV4.out.cells
      go_wp2_with (with_reducible refine halt_end ?_)
      exact Halt.ret (results_row3 (p := 4) (u := 5) (v := 6) rfl _ _ (w.heap.size + 1) 35 #[.int .i64 0, .slice none 0 0] _ rfl (HV4.out.res 0 none 0 0) Tryz.underlying35 rfl size_ring) rfl (OpenT.no HE.out (by decide) (HV4.out.below _ _))
    have d2 : decide (g ≤ 0) = false := decide_eq_false hg
    have HNG := Lib.hid (show ¬ g ≤ topG xs by rw [HT.out]; exact hg)
    by_cases hx : x < 0
    · have d3 : decide (x < 0) = true := decide_eq_true hx
      have HE := Lib.hid (open_full (g := g) HK.out HNO.out HNG.out (by rw [HNX.out]; exact hx))
      go_enter Tryz.func57, Tryz.ntmps57
      go_wp2_with fail
      refine HL.out.mono ?_
      rintro e w1 ⟨rfl, hb1⟩
      have HV1 := Lib.hid (HV0.out.next hb1)
      obtain ⟨q0, q1, q3, q4, f3, f4⟩ := HV1.out.cells
      clear hb1
      go_wp2_with fail
      refine (HR.out _ (row_now HX.out HV1.out.1)).mono ?_
      rintro e w2 ⟨rfl, hb2⟩
      have HV2 := Lib.hid (HV1.out.next hb2)
      clear hb2 q0 q1 q3 q4 f3 f4
      obtain ⟨q0, q1, q3, q4, f3, f4⟩ := HV2.out.cells
      go_wp2_with fail
      refine (HR.out _ (row_now HX.out HV2.out.1)).mono ?_
      rintro e w3 ⟨rfl, hb3⟩
      have HV3 := Lib.hid (HV2.out.next hb3)
      clear hb3 q0 q1 q3 q4 f3 f4
      obtain ⟨q0, q1, q3, q4, f3, f4⟩ := HV3.out.cells
      go_wp2_with fail
      refine (HO.out _ (row_now HX.out HV3.out.1)).mono ?_
      rintro e w4 ⟨rfl, hb4⟩
      have HV4 := Lib.hid (HV3.out.next hb4)
      clear hb4 q0 q1 q3 q4 f3 f4
      obtain ⟨q0, q1, q3, q4, f3, f4⟩ := HV4.out.cells
      go_wp2_with fail
      refine (HN.out _ (row_now HX.out HV4.out.1)).mono ?_
      rintro e w5 ⟨rfl, hb5⟩
      have HV5 := Lib.hid (HV4.out.next hb5)
      clear hb5 q0 q1 q3 q4 f3 f4
      obtain ⟨q0, q1, q3, q4, f3, f4⟩ := HV5.out.cells
      go_wp2_with (with_reducible refine halt_end ?_)
      exact Halt.ret (results_row3 (p := 4) (u := 5) (v := 6) rfl _ _ (w.heap.size + 1) 35 #[.int .i64 0, .slice none 0 0] _ rfl (HV5.out.res 0 none 0 0) Tryz.underlying35 rfl size_ring) rfl (OpenT.no HE.out (by decide) (HV5.out.below _ _))
    obtain ⟨i, hi, rfl⟩ : ∃ i : Nat, i < n ∧ x = i := by
      rcases HNR.out with h | h
      · exact absurd h hx
      · exact h
    have d3 : decide ((i : Int) < 0) = false := decide_eq_false hx
    have HE := Lib.hid (open_go (g := g) HK.out HNO.out HNG.out (by rw [HNX.out]; exact hx))
    have HXX := Lib.hid (show openX xs g = xs.set i (1, g, 1) by unfold openX; rw [HNX.out, Int.toNat_natCast])
    go_enter Tryz.func57, Tryz.ntmps57
    go_wp2_with fail
    refine HL.out.mono ?_
    rintro e w1 ⟨rfl, hb1⟩
    have HV1 := Lib.hid (HV0.out.next hb1)
    obtain ⟨q0, q1, q3, q4, f3, f4⟩ := HV1.out.cells
    clear hb1
    go_wp2_with fail
    refine (HR.out _ (row_now HX.out HV1.out.1)).mono ?_
    rintro e w2 ⟨rfl, hb2⟩
    have HV2 := Lib.hid (HV1.out.next hb2)
    clear hb2 q0 q1 q3 q4 f3 f4
    obtain ⟨q0, q1, q3, q4, f3, f4⟩ := HV2.out.cells
    go_wp2_with fail
    refine (HR.out _ (row_now HX.out HV2.out.1)).mono ?_
    rintro e w3 ⟨rfl, hb3⟩
    have HV3 := Lib.hid (HV2.out.next hb3)
    clear hb3 q0 q1 q3 q4 f3 f4
    obtain ⟨q0, q1, q3, q4, f3, f4⟩ := HV3.out.cells
    go_wp2_with fail
    refine (HO.out _ (row_now HX.out HV3.out.1)).mono ?_
    rintro e w4 ⟨rfl, hb4⟩
    have HV4 := Lib.hid (HV3.out.next hb4)
    clear hb4 q0 q1 q3 q4 f3 f4
    obtain ⟨q0, q1, q3, q4, f3, f4⟩ := HV4.out.cells
    go_wp2_with fail
    refine (HN.out _ (row_now HX.out HV4.out.1)).mono ?_
    rintro e w5 ⟨rfl, hb5⟩
    have HV5 := Lib.hid (HV4.out.next hb5)
    clear hb5 q0 q1 q3 q4 f3 f4
    obtain ⟨q0, q1, q3, q4, f3, f4⟩ := HV5.out.cells
    go_wp2_with fail
    refine (HN.out _ (row_now HX.out HV5.out.1)).mono ?_
    rintro e w6 ⟨rfl, hb6⟩
    have HV6 := Lib.hid (HV5.out.next hb6)
    clear hb6 q0 q1 q3 q4 f3 f4
    obtain ⟨q0, q1, q3, q4, f3, f4⟩ := HV6.out.cells
    go_wp2_with fail
    refine (ref_with (row_now HX.out HV6.out.1) HNIL.out sec (by omega) i hi (1, g, 1)).mono ?_
    rintro e w7 ⟨⟨A', cap', rfl, hown7⟩, hb7⟩
    have HV7 := Lib.hid (HV6.out.next hb7)
    have HO7 := Lib.hid (OwnZ.of (by rw [List.length_set]; exact HX.out.1) hown7)
    clear hb7 hown7 q0 q1 q3 q4 f3 f4
    obtain ⟨q0, q1, q3, q4, f3, f4⟩ := HV7.out.cells
    go_wp2_with (with_reducible refine halt_end ?_)
    have hlt := HV6.out.lt
    have hown := ((HO7.out.far (p := ⟨w.heap.size + 1, 0, none⟩) hlt (.int .i64 sec)).far (p := ⟨w.heap.size + 1, 1, none⟩) hlt (.slice A' n cap')).base HV6.out.1.size
    rw [← HXX.out] at hown
    refine Halt.ret (results_row3 (p := 4) (u := 5) (v := 6) rfl _ _ (w.heap.size + 1) 35 #[.int .i64 sec, .slice A' n cap'] _ rfl (HV7.out.res sec A' n cap') Tryz.underlying35 rfl size_ring) rfl ⟨.inl ⟨HE.out, _, ?_, ⟨A', n, cap', rfl, hown⟩⟩, HV7.out.below _ _⟩
    rw [HNX.out]
    rfl
  · have hmn : m < n := by rw [← HX.out.1]; exact hm
    obtain ⟨b, off, hA, hbb, hcc⟩ := seg_get HX.out hmn
    have hTm : genG xs m = T := by rw [← HT.out, HTT.out, hl, if_neg (by omega), Int.toNat_natCast]
    have HCC := Lib.hid (show w.cell? ⟨b, off + m * 3 + 1, none⟩ = some (.int .u64 T) by rw [← hTm]; exact (hcc m hmn).2.1)
    subst hA
    rw [hl] at HL
    clear hl hm hcc hTm
    by_cases ho : 0 ≤ o
    · have d1 : decide (0 ≤ o) = true := decide_eq_true ho
      have HE := Lib.hid (open_state (g := g) HK.out (by rw [HOO.out]; exact ho))
      go_enter Tryz.func57, Tryz.ntmps57
      go_wp2_with fail
      refine HL.out.mono ?_
      rintro e w1 ⟨rfl, hb1⟩
      have HV1 := Lib.hid (HV0.out.next hb1)
      obtain ⟨q0, q1, q3, q4, f3, f4⟩ := HV1.out.cells
      clear hb1
      go_wp2_with fail
      refine (HR.out _ (row_now HX.out HV1.out.1)).mono ?_
      rintro e w2 ⟨rfl, hb2⟩
      have HV2 := Lib.hid (HV1.out.next hb2)
      have kG : w2.cell? ⟨b, off + m * 3 + 1, none⟩ = some (.int .u64 T) := (Below.cell HV2.out.1 (p := ⟨b, _, none⟩) hbb).trans HCC.out
      clear hb2 q0 q1 q3 q4 f3 f4
      obtain ⟨q0, q1, q3, q4, f3, f4⟩ := HV2.out.cells
      go_wp2_with fail
      refine (HR.out _ (row_now HX.out HV2.out.1)).mono ?_
      rintro e w3 ⟨rfl, hb3⟩
      have HV3 := Lib.hid (HV2.out.next hb3)
      clear hb3 q0 q1 q3 q4 f3 f4
      obtain ⟨q0, q1, q3, q4, f3, f4⟩ := HV3.out.cells
      go_wp2_with fail
      refine (HO.out _ (row_now HX.out HV3.out.1)).mono ?_
      rintro e w4 ⟨rfl, hb4⟩
      have HV4 := Lib.hid (HV3.out.next hb4)
      clear hb4 q0 q1 q3 q4 f3 f4
      obtain ⟨q0, q1, q3, q4, f3, f4⟩ := HV4.out.cells
      go_wp2_with (with_reducible refine halt_end ?_)
      exact Halt.ret (results_row3 (p := 4) (u := 5) (v := 6) rfl _ _ (w.heap.size + 1) 35 #[.int .i64 0, .slice none 0 0] _ rfl (HV4.out.res 0 none 0 0) Tryz.underlying35 rfl size_ring) rfl (OpenT.no HE.out (by decide) (HV4.out.below _ _))
    have d1 : decide (0 ≤ o) = false := decide_eq_false ho
    have HNO := Lib.hid (show ¬ 0 ≤ opnR xs by rw [HOO.out]; exact ho)
    by_cases hg : g ≤ T
    · have d2 : decide (g ≤ T) = true := decide_eq_true hg
      have HE := Lib.hid (open_arg (g := g) HK.out HNO.out (by rw [HT.out]; exact hg))
      go_enter Tryz.func57, Tryz.ntmps57
      go_wp2_with fail
      refine HL.out.mono ?_
      rintro e w1 ⟨rfl, hb1⟩
      have HV1 := Lib.hid (HV0.out.next hb1)
      obtain ⟨q0, q1, q3, q4, f3, f4⟩ := HV1.out.cells
      clear hb1
      go_wp2_with fail
      refine (HR.out _ (row_now HX.out HV1.out.1)).mono ?_
      rintro e w2 ⟨rfl, hb2⟩
      have HV2 := Lib.hid (HV1.out.next hb2)
      have kG : w2.cell? ⟨b, off + m * 3 + 1, none⟩ = some (.int .u64 T) := (Below.cell HV2.out.1 (p := ⟨b, _, none⟩) hbb).trans HCC.out
      clear hb2 q0 q1 q3 q4 f3 f4
      obtain ⟨q0, q1, q3, q4, f3, f4⟩ := HV2.out.cells
      go_wp2_with fail
      refine (HR.out _ (row_now HX.out HV2.out.1)).mono ?_
      rintro e w3 ⟨rfl, hb3⟩
      have HV3 := Lib.hid (HV2.out.next hb3)
      clear hb3 q0 q1 q3 q4 f3 f4
      obtain ⟨q0, q1, q3, q4, f3, f4⟩ := HV3.out.cells
      go_wp2_with fail
      refine (HO.out _ (row_now HX.out HV3.out.1)).mono ?_
      rintro e w4 ⟨rfl, hb4⟩
      have HV4 := Lib.hid (HV3.out.next hb4)
      clear hb4 q0 q1 q3 q4 f3 f4
      obtain ⟨q0, q1, q3, q4, f3, f4⟩ := HV4.out.cells
      go_wp2_with (with_reducible refine halt_end ?_)
      exact Halt.ret (results_row3 (p := 4) (u := 5) (v := 6) rfl _ _ (w.heap.size + 1) 35 #[.int .i64 0, .slice none 0 0] _ rfl (HV4.out.res 0 none 0 0) Tryz.underlying35 rfl size_ring) rfl (OpenT.no HE.out (by decide) (HV4.out.below _ _))
    have d2 : decide (g ≤ T) = false := decide_eq_false hg
    have HNG := Lib.hid (show ¬ g ≤ topG xs by rw [HT.out]; exact hg)
    by_cases hx : x < 0
    · have d3 : decide (x < 0) = true := decide_eq_true hx
      have HE := Lib.hid (open_full (g := g) HK.out HNO.out HNG.out (by rw [HNX.out]; exact hx))
      go_enter Tryz.func57, Tryz.ntmps57
      go_wp2_with fail
      refine HL.out.mono ?_
      rintro e w1 ⟨rfl, hb1⟩
      have HV1 := Lib.hid (HV0.out.next hb1)
      obtain ⟨q0, q1, q3, q4, f3, f4⟩ := HV1.out.cells
      clear hb1
      go_wp2_with fail
      refine (HR.out _ (row_now HX.out HV1.out.1)).mono ?_
      rintro e w2 ⟨rfl, hb2⟩
      have HV2 := Lib.hid (HV1.out.next hb2)
      have kG : w2.cell? ⟨b, off + m * 3 + 1, none⟩ = some (.int .u64 T) := (Below.cell HV2.out.1 (p := ⟨b, _, none⟩) hbb).trans HCC.out
      clear hb2 q0 q1 q3 q4 f3 f4
      obtain ⟨q0, q1, q3, q4, f3, f4⟩ := HV2.out.cells
      go_wp2_with fail
      refine (HR.out _ (row_now HX.out HV2.out.1)).mono ?_
      rintro e w3 ⟨rfl, hb3⟩
      have HV3 := Lib.hid (HV2.out.next hb3)
      clear hb3 q0 q1 q3 q4 f3 f4
      obtain ⟨q0, q1, q3, q4, f3, f4⟩ := HV3.out.cells
      go_wp2_with fail
      refine (HO.out _ (row_now HX.out HV3.out.1)).mono ?_
      rintro e w4 ⟨rfl, hb4⟩
      have HV4 := Lib.hid (HV3.out.next hb4)
      clear hb4 q0 q1 q3 q4 f3 f4
      obtain ⟨q0, q1, q3, q4, f3, f4⟩ := HV4.out.cells
      go_wp2_with fail
      refine (HN.out _ (row_now HX.out HV4.out.1)).mono ?_
      rintro e w5 ⟨rfl, hb5⟩
      have HV5 := Lib.hid (HV4.out.next hb5)
      clear hb5 q0 q1 q3 q4 f3 f4
      obtain ⟨q0, q1, q3, q4, f3, f4⟩ := HV5.out.cells
      go_wp2_with (with_reducible refine halt_end ?_)
      exact Halt.ret (results_row3 (p := 4) (u := 5) (v := 6) rfl _ _ (w.heap.size + 1) 35 #[.int .i64 0, .slice none 0 0] _ rfl (HV5.out.res 0 none 0 0) Tryz.underlying35 rfl size_ring) rfl (OpenT.no HE.out (by decide) (HV5.out.below _ _))
    obtain ⟨i, hi, rfl⟩ : ∃ i : Nat, i < n ∧ x = i := by
      rcases HNR.out with h | h
      · exact absurd h hx
      · exact h
    have d3 : decide ((i : Int) < 0) = false := decide_eq_false hx
    have HE := Lib.hid (open_go (g := g) HK.out HNO.out HNG.out (by rw [HNX.out]; exact hx))
    have HXX := Lib.hid (show openX xs g = xs.set i (1, g, 1) by unfold openX; rw [HNX.out, Int.toNat_natCast])
    go_enter Tryz.func57, Tryz.ntmps57
    go_wp2_with fail
    refine HL.out.mono ?_
    rintro e w1 ⟨rfl, hb1⟩
    have HV1 := Lib.hid (HV0.out.next hb1)
    obtain ⟨q0, q1, q3, q4, f3, f4⟩ := HV1.out.cells
    clear hb1
    go_wp2_with fail
    refine (HR.out _ (row_now HX.out HV1.out.1)).mono ?_
    rintro e w2 ⟨rfl, hb2⟩
    have HV2 := Lib.hid (HV1.out.next hb2)
    have kG : w2.cell? ⟨b, off + m * 3 + 1, none⟩ = some (.int .u64 T) := (Below.cell HV2.out.1 (p := ⟨b, _, none⟩) hbb).trans HCC.out
    clear hb2 q0 q1 q3 q4 f3 f4
    obtain ⟨q0, q1, q3, q4, f3, f4⟩ := HV2.out.cells
    go_wp2_with fail
    refine (HR.out _ (row_now HX.out HV2.out.1)).mono ?_
    rintro e w3 ⟨rfl, hb3⟩
    have HV3 := Lib.hid (HV2.out.next hb3)
    clear hb3 q0 q1 q3 q4 f3 f4
    obtain ⟨q0, q1, q3, q4, f3, f4⟩ := HV3.out.cells
    go_wp2_with fail
    refine (HO.out _ (row_now HX.out HV3.out.1)).mono ?_
    rintro e w4 ⟨rfl, hb4⟩
    have HV4 := Lib.hid (HV3.out.next hb4)
    clear hb4 q0 q1 q3 q4 f3 f4
    obtain ⟨q0, q1, q3, q4, f3, f4⟩ := HV4.out.cells
    go_wp2_with fail
    refine (HN.out _ (row_now HX.out HV4.out.1)).mono ?_
    rintro e w5 ⟨rfl, hb5⟩
    have HV5 := Lib.hid (HV4.out.next hb5)
    clear hb5 q0 q1 q3 q4 f3 f4
    obtain ⟨q0, q1, q3, q4, f3, f4⟩ := HV5.out.cells
    go_wp2_with fail
    refine (HN.out _ (row_now HX.out HV5.out.1)).mono ?_
    rintro e w6 ⟨rfl, hb6⟩
    have HV6 := Lib.hid (HV5.out.next hb6)
    clear hb6 q0 q1 q3 q4 f3 f4
    obtain ⟨q0, q1, q3, q4, f3, f4⟩ := HV6.out.cells
    go_wp2_with fail
    refine (ref_with (row_now HX.out HV6.out.1) HNIL.out sec (by omega) i hi (1, g, 1)).mono ?_
    rintro e w7 ⟨⟨A', cap', rfl, hown7⟩, hb7⟩
    have HV7 := Lib.hid (HV6.out.next hb7)
    have HO7 := Lib.hid (OwnZ.of (by rw [List.length_set]; exact HX.out.1) hown7)
    clear hb7 hown7 q0 q1 q3 q4 f3 f4
    obtain ⟨q0, q1, q3, q4, f3, f4⟩ := HV7.out.cells
    go_wp2_with (with_reducible refine halt_end ?_)
    have hlt := HV6.out.lt
    have hown := ((HO7.out.far (p := ⟨w.heap.size + 1, 0, none⟩) hlt (.int .i64 sec)).far (p := ⟨w.heap.size + 1, 1, none⟩) hlt (.slice A' n cap')).base HV6.out.1.size
    rw [← HXX.out] at hown
    refine Halt.ret (results_row3 (p := 4) (u := 5) (v := 6) rfl _ _ (w.heap.size + 1) 35 #[.int .i64 sec, .slice A' n cap'] _ rfl (HV7.out.res sec A' n cap') Tryz.underlying35 rfl size_ring) rfl ⟨.inl ⟨HE.out, _, ?_, ⟨A', n, cap', rfl, hown⟩⟩, HV7.out.below _ _⟩
    rw [HNX.out]
    rfl
end Go.Proofs.YtodcohkblgjfeaaGreat

namespace Go.Proofs.YtodcohkblgjfeaaGreat
set_option maxRecDepth 100000
open Go.RowKit
set_option linter.unusedVariables false
set_option linter.unusedSimpArgs false
def okB (sec : Int) (xs : List Seg) : Bool :=
  decide (SizedR xs.length sec) && xs.all (fun s => decide (MayG s sec)) && (List.range xs.length).all fun i => (List.range xs.length).all fun j =>
    i == j || (xs.getD i seg0).1 == 0 || (xs.getD j seg0).1 == 0 || ((xs.getD i seg0).2.1 != (xs.getD j seg0).2.1 && ((xs.getD i seg0).1 != 1 || decide ((xs.getD j seg0).2.1 < (xs.getD i seg0).2.1)))
theorem okB_ok {sec : Int} {xs : List Seg} (h : okB sec xs = true) : OkR sec xs := by
  unfold okB at h
  simp only [Bool.and_eq_true, List.all_eq_true, decide_eq_true_eq] at h
  obtain ⟨⟨h1, h2⟩, h3⟩ := h
  refine ⟨h1, h2, fun i hi j hj hne hi0 hj0 => ?_⟩
  have := h3 i (List.mem_range.2 hi) j (List.mem_range.2 hj)
  simp only [Bool.or_eq_true, Bool.and_eq_true, beq_iff_eq, bne_iff_ne, decide_eq_true_eq] at this
  rcases this with ((h | h) | h) | ⟨h, k⟩
  · exact absurd h hne
  · exact absurd h hi0
  · exact absurd h hj0
  · exact ⟨h, fun ho => by rcases k with k | k; exact absurd ho k; exact k⟩
theorem getD_set (xs : List Seg) (i j : Nat) (s : Seg) (hi : i < xs.length) : (xs.set i s).getD j seg0 = if i = j then s else xs.getD j seg0 := by
  by_cases h : i = j
  · subst h
    simp [List.getD, hi]
  · simp [List.getD, List.getElem?_set, h]
theorem ok_set {sec : Int} {xs : List Seg} (h : OkR sec xs) {i : Nat} (hi : i < xs.length) {s : Seg} (hm : MayG s sec)
    (ha : s.1 ≠ 0 → ∀ j, j < xs.length → j ≠ i → stG xs j ≠ 0 → genG xs j ≠ s.2.1 ∧ (s.1 = 1 → genG xs j < s.2.1) ∧ (stG xs j = 1 → s.2.1 < genG xs j)) : OkR sec (xs.set i s) := by
  refine ⟨by rw [List.length_set]; exact h.1, ?_, ?_⟩
  · intro x hx
    rcases List.mem_or_eq_of_mem_set hx with h1 | rfl
    · exact h.2.1 x h1
    · exact hm
  · intro a hla b hlb hne ha0 hb0
    rw [List.length_set] at hla hlb
    rw [getD_set xs i a s hi] at ha0 ⊢
    rw [getD_set xs i b s hi] at hb0 ⊢
    by_cases h1 : i = a
    · rw [if_pos h1] at ha0 ⊢
      have h2 : ¬ i = b := fun h => hne (by omega)
      rw [if_neg h2] at hb0 ⊢
      obtain ⟨k1, k2, k3⟩ := ha ha0 b hlb (fun h => h2 h.symm) hb0
      exact ⟨fun e => k1 e.symm, k2⟩
    · rw [if_neg h1] at ha0 ⊢
      by_cases h2 : i = b
      · rw [if_pos h2] at hb0 ⊢
        obtain ⟨k1, k2, k3⟩ := ha hb0 a hla (fun h => h1 h.symm) ha0
        exact ⟨k1, k3⟩
      · rw [if_neg h2] at hb0 ⊢
        exact h.2.2 a hla b hlb hne ha0 hb0
theorem ok_new {n : Nat} {sec : Int} (h : SizedR n sec) : OkR sec (List.replicate n seg0) := by
  refine ⟨by rw [List.length_replicate]; exact h, fun s hs => ?_, fun i hi j hj _ h0 => ?_⟩
  · rw [List.eq_of_mem_replicate hs]
    exact ⟨rfl, rfl⟩
  · exfalso
    refine h0 ?_
    simp [List.getD, List.getElem?_replicate]
    split <;> rfl
theorem top_nonneg {sec : Int} {xs : List Seg} (h : OkR sec xs) : 0 ≤ topG xs := by
  unfold topG
  rcases lat_or xs with ⟨e, _⟩ | ⟨i, hi, e, hs, _⟩
  · rw [if_pos (by omega)]; omega
  · rw [if_neg (by omega), e, Int.toNat_natCast]
    have := (may_live (may_at h.2.1 hi) hs).2.1
    simp only [genG]
    omega
theorem top_max {xs : List Seg} {j : Nat} (hj : j < xs.length) (hs : stG xs j ≠ 0) : genG xs j ≤ topG xs := by
  unfold topG
  rcases lat_or xs with ⟨e, hz⟩ | ⟨i, hi, e, _, hm⟩
  · exact absurd (hz j hj) hs
  · rw [if_neg (by omega), e, Int.toNat_natCast]
    exact hm j hj hs
theorem open_zero {sec : Int} {xs : List Seg} {g : Int} (h : openE sec xs g = 0) : OkR sec xs ∧ ¬ 0 ≤ opnR xs ∧ topG xs < g ∧ ∃ i : Nat, i < xs.length ∧ nxtR xs = i ∧ stG xs i = 0 := by
  unfold openE at h
  by_cases hk : OkR sec xs
  · rw [if_neg (fun k => k hk)] at h
    by_cases h1 : 0 ≤ opnR xs
    · rw [if_pos h1] at h; omega
    · rw [if_neg h1] at h
      by_cases h2 : g ≤ topG xs
      · rw [if_pos h2] at h; omega
      · rw [if_neg h2] at h
        by_cases h3 : nxtR xs < 0
        · rw [if_pos h3] at h; omega
        · refine ⟨hk, h1, by omega, ?_⟩
          rcases nxt_or xs with ⟨e, _⟩ | ⟨k, hk', e, hs, _⟩
          · omega
          · exact ⟨_, Nat.mod_lt _ (by omega), e, hs⟩
  · rw [if_pos hk] at h; omega
theorem no_open {sec : Int} {xs : List Seg} (h : OkR sec xs) (h1 : ¬ 0 ≤ opnR xs) {j : Nat} (hj : j < xs.length) : stG xs j ≠ 1 := by
  rcases opn_or h with ⟨_, hz⟩ | ⟨i, _, e, _⟩
  · exact hz j hj
  · omega
theorem ok_open {sec : Int} {xs : List Seg} {g : Int} (h : openE sec xs g = 0) : OkR sec (openX xs g) := by
  obtain ⟨hk, h1, h2, i, hi, e, hs⟩ := open_zero h
  unfold openX
  rw [e, Int.toNat_natCast]
  have h0 := top_nonneg hk
  have hsz := hk.1
  unfold SizedR at hsz
  refine ok_set hk hi ?_ ?_
  · unfold MayG
    rw [if_neg (show ¬ (1 : Int) = 0 by decide)]
    exact ⟨.inl rfl, by show (0 : Int) < g; omega, show (1 : Int) ≤ 1 by decide, by show (1 : Int) ≤ sec; omega⟩
  · intro _ j hj hne hj0
    have := top_max hj hj0
    refine ⟨by show genG xs j ≠ g; omega, fun _ => by show genG xs j < g; omega, fun ho => absurd ho (no_open hk h1 hj)⟩
theorem ok_use {sec : Int} {xs : List Seg} {n : Int} (h : useE sec xs n = 0) : OkR sec (useX xs n) := by
  have hs : sealE sec xs = 0 := by
    by_cases h1 : sealE sec xs = 0
    · exact h1
    · rw [use_seal h1] at h; exact absurd h h1
  obtain ⟨hk, h1⟩ := seal_yes hs
  obtain ⟨i, hi, e, hst⟩ := opn_nat hk h1
  have hn0 : ¬ n < 0 := fun k => by rw [use_arg hs k] at h; omega
  have hle : ¬ leftR sec xs < n := fun k => by rw [use_full hs hn0 k] at h; omega
  have hl : leftR sec xs = sec - usedG xs i := by unfold leftR; rw [e, if_pos (by omega), Int.toNat_natCast]
  have hm := may_live (may_at hk.2.1 hi) (by rw [show (xs.getD i seg0).1 = 1 from hst]; decide)
  unfold useX
  rw [e, Int.toNat_natCast]
  refine ok_set hk hi ?_ ?_
  · unfold MayG
    rw [if_neg (by show ¬ stG xs i = 0; rw [hst]; decide)]
    refine ⟨.inl hst, hm.2.1, ?_, ?_⟩
    · show (1 : Int) ≤ usedG xs i + n
      simp only [usedG]
      omega
    · show usedG xs i + n ≤ sec
      omega
  · intro _ j hj hne hj0
    have h2 := hk.2.2 i hi j hj (fun h => hne h.symm) (by rw [show (xs.getD i seg0).1 = 1 from hst]; decide) hj0
    have h3 := h2.2 hst
    refine ⟨by show genG xs j ≠ genG xs i; simp only [genG]; omega, fun _ => h3, fun ho => ?_⟩
    have h4 := (hk.2.2 j hj i hi hne hj0 (by rw [show (xs.getD i seg0).1 = 1 from hst]; decide)).2 ho
    exact h4
theorem ok_seal {sec : Int} {xs : List Seg} (h : sealE sec xs = 0) : OkR sec (sealX xs) := by
  obtain ⟨hk, h1⟩ := seal_yes h
  obtain ⟨i, hi, e, hst⟩ := opn_nat hk h1
  have hm := may_live (may_at hk.2.1 hi) (by rw [show (xs.getD i seg0).1 = 1 from hst]; decide)
  unfold sealX
  rw [e, Int.toNat_natCast]
  refine ok_set hk hi ?_ ?_
  · unfold MayG
    rw [if_neg (show ¬ (2 : Int) = 0 by decide)]
    exact ⟨.inr rfl, hm.2.1, hm.2.2⟩
  · intro _ j hj hne hj0
    have h2 := hk.2.2 i hi j hj (fun h => hne h.symm) (by rw [show (xs.getD i seg0).1 = 1 from hst]; decide) hj0
    have h3 := h2.2 hst
    refine ⟨by show genG xs j ≠ genG xs i; simp only [genG]; omega, fun ho => absurd ho (show ¬ (2 : Int) = 1 by decide), fun ho => ?_⟩
    exact (hk.2.2 j hj i hi hne hj0 (by rw [show (xs.getD i seg0).1 = 1 from hst]; decide)).2 ho
theorem free_zero {sec : Int} {xs : List Seg} {v : Int} (h : freeE sec xs v = 0) : OkR sec xs ∧ ∃ i : Nat, i < xs.length ∧ v = i ∧ stG xs i = 2 := by
  unfold freeE at h
  by_cases hk : OkR sec xs
  · rw [if_neg (fun k => k hk)] at h
    by_cases h1 : v < 0 ∨ (xs.length : Int) ≤ v
    · rw [if_pos h1] at h; omega
    · rw [if_neg h1] at h
      by_cases h2 : stG xs v.toNat = 2
      · exact ⟨hk, v.toNat, by omega, by omega, h2⟩
      · rw [if_pos h2] at h; omega
  · rw [if_pos hk] at h; omega
theorem ok_free {sec : Int} {xs : List Seg} {v : Int} (h : freeE sec xs v = 0) : OkR sec (freeX xs v) := by
  obtain ⟨hk, i, hi, rfl, _⟩ := free_zero h
  unfold freeX
  rw [Int.toNat_natCast]
  exact ok_set hk hi ⟨rfl, rfl⟩ (fun h => absurd rfl h)
end Go.Proofs.YtodcohkblgjfeaaGreat

namespace Go.Proofs.YtodcohkblgjfeaaGreat
set_option maxRecDepth 100000
open Go.RowKit
set_option linter.unusedVariables false
set_option linter.unusedSimpArgs false
theorem SeqM.mono {w : World} {n₀ n₁ B : Nat} {L : List Num} (h : SeqM w n₁ B L) (hn : n₀ ≤ n₁) : SeqM w n₀ B L := by
  obtain ⟨h1, h2, A, cap, h3, h4⟩ := h
  refine ⟨by omega, h2, A, cap, h3, h4.1, fun hp => ?_⟩
  obtain ⟨b, off, e, hb, hc⟩ := h4.2 hp
  exact ⟨b, off, e, ⟨Nat.le_trans hn hb.1, hb.2⟩, hc⟩
def OrdT (sec : Int) (xs : List Seg) (L : List Num) : Prop := Rises L ∧ (OkR sec xs → L.Perm (live xs)) ∧ (¬ OkR sec xs → L = [])
end Go.Proofs.YtodcohkblgjfeaaGreat

namespace Go.Proofs.YtodcohkblgjfeaaGreat
set_option maxRecDepth 100000
open Go.RowKit Go.Shelf
attribute [local go_sem] Oper.semAt_some
set_option linter.unusedVariables false
set_option linter.unusedSimpArgs false
noncomputable def oldE (sec : Int) (xs : List Seg) : Int := if ¬ OkR sec xs then 180 else if oldR xs < 0 then 4 else 0
noncomputable def oldV (sec : Int) (xs : List Seg) : Int := if oldE sec xs = 0 then oldR xs else 0
def OldM (w : World) (sec : Int) (A : Option Addr) (n cap : Nat) (W : World) : Prop :=
  Below w.heap.size w W ∧ Blk W w.heap.size 35 #[.int .i64 sec, .slice A n cap] ∧ Blk W (w.heap.size + 1) 3 #[.int .i64 0] ∧ Blk W (w.heap.size + 1 + 1) 49 #[.int .i64 0]
theorem OldM.start (w : World) (sec : Int) (A : Option Addr) (n cap : Nat) : OldM w sec A n cap (((w.alloc (.cells #[.int .i64 sec, .slice A n cap] 35)).alloc (.cells #[.int .i64 0] 3)).alloc (.cells #[.int .i64 0] 49)) :=
  ⟨(((Below.refl _ w).alloc (Nat.le_refl _) _).alloc (by simp) _).alloc (by simp; omega) _, ((Blk.new w _ _).alloc _).alloc _, (blk_new2 w _ _ _).alloc _, blk_new3 w _ _ _ _⟩
theorem OldM.next {w : World} {sec : Int} {A : Option Addr} {n cap : Nat} {W W' : World} (h : OldM w sec A n cap W) (hb : Below W.heap.size W W') : OldM w sec A n cap W' :=
  ⟨h.1.trans (hb.mono h.1.size), h.2.1.below hb h.2.1.lt, h.2.2.1.below hb h.2.2.1.lt, h.2.2.2.below hb h.2.2.2.lt⟩
set_option maxRecDepth 100000 in
set_option maxHeartbeats 2000000 in
theorem oldest_bad {w : World} {A : Option Addr} {n cap : Nat} {xs : List Seg} (h : RowZ w (· < w.heap.size) A n xs) (sec : Int) (hk : ¬ OkR sec xs) :
    Calls Tryz.prog 69 #[.agg #[.int .i64 sec, .slice A n cap]] w fun e w' => e = .returned (.tuple #[.int .i64 0, .int .i64 180]) ∧ Below w.heap.size w w' := by
  have HV0 := Lib.hid (OldM.start w sec A n cap)
  have HC := Lib.hid (check_any (cap := cap) (row_now h HV0.out.1) sec)
  rw [if_neg hk] at HC
  clear h hk
  refine (callsIn_wide (n := 5)).1 ?_
  refine callsIn_of_wp_marks Tryz.func69 rfl trivial ?_ rfl
  simp only [Tryz.ntmps69, List.size_toArray, List.length_cons, List.length_nil, Nat.reduceAdd, Nat.reduceSub, Array.replicate_succ, Array.replicate_zero, List.push_toArray, List.append_toArray, List.nil_append, List.cons_append]
  gi_wp2_with (refine ⟨trivial, ?_⟩; gi_at_call 81; refine (callsIn_wide.2 HC.out).mono ?_; rintro e w1 ⟨rfl, hb1⟩; have HV1 := Lib.hid (HV0.out.next hb1); have k1 : w1.cell? ⟨w.heap.size + 1, 0, none⟩ = some (.int .i64 0) := HV1.out.2.2.1.cell 0; have k2 : w1.cell? ⟨w.heap.size + 1 + 1, 0, none⟩ = some (.int .i64 0) := HV1.out.2.2.2.cell 0; obtain ⟨f1, f2⟩ := And.intro (HV1.out.2.2.1.frozen 0) (HV1.out.2.2.2.frozen 0); clear hb1)
  have hne : w.heap.size + 1 ≠ w.heap.size + 1 + 1 := by omega
  have hc1 : ((w1.setCell ⟨w.heap.size + 1, 0, none⟩ (.int .i64 0)).setCell ⟨w.heap.size + 1 + 1, 0, none⟩ (.int .i64 180)).cell? ⟨w.heap.size + 1, 0, none⟩ = some (.int .i64 0) := ((HV1.out.2.2.1.set_ 0 (.int .i64 0)).far (p := ⟨w.heap.size + 1 + 1, 0, none⟩) hne (.int .i64 180)).cell 0
  have hc2 : ((w1.setCell ⟨w.heap.size + 1, 0, none⟩ (.int .i64 0)).setCell ⟨w.heap.size + 1 + 1, 0, none⟩ (.int .i64 180)).cell? ⟨w.heap.size + 1 + 1, 0, none⟩ = some (.int .i64 180) := ((HV1.out.2.2.2.far (p := ⟨w.heap.size + 1, 0, none⟩) hne.symm (.int .i64 0)).set_ 0 (.int .i64 180)).cell 0
  refine ⟨.tuple #[.int .i64 0, .int .i64 180], ?_, rfl, (HV1.out.1.setCell (p := ⟨w.heap.size + 1, 0, none⟩) (by simp) _).setCell (p := ⟨w.heap.size + 1 + 1, 0, none⟩) (by simp; omega) _⟩
  simp [results, Tryz.f69, go_sem, hc1, hc2]
def FirstS (pre : List Num) : Prop := ∃ p x, pre = p ++ [x] ∧ (∀ y ∈ p, y.2.1 ≠ 2) ∧ x.2.1 = 2
theorem none_snoc {pre : List Num} {x : Num} (h : ∀ y ∈ pre, y.2.1 ≠ 2) (hx : x.2.1 ≠ 2) : ∀ y ∈ pre ++ [x], y.2.1 ≠ 2 := by
  intro y hy
  rcases List.mem_append.1 hy with h1 | h1
  · exact h y h1
  · rw [List.mem_singleton.1 h1]; exact hx
set_option maxRecDepth 100000 in
set_option maxHeartbeats 2000000 in
theorem oldest_ok {w : World} {A : Option Addr} {n cap : Nat} {xs : List Seg} (h : RowZ w (· < w.heap.size) A n xs) (sec : Int) (hk : OkR sec xs) :
    Calls Tryz.prog 69 #[.agg #[.int .i64 sec, .slice A n cap]] w fun e w' => e = .returned (.tuple #[.int .i64 (oldV sec xs), .int .i64 (oldE sec xs)]) ∧ Below w.heap.size w w' := by
  have HX := Lib.hid h
  have HV0 := Lib.hid (OldM.start w sec A n cap)
  have HC := Lib.hid (check_any (cap := cap) (row_now h HV0.out.1) sec)
  rw [if_pos hk] at HC
  have hn16 := (ok_n hk h.1).2
  have HN := Lib.hid hn16
  have HON := Lib.hid (fun (L : List Num) (hp : L.Perm (live xs)) (hr : Rises L) (hpre : ∀ y ∈ L, y.2.1 ≠ 2) => show oldV sec xs = 0 ∧ oldE sec xs = 4 by
    have e := ord_old_none hk hp hr hpre
    have e1 : oldE sec xs = 4 := by unfold oldE; rw [if_neg (fun k => k hk), e, if_pos (by omega)]
    exact ⟨by unfold oldV; rw [e1]; rfl, e1⟩)
  have HOY := Lib.hid (fun (L pre r : List Num) (hp : L.Perm (live xs)) (hr : Rises L) (hL : L = pre ++ r) (hpre : FirstS pre) => show oldV sec xs = atOf 0 pre ∧ oldE sec xs = 0 by
    obtain ⟨p, x, rfl, h1, h2⟩ := hpre
    have e := ord_old hk hp hr (pre := p) (x := x) (r := r) (by rw [hL]; simp) h1 h2
    have e1 : oldE sec xs = 0 := by unfold oldE; rw [if_neg (fun k => k hk), e, if_neg (by omega)]
    exact ⟨by unfold oldV; rw [e1, atOf_snoc]; exact e, e1⟩)
  generalize oldV sec xs = ov at *
  generalize oldE sec xs = oe at *
  clear h hk hn16
  refine (callsIn_wide (n := 5)).1 ?_
  refine callsIn_of_wp_marks Tryz.func69 rfl trivial ?_ rfl
  simp only [Tryz.ntmps69, List.size_toArray, List.length_cons, List.length_nil, Nat.reduceAdd, Nat.reduceSub, Array.replicate_succ, Array.replicate_zero, List.push_toArray, List.append_toArray, List.nil_append, List.cons_append]
  gi_wp2_with (first
    | (refine ⟨trivial, ?_⟩; gi_at_call 81; refine (callsIn_wide.2 HC.out).mono ?_; rintro e w1 ⟨rfl, hb1⟩; have HV1 := Lib.hid (HV0.out.next hb1); obtain ⟨q0, q1⟩ := ring_cells HV1.out.2.1; have HRI := Lib.hid (rising_any (w := w1) (cap := cap) (row_now HX.out HV1.out.1) HN.out); clear hb1)
    | (refine ⟨trivial, ?_⟩; gi_at_call 119; refine (callsIn_wide.2 HRI.out).mono ?_; rintro e w5 ⟨B, L, rfl, hsq, hperm, hri, hb5⟩))
  have hL16 : L.length ≤ 16 := by have hn := HN.out; rw [hperm.length_eq]; have := liveTo_length xs xs.length; rw [HX.out.1] at this; unfold live; rw [HX.out.1]; omega
  have hv5 := HV1.out.next hb5
  have hs1 : w.heap.size + 1 + 1 < w1.heap.size := HV1.out.2.2.2.lt
  have hs5 := hb5.size
  have hbb := hv5.1
  have hb2 := hv5.2.2.1
  have hb3 := hv5.2.2.2
  clear hb5 hv5
  refine wpIn_rangeFunc_ownH rfl (by omega) (gf := 156) (lb := #[.pointer (some ⟨B, 0, none⟩)]) rfl trivial (enters_of Tryz.func156 (by kernel_rfl) rfl)
    (rise_stops Fence.wide 4 trivial rfl (by omega) B w1.heap.size w5.heap.size L hL16 w5 hsq rfl) keptK_t (keptK_b (Nat.le_refl _)) (Below.refl _ _) (fun _ => rfl)
    (fun pre W => ((Blk W (w.heap.size + 1) 3 #[.int .i64 0] ∧ Blk W (w.heap.size + 1 + 1) 49 #[.int .i64 0]) ∧ (∀ y ∈ pre, y.2.1 ≠ 2)) ∧ Below w.heap.size w W ∧ w5.heap.size ≤ W.heap.size)
    (fun c pre W => ((Blk W (w.heap.size + 1) 3 #[.int .i64 (atOf 0 pre)] ∧ Blk W (w.heap.size + 1 + 1) 49 #[.int .i64 0]) ∧ c = .ret ∧ FirstS pre) ∧ Below w.heap.size w W)
    (OwnFrom.and (OwnFrom.and (OwnFrom.and (Own.from (blk_own _ _ _) _) (Own.from (blk_own _ _ _) _)) (ownFrom_pure _ _)) (OwnFrom.and (ownFrom_below (Nat.le_refl _) hbb.size) (own_size _)))
    (fun c => OwnFrom.and (OwnFrom.and (OwnFrom.and (Own.from (blk_own _ _ _) _) (Own.from (blk_own _ _ _) _)) (ownFrom_pure _ _)) (ownFrom_below (Nat.le_refl _) hbb.size))
    ⟨⟨⟨hb2, hb3⟩, fun y hy => by cases hy⟩, hbb, Nat.le_refl _⟩
    (fun x a' W => ∃ Bx, w1.heap.size ≤ Bx ∧ Blk W Bx 128 (segC x.2).toArray ∧ a' = { tmps := #[.agg #[.int .i64 sec, .slice A n cap], .pointer (some ⟨w.heap.size, 0, none⟩), .pointer (some ⟨w.heap.size + 1, 0, none⟩), .pointer (some ⟨w.heap.size + 1 + 1, 0, none⟩), .int .i64 0, .int .i64 x.1, .pointer (some ⟨Bx, 0, none⟩), .agg #[.int .i64 sec, .slice A n cap], .int .i64 0, .int .i64 0, .bool false, undef, .pointer (some ⟨w.heap.size, 1, none⟩), .slice A n cap, .func (.func 156) #[] #[.pointer (some ⟨B, 0, none⟩)], .int .i64 x.1, .agg (segC x.2).toArray, undef, undef, undef, undef], defers := [] })
    (fun x a' _ X Y row hs hg hr => by obtain ⟨Bx, h1, h2, h3⟩ := hs; exact ⟨Bx, h1, blk_own Bx _ (fun (_ : Unit) => _) () X Y row h2 hg (fun r e => (hr r e).2), h3⟩)
    ?assign ?body ?done ?stop
  case assign =>
    rintro l pre x W K ⟨⟨⟨h1, h2⟩, h3⟩, hB, hsz⟩ hK
    gi_wp2
    exact hK _ _ ((KeepsOthers.alloc _ _).from _) ((Kept.refl _ W).alloc (fun b hb => Nat.lt_of_lt_of_le hb.2 hsz) _) ⟨⟨⟨h1.alloc _, h2.alloc _⟩, h3⟩, hB.alloc hB.size _, Nat.le_trans hsz (by simp)⟩ ⟨W.heap.size, Nat.le_trans hs5 hsz, Blk.new W _ _, rfl⟩
  case body =>
    rintro l pre ⟨i, st, g, u⟩ a' W hl ⟨r, hr⟩ ⟨⟨⟨h1, h2⟩, h3⟩, hB, hsz⟩ ⟨Bx, hBx, bX, rfl⟩ hlt
    have H1 := Lib.hid h1
    have H2 := Lib.hid h2
    have H3 := Lib.hid h3
    have HBB := Lib.hid hB
    have c1 : W.cell? ⟨w.heap.size + 1, 0, none⟩ = some (.int .i64 0) := H1.out.cell 0
    have c2 : W.cell? ⟨w.heap.size + 1 + 1, 0, none⟩ = some (.int .i64 0) := H2.out.cell 0
    obtain ⟨f1, f2⟩ := And.intro (H1.out.frozen 0) (H2.out.frozen 0)
    obtain ⟨b0, b1, b2⟩ : W.cell? ⟨Bx, 0, none⟩ = some (.int .i64 st) ∧ W.cell? ⟨Bx, 1, none⟩ = some (.int .u64 g) ∧ W.cell? ⟨Bx, 2, none⟩ = some (.int .i64 u) := ⟨bX.cell 0, bX.cell 1, bX.cell 2⟩
    clear h1 h2 h3 hB bX
    by_cases d1 : st = 2
    · subst d1
      gi_wp2
      have hne : w.heap.size + 1 ≠ w.heap.size + 1 + 1 := by omega
      refine ⟨((KeepsOthers.setCell _ _ _).trans (KeepsOthers.setCell _ _ _)).from _, ⟨⟨?_, ?_⟩, rfl, ⟨pre, (i, 2, g, u), rfl, H3.out, rfl⟩⟩, (HBB.out.setCell (p := ⟨w.heap.size + 1, 0, none⟩) (by simp) _).setCell (p := ⟨w.heap.size + 1 + 1, 0, none⟩) (by simp; omega) _⟩
      · rw [atOf_snoc]
        exact (H1.out.set_ 0 _).far (p := ⟨w.heap.size + 1 + 1, 0, none⟩) hne _
      · exact (H2.out.far (p := ⟨w.heap.size + 1, 0, none⟩) hne.symm _).set_ 0 _
    · have e1 : (st == 2) = false := by simpa using d1
      gi_wp2
      exact ⟨(KeepsOthers.refl _).from _, Kept.refl _ _, ⟨⟨H1.out, H2.out⟩, none_snoc H3.out d1⟩, HBB.out, hsz⟩
  case done =>
    rintro D ys W hD rfl ⟨⟨⟨h1, h2⟩, h3⟩, hB, hsz⟩ hK
    obtain ⟨rfl, rfl⟩ := HON.out _ hperm hri h3
    have f1 := h1.frozen 0
    have f2 := h2.frozen 0
    have c1 : W.cell? ⟨w.heap.size + 1, 0, none⟩ = some (.int .i64 0) := h1.cell 0
    have c2 : W.cell? ⟨w.heap.size + 1 + 1, 0, none⟩ = some (.int .i64 0) := h2.cell 0
    have H1 := Lib.hid h1
    have H2 := Lib.hid h2
    have HBB := Lib.hid hB
    clear h1 h2 hB
    gi_wp2
    have hne : w.heap.size + 1 ≠ w.heap.size + 1 + 1 := by omega
    have hK' := ((KeepsOthers.setCell W ⟨w.heap.size + 1, 0, none⟩ (.int .i64 0)).trans (KeepsOthers.setCell _ ⟨w.heap.size + 1 + 1, 0, none⟩ (.int .i64 4))).same D _ hK rfl
    refine ⟨by simp, .inl ⟨_, _, rfl, run_takeDeferred hK', ?_⟩⟩
    have hd1 := ((H1.out.set_ 0 (.int .i64 0)).far (p := ⟨w.heap.size + 1 + 1, 0, none⟩) hne (.int .i64 4)).cell 0
    have hd2 := ((H2.out.far (p := ⟨w.heap.size + 1, 0, none⟩) hne.symm (.int .i64 0)).set_ 0 (.int .i64 4)).cell 0
    have hc1 := cell_kept (v := .int .i64 0) hd1 (grownBy_putObj' _ D (.deferred none)) (fun r e => by cases e; exact ⟨_, hK', rfl⟩)
    have hc2 := cell_kept (v := .int .i64 4) hd2 (grownBy_putObj' _ D (.deferred none)) (fun r e => by cases e; exact ⟨_, hK', rfl⟩)
    refine ⟨.tuple #[.int .i64 0, .int .i64 4], ?_, rfl, ((HBB.out.setCell (p := ⟨w.heap.size + 1, 0, none⟩) (by simp) _).setCell (p := ⟨w.heap.size + 1 + 1, 0, none⟩) (by simp; omega) _).trans (belowK_b (w := w) (Nat.le_refl _) _ D _ _ (Nat.le_trans hbb.size hD) hK' rfl rfl)⟩
    simp [results, Tryz.f69, go_sem, hc1, hc2]
  case stop =>
    rintro D c pre W hD ⟨k, hk, rfl⟩ ⟨⟨⟨h1, h2⟩, rfl, h3⟩, hB⟩ hK
    obtain ⟨rfl, rfl⟩ := HOY.out L (L.take k) (L.drop k) hperm hri (List.take_append_drop k L).symm h3
    have c1 : W.cell? ⟨w.heap.size + 1, 0, none⟩ = some (.int .i64 (atOf 0 (L.take k))) := h1.cell 0
    have c2 : W.cell? ⟨w.heap.size + 1 + 1, 0, none⟩ = some (.int .i64 0) := h2.cell 0
    gi_wp2
    refine ⟨by simp, .inl ⟨_, _, rfl, run_takeDeferred hK, ?_⟩⟩
    have hc1 := cell_kept c1 (grownBy_putObj' _ D (.deferred none)) (fun r e => by cases e; exact ⟨_, hK, rfl⟩)
    have hc2 := cell_kept c2 (grownBy_putObj' _ D (.deferred none)) (fun r e => by cases e; exact ⟨_, hK, rfl⟩)
    refine ⟨.tuple #[.int .i64 (atOf 0 (L.take k)), .int .i64 0], ?_, rfl, hB.trans (belowK_b (w := w) (Nat.le_refl _) W D _ _ (Nat.le_trans hbb.size hD) hK rfl rfl)⟩
    simp [results, Tryz.f69, go_sem, hc1, hc2]
theorem oldest_any {w : World} {A : Option Addr} {n cap : Nat} {xs : List Seg} (h : RowZ w (· < w.heap.size) A n xs) (sec : Int) :
    Calls Tryz.prog 69 #[ringV sec A n cap] w fun e w' => e = .returned (.tuple #[.int .i64 (oldV sec xs), .int .i64 (oldE sec xs)]) ∧ Below w.heap.size w w' := by
  by_cases hk : OkR sec xs
  · exact oldest_ok h sec hk
  · have e1 : oldE sec xs = 180 := if_pos hk
    have e2 : oldV sec xs = 0 := by unfold oldV; rw [e1]; rfl
    rw [e1, e2]
    exact oldest_bad h sec hk
end Go.Proofs.YtodcohkblgjfeaaGreat

namespace Go.Proofs.YtodcohkblgjfeaaGreat
set_option maxRecDepth 100000
open Go.RowKit
set_option linter.unusedVariables false
set_option linter.unusedSimpArgs false
theorem segs_of (a : Int) : ∃ n : Nat, wrap64 (4 + wrap64 ((IntKind.u64.wrap a).tmod 13)) = n ∧ 4 ≤ n ∧ n ≤ 16 := by
  have h0 : 0 ≤ IntKind.u64.wrap a := by rw [IntKind.wrap_u64]; omega
  have h1 : (IntKind.u64.wrap a).tmod 13 = (IntKind.u64.wrap a) % 13 := Int.tmod_eq_emod_of_nonneg h0
  refine ⟨(4 + (IntKind.u64.wrap a) % 13).toNat, ?_, by omega, by omega⟩
  rw [h1]
  unfold wrap64
  omega
theorem below_next {w W W' : World} (h : Below w.heap.size w W) (hb : Below W.heap.size W W') : Below w.heap.size w W' := h.trans (hb.mono h.size)
def GoM (w : World) (G n : Nat) (A : Option Addr) (cap : Nat) (xs : List Seg) (W : World) : Prop :=
  Blk W G 35 #[.int .i64 64, .slice A n cap] ∧ RowZ W (fun b => b < W.heap.size ∧ b ≠ G) A n xs ∧ Below w.heap.size w W
section
variable {w : World} {G n : Nat} {A : Option Addr} {cap : Nat} {xs : List Seg} {W W' : World}
theorem GoM.now (h : GoM w G n A cap xs W) : RowZ W (· < W.heap.size) A n xs := h.2.1.more (fun b h => h.1)
theorem GoM.next (h : GoM w G n A cap xs W) (hb : Below W.heap.size W W') : GoM w G n A cap xs W' :=
  ⟨h.1.below hb h.1.lt, (h.2.1.below hb (fun b h => h.1)).more (fun b h => ⟨Nat.lt_of_lt_of_le h.1 hb.size, h.2⟩), below_next h.2.2 hb⟩
end
theorem GoM.first {w W0 : World} {n₀ n : Nat} {A : Option Addr} {cap : Nat} {xs : List Seg} (hr : RowZ W0 (From n₀ W0) A n xs) (hb : Below w.heap.size w W0) :
    GoM w W0.heap.size n A cap xs (W0.alloc (.cells #[.int .i64 64, .slice A n cap] 35)) :=
  ⟨Blk.new W0 _ _, (hr.below ((Below.refl W0.heap.size W0).alloc (Nat.le_refl _) _) (fun b h => h.2)).more (fun b h => ⟨by have := h.2; simp; omega, by have := h.2; omega⟩), hb.alloc hb.size _⟩
theorem GoM.fresh {w W0 : World} {m n : Nat} {A : Option Addr} {cap : Nat} {xs : List Seg} (ho : OwnZ W0 m A n cap xs) (hb : Below w.heap.size w W0) :
    GoM w W0.heap.size n A cap xs (W0.alloc (.cells #[.int .i64 64, .slice A n cap] 35)) := GoM.first ho.row hb
theorem GoM.store {w W : World} {G n m n0 : Nat} {A A' : Option Addr} {cap cap' : Nat} {ys : List Seg} (h1 : Blk W G 35 #[.int .i64 64, .slice A n0 cap]) (h2 : Below w.heap.size w W) (ho : OwnZ W m A' n cap' ys) (hm : G < m) (hB : w.heap.size ≤ G) :
    GoM w G n A' cap' ys ((W.setCell ⟨G, 0, none⟩ (.int .i64 64)).setCell ⟨G, 1, none⟩ (.slice A' n cap')) := by
  have ho2 := (ho.far (p := ⟨G, 0, none⟩) hm (.int .i64 64)).far (p := ⟨G, 1, none⟩) hm (.slice A' n cap')
  exact ⟨(h1.set_ 0 (.int .i64 64)).set_ 1 (.slice A' n cap'), ho2.row.more (fun b hb => ⟨hb.2, by have := hb.1; omega⟩), (h2.setCell (p := ⟨G, 0, none⟩) hB _).setCell (p := ⟨G, 1, none⟩) hB _⟩
theorem OwnZ.setRow {w : World} {base : Nat} {A : Option Addr} {n cap : Nat} {xs : List Seg} (h : OwnZ w base A n cap xs) {g : Nat} (hg : g < base) (cs : Array Value) : OwnZ (w.setRow g cs) base A n cap xs :=
  ⟨h.1, h.2.1.kept (row := some g) ⟨rfl, rfl, rfl, by simp [World.setRow], fun k _ hne => setRow_other w g k cs (fun e => hne (by rw [e]))⟩ (.inr (fun e => by have := own_least h.2.1 e; omega)), h.2.2⟩
theorem GoM.row {w W : World} {G n m n0 : Nat} {A A' : Option Addr} {cap cap' : Nat} {ys : List Seg} (h1 : Blk W G 35 #[.int .i64 64, .slice A n0 cap]) (h2 : Below w.heap.size w W) (ho : OwnZ W m A' n cap' ys) (hm : G < m) (hB : w.heap.size ≤ G) :
    GoM w G n A' cap' ys (W.setRow G #[.int .i64 64, .slice A' n cap']) :=
  ⟨setRow_heap W G _ _ _ _ h1, (ho.setRow hm _).row.more (fun b hb => ⟨hb.2, by have := hb.1; omega⟩), below_setRow h2 hB _⟩
section
variable {P : Program} {w : World} {o : Oper} {a : Act} {Q : Exit → Act → World → Prop} {K : Act → World → Prop} {E : Prop} {ops : Array Oper}
theorem step_store_whole (x y : Operand) (ty : TypeId) (ho : o.op = .store ty x y) (hgd : Region.wanted o (yielded ops a.tmps) = true) (g : Nat) (cs old : Array Value) (t : TypeId) (hx : a.eval x = .pointer (some ⟨g, 0, none⟩)) (hy : a.eval y = .agg cs)
    (hg : Blk w g t old) (hsz : ∀ w, (sizeOf ty).run P w = .ok cs.size w) (hl : old.size = cs.size) (hone : ∀ v ∈ cs.toList, v.oneCell' = true) (h : K (a.put o.dst undef) (w.setRow g cs)) : if Region.wanted o (yielded ops a.tmps) = true then Oper.wp P o a w K Q else E := by
  have hs := run_storeCells_at P g 0 t cs.toList 0 old w hg (by simp; omega) hone
  have he : (List.take (0 + 0) old.toList ++ cs.toList ++ List.drop (0 + 0 + cs.toList.length) old.toList).toArray = cs := by
    rw [List.drop_eq_nil_of_le (by simp; omega)]; simp
  rw [he] at hs
  have hrun : (Instr.storeAt ty (.pointer (some ⟨g, 0, none⟩)) (.agg cs)).run P w = .ok () (w.setRow g cs) := by
    simp only [Instr.storeAt, Instr.sureAddr, Sem.run_bind, Sem.run_pure, Result.andThen_ok, storeVar, hsz, Value.cells]
    simpa using hs
  rw [if_pos hgd]
  unfold Oper.wp execOp
  simp only [ho, hx, hy, hrun, Sem.run_bind, Result.andThen_ok]
  exact h
end
abbrev gg0 : Oper := { dst := some 79, op := Go.Op.load 66 (Go.Operand.tmp 11), type := 66, pos := "outright.go:96", after := #[], guard := none }
abbrev gg1 : Oper := { dst := some 80, op := Go.Op.load 66 (Go.Operand.tmp 11), type := 66, pos := "outright.go:96", after := #[], guard := none }
abbrev gg2 : Oper := { dst := some 81, op := Go.Op.call { callee := Go.Callee.value (Go.Operand.func 40), args := #[Go.Operand.tmp 80], argTypes := #[66] }, type := 3, pos := "outright.go:96", after := #[{ on := 1, ground := Go.Ground.data }], guard := none }
abbrev gg3 : Oper := { dst := some 82, op := Go.Op.call { callee := Go.Callee.value (Go.Operand.func 54), args := #[Go.Operand.tmp 79, Go.Operand.tmp 81], argTypes := #[66, 3] }, type := 83, pos := "outright.go:96", after := #[{ on := 0, ground := Go.Ground.data }, { on := 2, ground := Go.Ground.data }, { on := 2, ground := Go.Ground.chain }], guard := none }
abbrev gg4 : Oper := { dst := some 78, op := Go.Op.move (Go.Operand.tmp 82), type := 83, pos := "outright.go:96", after := #[{ on := 3, ground := Go.Ground.data }], guard := none }
abbrev gg5 : Oper := { dst := some 83, op := Go.Op.extract (Go.Operand.tmp 78) 0, type := 66, pos := "outright.go:96", after := #[{ on := 4, ground := Go.Ground.data }], guard := none }
abbrev gg6 : Oper := { dst := some 84, op := Go.Op.extract (Go.Operand.tmp 78) 1, type := 28, pos := "outright.go:96", after := #[{ on := 4, ground := Go.Ground.data }, { on := 7, ground := Go.Ground.gcOnly Go.Departure.lateStores }], guard := none }
abbrev gg7 : Oper := { dst := none, op := Go.Op.store 66 (Go.Operand.tmp 11) (Go.Operand.tmp 83), type := 0, pos := "outright.go:96", after := #[{ on := 5, ground := Go.Ground.data }, { on := 3, ground := Go.Ground.chain }, { on := 0, ground := Go.Ground.phase }, { on := 1, ground := Go.Ground.phase }, { on := 2, ground := Go.Ground.phase }, { on := 3, ground := Go.Ground.phase }, { on := 4, ground := Go.Ground.phase }, { on := 5, ground := Go.Ground.phase }, { on := 6, ground := Go.Ground.textOnly Go.Departure.lateStores }], guard := none }
abbrev gg8 : Oper := { dst := some 13, op := Go.Op.assign (Go.Operand.tmp 84), type := 28, pos := "outright.go:96", after := #[{ on := 6, ground := Go.Ground.data }, { on := 7, ground := Go.Ground.chain }, { on := 0, ground := Go.Ground.phase }, { on := 1, ground := Go.Ground.phase }, { on := 2, ground := Go.Ground.phase }, { on := 3, ground := Go.Ground.phase }, { on := 4, ground := Go.Ground.phase }, { on := 5, ground := Go.Ground.phase }, { on := 6, ground := Go.Ground.phase }, { on := 7, ground := Go.Ground.phase }], guard := none }
end Go.Proofs.YtodcohkblgjfeaaGreat

namespace Go.Proofs.YtodcohkblgjfeaaGreat
set_option maxRecDepth 100000
open Go.RowKit
set_option linter.unusedVariables false
set_option linter.unusedSimpArgs false
abbrev rn0 : Oper := { dst := some 38, op := Go.Op.fieldAddr 66 (Go.Operand.tmp 1) 1, type := 0, pos := "outright.go:22", after := #[], guard := none }
abbrev rn1 : Oper := { dst := some 39, op := Go.Op.load 64 (Go.Operand.tmp 38), type := 64, pos := "outright.go:22", after := #[{ on := 0, ground := Go.Ground.data }], guard := none }
abbrev rn2 : Oper := { dst := some 40, op := Go.Op.move (Go.Operand.tmp 3), type := 3, pos := "outright.go:22", after := #[], guard := none }
abbrev rn3 : Oper := { dst := some 41, op := Go.Op.move (Go.Operand.tmp 9), type := 3, pos := "outright.go:22", after := #[], guard := none }
abbrev rn4 : Oper := { dst := some 42, op := Go.Op.binOp Go.BinOp.add 3 (Go.Operand.tmp 40) (Go.Operand.tmp 41) 3, type := 3, pos := "outright.go:22", after := #[{ on := 2, ground := Go.Ground.data }, { on := 3, ground := Go.Ground.data }], guard := none }
abbrev rn5 : Oper := { dst := some 43, op := Go.Op.fieldAddr 66 (Go.Operand.tmp 1) 1, type := 0, pos := "outright.go:22", after := #[], guard := none }
abbrev rn6 : Oper := { dst := some 44, op := Go.Op.load 64 (Go.Operand.tmp 43), type := 64, pos := "outright.go:22", after := #[{ on := 5, ground := Go.Ground.data }], guard := none }
abbrev rn7 : Oper := { dst := some 45, op := Go.Op.call { callee := Go.Callee.builtin Go.Builtin.len, args := #[Go.Operand.tmp 44], argTypes := #[64] }, type := 3, pos := "outright.go:22", after := #[{ on := 6, ground := Go.Ground.data }], guard := none }
abbrev rn8 : Oper := { dst := some 46, op := Go.Op.binOp Go.BinOp.rem 3 (Go.Operand.tmp 42) (Go.Operand.tmp 45) 3, type := 3, pos := "outright.go:22", after := #[{ on := 4, ground := Go.Ground.data }, { on := 7, ground := Go.Ground.data }], guard := none }
abbrev rn9 : Oper := { dst := some 47, op := Go.Op.indexAddr 64 (Go.Operand.tmp 39) (Go.Operand.tmp 46), type := 0, pos := "outright.go:22", after := #[{ on := 1, ground := Go.Ground.data }, { on := 8, ground := Go.Ground.data }], guard := none }
abbrev rn10 : Oper := { dst := some 48, op := Go.Op.load 78 (Go.Operand.tmp 47), type := 78, pos := "outright.go:22", after := #[{ on := 9, ground := Go.Ground.data }], guard := none }
abbrev rn11 : Oper := { dst := some 10, op := Go.Op.alloc 78, type := 0, pos := "outright.go:22", after := #[], guard := none }
abbrev rn12 : Oper := { dst := none, op := Go.Op.store 78 (Go.Operand.tmp 10) (Go.Operand.tmp 48), type := 0, pos := "outright.go:22", after := #[{ on := 11, ground := Go.Ground.data }, { on := 10, ground := Go.Ground.data }, { on := 0, ground := Go.Ground.phase }, { on := 1, ground := Go.Ground.phase }, { on := 2, ground := Go.Ground.phase }, { on := 3, ground := Go.Ground.phase }, { on := 4, ground := Go.Ground.phase }, { on := 5, ground := Go.Ground.phase }, { on := 6, ground := Go.Ground.phase }, { on := 7, ground := Go.Ground.phase }, { on := 8, ground := Go.Ground.phase }, { on := 9, ground := Go.Ground.phase }, { on := 10, ground := Go.Ground.phase }, { on := 11, ground := Go.Ground.phase }], guard := none }
section
variable {P : Program} {w : World} {o : Oper} {a : Act} {Q : Exit → Act → World → Prop} {K : Act → World → Prop} {E : Prop} {ops : Array Oper}
theorem step_alloc_z (ty : TypeId) (ho : o.op = .alloc ty) (hgd : Region.wanted o (yielded ops a.tmps) = true) (zs : Array Value) (hz : ∀ w, (zeroValue ty).run P w = .ok (.agg zs) w)
    (h : K (a.put o.dst (.pointer (some ⟨w.heap.size, 0, none⟩))) (w.alloc (.cells zs ty))) : if Region.wanted o (yielded ops a.tmps) = true then Oper.wp P o a w K Q else E := by
  rw [if_pos hgd]
  unfold Oper.wp execOp
  simp only [ho, Instr.alloc, Sem.run_bind, hz, Result.andThen_ok]
  exact h
end
def sealTo (xs : List Seg) : Nat → Nat
  | 0 => 0
  | j + 1 => sealTo xs j + (if stG xs j = 2 then 1 else 0)
theorem seal_le (xs : List Seg) : ∀ j, sealTo xs j ≤ j
  | 0 => Nat.le_refl _
  | j + 1 => by have := seal_le xs j; unfold sealTo; split <;> omega
def SideBy (xs : List Seg) (n o c : Nat) (gl : Nat → Int) : Prop :=
  gl 0 = 0 ∧ ∀ k, k < c → stG xs ((o + k) % n) = 2 ∧ gl k < genG xs ((o + k) % n) ∧ gl (k + 1) = genG xs ((o + k) % n)
def RndI (w : World) (sec : Int) (A : Option Addr) (n cap c : Nat) (gl : Nat → Int) (W : World) (v5 v9 : Value) : Prop :=
  ∃ k : Nat, k ≤ c ∧ v9 = .int .i64 k ∧ v5 = .int .u64 (gl k) ∧ Blk W w.heap.size 35 #[.int .i64 sec, .slice A n cap] ∧ Below w.heap.size w W
end Go.Proofs.YtodcohkblgjfeaaGreat

namespace Go.Proofs.YtodcohkblgjfeaaGreat
set_option maxRecDepth 100000
open Go.RowKit
set_option linter.unusedVariables false
set_option linter.unusedSimpArgs false
def posR (n s k : Nat) : Nat := if s + k < n then s + k else s + k - n
theorem pos_lt {n s k : Nat} (hs : s < n) (hk : k ≤ n) : posR n s k < n := by unfold posR; split <;> omega
theorem pos_inj {n s a b : Nat} (hs : s < n) (ha : a < n) (hb : b < n) (h : posR n s a = posR n s b) : a = b := by
  unfold posR at h
  split at h <;> split at h <;> omega
theorem pos_onto {n s j : Nat} (hs : s < n) (hj : j < n) : ∃ k, k < n ∧ posR n s k = j := by
  refine ⟨if s ≤ j then j - s else j + n - s, ?_, ?_⟩
  · split <;> omega
  · unfold posR
    split <;> split <;> omega
theorem pos_mod {n s k : Nat} (hs : s < n) (hk : k < n) : (s + k) % n = posR n s k := by
  unfold posR
  split
  case isTrue h => exact Nat.mod_eq_of_lt h
  case isFalse h => rw [Nat.mod_eq_sub_mod (by omega), Nat.mod_eq_of_lt (by omega)]
theorem pos_step {n s k : Nat} (hs : s < n) (hk : k < n) : (posR n s k + 1) % n = posR n s (k + 1) := by
  unfold posR
  by_cases h : s + k < n
  · rw [if_pos h]
    by_cases h2 : s + (k + 1) < n
    · rw [if_pos h2, Nat.mod_eq_of_lt (by omega)]; omega
    · rw [if_neg h2, show s + k + 1 = n by omega, Nat.mod_self]; omega
  · rw [if_neg h, if_neg (by omega), Nat.mod_eq_of_lt (by omega)]; omega
structure Arc (n : Nat) (xs : List Seg) (s c : Nat) : Prop where
  len : xs.length = n
  hs : s < n
  hc : c ≤ n
  live : ∀ k, k < n → (stG xs (posR n s k) ≠ 0 ↔ k < c)
  mids : ∀ k, k + 1 < c → stG xs (posR n s k) = 2
  rise : ∀ k, k + 1 < c → genG xs (posR n s k) < genG xs (posR n s (k + 1))
section
variable {n s c : Nat} {xs : List Seg} {sec : Int}
theorem Arc.rises (h : Arc n xs s c) (a : Nat) : ∀ d, a + d + 1 < c → genG xs (posR n s a) < genG xs (posR n s (a + d + 1))
  | 0, hd => h.rise a hd
  | d + 1, hd => Int.lt_trans (h.rises a d (by omega)) (h.rise (a + d + 1) (by omega))
theorem Arc.less (h : Arc n xs s c) {a b : Nat} (hab : a < b) (hb : b < c) : genG xs (posR n s a) < genG xs (posR n s b) := by
  have := h.rises a (b - a - 1) (by omega)
  rwa [show a + (b - a - 1) + 1 = b by omega] at this
theorem Arc.lat (h : Arc n xs s c) (h0 : 0 < c) : latR xs = (posR n s (c - 1) : Nat) := by
  have hc := h.hc
  rcases lat_or xs with ⟨_, hz⟩ | ⟨i, hi, e, hs, hm⟩
  · exact absurd (hz _ (by rw [h.len]; exact pos_lt h.hs (k := 0) (by omega))) ((h.live 0 (by omega)).2 h0)
  · rw [h.len] at hi
    obtain ⟨k, hk, rfl⟩ := pos_onto h.hs hi
    have hkc := (h.live k hk).1 hs
    by_cases he : k = c - 1
    · rw [e, he]
    · have h1 := h.less (a := k) (b := c - 1) (by omega) (by omega)
      have h2 := hm _ (by rw [h.len]; exact pos_lt h.hs (k := c - 1) (by omega)) ((h.live (c - 1) (by omega)).2 (by omega))
      omega
theorem Arc.lat0 (h : Arc n xs s 0) : latR xs = -1 ∧ ∀ j, j < n → stG xs j = 0 := by
  have hz : ∀ j, j < n → stG xs j = 0 := fun j hj => by
    obtain ⟨k, hk, rfl⟩ := pos_onto h.hs hj
    by_cases h0 : stG xs (posR n s k) = 0
    · exact h0
    · exact absurd ((h.live k hk).1 h0) (by omega)
  refine ⟨?_, hz⟩
  rcases lat_or xs with ⟨e, _⟩ | ⟨i, hi, e, hs, hm⟩
  · exact e
  · exact absurd (hz i (by rw [← h.len]; exact hi)) hs
theorem Arc.next (h : Arc n xs s c) (h0 : 0 < c) (hc : c < n) : nxtR xs = (posR n s c : Nat) := by
  have hl := h.lat h0
  have hf : stG xs (posR n s c) = 0 := by
    by_cases h0 : stG xs (posR n s c) = 0
    · exact h0
    · exact absurd ((h.live c hc).1 h0) (by omega)
  have hp : ((latR xs + 1 + ((0 : Nat) : Int)).toNat % xs.length) = posR n s c := by
    rw [hl, h.len, show ((posR n s (c - 1) : Nat) : Int) + 1 + ((0 : Nat) : Int) = ((posR n s (c - 1) + 1 : Nat) : Int) by omega, Int.toNat_natCast, pos_step h.hs (by omega), show c - 1 + 1 = c by omega]
  rcases nxt_or xs with ⟨_, hz⟩ | ⟨i, hi, e, hs, hq⟩
  · have := hz 0 (by rw [h.len]; omega)
    rw [hp] at this
    exact absurd hf this
  · rcases Nat.eq_zero_or_pos i with rfl | hi0
    · rw [e, hp]
    · have := hq 0 hi0
      rw [hp] at this
      exact absurd hf this
theorem Arc.next0 (h : Arc n xs s 0) : nxtR xs = 0 := by
  have hn := h.hs
  have hl := h.lat0
  have hp : ((latR xs + 1 + ((0 : Nat) : Int)).toNat % xs.length) = 0 := by rw [hl.1]; simp
  have hf := hl.2 0 (by omega)
  rcases nxt_or xs with ⟨_, hz⟩ | ⟨i, hi, e, hs, hq⟩
  · have := hz 0 (by rw [h.len]; omega)
    rw [hp] at this
    exact absurd hf this
  · rcases Nat.eq_zero_or_pos i with rfl | hi0
    · rw [e, hp]; rfl
    · have := hq 0 hi0
      rw [hp] at this
      exact absurd hf this
theorem st_set {i j : Nat} {x : Seg} (hi : i < xs.length) : stG (xs.set i x) j = if i = j then x.1 else stG xs j := by
  simp only [stG, getD_set xs i j x hi]; split <;> rfl
theorem gen_set {i j : Nat} {x : Seg} (hi : i < xs.length) : genG (xs.set i x) j = if i = j then x.2.1 else genG xs j := by
  simp only [genG, getD_set xs i j x hi]; split <;> rfl
theorem arc_new (n : Nat) (h : 0 < n) : Arc n (List.replicate n seg0) 0 0 := by
  have hz : ∀ j, stG (List.replicate n seg0) j = 0 := fun j => by
    simp [stG, List.getD, List.getElem?_replicate]
    split <;> rfl
  exact ⟨List.length_replicate, h, Nat.zero_le _, fun k _ => ⟨fun h => absurd (hz _) h, fun h => by omega⟩, fun k h => by omega, fun k h => by omega⟩
theorem arc_open (h : Arc n xs s c) {g : Int} (he : openE sec xs g = 0) : ∃ s' c', Arc n (openX xs g) s' c' := by
  obtain ⟨hk, hno, htop, i, hi, e, hfree⟩ := open_zero he
  rw [h.len] at hi
  have hi' : i < xs.length := by rw [h.len]; exact hi
  obtain ⟨k, hkn, hki⟩ := pos_onto h.hs hi
  have hcn : c < n := by
    by_cases hlt : k < c
    · exact absurd (show stG xs (posR n s k) = 0 by rw [hki]; exact hfree) ((h.live k hkn).2 hlt)
    · omega
  have hX : openX xs g = xs.set i (1, g, 1) := by unfold openX; rw [e, Int.toNat_natCast]
  rw [hX]
  rcases Nat.eq_zero_or_pos c with rfl | h0
  · have e0 := h.next0
    obtain rfl : i = 0 := by omega
    have hz := h.lat0.2
    refine ⟨0, 1, by rw [List.length_set]; exact h.len, by omega, by omega, fun q hq => ?_, fun q hq => by omega, fun q hq => by omega⟩
    rw [st_set hi', show posR n 0 q = q by unfold posR; rw [if_pos (by omega)]; omega]
    by_cases hq0 : q = 0
    · rw [if_pos hq0.symm]; exact ⟨fun _ => by omega, fun _ => (show (1 : Int) ≠ 0 by decide)⟩
    · rw [if_neg (fun e => hq0 e.symm)]; exact ⟨fun k => absurd (hz q hq) k, fun k => by omega⟩
  · have e1 := h.next h0 hcn
    obtain rfl : i = posR n s c := by omega
    have hl := h.lat h0
    have ht : genG xs (posR n s (c - 1)) < g := by
      unfold topG at htop
      rw [hl, if_neg (by omega), Int.toNat_natCast] at htop
      exact htop
    have hlast : stG xs (posR n s (c - 1)) = 2 := by
      have hp := pos_lt h.hs (k := c - 1) (by omega)
      have h1 := no_open hk hno (j := posR n s (c - 1)) (by rw [h.len]; exact hp)
      have h2 := (h.live (c - 1) (by omega)).2 (by omega)
      rcases (may_live (may_at hk.2.1 (by rw [h.len]; exact hp)) h2).1 with h3 | h3
      · exact absurd h3 h1
      · exact h3
    refine ⟨s, c + 1, by rw [List.length_set]; exact h.len, h.hs, by omega, fun q hq => ?_, fun q hq => ?_, fun q hq => ?_⟩
    · rw [st_set hi']
      by_cases hqc : q = c
      · subst hqc; rw [if_pos rfl]; exact ⟨fun _ => by omega, fun _ => (show (1 : Int) ≠ 0 by decide)⟩
      · rw [if_neg (fun e => hqc (pos_inj h.hs hcn hq e).symm), h.live q hq]; omega
    · rw [st_set hi', if_neg (fun e => by have := pos_inj h.hs hcn (by omega) e; omega)]
      by_cases hqc : q = c - 1
      · rw [hqc]; exact hlast
      · exact h.mids q (by omega)
    · rw [gen_set hi', gen_set hi', if_neg (fun e => by have := pos_inj h.hs hcn (by omega) e; omega)]
      by_cases hqc : q + 1 = c
      · rw [hqc, if_pos rfl, show q = c - 1 by omega]; exact ht
      · rw [if_neg (fun e => by have := pos_inj h.hs hcn (by omega) e; omega)]
        exact h.rise q (by omega)
theorem arc_keep (h : Arc n xs s c) {i : Nat} (hi : i < xs.length) (x : Seg) (hx : x.1 ≠ 0) (h0 : stG xs i ≠ 0) (hg : x.2.1 = genG xs i) (h2 : stG xs i = 2 → x.1 = 2) : Arc n (xs.set i x) s c := by
  have hgen : ∀ j, genG (xs.set i x) j = genG xs j := fun j => by
    rw [gen_set hi]
    split
    case isTrue e => rw [← e]; exact hg
    case isFalse e => rfl
  refine ⟨by rw [List.length_set]; exact h.len, h.hs, h.hc, fun k hk => ?_, fun k hk => ?_, fun k hk => ?_⟩
  · rw [← h.live k hk, st_set hi]
    split
    case isTrue e => rw [← e]; exact ⟨fun _ => h0, fun _ => hx⟩
    case isFalse e => exact Iff.rfl
  · have h3 := h.mids k hk
    rw [st_set hi]
    split
    case isTrue e => rw [← e] at h3; exact h2 h3
    case isFalse e => exact h3
  · rw [hgen, hgen]
    exact h.rise k hk
theorem arc_use (h : Arc n xs s c) {v : Int} (he : useE sec xs v = 0) : Arc n (useX xs v) s c := by
  have hs : sealE sec xs = 0 := by
    by_cases h1 : sealE sec xs = 0
    · exact h1
    · rw [use_seal h1] at he; exact absurd he h1
  obtain ⟨hk, h1⟩ := seal_yes hs
  obtain ⟨i, hi, e, hst⟩ := opn_nat hk h1
  unfold useX
  rw [e, Int.toNat_natCast]
  exact arc_keep h hi _ (by show stG xs i ≠ 0; rw [hst]; decide) (by rw [hst]; decide) rfl (fun h => h)
theorem arc_seal (h : Arc n xs s c) (he : sealE sec xs = 0) : Arc n (sealX xs) s c := by
  obtain ⟨hk, h1⟩ := seal_yes he
  obtain ⟨i, hi, e, hst⟩ := opn_nat hk h1
  unfold sealX
  rw [e, Int.toNat_natCast]
  exact arc_keep h hi _ (show (2 : Int) ≠ 0 by decide) (by rw [hst]; decide) rfl (fun _ => rfl)
theorem Arc.old (h : Arc n xs s c) {o : Nat} (ho : oldR xs = o) : o = s ∧ 0 < c := by
  rcases old_or xs with ⟨e, _⟩ | ⟨i, hi, e, hst, hm⟩
  · omega
  · obtain rfl : o = i := by omega
    rw [h.len] at hi
    obtain ⟨k, hk, hki⟩ := pos_onto h.hs hi
    have hkc := (h.live k hk).1 (by rw [hki, hst]; decide)
    have hp0 : posR n s 0 = s := by unfold posR; rw [if_pos (by have := h.hs; omega)]; rfl
    refine ⟨?_, by omega⟩
    rcases Nat.eq_zero_or_pos k with rfl | hk0
    · omega
    · have h1 := h.less hk0 hkc
      have h2 := hm _ (by rw [h.len]; exact pos_lt h.hs (k := 0) (by omega)) (h.mids 0 (by omega))
      rw [hki] at h1
      omega
theorem arc_free (h : Arc n xs s c) {o : Nat} (ho : oldR xs = o) : ∃ s' c', Arc n (freeX xs o) s' c' := by
  obtain ⟨rfl, h0⟩ := h.old ho
  have hs := h.hs
  have hcn := h.hc
  have hi : o < xs.length := by rw [h.len]; exact h.hs
  have hp0 : posR n o 0 = o := by unfold posR; rw [if_pos (by omega)]; rfl
  have hn1 : 1 < n ∨ n = 1 := by omega
  have hsh : ∀ q, q < n → posR n (posR n o 1) q = if q + 1 < n then posR n o (q + 1) else o := fun q hq => by
    unfold posR
    split <;> split <;> (try split) <;> (try split) <;> omega
  refine ⟨posR n o 1, c - 1, by unfold freeX; rw [List.length_set]; exact h.len, pos_lt hs (by omega), by omega, fun q hq => ?_, fun q hq => ?_, fun q hq => ?_⟩
  · unfold freeX
    rw [Int.toNat_natCast, st_set hi, hsh q hq]
    by_cases hq1 : q + 1 < n
    · rw [if_pos hq1, if_neg (fun e => by have := pos_inj hs (by omega) hq1 (hp0.trans e); omega), h.live (q + 1) hq1]; omega
    · rw [if_neg hq1, if_pos rfl]; exact ⟨fun k => absurd rfl k, fun k => by omega⟩
  · unfold freeX
    rw [Int.toNat_natCast, st_set hi, (hsh q (by omega)).trans (if_pos (by omega)), if_neg (fun e => by have := pos_inj hs (by omega) (by omega) (hp0.trans e); omega)]
    exact h.mids (q + 1) (by omega)
  · unfold freeX
    rw [Int.toNat_natCast, gen_set hi, gen_set hi, (hsh q (by omega)).trans (if_pos (by omega)), (hsh (q + 1) (by omega)).trans (if_pos (by omega)), if_neg (fun e => by have := pos_inj hs (by omega) (by omega) (hp0.trans e); omega), if_neg (fun e => by have := pos_inj hs (by omega) (by omega) (hp0.trans e); omega)]
    exact h.rise (q + 1) (by omega)
def cntF (f : Nat → Nat) : Nat → Nat
  | 0 => 0
  | k + 1 => cntF f k + f k
theorem cnt_add (f : Nat → Nat) (a : Nat) : ∀ b, cntF f (a + b) = cntF f a + cntF (fun i => f (a + i)) b
  | 0 => rfl
  | b + 1 => by
    show cntF f (a + b) + f (a + b) = _
    rw [cnt_add f a b]
    show _ = cntF f a + (cntF (fun i => f (a + i)) b + f (a + b))
    omega
theorem cnt_congr {f g : Nat → Nat} : ∀ {m : Nat}, (∀ k, k < m → f k = g k) → cntF f m = cntF g m
  | 0, _ => rfl
  | m + 1, h => by
    show cntF f m + f m = cntF g m + g m
    rw [cnt_congr (fun k hk => h k (by omega)), h m (by omega)]
theorem cnt_rot (f : Nat → Nat) {n s : Nat} (hs : s < n) : cntF (fun k => f (posR n s k)) n = cntF f n := by
  have e1 : n = (n - s) + s := by omega
  have e2 : n = s + (n - s) := by omega
  have h1 : cntF (fun k => f (posR n s k)) ((n - s) + s) = cntF (fun k => f (posR n s k)) (n - s) + cntF (fun i => f (posR n s (n - s + i))) s := cnt_add _ _ _
  have h2 : cntF f (s + (n - s)) = cntF f s + cntF (fun i => f (s + i)) (n - s) := cnt_add _ _ _
  have h3 : cntF (fun k => f (posR n s k)) (n - s) = cntF (fun i => f (s + i)) (n - s) := cnt_congr fun k hk => by
    show f (posR n s k) = f (s + k)
    unfold posR; rw [if_pos (by omega)]
  have h4 : cntF (fun i => f (posR n s (n - s + i))) s = cntF f s := cnt_congr fun k hk => by
    show f (posR n s (n - s + k)) = f k
    unfold posR; rw [if_neg (by omega), show s + (n - s + k) - n = k by omega]
  rw [← e1] at h1
  rw [← e2] at h2
  omega
theorem cnt_le (f : Nat → Nat) (h1 : ∀ k, f k ≤ 1) {b : Nat} : ∀ m, (∀ k, b ≤ k → k < m → f k = 0) → cntF f m ≤ b
  | 0, _ => Nat.zero_le _
  | m + 1, h => by
    show cntF f m + f m ≤ b
    have ih := cnt_le f h1 m (fun k hb hk => h k hb (by omega))
    by_cases hb : b ≤ m
    · rw [h m hb (by omega)]; exact ih
    · have : ∀ m, cntF f m ≤ m := fun m => by
        induction m with
        | zero => exact Nat.le_refl _
        | succ m ih => show cntF f m + f m ≤ m + 1; have := h1 m; omega
      have h2 := this m
      have h3 := h1 m
      omega
theorem seal_cnt (xs : List Seg) : ∀ m, sealTo xs m = cntF (fun j => if stG xs j = 2 then 1 else 0) m
  | 0 => rfl
  | m + 1 => by
    show sealTo xs m + _ = cntF _ m + _
    rw [seal_cnt xs m]
theorem Arc.side (h : Arc n xs s c) (hk : OkR sec xs) {o : Nat} (ho : oldR xs = o) : SideBy xs n o (sealTo xs n) (fun k => if k = 0 then 0 else genG xs (posR n s (k - 1))) := by
  obtain ⟨rfl, h0⟩ := h.old ho
  have hsl := seal_le xs n
  refine ⟨rfl, fun k hkn => ?_⟩
  rw [pos_mod h.hs (by omega)]
  have h2 : stG xs (posR n o k) = 2 := by
    by_cases e : stG xs (posR n o k) = 2
    · exact e
    · exfalso
      have hle : sealTo xs n ≤ k := by
        rw [seal_cnt, ← cnt_rot _ h.hs]
        refine cnt_le _ (fun q => by split <;> omega) n (fun q hq hqn => ?_)
        rw [if_neg]
        intro h3
        have h4 := (h.live q hqn).1 (by rw [h3]; decide)
        by_cases e2 : q = k
        · rw [e2] at h3; exact e h3
        · exact e (h.mids k (by omega))
      omega
  have hkc := (h.live k (by omega)).1 (by rw [h2]; decide)
  refine ⟨h2, ?_, by simp⟩
  show (if k = 0 then (0 : Int) else genG xs (posR n o (k - 1))) < _
  by_cases e : k = 0
  · rw [if_pos e]
    have := (may_live (may_at hk.2.1 (i := posR n o k) (by rw [h.len]; exact pos_lt h.hs (by omega))) (by show stG xs _ ≠ 0; rw [h2]; decide)).2.1
    simp only [genG]
    omega
  · rw [if_neg e]
    exact h.less (a := k - 1) (b := k) (by omega) hkc
end
end Go.Proofs.YtodcohkblgjfeaaGreat
