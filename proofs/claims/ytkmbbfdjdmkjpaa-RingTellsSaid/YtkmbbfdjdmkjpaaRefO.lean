/- The document's Open. -/
import Derived.Test.YtkmbbfdjdmkjpaaRefL
namespace Go.Proofs.Ytkmbbfdjdmkjpaa
open Go.RowKit
set_option linter.unusedVariables false
set_option linter.unusedSimpArgs false

theorem lat_range (xs : List Seg) : latR xs = -1 ∨ ∃ i : Nat, i < xs.length ∧ latR xs = (i : Int) := by
  rcases lat_or xs with ⟨e, _⟩ | ⟨i, hi, e, _⟩
  · exact .inl e
  · exact .inr ⟨i, hi, e⟩

theorem nxt_range (xs : List Seg) : nxtR xs < 0 ∨ ∃ i : Nat, i < xs.length ∧ nxtR xs = i := by
  rcases nxt_or xs with ⟨e, _⟩ | ⟨k, hk2, e, _⟩
  · exact .inl (by omega)
  · exact .inr ⟨(latR xs + 1 + (k : Nat)).toNat % xs.length, Nat.mod_lt _ (by omega), e⟩

set_option maxRecDepth 100000 in
set_option maxHeartbeats 4000000 in
theorem ref_open {w : World} {A : Option Addr} {n cap : Nat} {xs : List Seg} (h : RowZ w (· < w.heap.size) A n xs) (hnil : A = none → cap = 0) (sec g : Int) (hn : n ≤ 40) (hpos : PosG xs n) :
    Calls Try.prog 52 #[ringV sec A n cap, .int .u64 g] w fun e w' => OpenT w sec xs g e w' := by
  have HX := Lib.hid h
  have HV0 := Lib.hid (OW.start w sec A n cap)
  have HL := Lib.hid (ref_latest (cap := cap) (row_now h HV0.out.1) sec hn)
  have HR := Lib.hid (fun (W : World) (hh : RowZ W (· < W.heap.size) A n xs) => ref_right (cap := cap) hh sec hn hpos)
  have HO := Lib.hid (fun (W : World) (hh : RowZ W (· < W.heap.size) A n xs) => ref_opened (cap := cap) hh sec hn)
  have HN := Lib.hid (fun (W : World) (hh : RowZ W (· < W.heap.size) A n xs) => ref_next (cap := cap) hh sec hn)
  have HNIL := Lib.hid hnil
  clear h hpos hnil
  by_cases hk : OkR sec xs
  case neg =>
    rw [decide_eq_false hk] at HR
    have HE := Lib.hid (open_bad (g := g) hk)
    clear hk
    generalize latR xs = a at *
    go_enter Try.func52, Try.ntmps52
    go_wp2_with fail
    refine HL.out.mono ?_
    rintro e w1 ⟨rfl, hb1⟩
    have HV1 := Lib.hid (HV0.out.next hb1)
    obtain ⟨q0, q1, q3, q4, f3, f4⟩ := HV1.out.cells
    clear hb1
    go_wp2_with fail
    refine (HR.out _ (row_now HX.out HV1.out.1)).mono ?_
    rintro e w2 ⟨rfl, hb2⟩
    have HV2 := Lib.hid (HV1.out.next hb2)
    clear hb2 q0 q1 q3 q4 f3 f4
    obtain ⟨q0, q1, q3, q4, f3, f4⟩ := HV2.out.cells
    go_wp2_with fail
    refine (HR.out _ (row_now HX.out HV2.out.1)).mono ?_
    rintro e w3 ⟨rfl, hb3⟩
    have HV3 := Lib.hid (HV2.out.next hb3)
    clear hb3 q0 q1 q3 q4 f3 f4
    obtain ⟨q0, q1, q3, q4, f3, f4⟩ := HV3.out.cells
    go_wp2_with (with_reducible refine halt_end ?_)
    exact Halt.ret (results_row3 (p := 4) (u := 5) (v := 6) rfl _ _ (w.heap.size + 1) 66 #[.int .i64 0, .slice none 0 0] _ rfl (HV3.out.res 0 none 0 0) Try.underlying66 rfl size_ring) rfl (OpenT.no HE.out (by decide) (HV3.out.below _ _))
  rw [decide_eq_true hk] at HR
  have HK := Lib.hid hk
  obtain ⟨T, hT⟩ : ∃ T, topG xs = T := ⟨_, rfl⟩
  have HT := Lib.hid hT
  obtain ⟨o, ho⟩ : ∃ o, opnR xs = o := ⟨_, rfl⟩
  have HOO := Lib.hid ho
  obtain ⟨x, hx⟩ : ∃ x, nxtR xs = x := ⟨_, rfl⟩
  have HNX := Lib.hid hx
  have HNR := Lib.hid (show x < 0 ∨ ∃ i : Nat, i < n ∧ x = i by rw [← hx, ← HX.out.1]; exact nxt_range xs)
  rw [ho] at HO
  rw [hx] at HN
  have hlr := lat_range xs
  have HTT := Lib.hid (show topG xs = if latR xs < 0 then 0 else genG xs (latR xs).toNat from rfl)
  clear hk hT ho hx
  rcases hlr with hl | ⟨m, hm, hl⟩
  · have hT0 : T = 0 := by rw [← HT.out, HTT.out, hl]; rfl
    subst hT0
    rw [hl] at HL
    clear hl
    by_cases ho : 0 ≤ o
    · have d1 : decide (0 ≤ o) = true := decide_eq_true ho
      have HE := Lib.hid (open_state (g := g) HK.out (by rw [HOO.out]; exact ho))
      go_enter Try.func52, Try.ntmps52
      go_wp2_with fail
      refine HL.out.mono ?_
      rintro e w1 ⟨rfl, hb1⟩
      have HV1 := Lib.hid (HV0.out.next hb1)
      obtain ⟨q0, q1, q3, q4, f3, f4⟩ := HV1.out.cells
      clear hb1
      go_wp2_with fail
      refine (HR.out _ (row_now HX.out HV1.out.1)).mono ?_
      rintro e w2 ⟨rfl, hb2⟩
      have HV2 := Lib.hid (HV1.out.next hb2)
      clear hb2 q0 q1 q3 q4 f3 f4
      obtain ⟨q0, q1, q3, q4, f3, f4⟩ := HV2.out.cells
      go_wp2_with fail
      refine (HR.out _ (row_now HX.out HV2.out.1)).mono ?_
      rintro e w3 ⟨rfl, hb3⟩
      have HV3 := Lib.hid (HV2.out.next hb3)
      clear hb3 q0 q1 q3 q4 f3 f4
      obtain ⟨q0, q1, q3, q4, f3, f4⟩ := HV3.out.cells
      go_wp2_with fail
      refine (HO.out _ (row_now HX.out HV3.out.1)).mono ?_
      rintro e w4 ⟨rfl, hb4⟩
      have HV4 := Lib.hid (HV3.out.next hb4)
      clear hb4 q0 q1 q3 q4 f3 f4
      obtain ⟨q0, q1, q3, q4, f3, f4⟩ := HV4.out.cells
      go_wp2_with (with_reducible refine halt_end ?_)
      exact Halt.ret (results_row3 (p := 4) (u := 5) (v := 6) rfl _ _ (w.heap.size + 1) 66 #[.int .i64 0, .slice none 0 0] _ rfl (HV4.out.res 0 none 0 0) Try.underlying66 rfl size_ring) rfl (OpenT.no HE.out (by decide) (HV4.out.below _ _))
    have d1 : decide (0 ≤ o) = false := decide_eq_false ho
    have HNO := Lib.hid (show ¬ 0 ≤ opnR xs by rw [HOO.out]; exact ho)
    by_cases hg : g ≤ 0
    · have d2 : decide (g ≤ 0) = true := decide_eq_true hg
      have HE := Lib.hid (open_arg (g := g) HK.out HNO.out (by rw [HT.out]; exact hg))
      go_enter Try.func52, Try.ntmps52
      go_wp2_with fail
      refine HL.out.mono ?_
      rintro e w1 ⟨rfl, hb1⟩
      have HV1 := Lib.hid (HV0.out.next hb1)
      obtain ⟨q0, q1, q3, q4, f3, f4⟩ := HV1.out.cells
      clear hb1
      go_wp2_with fail
      refine (HR.out _ (row_now HX.out HV1.out.1)).mono ?_
      rintro e w2 ⟨rfl, hb2⟩
      have HV2 := Lib.hid (HV1.out.next hb2)
      clear hb2 q0 q1 q3 q4 f3 f4
      obtain ⟨q0, q1, q3, q4, f3, f4⟩ := HV2.out.cells
      go_wp2_with fail
      refine (HR.out _ (row_now HX.out HV2.out.1)).mono ?_
      rintro e w3 ⟨rfl, hb3⟩
      have HV3 := Lib.hid (HV2.out.next hb3)
      clear hb3 q0 q1 q3 q4 f3 f4
      obtain ⟨q0, q1, q3, q4, f3, f4⟩ := HV3.out.cells
      go_wp2_with fail
      refine (HO.out _ (row_now HX.out HV3.out.1)).mono ?_
      rintro e w4 ⟨rfl, hb4⟩
      have HV4 := Lib.hid (HV3.out.next hb4)
      clear hb4 q0 q1 q3 q4 f3 f4
      obtain ⟨q0, q1, q3, q4, f3, f4⟩ := HV4.out.cells
      go_wp2_with (with_reducible refine halt_end ?_)
      exact Halt.ret (results_row3 (p := 4) (u := 5) (v := 6) rfl _ _ (w.heap.size + 1) 66 #[.int .i64 0, .slice none 0 0] _ rfl (HV4.out.res 0 none 0 0) Try.underlying66 rfl size_ring) rfl (OpenT.no HE.out (by decide) (HV4.out.below _ _))
    have d2 : decide (g ≤ 0) = false := decide_eq_false hg
    have HNG := Lib.hid (show ¬ g ≤ topG xs by rw [HT.out]; exact hg)
    by_cases hx : x < 0
    · have d3 : decide (x < 0) = true := decide_eq_true hx
      have HE := Lib.hid (open_full (g := g) HK.out HNO.out HNG.out (by rw [HNX.out]; exact hx))
      go_enter Try.func52, Try.ntmps52
      go_wp2_with fail
      refine HL.out.mono ?_
      rintro e w1 ⟨rfl, hb1⟩
      have HV1 := Lib.hid (HV0.out.next hb1)
      obtain ⟨q0, q1, q3, q4, f3, f4⟩ := HV1.out.cells
      clear hb1
      go_wp2_with fail
      refine (HR.out _ (row_now HX.out HV1.out.1)).mono ?_
      rintro e w2 ⟨rfl, hb2⟩
      have HV2 := Lib.hid (HV1.out.next hb2)
      clear hb2 q0 q1 q3 q4 f3 f4
      obtain ⟨q0, q1, q3, q4, f3, f4⟩ := HV2.out.cells
      go_wp2_with fail
      refine (HR.out _ (row_now HX.out HV2.out.1)).mono ?_
      rintro e w3 ⟨rfl, hb3⟩
      have HV3 := Lib.hid (HV2.out.next hb3)
      clear hb3 q0 q1 q3 q4 f3 f4
      obtain ⟨q0, q1, q3, q4, f3, f4⟩ := HV3.out.cells
      go_wp2_with fail
      refine (HO.out _ (row_now HX.out HV3.out.1)).mono ?_
      rintro e w4 ⟨rfl, hb4⟩
      have HV4 := Lib.hid (HV3.out.next hb4)
      clear hb4 q0 q1 q3 q4 f3 f4
      obtain ⟨q0, q1, q3, q4, f3, f4⟩ := HV4.out.cells
      go_wp2_with fail
      refine (HN.out _ (row_now HX.out HV4.out.1)).mono ?_
      rintro e w5 ⟨rfl, hb5⟩
      have HV5 := Lib.hid (HV4.out.next hb5)
      clear hb5 q0 q1 q3 q4 f3 f4
      obtain ⟨q0, q1, q3, q4, f3, f4⟩ := HV5.out.cells
      go_wp2_with (with_reducible refine halt_end ?_)
      exact Halt.ret (results_row3 (p := 4) (u := 5) (v := 6) rfl _ _ (w.heap.size + 1) 66 #[.int .i64 0, .slice none 0 0] _ rfl (HV5.out.res 0 none 0 0) Try.underlying66 rfl size_ring) rfl (OpenT.no HE.out (by decide) (HV5.out.below _ _))
    obtain ⟨i, hi, rfl⟩ : ∃ i : Nat, i < n ∧ x = i := by
      rcases HNR.out with h | h
      · exact absurd h hx
      · exact h
    have d3 : decide ((i : Int) < 0) = false := decide_eq_false hx
    have HE := Lib.hid (open_go (g := g) HK.out HNO.out HNG.out (by rw [HNX.out]; exact hx))
    have HXX := Lib.hid (show openX xs g = xs.set i (1, g, 1) by unfold openX; rw [HNX.out, Int.toNat_natCast])
    go_enter Try.func52, Try.ntmps52
    go_wp2_with fail
    refine HL.out.mono ?_
    rintro e w1 ⟨rfl, hb1⟩
    have HV1 := Lib.hid (HV0.out.next hb1)
    obtain ⟨q0, q1, q3, q4, f3, f4⟩ := HV1.out.cells
    clear hb1
    go_wp2_with fail
    refine (HR.out _ (row_now HX.out HV1.out.1)).mono ?_
    rintro e w2 ⟨rfl, hb2⟩
    have HV2 := Lib.hid (HV1.out.next hb2)
    clear hb2 q0 q1 q3 q4 f3 f4
    obtain ⟨q0, q1, q3, q4, f3, f4⟩ := HV2.out.cells
    go_wp2_with fail
    refine (HR.out _ (row_now HX.out HV2.out.1)).mono ?_
    rintro e w3 ⟨rfl, hb3⟩
    have HV3 := Lib.hid (HV2.out.next hb3)
    clear hb3 q0 q1 q3 q4 f3 f4
    obtain ⟨q0, q1, q3, q4, f3, f4⟩ := HV3.out.cells
    go_wp2_with fail
    refine (HO.out _ (row_now HX.out HV3.out.1)).mono ?_
    rintro e w4 ⟨rfl, hb4⟩
    have HV4 := Lib.hid (HV3.out.next hb4)
    clear hb4 q0 q1 q3 q4 f3 f4
    obtain ⟨q0, q1, q3, q4, f3, f4⟩ := HV4.out.cells
    go_wp2_with fail
    refine (HN.out _ (row_now HX.out HV4.out.1)).mono ?_
    rintro e w5 ⟨rfl, hb5⟩
    have HV5 := Lib.hid (HV4.out.next hb5)
    clear hb5 q0 q1 q3 q4 f3 f4
    obtain ⟨q0, q1, q3, q4, f3, f4⟩ := HV5.out.cells
    go_wp2_with fail
    refine (HN.out _ (row_now HX.out HV5.out.1)).mono ?_
    rintro e w6 ⟨rfl, hb6⟩
    have HV6 := Lib.hid (HV5.out.next hb6)
    clear hb6 q0 q1 q3 q4 f3 f4
    obtain ⟨q0, q1, q3, q4, f3, f4⟩ := HV6.out.cells
    go_wp2_with fail
    refine (ref_with (row_now HX.out HV6.out.1) HNIL.out sec (by omega) i hi (1, g, 1)).mono ?_
    rintro e w7 ⟨⟨A', cap', rfl, hown7⟩, hb7⟩
    have HV7 := Lib.hid (HV6.out.next hb7)
    have HO7 := Lib.hid (OwnZ.of (by rw [List.length_set]; exact HX.out.1) hown7)
    clear hb7 hown7 q0 q1 q3 q4 f3 f4
    obtain ⟨q0, q1, q3, q4, f3, f4⟩ := HV7.out.cells
    go_wp2_with (with_reducible refine halt_end ?_)
    have hlt := HV6.out.lt
    have hown := ((HO7.out.far (p := ⟨w.heap.size + 1, 0, none⟩) hlt (.int .i64 sec)).far (p := ⟨w.heap.size + 1, 1, none⟩) hlt (.slice A' n cap')).base HV6.out.1.size
    rw [← HXX.out] at hown
    refine Halt.ret (results_row3 (p := 4) (u := 5) (v := 6) rfl _ _ (w.heap.size + 1) 66 #[.int .i64 sec, .slice A' n cap'] _ rfl (HV7.out.res sec A' n cap') Try.underlying66 rfl size_ring) rfl ⟨.inl ⟨HE.out, _, ?_, ⟨A', n, cap', rfl, hown⟩⟩, HV7.out.below _ _⟩
    rw [HNX.out]
    rfl
  · have hmn : m < n := by rw [← HX.out.1]; exact hm
    obtain ⟨b, off, hA, hbb, hcc⟩ := seg_get HX.out hmn
    have hTm : genG xs m = T := by rw [← HT.out, HTT.out, hl, if_neg (by omega), Int.toNat_natCast]
    have HCC := Lib.hid (show w.cell? ⟨b, off + m * 3 + 1, none⟩ = some (.int .u64 T) by rw [← hTm]; exact (hcc m hmn).2.1)
    subst hA
    rw [hl] at HL
    clear hl hm hcc hTm
    by_cases ho : 0 ≤ o
    · have d1 : decide (0 ≤ o) = true := decide_eq_true ho
      have HE := Lib.hid (open_state (g := g) HK.out (by rw [HOO.out]; exact ho))
      go_enter Try.func52, Try.ntmps52
      go_wp2_with fail
      refine HL.out.mono ?_
      rintro e w1 ⟨rfl, hb1⟩
      have HV1 := Lib.hid (HV0.out.next hb1)
      obtain ⟨q0, q1, q3, q4, f3, f4⟩ := HV1.out.cells
      clear hb1
      go_wp2_with fail
      refine (HR.out _ (row_now HX.out HV1.out.1)).mono ?_
      rintro e w2 ⟨rfl, hb2⟩
      have HV2 := Lib.hid (HV1.out.next hb2)
      have kG : w2.cell? ⟨b, off + m * 3 + 1, none⟩ = some (.int .u64 T) := (Below.cell HV2.out.1 (p := ⟨b, _, none⟩) hbb).trans HCC.out
      clear hb2 q0 q1 q3 q4 f3 f4
      obtain ⟨q0, q1, q3, q4, f3, f4⟩ := HV2.out.cells
      go_wp2_with fail
      refine (HR.out _ (row_now HX.out HV2.out.1)).mono ?_
      rintro e w3 ⟨rfl, hb3⟩
      have HV3 := Lib.hid (HV2.out.next hb3)
      clear hb3 q0 q1 q3 q4 f3 f4
      obtain ⟨q0, q1, q3, q4, f3, f4⟩ := HV3.out.cells
      go_wp2_with fail
      refine (HO.out _ (row_now HX.out HV3.out.1)).mono ?_
      rintro e w4 ⟨rfl, hb4⟩
      have HV4 := Lib.hid (HV3.out.next hb4)
      clear hb4 q0 q1 q3 q4 f3 f4
      obtain ⟨q0, q1, q3, q4, f3, f4⟩ := HV4.out.cells
      go_wp2_with (with_reducible refine halt_end ?_)
      exact Halt.ret (results_row3 (p := 4) (u := 5) (v := 6) rfl _ _ (w.heap.size + 1) 66 #[.int .i64 0, .slice none 0 0] _ rfl (HV4.out.res 0 none 0 0) Try.underlying66 rfl size_ring) rfl (OpenT.no HE.out (by decide) (HV4.out.below _ _))
    have d1 : decide (0 ≤ o) = false := decide_eq_false ho
    have HNO := Lib.hid (show ¬ 0 ≤ opnR xs by rw [HOO.out]; exact ho)
    by_cases hg : g ≤ T
    · have d2 : decide (g ≤ T) = true := decide_eq_true hg
      have HE := Lib.hid (open_arg (g := g) HK.out HNO.out (by rw [HT.out]; exact hg))
      go_enter Try.func52, Try.ntmps52
      go_wp2_with fail
      refine HL.out.mono ?_
      rintro e w1 ⟨rfl, hb1⟩
      have HV1 := Lib.hid (HV0.out.next hb1)
      obtain ⟨q0, q1, q3, q4, f3, f4⟩ := HV1.out.cells
      clear hb1
      go_wp2_with fail
      refine (HR.out _ (row_now HX.out HV1.out.1)).mono ?_
      rintro e w2 ⟨rfl, hb2⟩
      have HV2 := Lib.hid (HV1.out.next hb2)
      have kG : w2.cell? ⟨b, off + m * 3 + 1, none⟩ = some (.int .u64 T) := (Below.cell HV2.out.1 (p := ⟨b, _, none⟩) hbb).trans HCC.out
      clear hb2 q0 q1 q3 q4 f3 f4
      obtain ⟨q0, q1, q3, q4, f3, f4⟩ := HV2.out.cells
      go_wp2_with fail
      refine (HR.out _ (row_now HX.out HV2.out.1)).mono ?_
      rintro e w3 ⟨rfl, hb3⟩
      have HV3 := Lib.hid (HV2.out.next hb3)
      clear hb3 q0 q1 q3 q4 f3 f4
      obtain ⟨q0, q1, q3, q4, f3, f4⟩ := HV3.out.cells
      go_wp2_with fail
      refine (HO.out _ (row_now HX.out HV3.out.1)).mono ?_
      rintro e w4 ⟨rfl, hb4⟩
      have HV4 := Lib.hid (HV3.out.next hb4)
      clear hb4 q0 q1 q3 q4 f3 f4
      obtain ⟨q0, q1, q3, q4, f3, f4⟩ := HV4.out.cells
      go_wp2_with (with_reducible refine halt_end ?_)
      exact Halt.ret (results_row3 (p := 4) (u := 5) (v := 6) rfl _ _ (w.heap.size + 1) 66 #[.int .i64 0, .slice none 0 0] _ rfl (HV4.out.res 0 none 0 0) Try.underlying66 rfl size_ring) rfl (OpenT.no HE.out (by decide) (HV4.out.below _ _))
    have d2 : decide (g ≤ T) = false := decide_eq_false hg
    have HNG := Lib.hid (show ¬ g ≤ topG xs by rw [HT.out]; exact hg)
    by_cases hx : x < 0
    · have d3 : decide (x < 0) = true := decide_eq_true hx
      have HE := Lib.hid (open_full (g := g) HK.out HNO.out HNG.out (by rw [HNX.out]; exact hx))
      go_enter Try.func52, Try.ntmps52
      go_wp2_with fail
      refine HL.out.mono ?_
      rintro e w1 ⟨rfl, hb1⟩
      have HV1 := Lib.hid (HV0.out.next hb1)
      obtain ⟨q0, q1, q3, q4, f3, f4⟩ := HV1.out.cells
      clear hb1
      go_wp2_with fail
      refine (HR.out _ (row_now HX.out HV1.out.1)).mono ?_
      rintro e w2 ⟨rfl, hb2⟩
      have HV2 := Lib.hid (HV1.out.next hb2)
      have kG : w2.cell? ⟨b, off + m * 3 + 1, none⟩ = some (.int .u64 T) := (Below.cell HV2.out.1 (p := ⟨b, _, none⟩) hbb).trans HCC.out
      clear hb2 q0 q1 q3 q4 f3 f4
      obtain ⟨q0, q1, q3, q4, f3, f4⟩ := HV2.out.cells
      go_wp2_with fail
      refine (HR.out _ (row_now HX.out HV2.out.1)).mono ?_
      rintro e w3 ⟨rfl, hb3⟩
      have HV3 := Lib.hid (HV2.out.next hb3)
      clear hb3 q0 q1 q3 q4 f3 f4
      obtain ⟨q0, q1, q3, q4, f3, f4⟩ := HV3.out.cells
      go_wp2_with fail
      refine (HO.out _ (row_now HX.out HV3.out.1)).mono ?_
      rintro e w4 ⟨rfl, hb4⟩
      have HV4 := Lib.hid (HV3.out.next hb4)
      clear hb4 q0 q1 q3 q4 f3 f4
      obtain ⟨q0, q1, q3, q4, f3, f4⟩ := HV4.out.cells
      go_wp2_with fail
      refine (HN.out _ (row_now HX.out HV4.out.1)).mono ?_
      rintro e w5 ⟨rfl, hb5⟩
      have HV5 := Lib.hid (HV4.out.next hb5)
      clear hb5 q0 q1 q3 q4 f3 f4
      obtain ⟨q0, q1, q3, q4, f3, f4⟩ := HV5.out.cells
      go_wp2_with (with_reducible refine halt_end ?_)
      exact Halt.ret (results_row3 (p := 4) (u := 5) (v := 6) rfl _ _ (w.heap.size + 1) 66 #[.int .i64 0, .slice none 0 0] _ rfl (HV5.out.res 0 none 0 0) Try.underlying66 rfl size_ring) rfl (OpenT.no HE.out (by decide) (HV5.out.below _ _))
    obtain ⟨i, hi, rfl⟩ : ∃ i : Nat, i < n ∧ x = i := by
      rcases HNR.out with h | h
      · exact absurd h hx
      · exact h
    have d3 : decide ((i : Int) < 0) = false := decide_eq_false hx
    have HE := Lib.hid (open_go (g := g) HK.out HNO.out HNG.out (by rw [HNX.out]; exact hx))
    have HXX := Lib.hid (show openX xs g = xs.set i (1, g, 1) by unfold openX; rw [HNX.out, Int.toNat_natCast])
    go_enter Try.func52, Try.ntmps52
    go_wp2_with fail
    refine HL.out.mono ?_
    rintro e w1 ⟨rfl, hb1⟩
    have HV1 := Lib.hid (HV0.out.next hb1)
    obtain ⟨q0, q1, q3, q4, f3, f4⟩ := HV1.out.cells
    clear hb1
    go_wp2_with fail
    refine (HR.out _ (row_now HX.out HV1.out.1)).mono ?_
    rintro e w2 ⟨rfl, hb2⟩
    have HV2 := Lib.hid (HV1.out.next hb2)
    have kG : w2.cell? ⟨b, off + m * 3 + 1, none⟩ = some (.int .u64 T) := (Below.cell HV2.out.1 (p := ⟨b, _, none⟩) hbb).trans HCC.out
    clear hb2 q0 q1 q3 q4 f3 f4
    obtain ⟨q0, q1, q3, q4, f3, f4⟩ := HV2.out.cells
    go_wp2_with fail
    refine (HR.out _ (row_now HX.out HV2.out.1)).mono ?_
    rintro e w3 ⟨rfl, hb3⟩
    have HV3 := Lib.hid (HV2.out.next hb3)
    clear hb3 q0 q1 q3 q4 f3 f4
    obtain ⟨q0, q1, q3, q4, f3, f4⟩ := HV3.out.cells
    go_wp2_with fail
    refine (HO.out _ (row_now HX.out HV3.out.1)).mono ?_
    rintro e w4 ⟨rfl, hb4⟩
    have HV4 := Lib.hid (HV3.out.next hb4)
    clear hb4 q0 q1 q3 q4 f3 f4
    obtain ⟨q0, q1, q3, q4, f3, f4⟩ := HV4.out.cells
    go_wp2_with fail
    refine (HN.out _ (row_now HX.out HV4.out.1)).mono ?_
    rintro e w5 ⟨rfl, hb5⟩
    have HV5 := Lib.hid (HV4.out.next hb5)
    clear hb5 q0 q1 q3 q4 f3 f4
    obtain ⟨q0, q1, q3, q4, f3, f4⟩ := HV5.out.cells
    go_wp2_with fail
    refine (HN.out _ (row_now HX.out HV5.out.1)).mono ?_
    rintro e w6 ⟨rfl, hb6⟩
    have HV6 := Lib.hid (HV5.out.next hb6)
    clear hb6 q0 q1 q3 q4 f3 f4
    obtain ⟨q0, q1, q3, q4, f3, f4⟩ := HV6.out.cells
    go_wp2_with fail
    refine (ref_with (row_now HX.out HV6.out.1) HNIL.out sec (by omega) i hi (1, g, 1)).mono ?_
    rintro e w7 ⟨⟨A', cap', rfl, hown7⟩, hb7⟩
    have HV7 := Lib.hid (HV6.out.next hb7)
    have HO7 := Lib.hid (OwnZ.of (by rw [List.length_set]; exact HX.out.1) hown7)
    clear hb7 hown7 q0 q1 q3 q4 f3 f4
    obtain ⟨q0, q1, q3, q4, f3, f4⟩ := HV7.out.cells
    go_wp2_with (with_reducible refine halt_end ?_)
    have hlt := HV6.out.lt
    have hown := ((HO7.out.far (p := ⟨w.heap.size + 1, 0, none⟩) hlt (.int .i64 sec)).far (p := ⟨w.heap.size + 1, 1, none⟩) hlt (.slice A' n cap')).base HV6.out.1.size
    rw [← HXX.out] at hown
    refine Halt.ret (results_row3 (p := 4) (u := 5) (v := 6) rfl _ _ (w.heap.size + 1) 66 #[.int .i64 sec, .slice A' n cap'] _ rfl (HV7.out.res sec A' n cap') Try.underlying66 rfl size_ring) rfl ⟨.inl ⟨HE.out, _, ?_, ⟨A', n, cap', rfl, hown⟩⟩, HV7.out.below _ _⟩
    rw [HNX.out]
    rfl

end Go.Proofs.Ytkmbbfdjdmkjpaa
