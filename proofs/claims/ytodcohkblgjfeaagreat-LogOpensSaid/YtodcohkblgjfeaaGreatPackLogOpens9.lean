/- Texts of LogOpens, packed. -/
import Derived.Test.YtodcohkblgjfeaaGreatPackLogOpens8
import Derived.Deep.DeepCutAuto
namespace Go.Proofs.YtodcohkblgjfeaaGreat
set_option maxRecDepth 100000
open Go.RowKit
set_option linter.unusedVariables false
set_option linter.unusedSimpArgs false
set_option maxRecDepth 100000 in
set_option maxHeartbeats 2000000 in
theorem ref_next {w : World} {A : Option Addr} {n cap : Nat} {xs : List Seg} (h : RowZ w (· < w.heap.size) A n xs) (sec : Int) (hn : n ≤ 40) :
    Calls Tryz.prog 56 #[ringV sec A n cap] w fun e w' => e = .returned (.int .i64 (nxtR xs)) ∧ Below w.heap.size w w' := by
  have HX := Lib.hid h
  have HL := Lib.hid (ref_latest (w := w.alloc (.cells #[.int .i64 sec, .slice A n cap] 35)) (cap := cap) ((h.below ((Below.refl w.heap.size w).alloc (Nat.le_refl _) (.cells #[.int .i64 sec, .slice A n cap] 35)) (fun b h => h)).more (fun b h => Nat.lt_of_lt_of_le h (by simp))) sec hn)
  have hlat := ref_latest_sp xs xs.length
  rw [h.1] at hlat
  have e : latTo xs n = latR xs := by unfold latR; rw [h.1]
  have e2 : nxtR xs = nxtTo xs (latR xs) n := by unfold nxtR; rw [h.1]
  rw [e] at hlat
  rw [e2]
  clear h e e2
  generalize latR xs = a at *
  have HA := Lib.hid hlat
  clear hlat
  go_enter Tryz.func56, Tryz.ntmps56
  go_wp2_with (go_at_call 107; refine HL.out.mono ?_; rintro e w1 ⟨rfl, hb1⟩)
  have HB0 := Lib.hid ((Blk.new w 35 #[.int .i64 sec, .slice A n cap]).below hb1 (by simp))
  have HBE0 := Lib.hid (((Below.refl w.heap.size w).alloc (Nat.le_refl _) (.cells #[.int .i64 sec, .slice A n cap] 35)).trans (hb1.mono (by simp)))
  clear hb1
  go_loopw [4] (fun i wr => ∃ j : Nat, j ≤ n ∧ i = .int .i64 ((j + 1 : Nat) : Int) ∧ Blk wr w.heap.size 35 #[.int .i64 sec, .slice A n cap] ∧ Below w.heap.size w wr ∧ nxtTo xs a j = -1) (fun i _ => n + 1 - (intOf i).toNat)
  case atStart => exact ⟨0, Nat.zero_le _, rfl, HB0.out, HBE0.out, rfl⟩
  case round =>
    obtain ⟨j, hj, rfl, hb, hbel, ho⟩ := hrel
    have HB := Lib.hid hb
    have HBEL := Lib.hid hbel
    have HO := Lib.hid ho
    obtain ⟨k0, k1⟩ : wr.cell? ⟨w.heap.size, 0, none⟩ = some (.int .i64 sec) ∧ wr.cell? ⟨w.heap.size, 1, none⟩ = some (.slice A n cap) := ⟨hb.cell 0, hb.cell 1⟩
    clear hb hbel ho
    by_cases hlt : j < n
    · obtain ⟨m, hm⟩ : ∃ m : Nat, a + ((j + 1 : Nat) : Int) = m := ⟨(a + ((j + 1 : Nat) : Int)).toNat, by rcases HA.out with h | ⟨i, _, h⟩ <;> omega⟩
      have hm80 : m ≤ 80 := by rcases HA.out with h | ⟨i, _, h⟩ <;> omega
      have HM := Lib.hid hm
      clear hm
      have hmod : (wrap64 (a + ((j : Int) + 1))).tmod n = ((m % n : Nat) : Int) := by
        have e : wrap64 (a + ((j : Int) + 1)) = (m : Int) := by
          have h := HM.out
          rw [show a + ((j : Int) + 1) = (m : Int) by omega]
          unfold wrap64; omega
        rw [e]
        exact (Int.ofNat_tmod _ _).symm
      have hlm : m % n < n := Nat.mod_lt _ (by omega)
      obtain ⟨b, off, rfl, hbb, hcc⟩ := seg_get (HX.out.below HBEL.out (fun b h => h)) hlm
      obtain ⟨c0, c1, c2⟩ := hcc (m % n) hlm
      have e1 : nxtTo xs a (j + 1) = if stG xs (m % n) = 0 then ((m % n : Nat) : Int) else -1 := by
        conv => (lhs; unfold nxtTo)
        rw [HO.out, if_neg (by omega), show (a + 1 + (j : Int)).toNat = m by have := HM.out; omega, HX.out.1]
      have E1 := Lib.hid e1
      clear hcc e1 c1 c2
      generalize stG xs (m % n) = st at *
      generalize m % n = q at *
      by_cases h0 : st = 0
      · subst h0
        go_wp2
        go_ret
        have h2 := E1.out
        simp only [if_true] at h2
        obtain ⟨d, hd⟩ : ∃ d, n = (j + 1) + d := ⟨n - (j + 1), by omega⟩
        have e : nxtTo xs a n = (q : Int) := by rw [hd, nxt_stay xs a (by omega), h2]
        exact ⟨by rw [e]; rfl, HBEL.out⟩
      · have d0 : (st == 0) = false := by simpa using h0
        go_wp2
        go_roundw
        case rel => exact ⟨j + 1, by omega, by go_num, HB.out, HBEL.out, by rw [E1.out, if_neg h0]⟩
        case measure => simp [intOf]; omega
    · obtain rfl : j = n := by omega
      go_wp2
      go_ret
      exact ⟨by rw [HO.out]; rfl, HBEL.out⟩
end Go.Proofs.YtodcohkblgjfeaaGreat

namespace Go.Proofs.YtodcohkblgjfeaaGreat
set_option maxRecDepth 100000
open Go.RowKit
set_option linter.unusedVariables false
set_option linter.unusedSimpArgs false
def PosG (xs : List Seg) (n : Nat) : Prop := ∀ i, i < n → 0 ≤ genG xs i
theorem opn_range (xs : List Seg) : opnR xs = -1 ∨ ∃ i : Nat, i < xs.length ∧ opnR xs = (i : Int) := by
  rcases opn_spec xs xs.length with ⟨e, _⟩ | ⟨i, hi, e, _⟩
  · exact .inl e
  · exact .inr ⟨i, hi, e⟩
set_option maxRecDepth 100000 in
set_option maxHeartbeats 2000000 in
theorem ref_left {w : World} {A : Option Addr} {n cap : Nat} {xs : List Seg} (h : RowZ w (· < w.heap.size) A n xs) (sec : Int) (hn : n ≤ 40) (hpos : PosG xs n) :
    Calls Tryz.prog 54 #[ringV sec A n cap] w fun e w' => e = .returned (.int .i64 (leftW sec xs)) ∧ Below w.heap.size w w' := by
  have HX := Lib.hid h
  have HP := Lib.hid hpos
  have HB1 := Lib.hid ((Below.refl w.heap.size w).alloc (Nat.le_refl _) (.cells #[.int .i64 sec, .slice A n cap] 35))
  have HC := Lib.hid (ref_opened (cap := cap) (row_now h HB1.out) sec hn)
  have HR := Lib.hid (fun (W : World) (hh : RowZ W (· < W.heap.size) A n xs) => ref_right (cap := cap) hh sec hn hpos)
  clear h hpos
  by_cases hk : OkR sec xs
  case neg =>
    rw [decide_eq_false hk] at HR
    rw [show leftW sec xs = 0 from if_neg hk]
    clear hk
    generalize opnR xs = o at *
    go_enter Tryz.func54, Tryz.ntmps54
    go_wp2_with (first
      | (go_at_call 36; refine HC.out.mono ?_; rintro e w1 ⟨rfl, hb1⟩; have HB2 := Lib.hid (ring_first hb1); obtain ⟨k0, k1⟩ := ring_cells HB2.out.2; clear hb1)
      | (go_at_call 35; refine (HR.out _ (row_now HX.out HB2.out.1)).mono ?_; rintro e w2 ⟨rfl, hb2⟩; have HB3 := Lib.hid (HB2.out.1.trans (hb2.mono HB2.out.1.size)); clear hb2))
    go_ret
    exact ⟨rfl, HB3.out⟩
  rw [decide_eq_true hk] at HR
  have HK := Lib.hid hk
  have hop := opn_or hk
  rw [show leftW sec xs = leftR sec xs from if_pos hk]
  clear hk
  rcases hop with ⟨ho, _⟩ | ⟨i, hi, ho, _, hs⟩
  · rw [show leftR sec xs = 0 from if_neg (by omega)]
    rw [ho] at HC
    clear ho
    go_enter Tryz.func54, Tryz.ntmps54
    go_wp2_with (first
      | (go_at_call 36; refine HC.out.mono ?_; rintro e w1 ⟨rfl, hb1⟩; have HB2 := Lib.hid (ring_first hb1); obtain ⟨k0, k1⟩ := ring_cells HB2.out.2; clear hb1)
      | (go_at_call 35; refine (HR.out _ (row_now HX.out HB2.out.1)).mono ?_; rintro e w2 ⟨rfl, hb2⟩; have HB3 := Lib.hid (HB2.out.1.trans (hb2.mono HB2.out.1.size)); clear hb2))
    go_ret
    exact ⟨rfl, HB3.out⟩
  · have hu := used_bound HK.out hi
    rw [show leftR sec xs = sec - usedG xs i by unfold leftR; rw [ho, if_pos (by omega), Int.toNat_natCast]]
    rw [ho] at HC
    have hin : i < n := by rw [← HX.out.1]; exact hi
    obtain ⟨b, off, rfl, hbb, hcc⟩ := seg_get HX.out hin
    have HCC := Lib.hid (hcc i hin).2.2
    clear ho hi hs hcc
    generalize usedG xs i = u at *
    go_enter Tryz.func54, Tryz.ntmps54
    go_wp2_with (first
      | (go_at_call 36; refine HC.out.mono ?_; rintro e w1 ⟨rfl, hb1⟩; have HB2 := Lib.hid (ring_first hb1); obtain ⟨k0, k1⟩ := ring_cells HB2.out.2; clear hb1)
      | (go_at_call 35; refine (HR.out _ (row_now HX.out HB2.out.1)).mono ?_; rintro e w2 ⟨rfl, hb2⟩; have HB3 := Lib.hid (HB2.out.1.trans (hb2.mono HB2.out.1.size)); have HK3 := Lib.hid (HB2.out.2.below hb2 HB2.out.2.lt); obtain ⟨q0, q1⟩ := ring_cells HK3.out; have kG : w2.cell? ⟨b, off + i * 3 + 2, none⟩ = some (.int .i64 u) := (Below.cell HB3.out (p := ⟨b, _, none⟩) hbb).trans HCC.out; clear hb2))
    go_quiet (fail)
    go_wp2
    go_ret
    exact ⟨rfl, below_drewN HB3.out _⟩
theorem OwnZ.of {w : World} {base : Nat} {A : Option Addr} {n cap : Nat} {xs : List Seg} (h1 : xs.length = n) (h : n ≤ cap ∧ (A = none → cap = 0) ∧ w.ownsRow base 128 3 (.slice A n cap) n (flatG xs)) : OwnZ w base A n cap xs := ⟨h1, h.2.2, h.2.1, h.1⟩
set_option maxRecDepth 100000 in
set_option maxHeartbeats 4000000 in
theorem ref_free {w : World} {A : Option Addr} {n cap : Nat} {xs : List Seg} (h : RowZ w (· < w.heap.size) A n xs) (hnil : A = none → cap = 0) (sec v : Int) (hn : n ≤ 40) (hpos : PosG xs n) :
    Calls Tryz.prog 73 #[ringV sec A n cap, .int .i64 v] w fun e w' => TurnT w sec (freeE sec xs v) (freeX xs v) e w' := by
  have HX := Lib.hid h
  have HV0 := Lib.hid (OW.start w sec A n cap)
  have HR := Lib.hid (ref_right (cap := cap) (row_now h HV0.out.1) sec hn hpos)
  have HNIL := Lib.hid hnil
  clear h hpos hnil
  by_cases hk : OkR sec xs
  case neg =>
    rw [decide_eq_false hk] at HR
    rw [free_bad hk]
    clear hk
    go_enter Tryz.func73, Tryz.ntmps73
    go_wp2_with (first
      | (go_at_call 35; refine HR.out.mono ?_; rintro e w1 ⟨rfl, hb1⟩; have HV1 := Lib.hid (HV0.out.next hb1); obtain ⟨q0, q1, q3, q4, f3, f4⟩ := HV1.out.cells; clear hb1)
      | (with_reducible refine halt_end ?_))
    exact Halt.ret (results_row2 (p := 4) (u := 5) rfl _ _ (w.heap.size + 1) 35 #[.int .i64 0, .slice none 0 0] _ rfl (HV1.out.res 0 none 0 0) Tryz.underlying35 rfl size_ring) rfl (TurnT.no (by decide) (HV1.out.below _ _))
  rw [decide_eq_true hk] at HR
  have HK := Lib.hid hk
  have hln := HX.out.1
  clear hk
  by_cases h1 : v < 0
  · have d1 : decide (v < 0) = true := decide_eq_true h1
    rw [free_arg HK.out (.inl h1)]
    go_enter Tryz.func73, Tryz.ntmps73
    go_wp2_with (first
      | (go_at_call 35; refine HR.out.mono ?_; rintro e w1 ⟨rfl, hb1⟩; have HV1 := Lib.hid (HV0.out.next hb1); obtain ⟨q0, q1, q3, q4, f3, f4⟩ := HV1.out.cells; clear hb1)
      | (with_reducible refine halt_end ?_))
    exact Halt.ret (results_row2 (p := 4) (u := 5) rfl _ _ (w.heap.size + 1) 35 #[.int .i64 0, .slice none 0 0] _ rfl (HV1.out.res 0 none 0 0) Tryz.underlying35 rfl size_ring) rfl (TurnT.no (by decide) (HV1.out.below _ _))
  have d1 : decide (v < 0) = false := decide_eq_false h1
  by_cases h2 : (n : Int) ≤ v
  · have d2 : decide ((n : Int) ≤ v) = true := decide_eq_true h2
    rw [free_arg HK.out (.inr (by rw [hln]; exact h2))]
    go_enter Tryz.func73, Tryz.ntmps73
    go_wp2_with (first
      | (go_at_call 35; refine HR.out.mono ?_; rintro e w1 ⟨rfl, hb1⟩; have HV1 := Lib.hid (HV0.out.next hb1); obtain ⟨q0, q1, q3, q4, f3, f4⟩ := HV1.out.cells; clear hb1)
      | (with_reducible refine halt_end ?_))
    exact Halt.ret (results_row2 (p := 4) (u := 5) rfl _ _ (w.heap.size + 1) 35 #[.int .i64 0, .slice none 0 0] _ rfl (HV1.out.res 0 none 0 0) Tryz.underlying35 rfl size_ring) rfl (TurnT.no (by decide) (HV1.out.below _ _))
  obtain ⟨i, rfl⟩ : ∃ i : Nat, v = i := ⟨v.toNat, by omega⟩
  have hin : i < n := by omega
  have d2 : decide ((n : Int) ≤ (i : Int)) = false := decide_eq_false h2
  obtain ⟨b, off, rfl, hbb, hcc⟩ := seg_get HX.out hin
  have HCC := Lib.hid (hcc i hin).1
  have HFS := Lib.hid (fun h2 => free_state HK.out (by rw [hln]; exact hin) h2)
  have HFG := Lib.hid (fun h2 => free_go HK.out (by rw [hln]; exact hin) h2)
  clear hcc hln h1 h2
  generalize stG xs i = st at *
  by_cases h3 : st = 2
  · subst h3
    have HXX := Lib.hid (show freeX xs i = xs.set i seg0 by unfold freeX; rw [Int.toNat_natCast])
    have HT := Lib.hid (fun (W : World) (hh : RowZ W (· < W.heap.size) (some ⟨b, off, none⟩) n xs) => ref_with hh HNIL.out sec (by omega) i hin seg0)
    rw [HFG.out rfl]
    go_enter Tryz.func73, Tryz.ntmps73
    go_wp2_with (first
      | (go_at_call 35; refine HR.out.mono ?_; rintro e w1 ⟨rfl, hb1⟩; have HV1 := Lib.hid (HV0.out.next hb1); obtain ⟨q0, q1, q3, q4, f3, f4⟩ := HV1.out.cells; have kG : w1.cell? ⟨b, off + i * 3, none⟩ = some (.int .i64 2) := (Below.cell HV1.out.1 (p := ⟨b, _, none⟩) hbb).trans HCC.out; clear hb1)
      | (go_at_call 106; refine (HT.out _ (row_now HX.out HV1.out.1)).mono ?_; rintro e w6 ⟨⟨A', cap', rfl, hown⟩, hb6⟩; have HV6 := Lib.hid (HV1.out.next hb6); obtain ⟨t0, t1, t3, t4, f9, f0⟩ := HV6.out.cells; have HOW := Lib.hid hown; clear hb6 hown)
      | (with_reducible refine halt_end ?_))
    have hlt := HV1.out.lt
    have hown := (((OwnZ.of (by rw [List.length_set]; exact HX.out.1) HOW.out).far (p := ⟨w.heap.size + 1, 0, none⟩) hlt (.int .i64 sec)).far (p := ⟨w.heap.size + 1, 1, none⟩) hlt (.slice A' n cap')).base HV1.out.1.size
    rw [← HXX.out] at hown
    exact Halt.ret (results_row2 (p := 4) (u := 5) rfl _ _ (w.heap.size + 1) 35 #[.int .i64 sec, .slice A' n cap'] _ rfl (HV6.out.res sec A' n cap') Tryz.underlying35 rfl size_ring) rfl ⟨.inl ⟨rfl, _, rfl, ⟨A', n, cap', rfl, hown⟩⟩, HV6.out.below _ _⟩
  · have d3 : (st != 2) = true := by simpa using h3
    rw [HFS.out h3]
    go_enter Tryz.func73, Tryz.ntmps73
    go_wp2_with (first
      | (go_at_call 35; refine HR.out.mono ?_; rintro e w1 ⟨rfl, hb1⟩; have HV1 := Lib.hid (HV0.out.next hb1); obtain ⟨q0, q1, q3, q4, f3, f4⟩ := HV1.out.cells; have kG : w1.cell? ⟨b, off + i * 3, none⟩ = some (.int .i64 st) := (Below.cell HV1.out.1 (p := ⟨b, _, none⟩) hbb).trans HCC.out; clear hb1)
      | (with_reducible refine halt_end ?_))
    exact Halt.ret (results_row2 (p := 4) (u := 5) rfl _ _ (w.heap.size + 1) 35 #[.int .i64 0, .slice none 0 0] _ rfl (HV1.out.res 0 none 0 0) Tryz.underlying35 rfl size_ring) rfl (TurnT.no (by decide) (HV1.out.below _ _))
end Go.Proofs.YtodcohkblgjfeaaGreat

namespace Go.Proofs.YtodcohkblgjfeaaGreat
set_option maxRecDepth 100000
open Go.RowKit
set_option linter.unusedVariables false
set_option linter.unusedSimpArgs false
theorem lat_range (xs : List Seg) : latR xs = -1 ∨ ∃ i : Nat, i < xs.length ∧ latR xs = (i : Int) := by
  rcases lat_or xs with ⟨e, _⟩ | ⟨i, hi, e, _⟩
  · exact .inl e
  · exact .inr ⟨i, hi, e⟩
theorem nxt_range (xs : List Seg) : nxtR xs < 0 ∨ ∃ i : Nat, i < xs.length ∧ nxtR xs = i := by
  rcases nxt_or xs with ⟨e, _⟩ | ⟨k, hk2, e, _⟩
  · exact .inl (by omega)
  · exact .inr ⟨(latR xs + 1 + (k : Nat)).toNat % xs.length, Nat.mod_lt _ (by omega), e⟩
set_option maxRecDepth 100000 in
set_option maxHeartbeats 4000000 in
theorem ref_open {w : World} {A : Option Addr} {n cap : Nat} {xs : List Seg} (h : RowZ w (· < w.heap.size) A n xs) (hnil : A = none → cap = 0) (sec g : Int) (hn : n ≤ 40) (hpos : PosG xs n) :
    Calls Tryz.prog 57 #[ringV sec A n cap, .int .u64 g] w fun e w' => OpenT w sec xs g e w' := by
  have HX := Lib.hid h
  have HV0 := Lib.hid (OW.start w sec A n cap)
  have HL := Lib.hid (ref_latest (cap := cap) (row_now h HV0.out.1) sec hn)
  have HR := Lib.hid (fun (W : World) (hh : RowZ W (· < W.heap.size) A n xs) => ref_right (cap := cap) hh sec hn hpos)
  have HO := Lib.hid (fun (W : World) (hh : RowZ W (· < W.heap.size) A n xs) => ref_opened (cap := cap) hh sec hn)
  have HN := Lib.hid (fun (W : World) (hh : RowZ W (· < W.heap.size) A n xs) => ref_next (cap := cap) hh sec hn)
  have HNIL := Lib.hid hnil
  clear h hpos hnil
  by_cases hk : OkR sec xs
  case neg =>
    rw [decide_eq_false hk] at HR
    have HE := Lib.hid (open_bad (g := g) hk)
    clear hk
    generalize latR xs = a at *
    go_enter Tryz.func57, Tryz.ntmps57
    go_wp2_with fail
    refine HL.out.mono ?_
    rintro e w1 ⟨rfl, hb1⟩
    have HV1 := Lib.hid (HV0.out.next hb1)
    obtain ⟨q0, q1, q3, q4, f3, f4⟩ := HV1.out.cells
    clear hb1
    go_wp2_with fail
    refine (HR.out _ (row_now HX.out HV1.out.1)).mono ?_
    rintro e w2 ⟨rfl, hb2⟩
    have HV2 := Lib.hid (HV1.out.next hb2)
    clear hb2 q0 q1 q3 q4 f3 f4
    obtain ⟨q0, q1, q3, q4, f3, f4⟩ := HV2.out.cells
    go_wp2_with fail
    refine (HR.out _ (row_now HX.out HV2.out.1)).mono ?_
    rintro e w3 ⟨rfl, hb3⟩
    have HV3 := Lib.hid (HV2.out.next hb3)
    clear hb3 q0 q1 q3 q4 f3 f4
    obtain ⟨q0, q1, q3, q4, f3, f4⟩ := HV3.out.cells
    go_wp2_with (with_reducible refine halt_end ?_)
    exact Halt.ret (results_row3 (p := 4) (u := 5) (v := 6) rfl _ _ (w.heap.size + 1) 35 #[.int .i64 0, .slice none 0 0] _ rfl (HV3.out.res 0 none 0 0) Tryz.underlying35 rfl size_ring) rfl (OpenT.no HE.out (by decide) (HV3.out.below _ _))
  rw [decide_eq_true hk] at HR
  have HK := Lib.hid hk
  obtain ⟨T, hT⟩ : ∃ T, topG xs = T := ⟨_, rfl⟩
  have HT := Lib.hid hT
  obtain ⟨o, ho⟩ : ∃ o, opnR xs = o := ⟨_, rfl⟩
  have HOO := Lib.hid ho
  obtain ⟨x, hx⟩ : ∃ x, nxtR xs = x := ⟨_, rfl⟩
  have HNX := Lib.hid hx
  have HNR := Lib.hid (show x < 0 ∨ ∃ i : Nat, i < n ∧ x = i by rw [← hx, ← HX.out.1]; exact nxt_range xs)
  rw [ho] at HO
  rw [hx] at HN
  have hlr := lat_range xs
  have HTT := Lib.hid (show topG xs = if latR xs < 0 then 0 else genG xs (latR xs).toNat from rfl)
  clear hk hT ho hx
  rcases hlr with hl | ⟨m, hm, hl⟩
  · have hT0 : T = 0 := by rw [← HT.out, HTT.out, hl]; rfl
    subst hT0
    rw [hl] at HL
    clear hl
    by_cases ho : 0 ≤ o
    · have d1 : decide (0 ≤ o) = true := decide_eq_true ho
      have HE := Lib.hid (open_state (g := g) HK.out (by rw [HOO.out]; exact ho))
      go_enter Tryz.func57, Tryz.ntmps57
      go_wp2_with fail
      refine HL.out.mono ?_
      rintro e w1 ⟨rfl, hb1⟩
      have HV1 := Lib.hid (HV0.out.next hb1)
      obtain ⟨q0, q1, q3, q4, f3, f4⟩ := HV1.out.cells
      clear hb1
      go_wp2_with fail
      refine (HR.out _ (row_now HX.out HV1.out.1)).mono ?_
      rintro e w2 ⟨rfl, hb2⟩
      have HV2 := Lib.hid (HV1.out.next hb2)
      clear hb2 q0 q1 q3 q4 f3 f4
      obtain ⟨q0, q1, q3, q4, f3, f4⟩ := HV2.out.cells
      go_wp2_with fail
      refine (HR.out _ (row_now HX.out HV2.out.1)).mono ?_
      rintro e w3 ⟨rfl, hb3⟩
      have HV3 := Lib.hid (HV2.out.next hb3)
      clear hb3 q0 q1 q3 q4 f3 f4
      obtain ⟨q0, q1, q3, q4, f3, f4⟩ := HV3.out.cells
      go_wp2_with fail
      refine (HO.out _ (row_now HX.out HV3.out.1)).mono ?_
      rintro e w4 ⟨rfl, hb4⟩
      have HV4 := Lib.hid (HV3.out.next hb4)
      clear hb4 q0 q1 q3 q4 f3 f4
      obtain ⟨q0, q1, q3, q4, f3, f4⟩ := HV4.out.cells
      go_wp2_with (with_reducible refine halt_end ?_)
      exact Halt.ret (results_row3 (p := 4) (u := 5) (v := 6) rfl _ _ (w.heap.size + 1) 35 #[.int .i64 0, .slice none 0 0] _ rfl (HV4.out.res 0 none 0 0) Tryz.underlying35 rfl size_ring) rfl (OpenT.no HE.out (by decide) (HV4.out.below _ _))
    have d1 : decide (0 ≤ o) = false := decide_eq_false ho
    have HNO := Lib.hid (show ¬ 0 ≤ opnR xs by rw [HOO.out]; exact ho)
    by_cases hg : g ≤ 0
    · have d2 : decide (g ≤ 0) = true := decide_eq_true hg
      have HE := Lib.hid (open_arg (g := g) HK.out HNO.out (by rw [HT.out]; exact hg))
      go_enter Tryz.func57, Tryz.ntmps57
      go_wp2_with fail
      refine HL.out.mono ?_
      rintro e w1 ⟨rfl, hb1⟩
      have HV1 := Lib.hid (HV0.out.next hb1)
      obtain ⟨q0, q1, q3, q4, f3, f4⟩ := HV1.out.cells
      clear hb1
      go_wp2_with fail
      refine (HR.out _ (row_now HX.out HV1.out.1)).mono ?_
      rintro e w2 ⟨rfl, hb2⟩
      have HV2 := Lib.hid (HV1.out.next hb2)
      clear hb2 q0 q1 q3 q4 f3 f4
      obtain ⟨q0, q1, q3, q4, f3, f4⟩ := HV2.out.cells
      go_wp2_with fail
      refine (HR.out _ (row_now HX.out HV2.out.1)).mono ?_
      rintro e w3 ⟨rfl, hb3⟩
      have HV3 := Lib.hid (HV2.out.next hb3)
      clear hb3 q0 q1 q3 q4 f3 f4
      obtain ⟨q0, q1, q3, q4, f3, f4⟩ := HV3.out.cells
      go_wp2_with fail
      refine (HO.out _ (row_now HX.out HV3.out.1)).mono ?_
      rintro e w4 ⟨rfl, hb4⟩
      have HV4 := Lib.hid (HV3.out.next hb4)
      clear hb4 q0 q1 q3 q4 f3 f4
      obtain ⟨q0, q1, q3, q4, f3, f4⟩ := HV4.out.cells
      go_wp2_with (with_reducible refine halt_end ?_)
      exact Halt.ret (results_row3 (p := 4) (u := 5) (v := 6) rfl _ _ (w.heap.size + 1) 35 #[.int .i64 0, .slice none 0 0] _ rfl (HV4.out.res 0 none 0 0) Tryz.underlying35 rfl size_ring) rfl (OpenT.no HE.out (by decide) (HV4.out.below _ _))
    have d2 : decide (g ≤ 0) = false := decide_eq_false hg
    have HNG := Lib.hid (show ¬ g ≤ topG xs by rw [HT.out]; exact hg)
    by_cases hx : x < 0
    · have d3 : decide (x < 0) = true := decide_eq_true hx
      have HE := Lib.hid (open_full (g := g) HK.out HNO.out HNG.out (by rw [HNX.out]; exact hx))
      go_enter Tryz.func57, Tryz.ntmps57
      go_wp2_with fail
      refine HL.out.mono ?_
      rintro e w1 ⟨rfl, hb1⟩
      have HV1 := Lib.hid (HV0.out.next hb1)
      obtain ⟨q0, q1, q3, q4, f3, f4⟩ := HV1.out.cells
      clear hb1
      go_wp2_with fail
      refine (HR.out _ (row_now HX.out HV1.out.1)).mono ?_
      rintro e w2 ⟨rfl, hb2⟩
      have HV2 := Lib.hid (HV1.out.next hb2)
      clear hb2 q0 q1 q3 q4 f3 f4
      obtain ⟨q0, q1, q3, q4, f3, f4⟩ := HV2.out.cells
      go_wp2_with fail
      refine (HR.out _ (row_now HX.out HV2.out.1)).mono ?_
      rintro e w3 ⟨rfl, hb3⟩
      have HV3 := Lib.hid (HV2.out.next hb3)
      clear hb3 q0 q1 q3 q4 f3 f4
      obtain ⟨q0, q1, q3, q4, f3, f4⟩ := HV3.out.cells
      go_wp2_with fail
      refine (HO.out _ (row_now HX.out HV3.out.1)).mono ?_
      rintro e w4 ⟨rfl, hb4⟩
      have HV4 := Lib.hid (HV3.out.next hb4)
      clear hb4 q0 q1 q3 q4 f3 f4
      obtain ⟨q0, q1, q3, q4, f3, f4⟩ := HV4.out.cells
      go_wp2_with fail
      refine (HN.out _ (row_now HX.out HV4.out.1)).mono ?_
      rintro e w5 ⟨rfl, hb5⟩
      have HV5 := Lib.hid (HV4.out.next hb5)
      clear hb5 q0 q1 q3 q4 f3 f4
      obtain ⟨q0, q1, q3, q4, f3, f4⟩ := HV5.out.cells
      go_wp2_with (with_reducible refine halt_end ?_)
      exact Halt.ret (results_row3 (p := 4) (u := 5) (v := 6) rfl _ _ (w.heap.size + 1) 35 #[.int .i64 0, .slice none 0 0] _ rfl (HV5.out.res 0 none 0 0) Tryz.underlying35 rfl size_ring) rfl (OpenT.no HE.out (by decide) (HV5.out.below _ _))
    obtain ⟨i, hi, rfl⟩ : ∃ i : Nat, i < n ∧ x = i := by
      rcases HNR.out with h | h
      · exact absurd h hx
      · exact h
    have d3 : decide ((i : Int) < 0) = false := decide_eq_false hx
    have HE := Lib.hid (open_go (g := g) HK.out HNO.out HNG.out (by rw [HNX.out]; exact hx))
    have HXX := Lib.hid (show openX xs g = xs.set i (1, g, 1) by unfold openX; rw [HNX.out, Int.toNat_natCast])
    go_enter Tryz.func57, Tryz.ntmps57
    go_wp2_with fail
    refine HL.out.mono ?_
    rintro e w1 ⟨rfl, hb1⟩
    have HV1 := Lib.hid (HV0.out.next hb1)
    obtain ⟨q0, q1, q3, q4, f3, f4⟩ := HV1.out.cells
    clear hb1
    go_wp2_with fail
    refine (HR.out _ (row_now HX.out HV1.out.1)).mono ?_
    rintro e w2 ⟨rfl, hb2⟩
    have HV2 := Lib.hid (HV1.out.next hb2)
    clear hb2 q0 q1 q3 q4 f3 f4
    obtain ⟨q0, q1, q3, q4, f3, f4⟩ := HV2.out.cells
    go_wp2_with fail
    refine (HR.out _ (row_now HX.out HV2.out.1)).mono ?_
    rintro e w3 ⟨rfl, hb3⟩
    have HV3 := Lib.hid (HV2.out.next hb3)
    clear hb3 q0 q1 q3 q4 f3 f4
    obtain ⟨q0, q1, q3, q4, f3, f4⟩ := HV3.out.cells
    go_wp2_with fail
    refine (HO.out _ (row_now HX.out HV3.out.1)).mono ?_
    rintro e w4 ⟨rfl, hb4⟩
    have HV4 := Lib.hid (HV3.out.next hb4)
    clear hb4 q0 q1 q3 q4 f3 f4
    obtain ⟨q0, q1, q3, q4, f3, f4⟩ := HV4.out.cells
    go_wp2_with fail
    refine (HN.out _ (row_now HX.out HV4.out.1)).mono ?_
    rintro e w5 ⟨rfl, hb5⟩
    have HV5 := Lib.hid (HV4.out.next hb5)
    clear hb5 q0 q1 q3 q4 f3 f4
    obtain ⟨q0, q1, q3, q4, f3, f4⟩ := HV5.out.cells
    go_wp2_with fail
    refine (HN.out _ (row_now HX.out HV5.out.1)).mono ?_
    rintro e w6 ⟨rfl, hb6⟩
    have HV6 := Lib.hid (HV5.out.next hb6)
    clear hb6 q0 q1 q3 q4 f3 f4
    obtain ⟨q0, q1, q3, q4, f3, f4⟩ := HV6.out.cells
    go_wp2_with fail
    refine (ref_with (row_now HX.out HV6.out.1) HNIL.out sec (by omega) i hi (1, g, 1)).mono ?_
    rintro e w7 ⟨⟨A', cap', rfl, hown7⟩, hb7⟩
    have HV7 := Lib.hid (HV6.out.next hb7)
    have HO7 := Lib.hid (OwnZ.of (by rw [List.length_set]; exact HX.out.1) hown7)
    clear hb7 hown7 q0 q1 q3 q4 f3 f4
    obtain ⟨q0, q1, q3, q4, f3, f4⟩ := HV7.out.cells
    go_wp2_with (with_reducible refine halt_end ?_)
    have hlt := HV6.out.lt
    have hown := ((HO7.out.far (p := ⟨w.heap.size + 1, 0, none⟩) hlt (.int .i64 sec)).far (p := ⟨w.heap.size + 1, 1, none⟩) hlt (.slice A' n cap')).base HV6.out.1.size
    rw [← HXX.out] at hown
    refine Halt.ret (results_row3 (p := 4) (u := 5) (v := 6) rfl _ _ (w.heap.size + 1) 35 #[.int .i64 sec, .slice A' n cap'] _ rfl (HV7.out.res sec A' n cap') Tryz.underlying35 rfl size_ring) rfl ⟨.inl ⟨HE.out, _, ?_, ⟨A', n, cap', rfl, hown⟩⟩, HV7.out.below _ _⟩
    rw [HNX.out]
    rfl
  · have hmn : m < n := by rw [← HX.out.1]; exact hm
    obtain ⟨b, off, hA, hbb, hcc⟩ := seg_get HX.out hmn
    have hTm : genG xs m = T := by rw [← HT.out, HTT.out, hl, if_neg (by omega), Int.toNat_natCast]
    have HCC := Lib.hid (show w.cell? ⟨b, off + m * 3 + 1, none⟩ = some (.int .u64 T) by rw [← hTm]; exact (hcc m hmn).2.1)
    subst hA
    rw [hl] at HL
    clear hl hm hcc hTm
    by_cases ho : 0 ≤ o
    · have d1 : decide (0 ≤ o) = true := decide_eq_true ho
      have HE := Lib.hid (open_state (g := g) HK.out (by rw [HOO.out]; exact ho))
      go_enter Tryz.func57, Tryz.ntmps57
      go_wp2_with fail
      refine HL.out.mono ?_
      rintro e w1 ⟨rfl, hb1⟩
      have HV1 := Lib.hid (HV0.out.next hb1)
      obtain ⟨q0, q1, q3, q4, f3, f4⟩ := HV1.out.cells
      clear hb1
      go_wp2_with fail
      refine (HR.out _ (row_now HX.out HV1.out.1)).mono ?_
      rintro e w2 ⟨rfl, hb2⟩
      have HV2 := Lib.hid (HV1.out.next hb2)
      have kG : w2.cell? ⟨b, off + m * 3 + 1, none⟩ = some (.int .u64 T) := (Below.cell HV2.out.1 (p := ⟨b, _, none⟩) hbb).trans HCC.out
      clear hb2 q0 q1 q3 q4 f3 f4
      obtain ⟨q0, q1, q3, q4, f3, f4⟩ := HV2.out.cells
      go_wp2_with fail
      refine (HR.out _ (row_now HX.out HV2.out.1)).mono ?_
      rintro e w3 ⟨rfl, hb3⟩
      have HV3 := Lib.hid (HV2.out.next hb3)
      clear hb3 q0 q1 q3 q4 f3 f4
      obtain ⟨q0, q1, q3, q4, f3, f4⟩ := HV3.out.cells
      go_wp2_with fail
      refine (HO.out _ (row_now HX.out HV3.out.1)).mono ?_
      rintro e w4 ⟨rfl, hb4⟩
      have HV4 := Lib.hid (HV3.out.next hb4)
      clear hb4 q0 q1 q3 q4 f3 f4
      obtain ⟨q0, q1, q3, q4, f3, f4⟩ := HV4.out.cells
      go_wp2_with (with_reducible refine halt_end ?_)
      exact Halt.ret (results_row3 (p := 4) (u := 5) (v := 6) rfl _ _ (w.heap.size + 1) 35 #[.int .i64 0, .slice none 0 0] _ rfl (HV4.out.res 0 none 0 0) Tryz.underlying35 rfl size_ring) rfl (OpenT.no HE.out (by decide) (HV4.out.below _ _))
    have d1 : decide (0 ≤ o) = false := decide_eq_false ho
    have HNO := Lib.hid (show ¬ 0 ≤ opnR xs by rw [HOO.out]; exact ho)
    by_cases hg : g ≤ T
    · have d2 : decide (g ≤ T) = true := decide_eq_true hg
      have HE := Lib.hid (open_arg (g := g) HK.out HNO.out (by rw [HT.out]; exact hg))
      go_enter Tryz.func57, Tryz.ntmps57
      go_wp2_with fail
      refine HL.out.mono ?_
      rintro e w1 ⟨rfl, hb1⟩
      have HV1 := Lib.hid (HV0.out.next hb1)
      obtain ⟨q0, q1, q3, q4, f3, f4⟩ := HV1.out.cells
      clear hb1
      go_wp2_with fail
      refine (HR.out _ (row_now HX.out HV1.out.1)).mono ?_
      rintro e w2 ⟨rfl, hb2⟩
      have HV2 := Lib.hid (HV1.out.next hb2)
      have kG : w2.cell? ⟨b, off + m * 3 + 1, none⟩ = some (.int .u64 T) := (Below.cell HV2.out.1 (p := ⟨b, _, none⟩) hbb).trans HCC.out
      clear hb2 q0 q1 q3 q4 f3 f4
      obtain ⟨q0, q1, q3, q4, f3, f4⟩ := HV2.out.cells
      go_wp2_with fail
      refine (HR.out _ (row_now HX.out HV2.out.1)).mono ?_
      rintro e w3 ⟨rfl, hb3⟩
      have HV3 := Lib.hid (HV2.out.next hb3)
      clear hb3 q0 q1 q3 q4 f3 f4
      obtain ⟨q0, q1, q3, q4, f3, f4⟩ := HV3.out.cells
      go_wp2_with fail
      refine (HO.out _ (row_now HX.out HV3.out.1)).mono ?_
      rintro e w4 ⟨rfl, hb4⟩
      have HV4 := Lib.hid (HV3.out.next hb4)
      clear hb4 q0 q1 q3 q4 f3 f4
      obtain ⟨q0, q1, q3, q4, f3, f4⟩ := HV4.out.cells
      go_wp2_with (with_reducible refine halt_end ?_)
      exact Halt.ret (results_row3 (p := 4) (u := 5) (v := 6) rfl _ _ (w.heap.size + 1) 35 #[.int .i64 0, .slice none 0 0] _ rfl (HV4.out.res 0 none 0 0) Tryz.underlying35 rfl size_ring) rfl (OpenT.no HE.out (by decide) (HV4.out.below _ _))
    have d2 : decide (g ≤ T) = false := decide_eq_false hg
    have HNG := Lib.hid (show ¬ g ≤ topG xs by rw [HT.out]; exact hg)
    by_cases hx : x < 0
    · have d3 : decide (x < 0) = true := decide_eq_true hx
      have HE := Lib.hid (open_full (g := g) HK.out HNO.out HNG.out (by rw [HNX.out]; exact hx))
      go_enter Tryz.func57, Tryz.ntmps57
      go_wp2_with fail
      refine HL.out.mono ?_
      rintro e w1 ⟨rfl, hb1⟩
      have HV1 := Lib.hid (HV0.out.next hb1)
      obtain ⟨q0, q1, q3, q4, f3, f4⟩ := HV1.out.cells
      clear hb1
      go_wp2_with fail
      refine (HR.out _ (row_now HX.out HV1.out.1)).mono ?_
      rintro e w2 ⟨rfl, hb2⟩
      have HV2 := Lib.hid (HV1.out.next hb2)
      have kG : w2.cell? ⟨b, off + m * 3 + 1, none⟩ = some (.int .u64 T) := (Below.cell HV2.out.1 (p := ⟨b, _, none⟩) hbb).trans HCC.out
      clear hb2 q0 q1 q3 q4 f3 f4
      obtain ⟨q0, q1, q3, q4, f3, f4⟩ := HV2.out.cells
      go_wp2_with fail
      refine (HR.out _ (row_now HX.out HV2.out.1)).mono ?_
      rintro e w3 ⟨rfl, hb3⟩
      have HV3 := Lib.hid (HV2.out.next hb3)
      clear hb3 q0 q1 q3 q4 f3 f4
      obtain ⟨q0, q1, q3, q4, f3, f4⟩ := HV3.out.cells
      go_wp2_with fail
      refine (HO.out _ (row_now HX.out HV3.out.1)).mono ?_
      rintro e w4 ⟨rfl, hb4⟩
      have HV4 := Lib.hid (HV3.out.next hb4)
      clear hb4 q0 q1 q3 q4 f3 f4
      obtain ⟨q0, q1, q3, q4, f3, f4⟩ := HV4.out.cells
      go_wp2_with fail
      refine (HN.out _ (row_now HX.out HV4.out.1)).mono ?_
      rintro e w5 ⟨rfl, hb5⟩
      have HV5 := Lib.hid (HV4.out.next hb5)
      clear hb5 q0 q1 q3 q4 f3 f4
      obtain ⟨q0, q1, q3, q4, f3, f4⟩ := HV5.out.cells
      go_wp2_with (with_reducible refine halt_end ?_)
      exact Halt.ret (results_row3 (p := 4) (u := 5) (v := 6) rfl _ _ (w.heap.size + 1) 35 #[.int .i64 0, .slice none 0 0] _ rfl (HV5.out.res 0 none 0 0) Tryz.underlying35 rfl size_ring) rfl (OpenT.no HE.out (by decide) (HV5.out.below _ _))
    obtain ⟨i, hi, rfl⟩ : ∃ i : Nat, i < n ∧ x = i := by
      rcases HNR.out with h | h
      · exact absurd h hx
      · exact h
    have d3 : decide ((i : Int) < 0) = false := decide_eq_false hx
    have HE := Lib.hid (open_go (g := g) HK.out HNO.out HNG.out (by rw [HNX.out]; exact hx))
    have HXX := Lib.hid (show openX xs g = xs.set i (1, g, 1) by unfold openX; rw [HNX.out, Int.toNat_natCast])
    go_enter Tryz.func57, Tryz.ntmps57
    go_wp2_with fail
    refine HL.out.mono ?_
    rintro e w1 ⟨rfl, hb1⟩
    have HV1 := Lib.hid (HV0.out.next hb1)
    obtain ⟨q0, q1, q3, q4, f3, f4⟩ := HV1.out.cells
    clear hb1
    go_wp2_with fail
    refine (HR.out _ (row_now HX.out HV1.out.1)).mono ?_
    rintro e w2 ⟨rfl, hb2⟩
    have HV2 := Lib.hid (HV1.out.next hb2)
    have kG : w2.cell? ⟨b, off + m * 3 + 1, none⟩ = some (.int .u64 T) := (Below.cell HV2.out.1 (p := ⟨b, _, none⟩) hbb).trans HCC.out
    clear hb2 q0 q1 q3 q4 f3 f4
    obtain ⟨q0, q1, q3, q4, f3, f4⟩ := HV2.out.cells
    go_wp2_with fail
    refine (HR.out _ (row_now HX.out HV2.out.1)).mono ?_
    rintro e w3 ⟨rfl, hb3⟩
    have HV3 := Lib.hid (HV2.out.next hb3)
    clear hb3 q0 q1 q3 q4 f3 f4
    obtain ⟨q0, q1, q3, q4, f3, f4⟩ := HV3.out.cells
    go_wp2_with fail
    refine (HO.out _ (row_now HX.out HV3.out.1)).mono ?_
    rintro e w4 ⟨rfl, hb4⟩
    have HV4 := Lib.hid (HV3.out.next hb4)
    clear hb4 q0 q1 q3 q4 f3 f4
    obtain ⟨q0, q1, q3, q4, f3, f4⟩ := HV4.out.cells
    go_wp2_with fail
    refine (HN.out _ (row_now HX.out HV4.out.1)).mono ?_
    rintro e w5 ⟨rfl, hb5⟩
    have HV5 := Lib.hid (HV4.out.next hb5)
    clear hb5 q0 q1 q3 q4 f3 f4
    obtain ⟨q0, q1, q3, q4, f3, f4⟩ := HV5.out.cells
    go_wp2_with fail
    refine (HN.out _ (row_now HX.out HV5.out.1)).mono ?_
    rintro e w6 ⟨rfl, hb6⟩
    have HV6 := Lib.hid (HV5.out.next hb6)
    clear hb6 q0 q1 q3 q4 f3 f4
    obtain ⟨q0, q1, q3, q4, f3, f4⟩ := HV6.out.cells
    go_wp2_with fail
    refine (ref_with (row_now HX.out HV6.out.1) HNIL.out sec (by omega) i hi (1, g, 1)).mono ?_
    rintro e w7 ⟨⟨A', cap', rfl, hown7⟩, hb7⟩
    have HV7 := Lib.hid (HV6.out.next hb7)
    have HO7 := Lib.hid (OwnZ.of (by rw [List.length_set]; exact HX.out.1) hown7)
    clear hb7 hown7 q0 q1 q3 q4 f3 f4
    obtain ⟨q0, q1, q3, q4, f3, f4⟩ := HV7.out.cells
    go_wp2_with (with_reducible refine halt_end ?_)
    have hlt := HV6.out.lt
    have hown := ((HO7.out.far (p := ⟨w.heap.size + 1, 0, none⟩) hlt (.int .i64 sec)).far (p := ⟨w.heap.size + 1, 1, none⟩) hlt (.slice A' n cap')).base HV6.out.1.size
    rw [← HXX.out] at hown
    refine Halt.ret (results_row3 (p := 4) (u := 5) (v := 6) rfl _ _ (w.heap.size + 1) 35 #[.int .i64 sec, .slice A' n cap'] _ rfl (HV7.out.res sec A' n cap') Tryz.underlying35 rfl size_ring) rfl ⟨.inl ⟨HE.out, _, ?_, ⟨A', n, cap', rfl, hown⟩⟩, HV7.out.below _ _⟩
    rw [HNX.out]
    rfl
end Go.Proofs.YtodcohkblgjfeaaGreat

namespace Go.Proofs.YtodcohkblgjfeaaGreat
set_option maxRecDepth 100000
open Go.RowKit
set_option linter.unusedVariables false
set_option linter.unusedSimpArgs false
theorem take_set (sl : List Int) (k : Nat) (hk : k < sl.length) (m : Nat) (hm : 0 < m) : (sl.take k ++ noughts m).set k (sl.getD k 0) = sl.take (k + 1) ++ noughts (m - 1) := by
  obtain ⟨q, rfl⟩ : ∃ q, m = q + 1 := ⟨m - 1, by omega⟩
  have hl : (sl.take k).length = k := by simp; omega
  rw [take_snoc sl k hk, List.set_append_right _ _ (by omega), hl]
  simp [noughts, List.replicate_succ]
def lenOf : Value → Nat
  | .slice _ n _ => n
  | _ => 0
theorem own_lenOf {w : World} {base n size : Nat} {e : TypeId} {v : Value} {xs : List Value} (h : w.ownsRow base e size v n xs) : lenOf v = n := by
  rcases h.2 with ⟨rfl, rfl⟩ | ⟨g, cap, cur, rfl, _⟩ <;> rfl
end Go.Proofs.YtodcohkblgjfeaaGreat

namespace Go.Proofs.YtodcohkblgjfeaaGreat
set_option maxRecDepth 100000
open Go.RowKit
set_option linter.unusedVariables false
set_option linter.unusedSimpArgs false
theorem zero_sup (w : World) : (zeroValue 32).run Tryz.prog w = .ok (.agg (supC 0 0 0 0 0 0)) w := (Tryz.zeroValue32 w).trans rfl
theorem sup_one (a b g r v f : Int) : (supC a b g r v f).all (·.oneCell') = true := by simp [supC, Value.oneCell']
theorem sup_ones (a b g r v f : Int) : ∀ u ∈ (supC a b g r v f).toList, u.oneCell' = true := by
  intro u hu
  simp [supC] at hu
  rcases hu with rfl | rfl | rfl | rfl | rfl | rfl <;> rfl
section
variable {P : Program} {w : World} {o : Oper} {a : Act} {Q : Exit → Act → World → Prop} {K : Act → World → Prop} {E : Prop} {ops : Array Oper}
theorem step_alloc_row (ty : TypeId) (ho : o.op = .alloc ty) (hgd : Region.wanted o (yielded ops a.tmps) = true) (zs : Array Value) (hz : ∀ w, (zeroValue ty).run P w = .ok (.agg zs) w)
    (h : K (a.put o.dst (.pointer (some ⟨w.heap.size, 0, none⟩))) (w.alloc (.cells zs ty))) : if Region.wanted o (yielded ops a.tmps) = true then Oper.wp P o a w K Q else E := by
  rw [if_pos hgd]
  unfold Oper.wp execOp
  simp only [ho, Instr.alloc, Sem.run_bind, hz, Result.andThen_ok]
  exact h
variable {md : Region.Mode} {S : World → Prop} {st : List Nat}
theorem Tillst.skip {i : Nat} {oi : Oper} {k : Nat} {l : Array Bool} {a : Act} {w : World} (hi : ops[i]? = some oi) (hs : Region.noSelect ops = true) (hf : Region.free md ops l i = true) (hr : (Region.ready md ops l).contains i = true)
    (hw : waitsFor md ops st i = true) (hQ : ∀ c a w, Q (.panic c) (a.put oi.dst undef) w → Q (.panic c) a w) (hg : Region.wanted oi (yielded ops a.tmps) = false) (hS : S w)
    (h : Tillst P md ops Q S st k (l.setIfInBounds i true) (a.put oi.dst undef) w) : Tillst P md ops Q S st (k + 1) l a w :=
  Tillst.first hi (Region.noSelect_spec hs) hQ hw k l a w (Region.free_spec hi hf) (by simpa using hr) (.inr ⟨hg, rfl⟩) hS h
end
theorem exec_neq_blk {o : Oper} {a : Act} {w : World} (x y : Operand) (z : TypeId) (ho : o.op = .binOp .neq 84 x y z) (xs ys : List Int) (hx : a.eval x = .agg (cells8 xs)) (hy : a.eval y = .agg (cells8 ys)) (hl : xs.length = 64) (hl' : ys.length = 64) :
    (execOp a.eval o).run Tryz.prog w = .ok (.value (.bool (!(xs == ys)))) w := by
  unfold execOp
  simp only [ho, hx, hy, Sem.run_bind, run_eqGuard_blk, Result.andThen_ok, run_neq_struct, Sem.run_pure,
    run_equalIn_ints w 9998 84 5 64 Tryz.underlying84 Tryz.underlying5 Tryz.sizeOf5 xs ys hl hl']
def RHalf (xs : List Int) (w wx : World) (s : Value) : Prop :=
  ∃ q, s = .pointer (some ⟨q, 0, none⟩) ∧ w.heap.size + 1 < q ∧ ArrB wx w.heap.size xs ∧ Blk wx (w.heap.size + 1) 32 (supC 0 0 0 0 0 0) ∧
    Blk wx q 32 (supC (numAt xs 16 2) (numAt xs 18 2) (numAt xs 20 8) (numAt xs 28 8) (numAt xs 36 8) (numAt xs 44 8)) ∧ Below w.heap.size w wx
abbrev rrzg0 : Oper := { dst := some 7, op := Go.Op.slice 26 (Go.Operand.tmp 1) (some (Go.Operand.const (Go.Value.int Go.IntKind.i64 16))) (some (Go.Operand.const (Go.Value.int Go.IntKind.i64 18))) none, type := 91, pos := "ref.go:37", after := #[], guard := none }
abbrev rrzg1 : Oper := { dst := some 8, op := Go.Op.call { callee := Go.Callee.value (Go.Operand.func 70), args := #[Go.Operand.tmp 7], argTypes := #[91] }, type := 22, pos := "ref.go:37", after := #[{ on := 0, ground := Go.Ground.data }], guard := none }
abbrev rrzg2 : Oper := { dst := some 9, op := Go.Op.convert 22 3 (Go.Operand.tmp 8), type := 3, pos := "ref.go:37", after := #[{ on := 1, ground := Go.Ground.data }], guard := none }
abbrev rrzg3 : Oper := { dst := some 10, op := Go.Op.slice 26 (Go.Operand.tmp 1) (some (Go.Operand.const (Go.Value.int Go.IntKind.i64 18))) (some (Go.Operand.const (Go.Value.int Go.IntKind.i64 20))) none, type := 91, pos := "ref.go:37", after := #[], guard := none }
abbrev rrzg4 : Oper := { dst := some 11, op := Go.Op.call { callee := Go.Callee.value (Go.Operand.func 70), args := #[Go.Operand.tmp 10], argTypes := #[91] }, type := 22, pos := "ref.go:37", after := #[{ on := 3, ground := Go.Ground.data }, { on := 1, ground := Go.Ground.chain }], guard := none }
abbrev rrzg5 : Oper := { dst := some 12, op := Go.Op.convert 22 3 (Go.Operand.tmp 11), type := 3, pos := "ref.go:37", after := #[{ on := 4, ground := Go.Ground.data }], guard := none }
abbrev rrzg6 : Oper := { dst := some 13, op := Go.Op.slice 26 (Go.Operand.tmp 1) (some (Go.Operand.const (Go.Value.int Go.IntKind.i64 20))) (some (Go.Operand.const (Go.Value.int Go.IntKind.i64 28))) none, type := 91, pos := "ref.go:37", after := #[], guard := none }
abbrev rrzg7 : Oper := { dst := some 14, op := Go.Op.call { callee := Go.Callee.value (Go.Operand.func 70), args := #[Go.Operand.tmp 13], argTypes := #[91] }, type := 22, pos := "ref.go:37", after := #[{ on := 6, ground := Go.Ground.data }, { on := 4, ground := Go.Ground.chain }], guard := none }
abbrev rrzg8 : Oper := { dst := some 15, op := Go.Op.slice 26 (Go.Operand.tmp 1) (some (Go.Operand.const (Go.Value.int Go.IntKind.i64 28))) (some (Go.Operand.const (Go.Value.int Go.IntKind.i64 36))) none, type := 91, pos := "ref.go:37", after := #[], guard := none }
abbrev rrzg9 : Oper := { dst := some 16, op := Go.Op.call { callee := Go.Callee.value (Go.Operand.func 70), args := #[Go.Operand.tmp 15], argTypes := #[91] }, type := 22, pos := "ref.go:37", after := #[{ on := 8, ground := Go.Ground.data }, { on := 7, ground := Go.Ground.chain }], guard := none }
abbrev rrzg10 : Oper := { dst := some 17, op := Go.Op.slice 26 (Go.Operand.tmp 1) (some (Go.Operand.const (Go.Value.int Go.IntKind.i64 36))) (some (Go.Operand.const (Go.Value.int Go.IntKind.i64 44))) none, type := 91, pos := "ref.go:37", after := #[], guard := none }
abbrev rrzg11 : Oper := { dst := some 18, op := Go.Op.call { callee := Go.Callee.value (Go.Operand.func 70), args := #[Go.Operand.tmp 17], argTypes := #[91] }, type := 22, pos := "ref.go:37", after := #[{ on := 10, ground := Go.Ground.data }, { on := 9, ground := Go.Ground.chain }], guard := none }
abbrev rrzg12 : Oper := { dst := some 19, op := Go.Op.slice 26 (Go.Operand.tmp 1) (some (Go.Operand.const (Go.Value.int Go.IntKind.i64 44))) (some (Go.Operand.const (Go.Value.int Go.IntKind.i64 52))) none, type := 91, pos := "ref.go:37", after := #[], guard := none }
abbrev rrzg13 : Oper := { dst := some 20, op := Go.Op.call { callee := Go.Callee.value (Go.Operand.func 70), args := #[Go.Operand.tmp 19], argTypes := #[91] }, type := 22, pos := "ref.go:37", after := #[{ on := 12, ground := Go.Ground.data }, { on := 11, ground := Go.Ground.chain }], guard := none }
abbrev rrzg14 : Oper := { dst := some 21, op := Go.Op.build 24 #[(0, Go.Operand.tmp 9), (1, Go.Operand.tmp 12), (2, Go.Operand.tmp 14), (3, Go.Operand.tmp 16), (4, Go.Operand.tmp 18), (5, Go.Operand.tmp 20)], type := 24, pos := "ref.go:37", after := #[{ on := 2, ground := Go.Ground.data }, { on := 5, ground := Go.Ground.data }, { on := 7, ground := Go.Ground.data }, { on := 9, ground := Go.Ground.data }, { on := 11, ground := Go.Ground.data }, { on := 13, ground := Go.Ground.data }], guard := none }
abbrev rrzg15 : Oper := { dst := some 5, op := Go.Op.alloc 24, type := 0, pos := "ref.go:37", after := #[], guard := none }
abbrev rrzg16 : Oper := { dst := none, op := Go.Op.store 24 (Go.Operand.tmp 5) (Go.Operand.tmp 21), type := 0, pos := "ref.go:37", after := #[{ on := 15, ground := Go.Ground.data }, { on := 14, ground := Go.Ground.data }, { on := 13, ground := Go.Ground.chain }, { on := 0, ground := Go.Ground.phase }, { on := 1, ground := Go.Ground.phase }, { on := 2, ground := Go.Ground.phase }, { on := 3, ground := Go.Ground.phase }, { on := 4, ground := Go.Ground.phase }, { on := 5, ground := Go.Ground.phase }, { on := 6, ground := Go.Ground.phase }, { on := 7, ground := Go.Ground.phase }, { on := 8, ground := Go.Ground.phase }, { on := 9, ground := Go.Ground.phase }, { on := 10, ground := Go.Ground.phase }, { on := 11, ground := Go.Ground.phase }, { on := 12, ground := Go.Ground.phase }, { on := 13, ground := Go.Ground.phase }, { on := 14, ground := Go.Ground.phase }, { on := 15, ground := Go.Ground.phase }], guard := none }
abbrev rs0 : Oper := { dst := some 24, op := Go.Op.load 24 (Go.Operand.tmp 5), type := 24, pos := "ref.go:39", after := #[], guard := none }
abbrev rs1 : Oper := { dst := some 25, op := Go.Op.call { callee := Go.Callee.value (Go.Operand.func 16), args := #[Go.Operand.tmp 24], argTypes := #[24] }, type := 4, pos := "ref.go:39", after := #[{ on := 0, ground := Go.Ground.data }], guard := none }
abbrev rs2 : Oper := { dst := some 26, op := Go.Op.unOp Go.UnOp.not 4 (Go.Operand.tmp 25), type := 4, pos := "ref.go:39", after := #[{ on := 1, ground := Go.Ground.data }], guard := none }
abbrev rs3 : Oper := { dst := some 27, op := Go.Op.move (Go.Operand.tmp 26), type := 4, pos := "ref.go:39", after := #[{ on := 2, ground := Go.Ground.data }, { on := 1, ground := Go.Ground.chain }], guard := none }
abbrev rs4 : Oper := { dst := some 28, op := Go.Op.load 24 (Go.Operand.tmp 5), type := 24, pos := "ref.go:39", after := #[{ on := 3, ground := Go.Ground.guard }], guard := some (3, false) }
abbrev rs5 : Oper := { dst := some 29, op := Go.Op.move (Go.Operand.tmp 6), type := 22, pos := "ref.go:39", after := #[{ on := 3, ground := Go.Ground.guard }], guard := some (3, false) }
abbrev rs6 : Oper := { dst := some 30, op := Go.Op.call { callee := Go.Callee.value (Go.Operand.func 17), args := #[Go.Operand.tmp 28, Go.Operand.tmp 29], argTypes := #[24, 22] }, type := 26, pos := "ref.go:39", after := #[{ on := 4, ground := Go.Ground.data }, { on := 5, ground := Go.Ground.data }, { on := 3, ground := Go.Ground.chain }, { on := 3, ground := Go.Ground.guard }], guard := some (3, false) }
abbrev rs7 : Oper := { dst := some 31, op := Go.Op.load 26 (Go.Operand.tmp 1), type := 26, pos := "ref.go:39", after := #[{ on := 3, ground := Go.Ground.guard }], guard := some (3, false) }
abbrev rs8 : Oper := { dst := some 32, op := Go.Op.binOp Go.BinOp.neq 26 (Go.Operand.tmp 30) (Go.Operand.tmp 31) 26, type := 4, pos := "ref.go:39", after := #[{ on := 6, ground := Go.Ground.data }, { on := 7, ground := Go.Ground.data }, { on := 3, ground := Go.Ground.guard }], guard := some (3, false) }
abbrev rs9 : Oper := { dst := some 33, op := Go.Op.pick (Go.Operand.tmp 27) (Go.Operand.const (Go.Value.bool true)) (Go.Operand.tmp 32), type := 4, pos := "ref.go:39", after := #[{ on := 3, ground := Go.Ground.data }, { on := 8, ground := Go.Ground.data }], guard := none }
end Go.Proofs.YtodcohkblgjfeaaGreat

namespace Go.Proofs.YtodcohkblgjfeaaGreat
open Go.RowKit
set_option maxRecDepth 100000
set_option linter.unusedVariables false
set_option linter.unusedSimpArgs false
abbrev lb0 : Oper := { dst := some 36, op := Go.Op.move (Go.Operand.tmp 0), type := 26, pos := "log.go:293", after := #[], guard := none }
abbrev lb1 : Oper := { dst := some 37, op := Go.Op.nilCheck (Go.Operand.tmp 36), type := 0, pos := "log.go:293", after := #[{ on := 0, ground := Go.Ground.data }], guard := none }
abbrev lb2 : Oper := { dst := some 38, op := Go.Op.fieldAddr 117 (Go.Operand.tmp 37) 0, type := 0, pos := "log.go:293", after := #[{ on := 1, ground := Go.Ground.data }], guard := none }
abbrev lb3 : Oper := { dst := some 39, op := Go.Op.load 70 (Go.Operand.tmp 38), type := 70, pos := "log.go:293", after := #[{ on := 2, ground := Go.Ground.data }], guard := none }
abbrev lb4 : Oper := { dst := some 40, op := Go.Op.load 32 (Go.Operand.tmp 5), type := 32, pos := "log.go:293", after := #[], guard := none }
abbrev lb5 : Oper := { dst := some 41, op := Go.Op.call { callee := Go.Callee.value (Go.Operand.func 70), args := #[Go.Operand.tmp 39, Go.Operand.tmp 40], argTypes := #[70, 32] }, type := 49, pos := "log.go:293", after := #[{ on := 3, ground := Go.Ground.data }, { on := 4, ground := Go.Ground.data }], guard := none }
abbrev lb6 : Oper := { dst := some 6, op := Go.Op.assign (Go.Operand.tmp 41), type := 49, pos := "log.go:293", after := #[{ on := 5, ground := Go.Ground.data }, { on := 5, ground := Go.Ground.chain }, { on := 0, ground := Go.Ground.phase }, { on := 1, ground := Go.Ground.phase }, { on := 2, ground := Go.Ground.phase }, { on := 3, ground := Go.Ground.phase }, { on := 4, ground := Go.Ground.phase }, { on := 5, ground := Go.Ground.phase }], guard := none }
abbrev lc0 : Oper := { dst := some 46, op := Go.Op.move (Go.Operand.tmp 0), type := 26, pos := "log.go:296", after := #[], guard := none }
abbrev lc1 : Oper := { dst := some 47, op := Go.Op.nilCheck (Go.Operand.tmp 46), type := 0, pos := "log.go:296", after := #[{ on := 0, ground := Go.Ground.data }], guard := none }
abbrev lc2 : Oper := { dst := some 48, op := Go.Op.fieldAddr 117 (Go.Operand.tmp 47) 1, type := 0, pos := "log.go:296", after := #[{ on := 1, ground := Go.Ground.data }], guard := none }
abbrev lc3 : Oper := { dst := some 49, op := Go.Op.load 35 (Go.Operand.tmp 48), type := 35, pos := "log.go:296", after := #[{ on := 2, ground := Go.Ground.data }], guard := none }
abbrev lc4 : Oper := { dst := some 50, op := Go.Op.fieldAddr 32 (Go.Operand.tmp 5) 2, type := 0, pos := "log.go:296", after := #[], guard := none }
abbrev lc5 : Oper := { dst := some 51, op := Go.Op.load 30 (Go.Operand.tmp 50), type := 30, pos := "log.go:296", after := #[{ on := 4, ground := Go.Ground.data }], guard := none }
abbrev lc6 : Oper := { dst := some 52, op := Go.Op.call { callee := Go.Callee.value (Go.Operand.func 142), args := #[Go.Operand.tmp 49, Go.Operand.tmp 51], argTypes := #[35, 30] }, type := 123, pos := "log.go:296", after := #[{ on := 3, ground := Go.Ground.data }, { on := 5, ground := Go.Ground.data }], guard := none }
abbrev lc7 : Oper := { dst := some 45, op := Go.Op.move (Go.Operand.tmp 52), type := 123, pos := "log.go:296", after := #[{ on := 6, ground := Go.Ground.data }], guard := none }
abbrev lc8 : Oper := { dst := some 53, op := Go.Op.extract (Go.Operand.tmp 45) 0, type := 35, pos := "log.go:296", after := #[{ on := 7, ground := Go.Ground.data }], guard := none }
abbrev lc9 : Oper := { dst := some 54, op := Go.Op.extract (Go.Operand.tmp 45) 1, type := 3, pos := "log.go:296", after := #[{ on := 7, ground := Go.Ground.data }, { on := 12, ground := Go.Ground.gcOnly Go.Departure.lateStores }], guard := none }
abbrev lc10 : Oper := { dst := some 55, op := Go.Op.extract (Go.Operand.tmp 45) 2, type := 49, pos := "log.go:296", after := #[{ on := 7, ground := Go.Ground.data }, { on := 13, ground := Go.Ground.gcOnly Go.Departure.lateStores }], guard := none }
abbrev lc11 : Oper := { dst := some 7, op := Go.Op.alloc 35, type := 0, pos := "log.go:296", after := #[], guard := none }
abbrev lc12 : Oper := { dst := none, op := Go.Op.store 35 (Go.Operand.tmp 7) (Go.Operand.tmp 53), type := 0, pos := "log.go:296", after := #[{ on := 11, ground := Go.Ground.data }, { on := 8, ground := Go.Ground.data }, { on := 6, ground := Go.Ground.chain }, { on := 0, ground := Go.Ground.phase }, { on := 1, ground := Go.Ground.phase }, { on := 2, ground := Go.Ground.phase }, { on := 3, ground := Go.Ground.phase }, { on := 4, ground := Go.Ground.phase }, { on := 5, ground := Go.Ground.phase }, { on := 6, ground := Go.Ground.phase }, { on := 7, ground := Go.Ground.phase }, { on := 8, ground := Go.Ground.phase }, { on := 9, ground := Go.Ground.textOnly Go.Departure.lateStores }, { on := 10, ground := Go.Ground.textOnly Go.Departure.lateStores }, { on := 11, ground := Go.Ground.phase }], guard := none }
abbrev lc13 : Oper := { dst := some 8, op := Go.Op.assign (Go.Operand.tmp 54), type := 3, pos := "log.go:296", after := #[{ on := 9, ground := Go.Ground.data }, { on := 12, ground := Go.Ground.chain }, { on := 0, ground := Go.Ground.phase }, { on := 1, ground := Go.Ground.phase }, { on := 2, ground := Go.Ground.phase }, { on := 3, ground := Go.Ground.phase }, { on := 4, ground := Go.Ground.phase }, { on := 5, ground := Go.Ground.phase }, { on := 6, ground := Go.Ground.phase }, { on := 7, ground := Go.Ground.phase }, { on := 8, ground := Go.Ground.phase }, { on := 9, ground := Go.Ground.phase }, { on := 10, ground := Go.Ground.textOnly Go.Departure.lateStores }, { on := 11, ground := Go.Ground.phase }, { on := 12, ground := Go.Ground.phase }], guard := none }
abbrev lc14 : Oper := { dst := some 9, op := Go.Op.assign (Go.Operand.tmp 55), type := 49, pos := "log.go:296", after := #[{ on := 10, ground := Go.Ground.data }, { on := 13, ground := Go.Ground.chain }, { on := 0, ground := Go.Ground.phase }, { on := 1, ground := Go.Ground.phase }, { on := 2, ground := Go.Ground.phase }, { on := 3, ground := Go.Ground.phase }, { on := 4, ground := Go.Ground.phase }, { on := 5, ground := Go.Ground.phase }, { on := 6, ground := Go.Ground.phase }, { on := 7, ground := Go.Ground.phase }, { on := 8, ground := Go.Ground.phase }, { on := 9, ground := Go.Ground.phase }, { on := 10, ground := Go.Ground.phase }, { on := 11, ground := Go.Ground.phase }, { on := 12, ground := Go.Ground.phase }, { on := 13, ground := Go.Ground.phase }], guard := none }
def setK (k : Dk) (s : Sup) (t : Int) : Dk := (k.wr (Dk.put (secOf t) (supL s.a s.b (s.g + 1) s.r s.v s.f (nxt t)))).wr Dk.sync
abbrev genS (s : Sup) : Sup := ⟨s.a, s.b, s.g + 1, s.r, s.v, s.f⟩
def begK (k : Dk) (s : Sup) (t : Int) (i : Int) : Dk := ((setK k s t).wr (Dk.put (2 + i * s.b).toNat (hdrL i.toNat (s.g + 1)))).wr Dk.sync
section
variable {w w' : World} {X Y : Nat → Prop} {l p d n m c : Nat} {s : Sup} {t : Int} {k : Dk} {sec : Int} {A : Option Addr} {xs : List Seg} {br : Bool}
theorem wrs_one {k : Dk} (h : k.wre = 0) (i : Nat) (ys : List Int) : wrs k i [ys] = (k.wr (Dk.put i ys), 0) := by
  unfold wrs
  rw [if_pos h]
  rfl
theorem hdr_bytes (i : Nat) (g : Int) (hi : i ≤ 15) : Bytes (hdrL i g) := pack_bytes _ _ _ (fun j => by
  rcases j with _ | _ | j
  · show 0 ≤ (i : Int) / 256 ∧ (i : Int) / 256 ≤ 255; omega
  · show 0 ≤ (i : Int) ∧ (i : Int) ≤ 255; omega
  · simp [List.getD])
theorem beg_write {g0 : Nat} {ys : List Int} (hs : StoS w Y p d n (genS s) t k) (hY : ∀ b, Y b → b < w.heap.size) (hl : Y l) (c0 : w.cell? ⟨l, 0, none⟩ = some (.pointer (some ⟨p, 0, none⟩))) (hg0 : Y g0) (hb : Blk w g0 84 (cells8 ys)) (hly : ys.length = 64) (hby : Bytes ys)
    (i : Nat) (hi : (i : Int) < s.a) (hm : s.May) (hroom : 2 + s.a * s.b ≤ (n : Int)) (hn : n ≤ 2048) (hg : Good k) (hp : k.pend = []) :
    Calls Tryz.prog 104 #[.pointer (some ⟨l, 0, none⟩), .int .i64 i, .int .i64 0, .slice (some ⟨g0, 0, none⟩) 1 1] w fun e w' => e = .returned (.int .i64 0) ∧ StoS w' Y p d n (genS s) t (k.wr (Dk.put (2 + (i : Int) * s.b).toNat ys)) ∧ Kept Y w w' := by
  obtain ⟨h1, h2, h3, h4, _⟩ := hm
  have hpos : 0 ≤ (i : Int) * s.b := Int.mul_nonneg (by omega) (by omega)
  have hle : ((i : Int) + 1) * s.b ≤ s.a * s.b := Int.mul_le_mul_of_nonneg_right (by omega) (by omega)
  rw [Int.add_mul, Int.one_mul] at hle
  have hi0 : (((2 + (i : Int) * s.b).toNat : Nat) : Int) = 2 + (i : Int) * s.b := Int.toNat_of_nonneg (by omega)
  have h := write_log (A := some ⟨g0, 0, none⟩) (m := 1) (c := 1) (xss := [ys]) hs hY hl c0 ⟨rfl, fun _ => ⟨g0, 0, rfl, hg0, fun j hj => by
      obtain rfl : j = 0 := by omega
      exact (show ArrB w g0 ys from hb).range⟩⟩ (fun j => by
      rcases j with _ | j
      · exact hby
      · intro q; simp [List.getD]) (fun x hx => by
      obtain rfl : x = ys := by simpa using hx
      exact hly) i 0 (2 + (i : Int) * s.b).toNat hi h2 ⟨by show 0 ≤ s.b; omega, h4⟩ (by rw [hi0]; show _ = 2 + (i : Int) * s.b + ((0 : Nat) : Int); simp) (by omega) hn (by rw [hp]; simp)
  rw [wrs_one hg.wre] at h
  exact h
def BeginT (w : World) (X : Nat → Prop) (l p d n : Nat) (s : Sup) (t : Int) (k : Dk) (sec : Int) (xs : List Seg) (e : Ending) (w' : World) : Prop :=
  ∃ kk ys A c, e = .returned (.int .i64 (openE sec (sealedX sec xs) (s.g + 1))) ∧ LogM w' X l p d n (genS s) (nxt t) kk sec A ys.length c ys false ∧ Kept X w w' ∧ ys.length ≤ c ∧ (A = none → c = 0) ∧
    (openE sec (sealedX sec xs) (s.g + 1) ≠ 0 ∧ kk = setK k s t ∧ ys = sealedX sec xs ∨ openE sec (sealedX sec xs) (s.g + 1) = 0 ∧ kk = begK k s t (nxtR (sealedX sec xs)) ∧ ys = openX (sealedX sec xs) (s.g + 1))
theorem LogM.len9 (h : LogM w X l p d n s t k sec A m c xs br) : xs.length = m := h.now.1
theorem BegT.no {e : Ending} (hE : openE sec (sealedX sec xs) (s.g + 1) ≠ 0) (he : e = .returned (.int .i64 (openE sec (sealedX sec xs) (s.g + 1)))) (h : LogM w' X l p d n (genS s) (nxt t) (setK k s t) sec A m c (sealedX sec xs) false) (hk : Kept X w w') (hmc : m ≤ c) (hnil : A = none → c = 0) : BeginT w X l p d n s t k sec xs e w' :=
  ⟨_, _, A, c, he, by rw [h.len9]; exact h, hk, by rw [h.len9]; exact hmc, hnil, .inl ⟨hE, rfl, rfl⟩⟩
theorem BegT.yes {A2 : Option Addr} {c2 : Nat} {e : Ending} (hE : openE sec (sealedX sec xs) (s.g + 1) = 0) (he : e = .returned (.int .i64 (openE sec (sealedX sec xs) (s.g + 1)))) (h : LogM w' X l p d n (genS s) (nxt t) (begK k s t (nxtR (sealedX sec xs))) sec A2 (openX (sealedX sec xs) (s.g + 1)).length c2 (openX (sealedX sec xs) (s.g + 1)) false) (hk : Kept X w w') (hmc : (openX (sealedX sec xs) (s.g + 1)).length ≤ c2) (hnil : A2 = none → c2 = 0) : BeginT w X l p d n s t k sec xs e w' :=
  ⟨_, _, A2, c2, he, h, hk, hmc, hnil, .inr ⟨hE, rfl, rfl⟩⟩
theorem LogM.lay {R : Nat → Prop} {A2 : Option Addr} {m2 c2 : Nat} {ys : List Seg} {sec2 : Int} (h1 : Blk w l 117 (logC p sec2 A m c br)) (hx : ¬ X l) (hs : StoS w (fun b => X b ∨ b = l ∨ R b) p d n s t k) (hr : RowZ w R A2 m2 ys) (hR : ∀ b, R b → b < w.heap.size ∧ b ≠ l) :
    LogM ((w.setCell ⟨l, 1, none⟩ (.int .i64 sec)).setCell ⟨l, 2, none⟩ (.slice A2 m2 c2)) X l p d n s t k sec A2 m2 c2 ys br := by
  have hk : Kept (fun b => b ≠ l) w ((w.setCell ⟨l, 1, none⟩ (.int .i64 sec)).setCell ⟨l, 2, none⟩ (.slice A2 m2 c2)) :=
    ((Kept.refl _ w).setCell (p := ⟨l, 1, none⟩) (fun h => h rfl) _).setCell (p := ⟨l, 2, none⟩) (fun h => h rfl) _
  exact ⟨(h1.set_ 1 (.int .i64 sec)).set_ 2 (.slice A2 m2 c2), hx, R, StoreM.kept hs hk (fun b hb hx e => hx (.inr (.inl e))) (fun b hb h => h), hr.kept hk (fun b h => (hR b h).2), fun b h => ⟨Nat.lt_of_lt_of_le (hR b h).1 hk.size, (hR b h).2⟩⟩
set_option maxHeartbeats 4000000 in
theorem begin_good (h : LogM w X l p d n s t k sec A m c xs false) (hX : ∀ b, X b → b < w.heap.size) (hmc : m ≤ c) (hnil : A = none → c = 0) (hg : Good k) (hp : k.pend.length ≤ 900000) (hsm : s.May) (hsi : s.In) (hgm : s.g + 1 ≤ 18446744073709551615) (hn : 2 ≤ n) (hn2 : n ≤ 2048) (hma : (m : Int) = s.a) (hroom : 2 + s.a * s.b ≤ (n : Int)) :
    Calls Tryz.prog 101 #[.pointer (some ⟨l, 0, none⟩)] w fun e w' => BeginT w X l p d n s t k sec xs e w' := by
  have HMA := Lib.hid hma
  have HRM := Lib.hid hroom
  have HNN := Lib.hid hn2
  have HL := Lib.hid h
  have HX := Lib.hid hX
  have HG := Lib.hid hg
  have HP := Lib.hid hp
  have HSM := Lib.hid hsm
  have HSI := Lib.hid hsi
  have HLEN := Lib.hid h.now.1
  obtain ⟨_, c1, c2, _⟩ := log_cells h
  have HSE := Lib.hid (seal_any (cap := c) h.now sec)
  have HMC := Lib.hid (And.intro hmc hnil)
  have hg0 : 0 ≤ s.g := hsi.2.2.2.2.1
  clear h hX hmc hnil hg hp hsm hsi hma hroom hn2
  go_enter Tryz.func101, Tryz.ntmps101
  go_wp2_with fail
  refine HSE.out.mono ?_
  rintro e w2 ⟨hcase, hb2⟩
  rcases hcase with ⟨hz, v7, rfl, A6, n6, cap6, rfl, hown6⟩ | ⟨hno, rfl⟩
  · obtain rfl : m = n6 := by rw [← hown6.1, seal_len]; exact HLEN.out.symm
    have hal := (Below.refl w2.heap.size w2).alloc (Nat.le_refl _) (.cells #[.int .i64 sec, .slice A6 m cap6] 35)
    have hbz := hb2.trans (hal.mono hb2.size)
    have hput := HL.out.put HX.out hbz (hown6.below hal)
    have HBG := Lib.hid (show BegC w X l p d n s t k sec m (sealedX sec xs) _ from ⟨A6, cap6, by unfold sealedX; rw [if_pos hz]; exact hput.1, hput.2, hown6.2.2.2, hown6.2.2.1⟩)
    have hlz := HL.out.below hbz
    obtain ⟨_, b1, b2, _⟩ := log_cells hlz
    obtain ⟨f1, f2⟩ := And.intro (hlz.1.frozen 1) (hlz.1.frozen 2)
    obtain ⟨k0, k1⟩ := ring_cells (Blk.new w2 35 #[.int .i64 sec, .slice A6 m cap6])
    have HLL := Lib.hid HL.out.1.lt
    have HB2S := Lib.hid hb2.size
    have hll := HL.out.1.lt
    have hb2s := hb2.size
    have hneq : w2.heap.size ≠ l := by omega
    clear hown6 hal hbz hput hlz hb2 hz c1 c2 hll hb2s
    go_upto_region 4 with fail
    have hz0 : True := trivial
    generalize ((w2.alloc (.cells #[.int .i64 sec, .slice A6 m cap6] 35)).setCell ⟨l, 1, none⟩ (.int .i64 sec)).setCell ⟨l, 2, none⟩ (.slice A6 m cap6) = wx at *
    clear b1 b2 f1 f2 k0 k1 hneq hz0
    obtain ⟨A2, c3, hlm, hkx, hmc2, hnil2⟩ := HBG.out
    obtain ⟨hb, hxl, R, hs, hrow, hR⟩ := hlm
    have HBK := Lib.hid hb
    have HS := Lib.hid hs
    have HRO := Lib.hid hrow
    have HRR := Lib.hid hR
    have HKX := Lib.hid hkx
    have HMC2 := Lib.hid (And.intro hmc2 hnil2)
    have HXL := Lib.hid hxl
    have HY0 := Lib.hid (show ∀ b, (X b ∨ b = l ∨ R b) → b < wx.heap.size from fun b h => by
      rcases h with h | h | h
      · exact Nat.lt_of_lt_of_le (HX.out b h) hkx.size
      · rw [h]; exact hb.lt
      · exact (hR b h).1)
    have c0 : wx.cell? ⟨l, 0, none⟩ = some (.pointer (some ⟨p, 0, none⟩)) := hb.cell 0
    clear hb hxl hs hrow hR hkx hmc2 hnil2
    go_wp2_with fail
    refine (get_any HS.out).mono ?_
    rintro e w4 ⟨rfl, hb4⟩
    have hbk : Below wx.heap.size wx (w4.alloc (.cells #[.int .i64 s.a, .int .i64 s.b, .int .u64 s.g, .int .u64 s.r, .int .u64 s.v, .int .u64 s.f] 32)) := hb4.alloc hb4.size _
    have hb5 : Below wx.heap.size wx (w4.alloc (.cells #[.int .i64 s.a, .int .i64 s.b, .int .u64 (s.g + 1), .int .u64 s.r, .int .u64 s.v, .int .u64 s.f] 32)) := hb4.alloc hb4.size _
    have HK4 := Lib.hid (show Blk (w4.alloc (.cells #[.int .i64 s.a, .int .i64 s.b, .int .u64 s.g, .int .u64 s.r, .int .u64 s.v, .int .u64 s.f] 32)) w4.heap.size 32 (supC s.a s.b s.g s.r s.v s.f) from Blk.new w4 _ _)
    have HK5 := Lib.hid (show Blk (w4.alloc (.cells #[.int .i64 s.a, .int .i64 s.b, .int .u64 (s.g + 1), .int .u64 s.r, .int .u64 s.v, .int .u64 s.f] 32)) w4.heap.size 32 (supC s.a s.b (s.g + 1) s.r s.v s.f) from Blk.new w4 _ _)
    have HB5 := Lib.hid hb5
    have HZ5 := Lib.hid (show wx.heap.size ≤ w4.heap.size from hb4.size)
    have g2 : (w4.alloc (.cells #[.int .i64 s.a, .int .i64 s.b, .int .u64 s.g, .int .u64 s.r, .int .u64 s.v, .int .u64 s.f] 32)).cell? ⟨w4.heap.size, 2, none⟩ = some (.int .u64 s.g) := HK4.out.cell 2
    have f2 := HK4.out.frozen 2
    clear hb4 hbk hb5 c0
    go_upto_region 6 with fail
    generalize (w4.alloc (.cells #[.int .i64 s.a, .int .i64 s.b, .int .u64 (s.g + 1), .int .u64 s.r, .int .u64 s.v, .int .u64 s.f] 32)) = w5 at *
    clear g2 f2
    have HS5 := Lib.hid (StoreM.grow HS.out HB5.out.drew)
    have HX5 := Lib.hid (grow_lt (w' := w5.drew) HY0.out HB5.out.drew.size)
    have hK5 : w5.drew.rangeAt w4.heap.size 0 (supC s.a s.b (s.g + 1) s.r s.v s.f).toList := Blk.rangeL (cs := (supC s.a s.b (s.g + 1) s.r s.v s.f).toList) HK5.out.drew
    have hc5 : w5.drew.cell? ⟨l, 0, none⟩ = some (.pointer (some ⟨p, 0, none⟩)) := (HBK.out.below HB5.out.drew HBK.out.lt).cell 0
    have hu32 := Tryz.underlying32
    have hs32 : (Tryz.prog.info? 32).map (·.size) = some (supC s.a s.b (s.g + 1) s.r s.v s.f).toList.length := size_sup
    have HSET := Lib.hid (set_go HS5.out HX5.out (s.g + 1) s.r s.v s.f (by obtain ⟨h1, h2, h3, h4, h5⟩ := HSM.out; exact ⟨h1, h2, h3, h4, by omega⟩) (by have h := HSI.out; unfold Sup.In InS at h; unfold InS; omega) (by unfold BackS; omega) hn (by have := HP.out; omega) HG.out.wre (HG.out.put _ _).wre)
    refine wp_region_noPanic ?_
    refine Tillst.region (fun W => W.cell? ⟨l, 0, none⟩ = some (.pointer (some ⟨p, 0, none⟩)) ∧ W.rangeAt w4.heap.size 0 (supC s.a s.b (s.g + 1) s.r s.v s.f).toList) [] (by kernel_rfl) ⟨hc5, hK5⟩ (fun hHeld => ?_)
    have HDW := Lib.hid (show w4.heap.size < w5.drew.heap.size from HK5.out.drew.lt)
    have HB5D := Lib.hid HB5.out.drew
    have HKD := Lib.hid HK5.out.drew
    generalize w5.drew = vd at *
    refine Tillst.take (i := 0) (oi := lb0) (v := ?_) rfl (by kernel_rfl) (by kernel_rfl) (by kernel_rfl) (by kernel_rfl) (fun _ _ _ h => h) (by rfl) ?_ hHeld ?_
    rotate_left
    · intro W hSW; (try dsimp only at hSW); unfold lb0; go_simp; with_reducible rfl
    simp only [lb0, Act.put, List.setIfInBounds_toArray, List.set_cons_zero, List.set_cons_succ]
    refine Tillst.take (i := 1) (oi := lb1) (v := ?_) rfl (by kernel_rfl) (by kernel_rfl) (by kernel_rfl) (by kernel_rfl) (fun _ _ _ h => h) (by rfl) ?_ hHeld ?_
    rotate_left
    · intro W hSW; (try dsimp only at hSW); unfold lb1; go_simp; with_reducible rfl
    simp only [lb1, Act.put, List.setIfInBounds_toArray, List.set_cons_zero, List.set_cons_succ]
    refine Tillst.take (i := 2) (oi := lb2) (v := ?_) rfl (by kernel_rfl) (by kernel_rfl) (by kernel_rfl) (by kernel_rfl) (fun _ _ _ h => h) (by rfl) ?_ hHeld ?_
    rotate_left
    · intro W hSW; (try dsimp only at hSW); unfold lb2; go_simp; with_reducible rfl
    simp only [lb2, Act.put, List.setIfInBounds_toArray, List.set_cons_zero, List.set_cons_succ]
    refine Tillst.take (i := 3) (oi := lb3) (v := ?_) rfl (by kernel_rfl) (by kernel_rfl) (by kernel_rfl) (by kernel_rfl) (fun _ _ _ h => h) (by rfl) ?_ hHeld ?_
    rotate_left
    · intro W' hSW; have c0 := hSW.1; unfold lb3; go_simp; with_reducible rfl
    simp only [lb3, Act.put, List.setIfInBounds_toArray, List.set_cons_zero, List.set_cons_succ]
    refine Tillst.take (i := 4) (oi := lb4) (v := ?_) rfl (by kernel_rfl) (by kernel_rfl) (by kernel_rfl) (by kernel_rfl) (fun _ _ _ h => h) (by rfl) ?_ hHeld ?_
    rotate_left
    · intro W' hSW; refine exec_load_row (.tmp 5) 32 ?_ w4.heap.size 0 ?_ (supC s.a s.b (s.g + 1) s.r s.v s.f).toList _ hu32 rfl hs32 hSW.2 <;> rfl
    simp only [lb4, Act.put, List.setIfInBounds_toArray, List.set_cons_zero, List.set_cons_succ]
    refine Tillst.one (i := 5) (o := lb5) (by kernel_rfl) rfl ?_
    intro K hK
    refine step_call 70 #[.tmp 39, .tmp 40] #[70, 32] rfl rfl Tryz.func70 rfl rfl [.pointer (some ⟨p, 0, none⟩), .agg (supC s.a s.b (s.g + 1) s.r s.v s.f)] rfl ?_
    refine HSET.out.mono ?_
    rintro e v6 ⟨rfl, hs6, hk6⟩
    have HS6 := Lib.hid hs6
    have HK6 := Lib.hid hk6
    have hS6 := And.intro (show v6.cell? ⟨l, 0, none⟩ = some (.pointer (some ⟨p, 0, none⟩)) from (hk6.cell (p := ⟨l, 0, none⟩) (.inl (.inr (.inl rfl)))).trans hHeld.1) (show v6.rangeAt w4.heap.size 0 (supC s.a s.b (s.g + 1) s.r s.v s.f).toList from fun q u hu => (hk6.cell (p := ⟨w4.heap.size, 0 + q, none⟩) (.inr ⟨HZ5.out, HDW.out⟩)).trans (hHeld.2 q u hu))
    clear hs6 hk6
    refine ⟨_, rfl, ?_⟩
    simp only [lb5, Act.put, List.setIfInBounds_toArray, List.set_cons_zero, List.set_cons_succ]
    refine hK.out _ _ (fun _ => hS6) (fun hHeld => ?_)
    replace hHeld := hHeld (by decide)
    clear hK K hS6
    refine Tillst.one (i := 6) (o := lb6) (by kernel_rfl) rfl ?_
    intro K hK
    refine step_value ?_ rfl ?_ ?_
    rotate_left
    · unfold lb6; go_simp; with_reducible rfl
    simp only [lb6, Act.put, List.setIfInBounds_toArray, List.set_cons_zero, List.set_cons_succ]
    refine hK.out _ _ (fun _ => hHeld) (fun hHeld => ?_)
    replace hHeld := hHeld (by decide)
    clear hK K
    refine Tillst.done (by kernel_rfl) ?_ _
    refine NoPanic.normal ?_
    clear hHeld hK5 hc5 hs32 hu32
    have HR6 := Lib.hid ((HRO.out.below HB5D.out (fun b h => (HRR.out b h).1)).kept HK6.out (fun b h => .inl (.inr (.inr h))))
    have HBK6 := Lib.hid ((HBK.out.below HB5D.out HBK.out.lt).kept HK6.out (.inl (.inr (.inl rfl))))
    have HSZ6 := Lib.hid (Nat.le_trans HB5D.out.size HK6.out.size)
    have HS6B := Lib.hid (show StoS v6 (fun b => X b ∨ b = l ∨ R b) p d n (genS s) (nxt t) (setK k s t) from StoreM.kept (Z := fun _ => True) HS6.out (Kept.refl _ _) (fun _ _ _ => trivial) (fun b _ h => .inl h))
    have HL6 := Lib.hid (show LogM v6 X l p d n ⟨s.a, s.b, s.g + 1, s.r, s.v, s.f⟩ (nxt t) (setK k s t) sec A2 m c3 (sealedX sec xs) false from ⟨HBK6.out, HXL.out, R, StoreM.kept (Z := fun _ => True) HS6.out (Kept.refl _ _) (fun _ _ _ => trivial) (fun b _ h => .inl h), HR6.out, fun b h => ⟨Nat.lt_of_lt_of_le (HRR.out b h).1 HSZ6.out, (HRR.out b h).2⟩⟩)
    have HKX6 := Lib.hid (HKX.out.trans (Kept.of_below HB5D.out (fun b (h : X b) => HY0.out b (.inl h)) |>.trans HK6.out (fun b h => .inl (.inl h))) (fun b h => h))
    have HKB6 := Lib.hid (HKD.out.kept HK6.out (.inr ⟨HZ5.out, HDW.out⟩))
    clear HB5 HK4 HK5 HB5D HKD HSET HS5 HX5 HS6 HK6 HDW HS HRO HBK
    go_upto_region 9 with fail
    go_cut [7, 8, 9] (fun t i e wy => OpnC v6.drew sec (sealedX sec xs) (s.g + 1) t i e wy)
    case first J KK hJ hKK =>
      have HOP := Lib.hid (show ∀ W, Below v6.drew.heap.size v6.drew W → RowZ W (· < W.heap.size) A2 m (sealedX sec xs) from fun W hW => (HL6.out.now.below ((Below.refl v6.heap.size v6).drew.trans hW) (fun b h => h)).more (fun b h => Nat.lt_of_lt_of_le h (by have := hW.size; have := (Below.refl v6.heap.size v6).drew.size; omega)))
      have HL1 := Lib.hid (show ∀ W, Below v6.drew.heap.size v6.drew W → W.rangeAt l 1 [.int .i64 sec, .slice A2 m c3] from fun W hW q u hu => by
        have hb := HBK6.out.drew.below hW HBK6.out.drew.lt
        match q, hu with
        | 0, hu => exact (hb.cell 1).trans hu
        | 1, hu => exact (hb.cell 2).trans hu)
      have HG2 := Lib.hid (show ∀ W, Below v6.drew.heap.size v6.drew W → W.cell? ⟨w4.heap.size, 2, none⟩ = some (.int .u64 (s.g + 1)) from fun W hW => (HKB6.out.drew.below hW HKB6.out.drew.lt).cell 2)
      have hu35 := Tryz.underlying35
      refine wp_region_noPanic ?_
      refine Tillst.region (fun W => Below v6.drew.heap.size v6.drew W) [] (by kernel_rfl) (Below.refl _ _) (fun hHeld => ?_)
      refine Tillst.take (i := 0) (oi := lc0) (v := ?_) rfl (by kernel_rfl) (by kernel_rfl) (by kernel_rfl) (by kernel_rfl) (fun _ _ _ h => h) (by rfl) ?_ hHeld ?_
      rotate_left
      · intro W hSW; (try dsimp only at hSW); unfold lc0; go_simp; with_reducible rfl
      simp only [lc0, Act.put, List.setIfInBounds_toArray, List.set_cons_zero, List.set_cons_succ]
      refine Tillst.take (i := 1) (oi := lc1) (v := ?_) rfl (by kernel_rfl) (by kernel_rfl) (by kernel_rfl) (by kernel_rfl) (fun _ _ _ h => h) (by rfl) ?_ hHeld ?_
      rotate_left
      · intro W hSW; (try dsimp only at hSW); unfold lc1; go_simp; with_reducible rfl
      simp only [lc1, Act.put, List.setIfInBounds_toArray, List.set_cons_zero, List.set_cons_succ]
      refine Tillst.take (i := 2) (oi := lc2) (v := ?_) rfl (by kernel_rfl) (by kernel_rfl) (by kernel_rfl) (by kernel_rfl) (fun _ _ _ h => h) (by rfl) ?_ hHeld ?_
      rotate_left
      · intro W hSW; (try dsimp only at hSW); unfold lc2; go_simp; with_reducible rfl
      simp only [lc2, Act.put, List.setIfInBounds_toArray, List.set_cons_zero, List.set_cons_succ]
      refine Tillst.take (i := 3) (oi := lc3) (v := ?_) rfl (by kernel_rfl) (by kernel_rfl) (by kernel_rfl) (by kernel_rfl) (fun _ _ _ h => h) (by rfl) ?_ hHeld ?_
      rotate_left
      · intro W' hSW; refine exec_load_row (.tmp 48) 35 ?_ l 1 ?_ [.int .i64 sec, .slice A2 m c3] _ hu35 rfl size_ring (HL1.out W' hSW) <;> rfl
      simp only [lc3, Act.put, List.setIfInBounds_toArray, List.set_cons_zero, List.set_cons_succ]
      refine Tillst.take (i := 4) (oi := lc4) (v := ?_) rfl (by kernel_rfl) (by kernel_rfl) (by kernel_rfl) (by kernel_rfl) (fun _ _ _ h => h) (by rfl) ?_ hHeld ?_
      rotate_left
      · intro W hSW; (try dsimp only at hSW); unfold lc4; go_simp; with_reducible rfl
      simp only [lc4, Act.put, List.setIfInBounds_toArray, List.set_cons_zero, List.set_cons_succ]
      refine Tillst.take (i := 5) (oi := lc5) (v := ?_) rfl (by kernel_rfl) (by kernel_rfl) (by kernel_rfl) (by kernel_rfl) (fun _ _ _ h => h) (by rfl) ?_ hHeld ?_
      rotate_left
      · intro W' hSW; have c2 := HG2.out W' hSW; unfold lc5; go_simp; with_reducible rfl
      simp only [lc5, Act.put, List.setIfInBounds_toArray, List.set_cons_zero, List.set_cons_succ]
      refine Tillst.two (i := 6) (j := 11) (o := lc6) (o' := lc11) (by kernel_rfl) rfl rfl ?_ ?_
      · intro K hK
        refine step_call 142 #[.tmp 49, .tmp 51] #[35, 30] rfl rfl Tryz.func142 rfl rfl [.agg #[.int .i64 sec, .slice A2 m c3], .int .u64 (s.g + 1)] rfl ?_
        refine (open_any (HOP.out _ hHeld) sec (s.g + 1)).mono ?_
        intro e v8 hopen
        obtain ⟨A9, c9, rfl, hown, hbn⟩ := hopen.told9
        have HOW := Lib.hid hown
        have HBN := Lib.hid hbn
        have hS8 := hbn
        clear hopen hown hbn
        refine ⟨_, rfl, ?_⟩
        simp only [lc6, Act.put, List.setIfInBounds_toArray, List.set_cons_zero, List.set_cons_succ]
        refine hK.out _ _ (fun _ => hS8) (fun hHeld => ?_)
        replace hHeld := hHeld (by decide)
        clear hK K hS8
        refine Tillst.take (i := 7) (oi := lc7) (v := ?_) rfl (by kernel_rfl) (by kernel_rfl) (by kernel_rfl) (by kernel_rfl) (fun _ _ _ h => h) (by rfl) ?_ hHeld ?_
        rotate_left
        · intro W hSW; (try dsimp only at hSW); unfold lc7; go_simp; with_reducible rfl
        simp only [lc7, Act.put, List.setIfInBounds_toArray, List.set_cons_zero, List.set_cons_succ]
        refine Tillst.take (i := 8) (oi := lc8) (v := ?_) rfl (by kernel_rfl) (by kernel_rfl) (by kernel_rfl) (by kernel_rfl) (fun _ _ _ h => h) (by rfl) ?_ hHeld ?_
        rotate_left
        · intro W hSW; (try dsimp only at hSW); unfold lc8; go_simp; with_reducible rfl
        simp only [lc8, Act.put, List.setIfInBounds_toArray, List.set_cons_zero, List.set_cons_succ]
        refine Tillst.take (i := 9) (oi := lc9) (v := ?_) rfl (by kernel_rfl) (by kernel_rfl) (by kernel_rfl) (by kernel_rfl) (fun _ _ _ h => h) (by rfl) ?_ hHeld ?_
        rotate_left
        · intro W hSW; (try dsimp only at hSW); unfold lc9; go_simp; with_reducible rfl
        simp only [lc9, Act.put, List.setIfInBounds_toArray, List.set_cons_zero, List.set_cons_succ]
        refine Tillst.take (i := 10) (oi := lc10) (v := ?_) rfl (by kernel_rfl) (by kernel_rfl) (by kernel_rfl) (by kernel_rfl) (fun _ _ _ h => h) (by rfl) ?_ hHeld ?_
        rotate_left
        · intro W hSW; (try dsimp only at hSW); unfold lc10; go_simp; with_reducible rfl
        simp only [lc10, Act.put, List.setIfInBounds_toArray, List.set_cons_zero, List.set_cons_succ]
        refine Tillst.one (i := 11) (o := lc11) (by kernel_rfl) rfl ?_
        intro K hK
        have hSA := hHeld.trans (((Below.refl (v8).heap.size (v8)).alloc (Nat.le_refl _) (.cells #[.int .i64 0, .slice none 0 0] 35)).mono hHeld.size)
        refine step_alloc_row 35 rfl rfl #[.int .i64 0, .slice none 0 0] zero_ring ?_
        simp only [lc11, Act.put, List.setIfInBounds_toArray, List.set_cons_zero, List.set_cons_succ]
        refine hK.out _ _ (fun _ => hSA) (fun hHeld => ?_)
        replace hHeld := hHeld (by decide)
        clear hK K hSA
        refine Tillst.one (i := 12) (o := lc12) (by kernel_rfl) rfl ?_
        intro K hK
        have hSA := below_setRow hHeld (g := v8.heap.size) HBN.out.size #[.int .i64 (pickS9 (openE sec (sealedX sec xs) (s.g + 1)) sec), .slice A9 (pickY9 (openE sec (sealedX sec xs) (s.g + 1)) (openX (sealedX sec xs) (s.g + 1))).length c9]
        refine step_store_row (.tmp 7) (.tmp 53) 35 rfl rfl (v8.heap.size) #[.int .i64 (pickS9 (openE sec (sealedX sec xs) (s.g + 1)) sec), .slice A9 (pickY9 (openE sec (sealedX sec xs) (s.g + 1)) (openX (sealedX sec xs) (s.g + 1))).length c9] rfl rfl 35 #[.int .i64 0, .slice none 0 0] (Blk.new v8 _ _) size_ring rfl (ring_one _ _ _ _) ?_
        simp only [lc12, Act.put, List.setIfInBounds_toArray, List.set_cons_zero, List.set_cons_succ]
        refine hK.out _ _ (fun _ => hSA) (fun hHeld => ?_)
        replace hHeld := hHeld (by decide)
        clear hK K hSA
        refine Tillst.one (i := 13) (o := lc13) (by kernel_rfl) rfl ?_
        intro K hK
        refine step_value ?_ rfl ?_ ?_
        rotate_left
        · unfold lc13; go_simp; with_reducible rfl
        simp only [lc13, Act.put, List.setIfInBounds_toArray, List.set_cons_zero, List.set_cons_succ]
        refine hK.out _ _ (fun _ => hHeld) (fun hHeld => ?_)
        replace hHeld := hHeld (by decide)
        clear hK K
        refine Tillst.one (i := 14) (o := lc14) (by kernel_rfl) rfl ?_
        intro K hK
        refine step_value ?_ rfl ?_ ?_
        rotate_left
        · unfold lc14; go_simp; with_reducible rfl
        simp only [lc14, Act.put, List.setIfInBounds_toArray, List.set_cons_zero, List.set_cons_succ]
        refine hK.out _ _ (fun _ => hHeld) (fun hHeld => ?_)
        replace hHeld := hHeld (by decide)
        clear hK K
        refine Tillst.done (by kernel_rfl) ?_ _
        refine hKK _ _ (Met.intro (hJ _ _ ?_))
        (repeat apply Exists.intro)
        exact ⟨OpnC.call HOW.out HBN.out, rfl⟩
      · intro K hK
        have hSA := hHeld.trans (((Below.refl (v6.drew).heap.size (v6.drew)).alloc (Nat.le_refl _) (.cells #[.int .i64 0, .slice none 0 0] 35)).mono hHeld.size)
        refine step_alloc_row 35 rfl rfl #[.int .i64 0, .slice none 0 0] zero_ring ?_
        simp only [lc11, Act.put, List.setIfInBounds_toArray, List.set_cons_zero, List.set_cons_succ]
        refine hK.out _ _ (fun _ => hSA) (fun hHeld => ?_)
        replace hHeld := hHeld (by decide)
        clear hK K hSA
        refine Tillst.one (i := 6) (o := lc6) (by kernel_rfl) rfl ?_
        intro K hK
        refine step_call 142 #[.tmp 49, .tmp 51] #[35, 30] rfl rfl Tryz.func142 rfl rfl [.agg #[.int .i64 sec, .slice A2 m c3], .int .u64 (s.g + 1)] rfl ?_
        refine (open_any (HOP.out _ hHeld) sec (s.g + 1)).mono ?_
        intro e v8 hopen
        obtain ⟨A9, c9, rfl, hown, hbn⟩ := hopen.told9
        have HOW := Lib.hid hown
        have HBN := Lib.hid hbn
        have hS8 := hHeld.trans (hbn.mono hHeld.size)
        clear hopen hown hbn
        refine ⟨_, rfl, ?_⟩
        simp only [lc6, Act.put, List.setIfInBounds_toArray, List.set_cons_zero, List.set_cons_succ]
        refine hK.out _ _ (fun _ => hS8) (fun hHeld => ?_)
        replace hHeld := hHeld (by decide)
        clear hK K hS8
        refine Tillst.take (i := 7) (oi := lc7) (v := ?_) rfl (by kernel_rfl) (by kernel_rfl) (by kernel_rfl) (by kernel_rfl) (fun _ _ _ h => h) (by rfl) ?_ hHeld ?_
        rotate_left
        · intro W hSW; (try dsimp only at hSW); unfold lc7; go_simp; with_reducible rfl
        simp only [lc7, Act.put, List.setIfInBounds_toArray, List.set_cons_zero, List.set_cons_succ]
        refine Tillst.take (i := 8) (oi := lc8) (v := ?_) rfl (by kernel_rfl) (by kernel_rfl) (by kernel_rfl) (by kernel_rfl) (fun _ _ _ h => h) (by rfl) ?_ hHeld ?_
        rotate_left
        · intro W hSW; (try dsimp only at hSW); unfold lc8; go_simp; with_reducible rfl
        simp only [lc8, Act.put, List.setIfInBounds_toArray, List.set_cons_zero, List.set_cons_succ]
        refine Tillst.take (i := 9) (oi := lc9) (v := ?_) rfl (by kernel_rfl) (by kernel_rfl) (by kernel_rfl) (by kernel_rfl) (fun _ _ _ h => h) (by rfl) ?_ hHeld ?_
        rotate_left
        · intro W hSW; (try dsimp only at hSW); unfold lc9; go_simp; with_reducible rfl
        simp only [lc9, Act.put, List.setIfInBounds_toArray, List.set_cons_zero, List.set_cons_succ]
        refine Tillst.take (i := 10) (oi := lc10) (v := ?_) rfl (by kernel_rfl) (by kernel_rfl) (by kernel_rfl) (by kernel_rfl) (fun _ _ _ h => h) (by rfl) ?_ hHeld ?_
        rotate_left
        · intro W hSW; (try dsimp only at hSW); unfold lc10; go_simp; with_reducible rfl
        simp only [lc10, Act.put, List.setIfInBounds_toArray, List.set_cons_zero, List.set_cons_succ]
        refine Tillst.one (i := 12) (o := lc12) (by kernel_rfl) rfl ?_
        intro K hK
        have hSA := below_setRow hHeld (g := v6.drew.heap.size) (Nat.le_refl _) #[.int .i64 (pickS9 (openE sec (sealedX sec xs) (s.g + 1)) sec), .slice A9 (pickY9 (openE sec (sealedX sec xs) (s.g + 1)) (openX (sealedX sec xs) (s.g + 1))).length c9]
        refine step_store_row (.tmp 7) (.tmp 53) 35 rfl rfl (v6.drew.heap.size) #[.int .i64 (pickS9 (openE sec (sealedX sec xs) (s.g + 1)) sec), .slice A9 (pickY9 (openE sec (sealedX sec xs) (s.g + 1)) (openX (sealedX sec xs) (s.g + 1))).length c9] rfl rfl 35 #[.int .i64 0, .slice none 0 0] (Blk.below (Blk.new v6.drew _ _) HBN.out (by simp)) size_ring rfl (ring_one _ _ _ _) ?_
        simp only [lc12, Act.put, List.setIfInBounds_toArray, List.set_cons_zero, List.set_cons_succ]
        refine hK.out _ _ (fun _ => hSA) (fun hHeld => ?_)
        replace hHeld := hHeld (by decide)
        clear hK K hSA
        refine Tillst.one (i := 13) (o := lc13) (by kernel_rfl) rfl ?_
        intro K hK
        refine step_value ?_ rfl ?_ ?_
        rotate_left
        · unfold lc13; go_simp; with_reducible rfl
        simp only [lc13, Act.put, List.setIfInBounds_toArray, List.set_cons_zero, List.set_cons_succ]
        refine hK.out _ _ (fun _ => hHeld) (fun hHeld => ?_)
        replace hHeld := hHeld (by decide)
        clear hK K
        refine Tillst.one (i := 14) (o := lc14) (by kernel_rfl) rfl ?_
        intro K hK
        refine step_value ?_ rfl ?_ ?_
        rotate_left
        · unfold lc14; go_simp; with_reducible rfl
        simp only [lc14, Act.put, List.setIfInBounds_toArray, List.set_cons_zero, List.set_cons_succ]
        refine hK.out _ _ (fun _ => hHeld) (fun hHeld => ?_)
        replace hHeld := hHeld (by decide)
        clear hK K
        refine Tillst.done (by kernel_rfl) ?_ _
        refine hKK _ _ (Met.intro (hJ _ _ ?_))
        (repeat apply Exists.intro)
        exact ⟨OpnC.laid HOW.out HBN.out, rfl⟩
    case rest =>
      obtain ⟨rfl, rfl, nb, A9, c9, rfl, hnb, hblk, hown, hbl⟩ := hcut
      have HNB := Lib.hid hnb
      have HNK := Lib.hid hblk
      have HOW := Lib.hid hown
      have HBL := Lib.hid hbl
      clear hnb hblk hown hbl
      have HB6 := Lib.hid ((Below.refl v6.heap.size v6).drew.trans HBL.out)
      obtain ⟨E, hE⟩ : ∃ E, openE sec (sealedX sec xs) (s.g + 1) = E := ⟨_, rfl⟩
      rw [hE] at HNK HOW
      have hE2 := hE
      have HE := Lib.hid hE2
      clear hE2
      by_cases hz : E = 0
      case neg =>
        have d1 : (E != 0) = true := by simpa using hz
        simp only [hE]
        have HEZ := Lib.hid hz
        clear hE hz
        go_wp2_with fail
        go_ret
        refine BegT.no (by rw [HE.out]; exact HEZ.out) (by rw [HE.out]; rfl) ?_ ?_ HMC2.out.1 HMC2.out.2
        · exact HL6.out.below HB6.out
        · exact HKX6.out.trans (Kept.of_below HB6.out (fun b h => Nat.lt_of_lt_of_le (HX.out b h) HKX6.out.size)) (fun b h => h)
      subst hz
      simp only [hE]
      rw [pickS9_zero, pickY9_zero] at HNK
      rw [pickY9_zero] at HOW
      obtain ⟨i, him, hi⟩ : ∃ i : Nat, i < m ∧ nxtR (sealedX sec xs) = (i : Int) := by
        rcases nxt_range (sealedX sec xs) with h | ⟨i, h1, h2⟩
        · exact absurd h (open_nxt HE.out)
        · exact ⟨i, by rw [← LogM.len9 HL6.out]; exact h1, h2⟩
      rw [hi]
      have HI := Lib.hid hi
      have HIM := Lib.hid him
      have HBH := Lib.hid (header_any i (s.g + 1) wc (by have := HSM.out.2.1; have := HMA.out; omega) ⟨by omega, hgm⟩)
      have g3 : wc.cell? ⟨w4.heap.size, 2, none⟩ = some (.int .u64 (s.g + 1)) := (HKB6.out.below HB6.out HKB6.out.lt).cell 2
      clear hE hi him
      go_wp2_with fail
      refine HBH.out.mono ?_
      rintro e w10 ⟨rfl, hb10⟩
      have HB10 := Lib.hid hb10
      obtain ⟨ys, hys⟩ : ∃ ys, hdrL i (s.g + 1) = ys := ⟨_, rfl⟩
      have HLY := Lib.hid (show ys.length = 64 by rw [← hys]; exact hdrL_length _ _)
      rw [hys]
      have HYS := Lib.hid hys
      clear hb10 hys g3 HBH
      go_upto_region 15 with (first | (refine wpList_alloc_blk rfl rfl ?_) | (refine wpList_store_new (.tmp 10) (.tmp 64) rfl rfl w10 ys rfl rfl (noughts 64) rfl (noughts_length 64) HLY.out ?_))
      have HBCZ := Lib.hid (show Below wc.heap.size wc ((w10.alloc (.cells (cells8 ys) 84)).alloc (.cells (cells8 ys) 84)) from HB10.out.trans ((((Below.refl w10.heap.size w10).alloc (Nat.le_refl _) (.cells (cells8 ys) 84)).alloc (by simp) (.cells (cells8 ys) 84)).mono HB10.out.size))
      have HBZ := Lib.hid (show Below v6.heap.size v6 ((w10.alloc (.cells (cells8 ys) 84)).alloc (.cells (cells8 ys) 84)) from HB6.out.trans (HBCZ.out.mono HB6.out.size))
      have HSZ := Lib.hid (show StoS ((w10.alloc (.cells (cells8 ys) 84)).alloc (.cells (cells8 ys) 84)) (fun b => (X b ∨ b = l ∨ R b) ∨ (v6.heap.size ≤ b ∧ b < ((w10.alloc (.cells (cells8 ys) 84)).alloc (.cells (cells8 ys) 84)).heap.size)) p d n (genS s) (nxt t) (setK k s t) from StoreM.grow HS6B.out HBZ.out)
      have HYZ := Lib.hid (show ∀ b, (fun b => (X b ∨ b = l ∨ R b) ∨ (v6.heap.size ≤ b ∧ b < ((w10.alloc (.cells (cells8 ys) 84)).alloc (.cells (cells8 ys) 84)).heap.size)) b → b < ((w10.alloc (.cells (cells8 ys) 84)).alloc (.cells (cells8 ys) 84)).heap.size from grow_lt (fun b h => Nat.lt_of_lt_of_le (HY0.out b h) HSZ6.out) HBZ.out.size)
      have HGK := Lib.hid (show Good (setK k s t) from (HG.out.put _ _).sync)
      have HPK := Lib.hid (show (setK k s t).pend = [] from (HG.out.put _ _).pend_sync)
      have HC0 := Lib.hid (show ((w10.alloc (.cells (cells8 ys) 84)).alloc (.cells (cells8 ys) 84)).cell? ⟨l, 0, none⟩ = some (.pointer (some ⟨p, 0, none⟩)) from (HBK6.out.below HBZ.out HBK6.out.lt).cell 0)
      have hwr := (beg_write HSZ.out HYZ.out (.inl (.inr (.inl rfl))) HC0.out (.inr ⟨by have := HB6.out.size; have := HB10.out.size; have h : (w10.alloc (.cells (cells8 ys) 84)).heap.size = w10.heap.size + 1 := (by simp); omega, by simp⟩) (Blk.new (w10.alloc (.cells (cells8 ys) 84)) _ _) HLY.out (show Bytes ys by rw [← HYS.out]; exact hdr_bytes _ _ (by have := HIM.out; have := HMA.out; have := HSM.out.2.1; omega)) i (by have := HIM.out; have := HMA.out; omega) HSM.out HRM.out HNN.out HGK.out HPK.out)
      rw [show (w10.alloc (.cells (cells8 ys) 84)).heap.size = w10.heap.size + 1 from (by simp)] at hwr
      have HWR := Lib.hid hwr
      clear hwr
      have HRL := Lib.hid (show (w10.alloc (.cells (cells8 ys) 84)).rangeAt w10.heap.size 0 (ys.map (Value.int .u8)) from (show ArrB (w10.alloc (.cells (cells8 ys) 84)) w10.heap.size ys from Blk.new w10 _ _).range)
      have hll : l < v6.heap.size := HBK6.out.lt
      have HLL6 := Lib.hid hll
      clear hll
      go_wp2_with (first | (refine wpList_load_blk (.tmp 10) rfl rfl w10.heap.size 0 rfl ys HLY.out HRL.out ?_) | (refine wpList_lit_sec (.tmp 71) rfl rfl ys rfl HLY.out ?_))
      refine HWR.out.mono ?_
      rintro e w12 ⟨rfl, hs12, hk12⟩
      have HS12 := Lib.hid hs12
      have HK12 := Lib.hid hk12
      clear hs12 hk12
      have c0 : w12.cell? ⟨l, 0, none⟩ = some (.pointer (some ⟨p, 0, none⟩)) := (HK12.out.cell (p := ⟨l, 0, none⟩) (.inl (.inr (.inl rfl)))).trans HC0.out
      go_wp2_with fail
      refine (sto_disk HS12.out).mono ?_
      rintro e w' ⟨rfl, rfl⟩
      go_wp2_with fail
      have hsy := sync_k HS12.out.2.1 (fun b h => by rcases h with h | h; exact Nat.lt_of_lt_of_le (HYZ.out b h) HK12.out.size; rw [h]; exact HS12.out.1.lt)
      rw [(HGK.out.put _ _).wre] at hsy
      refine hsy.mono ?_
      rintro e w13 ⟨rfl, hd13, hk13⟩
      have HS13 := Lib.hid (show StoS w13 (fun b => (X b ∨ b = l ∨ R b) ∨ (v6.heap.size ≤ b ∧ b < ((w10.alloc (.cells (cells8 ys) 84)).alloc (.cells (cells8 ys) 84)).heap.size)) p d n (genS s) (nxt t) (begK k s t (i : Int)) from by unfold begK; rw [Int.toNat_natCast, HYS.out]; exact ⟨HS12.out.1.kept hk13 (.inr rfl), hd13, HS12.out.2.2⟩)
      have HKW := Lib.hid (HK12.out.trans hk13 (fun b h => .inl h))
      clear c0 hsy hd13 hk13 HS12 HK12 HWR HSZ
      have HB13 := Lib.hid ((HBK6.out.below HBZ.out HBK6.out.lt).kept HKW.out (.inl (.inr (.inl rfl))))
      have HN13 := Lib.hid ((HNK.out.below HBCZ.out HNK.out.lt).kept HKW.out (.inr ⟨HNB.out, Nat.lt_of_lt_of_le HNK.out.lt HBCZ.out.size⟩))
      have HR13 := Lib.hid ((HOW.out.row.below HBCZ.out (fun b h => h.2)).kept HKW.out (fun b h => .inr ⟨h.1, Nat.lt_of_lt_of_le h.2 HBCZ.out.size⟩))
      obtain ⟨k0, k1⟩ := ring_cells HN13.out
      obtain ⟨f1, f2⟩ := And.intro (HB13.out.frozen 1) (HB13.out.frozen 2)
      have hneq : nb ≠ l := by have h1 := HLL6.out; have h2 : v6.heap.size ≤ nb := HNB.out; omega
      have b1 : w13.cell? ⟨l, 1, none⟩ = some (.int .i64 sec) := HB13.out.cell 1
      have b2 : w13.cell? ⟨l, 2, none⟩ = some (.slice A2 m c3) := HB13.out.cell 2
      go_wp2_with fail
      go_ret
      have hSZ2 : wc.heap.size ≤ w13.heap.size := Nat.le_trans HBCZ.out.size HKW.out.size
      have hsub : ∀ b, (X b ∨ b = l ∨ From v6.drew.heap.size wc b) → (fun b => (X b ∨ b = l ∨ R b) ∨ (v6.heap.size ≤ b ∧ b < ((w10.alloc (.cells (cells8 ys) 84)).alloc (.cells (cells8 ys) 84)).heap.size)) b := fun b h => by
        rcases h with h | h | h
        · exact .inl (.inl h)
        · exact .inl (.inr (.inl h))
        · exact .inr ⟨h.1, Nat.lt_of_lt_of_le h.2 HBCZ.out.size⟩
      have hfr : ∀ b, From v6.drew.heap.size wc b → b < w13.heap.size ∧ b ≠ l := fun b h => by
        have h1 := HLL6.out
        have h2 : v6.heap.size ≤ b := h.1
        have h3 := h.2
        omega
      have hlog := LogM.lay (sec := sec) (c2 := c9) HB13.out HXL.out (StoreM.kept (Z := fun _ => True) HS13.out (Kept.refl _ _) (fun _ _ _ => trivial) (fun b _ h => hsub b h)) HR13.out hfr
      refine BegT.yes HE.out (by rw [HE.out]; rfl) (by rw [HI.out]; exact hlog) ?_ HOW.out.2.2.2 HOW.out.2.2.1
      exact (((HKX6.out.trans (Kept.of_below HBZ.out (fun b h => Nat.lt_of_lt_of_le (HX.out b h) HKX6.out.size)) (fun b h => h)).trans HKW.out (fun b h => .inl (.inl h))).setCell (p := ⟨l, 1, none⟩) HXL.out _).setCell (p := ⟨l, 2, none⟩) HXL.out _
  · have hal := (Below.refl w2.heap.size w2).alloc (Nat.le_refl _) (.cells #[.int .i64 0, .slice none 0 0] 35)
    have hbz := hb2.trans (hal.mono hb2.size)
    have HBG := Lib.hid (show BegC w X l p d n s t k sec m (sealedX sec xs) (w2.alloc (.cells #[.int .i64 0, .slice none 0 0] 35)) from ⟨A, c, by unfold sealedX; rw [if_neg hno]; exact HL.out.below hbz, Kept.of_below hbz HX.out, HMC.out.1, HMC.out.2⟩)
    have d1 : (sealE sec xs == 0) = false := by simpa using hno
    generalize sealE sec xs = E at *
    clear hal hbz hb2 c1 c2 hno
    go_upto_region 4 with fail
    generalize w2.alloc (.cells #[.int .i64 0, .slice none 0 0] 35) = wx at *
    clear d1
    obtain ⟨A2, c3, hlm, hkx, hmc2, hnil2⟩ := HBG.out
    obtain ⟨hb, hxl, R, hs, hrow, hR⟩ := hlm
    have HBK := Lib.hid hb
    have HS := Lib.hid hs
    have HRO := Lib.hid hrow
    have HRR := Lib.hid hR
    have HKX := Lib.hid hkx
    have HMC2 := Lib.hid (And.intro hmc2 hnil2)
    have HXL := Lib.hid hxl
    have HY0 := Lib.hid (show ∀ b, (X b ∨ b = l ∨ R b) → b < wx.heap.size from fun b h => by
      rcases h with h | h | h
      · exact Nat.lt_of_lt_of_le (HX.out b h) hkx.size
      · rw [h]; exact hb.lt
      · exact (hR b h).1)
    have c0 : wx.cell? ⟨l, 0, none⟩ = some (.pointer (some ⟨p, 0, none⟩)) := hb.cell 0
    clear hb hxl hs hrow hR hkx hmc2 hnil2
    go_wp2_with fail
    refine (get_any HS.out).mono ?_
    rintro e w4 ⟨rfl, hb4⟩
    have hbk : Below wx.heap.size wx (w4.alloc (.cells #[.int .i64 s.a, .int .i64 s.b, .int .u64 s.g, .int .u64 s.r, .int .u64 s.v, .int .u64 s.f] 32)) := hb4.alloc hb4.size _
    have hb5 : Below wx.heap.size wx (w4.alloc (.cells #[.int .i64 s.a, .int .i64 s.b, .int .u64 (s.g + 1), .int .u64 s.r, .int .u64 s.v, .int .u64 s.f] 32)) := hb4.alloc hb4.size _
    have HK4 := Lib.hid (show Blk (w4.alloc (.cells #[.int .i64 s.a, .int .i64 s.b, .int .u64 s.g, .int .u64 s.r, .int .u64 s.v, .int .u64 s.f] 32)) w4.heap.size 32 (supC s.a s.b s.g s.r s.v s.f) from Blk.new w4 _ _)
    have HK5 := Lib.hid (show Blk (w4.alloc (.cells #[.int .i64 s.a, .int .i64 s.b, .int .u64 (s.g + 1), .int .u64 s.r, .int .u64 s.v, .int .u64 s.f] 32)) w4.heap.size 32 (supC s.a s.b (s.g + 1) s.r s.v s.f) from Blk.new w4 _ _)
    have HB5 := Lib.hid hb5
    have HZ5 := Lib.hid (show wx.heap.size ≤ w4.heap.size from hb4.size)
    have g2 : (w4.alloc (.cells #[.int .i64 s.a, .int .i64 s.b, .int .u64 s.g, .int .u64 s.r, .int .u64 s.v, .int .u64 s.f] 32)).cell? ⟨w4.heap.size, 2, none⟩ = some (.int .u64 s.g) := HK4.out.cell 2
    have f2 := HK4.out.frozen 2
    clear hb4 hbk hb5 c0
    go_upto_region 6 with fail
    generalize (w4.alloc (.cells #[.int .i64 s.a, .int .i64 s.b, .int .u64 (s.g + 1), .int .u64 s.r, .int .u64 s.v, .int .u64 s.f] 32)) = w5 at *
    clear g2 f2
    have HS5 := Lib.hid (StoreM.grow HS.out HB5.out.drew)
    have HX5 := Lib.hid (grow_lt (w' := w5.drew) HY0.out HB5.out.drew.size)
    have hK5 : w5.drew.rangeAt w4.heap.size 0 (supC s.a s.b (s.g + 1) s.r s.v s.f).toList := Blk.rangeL (cs := (supC s.a s.b (s.g + 1) s.r s.v s.f).toList) HK5.out.drew
    have hc5 : w5.drew.cell? ⟨l, 0, none⟩ = some (.pointer (some ⟨p, 0, none⟩)) := (HBK.out.below HB5.out.drew HBK.out.lt).cell 0
    have hu32 := Tryz.underlying32
    have hs32 : (Tryz.prog.info? 32).map (·.size) = some (supC s.a s.b (s.g + 1) s.r s.v s.f).toList.length := size_sup
    have HSET := Lib.hid (set_go HS5.out HX5.out (s.g + 1) s.r s.v s.f (by obtain ⟨h1, h2, h3, h4, h5⟩ := HSM.out; exact ⟨h1, h2, h3, h4, by omega⟩) (by have h := HSI.out; unfold Sup.In InS at h; unfold InS; omega) (by unfold BackS; omega) hn (by have := HP.out; omega) HG.out.wre (HG.out.put _ _).wre)
    refine wp_region_noPanic ?_
    refine Tillst.region (fun W => W.cell? ⟨l, 0, none⟩ = some (.pointer (some ⟨p, 0, none⟩)) ∧ W.rangeAt w4.heap.size 0 (supC s.a s.b (s.g + 1) s.r s.v s.f).toList) [] (by kernel_rfl) ⟨hc5, hK5⟩ (fun hHeld => ?_)
    have HDW := Lib.hid (show w4.heap.size < w5.drew.heap.size from HK5.out.drew.lt)
    have HB5D := Lib.hid HB5.out.drew
    have HKD := Lib.hid HK5.out.drew
    generalize w5.drew = vd at *
    refine Tillst.take (i := 0) (oi := lb0) (v := ?_) rfl (by kernel_rfl) (by kernel_rfl) (by kernel_rfl) (by kernel_rfl) (fun _ _ _ h => h) (by rfl) ?_ hHeld ?_
    rotate_left
    · intro W hSW; (try dsimp only at hSW); unfold lb0; go_simp; with_reducible rfl
    simp only [lb0, Act.put, List.setIfInBounds_toArray, List.set_cons_zero, List.set_cons_succ]
    refine Tillst.take (i := 1) (oi := lb1) (v := ?_) rfl (by kernel_rfl) (by kernel_rfl) (by kernel_rfl) (by kernel_rfl) (fun _ _ _ h => h) (by rfl) ?_ hHeld ?_
    rotate_left
    · intro W hSW; (try dsimp only at hSW); unfold lb1; go_simp; with_reducible rfl
    simp only [lb1, Act.put, List.setIfInBounds_toArray, List.set_cons_zero, List.set_cons_succ]
    refine Tillst.take (i := 2) (oi := lb2) (v := ?_) rfl (by kernel_rfl) (by kernel_rfl) (by kernel_rfl) (by kernel_rfl) (fun _ _ _ h => h) (by rfl) ?_ hHeld ?_
    rotate_left
    · intro W hSW; (try dsimp only at hSW); unfold lb2; go_simp; with_reducible rfl
    simp only [lb2, Act.put, List.setIfInBounds_toArray, List.set_cons_zero, List.set_cons_succ]
    refine Tillst.take (i := 3) (oi := lb3) (v := ?_) rfl (by kernel_rfl) (by kernel_rfl) (by kernel_rfl) (by kernel_rfl) (fun _ _ _ h => h) (by rfl) ?_ hHeld ?_
    rotate_left
    · intro W' hSW; have c0 := hSW.1; unfold lb3; go_simp; with_reducible rfl
    simp only [lb3, Act.put, List.setIfInBounds_toArray, List.set_cons_zero, List.set_cons_succ]
    refine Tillst.take (i := 4) (oi := lb4) (v := ?_) rfl (by kernel_rfl) (by kernel_rfl) (by kernel_rfl) (by kernel_rfl) (fun _ _ _ h => h) (by rfl) ?_ hHeld ?_
    rotate_left
    · intro W' hSW; refine exec_load_row (.tmp 5) 32 ?_ w4.heap.size 0 ?_ (supC s.a s.b (s.g + 1) s.r s.v s.f).toList _ hu32 rfl hs32 hSW.2 <;> rfl
    simp only [lb4, Act.put, List.setIfInBounds_toArray, List.set_cons_zero, List.set_cons_succ]
    refine Tillst.one (i := 5) (o := lb5) (by kernel_rfl) rfl ?_
    intro K hK
    refine step_call 70 #[.tmp 39, .tmp 40] #[70, 32] rfl rfl Tryz.func70 rfl rfl [.pointer (some ⟨p, 0, none⟩), .agg (supC s.a s.b (s.g + 1) s.r s.v s.f)] rfl ?_
    refine HSET.out.mono ?_
    rintro e v6 ⟨rfl, hs6, hk6⟩
    have HS6 := Lib.hid hs6
    have HK6 := Lib.hid hk6
    have hS6 := And.intro (show v6.cell? ⟨l, 0, none⟩ = some (.pointer (some ⟨p, 0, none⟩)) from (hk6.cell (p := ⟨l, 0, none⟩) (.inl (.inr (.inl rfl)))).trans hHeld.1) (show v6.rangeAt w4.heap.size 0 (supC s.a s.b (s.g + 1) s.r s.v s.f).toList from fun q u hu => (hk6.cell (p := ⟨w4.heap.size, 0 + q, none⟩) (.inr ⟨HZ5.out, HDW.out⟩)).trans (hHeld.2 q u hu))
    clear hs6 hk6
    refine ⟨_, rfl, ?_⟩
    simp only [lb5, Act.put, List.setIfInBounds_toArray, List.set_cons_zero, List.set_cons_succ]
    refine hK.out _ _ (fun _ => hS6) (fun hHeld => ?_)
    replace hHeld := hHeld (by decide)
    clear hK K hS6
    refine Tillst.one (i := 6) (o := lb6) (by kernel_rfl) rfl ?_
    intro K hK
    refine step_value ?_ rfl ?_ ?_
    rotate_left
    · unfold lb6; go_simp; with_reducible rfl
    simp only [lb6, Act.put, List.setIfInBounds_toArray, List.set_cons_zero, List.set_cons_succ]
    refine hK.out _ _ (fun _ => hHeld) (fun hHeld => ?_)
    replace hHeld := hHeld (by decide)
    clear hK K
    refine Tillst.done (by kernel_rfl) ?_ _
    refine NoPanic.normal ?_
    clear hHeld hK5 hc5 hs32 hu32
    have HR6 := Lib.hid ((HRO.out.below HB5D.out (fun b h => (HRR.out b h).1)).kept HK6.out (fun b h => .inl (.inr (.inr h))))
    have HBK6 := Lib.hid ((HBK.out.below HB5D.out HBK.out.lt).kept HK6.out (.inl (.inr (.inl rfl))))
    have HSZ6 := Lib.hid (Nat.le_trans HB5D.out.size HK6.out.size)
    have HS6B := Lib.hid (show StoS v6 (fun b => X b ∨ b = l ∨ R b) p d n (genS s) (nxt t) (setK k s t) from StoreM.kept (Z := fun _ => True) HS6.out (Kept.refl _ _) (fun _ _ _ => trivial) (fun b _ h => .inl h))
    have HL6 := Lib.hid (show LogM v6 X l p d n ⟨s.a, s.b, s.g + 1, s.r, s.v, s.f⟩ (nxt t) (setK k s t) sec A2 m c3 (sealedX sec xs) false from ⟨HBK6.out, HXL.out, R, StoreM.kept (Z := fun _ => True) HS6.out (Kept.refl _ _) (fun _ _ _ => trivial) (fun b _ h => .inl h), HR6.out, fun b h => ⟨Nat.lt_of_lt_of_le (HRR.out b h).1 HSZ6.out, (HRR.out b h).2⟩⟩)
    have HKX6 := Lib.hid (HKX.out.trans (Kept.of_below HB5D.out (fun b (h : X b) => HY0.out b (.inl h)) |>.trans HK6.out (fun b h => .inl (.inl h))) (fun b h => h))
    have HKB6 := Lib.hid (HKD.out.kept HK6.out (.inr ⟨HZ5.out, HDW.out⟩))
    clear HB5 HK4 HK5 HB5D HKD HSET HS5 HX5 HS6 HK6 HDW HS HRO HBK
    go_upto_region 9 with fail
    go_cut [7, 8, 9] (fun t i e wy => OpnC v6.drew sec (sealedX sec xs) (s.g + 1) t i e wy)
    case first J KK hJ hKK =>
      have HOP := Lib.hid (show ∀ W, Below v6.drew.heap.size v6.drew W → RowZ W (· < W.heap.size) A2 m (sealedX sec xs) from fun W hW => (HL6.out.now.below ((Below.refl v6.heap.size v6).drew.trans hW) (fun b h => h)).more (fun b h => Nat.lt_of_lt_of_le h (by have := hW.size; have := (Below.refl v6.heap.size v6).drew.size; omega)))
      have HL1 := Lib.hid (show ∀ W, Below v6.drew.heap.size v6.drew W → W.rangeAt l 1 [.int .i64 sec, .slice A2 m c3] from fun W hW q u hu => by
        have hb := HBK6.out.drew.below hW HBK6.out.drew.lt
        match q, hu with
        | 0, hu => exact (hb.cell 1).trans hu
        | 1, hu => exact (hb.cell 2).trans hu)
      have HG2 := Lib.hid (show ∀ W, Below v6.drew.heap.size v6.drew W → W.cell? ⟨w4.heap.size, 2, none⟩ = some (.int .u64 (s.g + 1)) from fun W hW => (HKB6.out.drew.below hW HKB6.out.drew.lt).cell 2)
      have hu35 := Tryz.underlying35
      refine wp_region_noPanic ?_
      refine Tillst.region (fun W => Below v6.drew.heap.size v6.drew W) [] (by kernel_rfl) (Below.refl _ _) (fun hHeld => ?_)
      refine Tillst.take (i := 0) (oi := lc0) (v := ?_) rfl (by kernel_rfl) (by kernel_rfl) (by kernel_rfl) (by kernel_rfl) (fun _ _ _ h => h) (by rfl) ?_ hHeld ?_
      rotate_left
      · intro W hSW; (try dsimp only at hSW); unfold lc0; go_simp; with_reducible rfl
      simp only [lc0, Act.put, List.setIfInBounds_toArray, List.set_cons_zero, List.set_cons_succ]
      refine Tillst.take (i := 1) (oi := lc1) (v := ?_) rfl (by kernel_rfl) (by kernel_rfl) (by kernel_rfl) (by kernel_rfl) (fun _ _ _ h => h) (by rfl) ?_ hHeld ?_
      rotate_left
      · intro W hSW; (try dsimp only at hSW); unfold lc1; go_simp; with_reducible rfl
      simp only [lc1, Act.put, List.setIfInBounds_toArray, List.set_cons_zero, List.set_cons_succ]
      refine Tillst.take (i := 2) (oi := lc2) (v := ?_) rfl (by kernel_rfl) (by kernel_rfl) (by kernel_rfl) (by kernel_rfl) (fun _ _ _ h => h) (by rfl) ?_ hHeld ?_
      rotate_left
      · intro W hSW; (try dsimp only at hSW); unfold lc2; go_simp; with_reducible rfl
      simp only [lc2, Act.put, List.setIfInBounds_toArray, List.set_cons_zero, List.set_cons_succ]
      refine Tillst.take (i := 3) (oi := lc3) (v := ?_) rfl (by kernel_rfl) (by kernel_rfl) (by kernel_rfl) (by kernel_rfl) (fun _ _ _ h => h) (by rfl) ?_ hHeld ?_
      rotate_left
      · intro W' hSW; refine exec_load_row (.tmp 48) 35 ?_ l 1 ?_ [.int .i64 sec, .slice A2 m c3] _ hu35 rfl size_ring (HL1.out W' hSW) <;> rfl
      simp only [lc3, Act.put, List.setIfInBounds_toArray, List.set_cons_zero, List.set_cons_succ]
      refine Tillst.take (i := 4) (oi := lc4) (v := ?_) rfl (by kernel_rfl) (by kernel_rfl) (by kernel_rfl) (by kernel_rfl) (fun _ _ _ h => h) (by rfl) ?_ hHeld ?_
      rotate_left
      · intro W hSW; (try dsimp only at hSW); unfold lc4; go_simp; with_reducible rfl
      simp only [lc4, Act.put, List.setIfInBounds_toArray, List.set_cons_zero, List.set_cons_succ]
      refine Tillst.take (i := 5) (oi := lc5) (v := ?_) rfl (by kernel_rfl) (by kernel_rfl) (by kernel_rfl) (by kernel_rfl) (fun _ _ _ h => h) (by rfl) ?_ hHeld ?_
      rotate_left
      · intro W' hSW; have c2 := HG2.out W' hSW; unfold lc5; go_simp; with_reducible rfl
      simp only [lc5, Act.put, List.setIfInBounds_toArray, List.set_cons_zero, List.set_cons_succ]
      refine Tillst.two (i := 6) (j := 11) (o := lc6) (o' := lc11) (by kernel_rfl) rfl rfl ?_ ?_
      · intro K hK
        refine step_call 142 #[.tmp 49, .tmp 51] #[35, 30] rfl rfl Tryz.func142 rfl rfl [.agg #[.int .i64 sec, .slice A2 m c3], .int .u64 (s.g + 1)] rfl ?_
        refine (open_any (HOP.out _ hHeld) sec (s.g + 1)).mono ?_
        intro e v8 hopen
        obtain ⟨A9, c9, rfl, hown, hbn⟩ := hopen.told9
        have HOW := Lib.hid hown
        have HBN := Lib.hid hbn
        have hS8 := hbn
        clear hopen hown hbn
        refine ⟨_, rfl, ?_⟩
        simp only [lc6, Act.put, List.setIfInBounds_toArray, List.set_cons_zero, List.set_cons_succ]
        refine hK.out _ _ (fun _ => hS8) (fun hHeld => ?_)
        replace hHeld := hHeld (by decide)
        clear hK K hS8
        refine Tillst.take (i := 7) (oi := lc7) (v := ?_) rfl (by kernel_rfl) (by kernel_rfl) (by kernel_rfl) (by kernel_rfl) (fun _ _ _ h => h) (by rfl) ?_ hHeld ?_
        rotate_left
        · intro W hSW; (try dsimp only at hSW); unfold lc7; go_simp; with_reducible rfl
        simp only [lc7, Act.put, List.setIfInBounds_toArray, List.set_cons_zero, List.set_cons_succ]
        refine Tillst.take (i := 8) (oi := lc8) (v := ?_) rfl (by kernel_rfl) (by kernel_rfl) (by kernel_rfl) (by kernel_rfl) (fun _ _ _ h => h) (by rfl) ?_ hHeld ?_
        rotate_left
        · intro W hSW; (try dsimp only at hSW); unfold lc8; go_simp; with_reducible rfl
        simp only [lc8, Act.put, List.setIfInBounds_toArray, List.set_cons_zero, List.set_cons_succ]
        refine Tillst.take (i := 9) (oi := lc9) (v := ?_) rfl (by kernel_rfl) (by kernel_rfl) (by kernel_rfl) (by kernel_rfl) (fun _ _ _ h => h) (by rfl) ?_ hHeld ?_
        rotate_left
        · intro W hSW; (try dsimp only at hSW); unfold lc9; go_simp; with_reducible rfl
        simp only [lc9, Act.put, List.setIfInBounds_toArray, List.set_cons_zero, List.set_cons_succ]
        refine Tillst.take (i := 10) (oi := lc10) (v := ?_) rfl (by kernel_rfl) (by kernel_rfl) (by kernel_rfl) (by kernel_rfl) (fun _ _ _ h => h) (by rfl) ?_ hHeld ?_
        rotate_left
        · intro W hSW; (try dsimp only at hSW); unfold lc10; go_simp; with_reducible rfl
        simp only [lc10, Act.put, List.setIfInBounds_toArray, List.set_cons_zero, List.set_cons_succ]
        refine Tillst.one (i := 11) (o := lc11) (by kernel_rfl) rfl ?_
        intro K hK
        have hSA := hHeld.trans (((Below.refl (v8).heap.size (v8)).alloc (Nat.le_refl _) (.cells #[.int .i64 0, .slice none 0 0] 35)).mono hHeld.size)
        refine step_alloc_row 35 rfl rfl #[.int .i64 0, .slice none 0 0] zero_ring ?_
        simp only [lc11, Act.put, List.setIfInBounds_toArray, List.set_cons_zero, List.set_cons_succ]
        refine hK.out _ _ (fun _ => hSA) (fun hHeld => ?_)
        replace hHeld := hHeld (by decide)
        clear hK K hSA
        refine Tillst.one (i := 12) (o := lc12) (by kernel_rfl) rfl ?_
        intro K hK
        have hSA := below_setRow hHeld (g := v8.heap.size) HBN.out.size #[.int .i64 (pickS9 (openE sec (sealedX sec xs) (s.g + 1)) sec), .slice A9 (pickY9 (openE sec (sealedX sec xs) (s.g + 1)) (openX (sealedX sec xs) (s.g + 1))).length c9]
        refine step_store_row (.tmp 7) (.tmp 53) 35 rfl rfl (v8.heap.size) #[.int .i64 (pickS9 (openE sec (sealedX sec xs) (s.g + 1)) sec), .slice A9 (pickY9 (openE sec (sealedX sec xs) (s.g + 1)) (openX (sealedX sec xs) (s.g + 1))).length c9] rfl rfl 35 #[.int .i64 0, .slice none 0 0] (Blk.new v8 _ _) size_ring rfl (ring_one _ _ _ _) ?_
        simp only [lc12, Act.put, List.setIfInBounds_toArray, List.set_cons_zero, List.set_cons_succ]
        refine hK.out _ _ (fun _ => hSA) (fun hHeld => ?_)
        replace hHeld := hHeld (by decide)
        clear hK K hSA
        refine Tillst.one (i := 13) (o := lc13) (by kernel_rfl) rfl ?_
        intro K hK
        refine step_value ?_ rfl ?_ ?_
        rotate_left
        · unfold lc13; go_simp; with_reducible rfl
        simp only [lc13, Act.put, List.setIfInBounds_toArray, List.set_cons_zero, List.set_cons_succ]
        refine hK.out _ _ (fun _ => hHeld) (fun hHeld => ?_)
        replace hHeld := hHeld (by decide)
        clear hK K
        refine Tillst.one (i := 14) (o := lc14) (by kernel_rfl) rfl ?_
        intro K hK
        refine step_value ?_ rfl ?_ ?_
        rotate_left
        · unfold lc14; go_simp; with_reducible rfl
        simp only [lc14, Act.put, List.setIfInBounds_toArray, List.set_cons_zero, List.set_cons_succ]
        refine hK.out _ _ (fun _ => hHeld) (fun hHeld => ?_)
        replace hHeld := hHeld (by decide)
        clear hK K
        refine Tillst.done (by kernel_rfl) ?_ _
        refine hKK _ _ (Met.intro (hJ _ _ ?_))
        (repeat apply Exists.intro)
        exact ⟨OpnC.call HOW.out HBN.out, rfl⟩
      · intro K hK
        have hSA := hHeld.trans (((Below.refl (v6.drew).heap.size (v6.drew)).alloc (Nat.le_refl _) (.cells #[.int .i64 0, .slice none 0 0] 35)).mono hHeld.size)
        refine step_alloc_row 35 rfl rfl #[.int .i64 0, .slice none 0 0] zero_ring ?_
        simp only [lc11, Act.put, List.setIfInBounds_toArray, List.set_cons_zero, List.set_cons_succ]
        refine hK.out _ _ (fun _ => hSA) (fun hHeld => ?_)
        replace hHeld := hHeld (by decide)
        clear hK K hSA
        refine Tillst.one (i := 6) (o := lc6) (by kernel_rfl) rfl ?_
        intro K hK
        refine step_call 142 #[.tmp 49, .tmp 51] #[35, 30] rfl rfl Tryz.func142 rfl rfl [.agg #[.int .i64 sec, .slice A2 m c3], .int .u64 (s.g + 1)] rfl ?_
        refine (open_any (HOP.out _ hHeld) sec (s.g + 1)).mono ?_
        intro e v8 hopen
        obtain ⟨A9, c9, rfl, hown, hbn⟩ := hopen.told9
        have HOW := Lib.hid hown
        have HBN := Lib.hid hbn
        have hS8 := hHeld.trans (hbn.mono hHeld.size)
        clear hopen hown hbn
        refine ⟨_, rfl, ?_⟩
        simp only [lc6, Act.put, List.setIfInBounds_toArray, List.set_cons_zero, List.set_cons_succ]
        refine hK.out _ _ (fun _ => hS8) (fun hHeld => ?_)
        replace hHeld := hHeld (by decide)
        clear hK K hS8
        refine Tillst.take (i := 7) (oi := lc7) (v := ?_) rfl (by kernel_rfl) (by kernel_rfl) (by kernel_rfl) (by kernel_rfl) (fun _ _ _ h => h) (by rfl) ?_ hHeld ?_
        rotate_left
        · intro W hSW; (try dsimp only at hSW); unfold lc7; go_simp; with_reducible rfl
        simp only [lc7, Act.put, List.setIfInBounds_toArray, List.set_cons_zero, List.set_cons_succ]
        refine Tillst.take (i := 8) (oi := lc8) (v := ?_) rfl (by kernel_rfl) (by kernel_rfl) (by kernel_rfl) (by kernel_rfl) (fun _ _ _ h => h) (by rfl) ?_ hHeld ?_
        rotate_left
        · intro W hSW; (try dsimp only at hSW); unfold lc8; go_simp; with_reducible rfl
        simp only [lc8, Act.put, List.setIfInBounds_toArray, List.set_cons_zero, List.set_cons_succ]
        refine Tillst.take (i := 9) (oi := lc9) (v := ?_) rfl (by kernel_rfl) (by kernel_rfl) (by kernel_rfl) (by kernel_rfl) (fun _ _ _ h => h) (by rfl) ?_ hHeld ?_
        rotate_left
        · intro W hSW; (try dsimp only at hSW); unfold lc9; go_simp; with_reducible rfl
        simp only [lc9, Act.put, List.setIfInBounds_toArray, List.set_cons_zero, List.set_cons_succ]
        refine Tillst.take (i := 10) (oi := lc10) (v := ?_) rfl (by kernel_rfl) (by kernel_rfl) (by kernel_rfl) (by kernel_rfl) (fun _ _ _ h => h) (by rfl) ?_ hHeld ?_
        rotate_left
        · intro W hSW; (try dsimp only at hSW); unfold lc10; go_simp; with_reducible rfl
        simp only [lc10, Act.put, List.setIfInBounds_toArray, List.set_cons_zero, List.set_cons_succ]
        refine Tillst.one (i := 12) (o := lc12) (by kernel_rfl) rfl ?_
        intro K hK
        have hSA := below_setRow hHeld (g := v6.drew.heap.size) (Nat.le_refl _) #[.int .i64 (pickS9 (openE sec (sealedX sec xs) (s.g + 1)) sec), .slice A9 (pickY9 (openE sec (sealedX sec xs) (s.g + 1)) (openX (sealedX sec xs) (s.g + 1))).length c9]
        refine step_store_row (.tmp 7) (.tmp 53) 35 rfl rfl (v6.drew.heap.size) #[.int .i64 (pickS9 (openE sec (sealedX sec xs) (s.g + 1)) sec), .slice A9 (pickY9 (openE sec (sealedX sec xs) (s.g + 1)) (openX (sealedX sec xs) (s.g + 1))).length c9] rfl rfl 35 #[.int .i64 0, .slice none 0 0] (Blk.below (Blk.new v6.drew _ _) HBN.out (by simp)) size_ring rfl (ring_one _ _ _ _) ?_
        simp only [lc12, Act.put, List.setIfInBounds_toArray, List.set_cons_zero, List.set_cons_succ]
        refine hK.out _ _ (fun _ => hSA) (fun hHeld => ?_)
        replace hHeld := hHeld (by decide)
        clear hK K hSA
        refine Tillst.one (i := 13) (o := lc13) (by kernel_rfl) rfl ?_
        intro K hK
        refine step_value ?_ rfl ?_ ?_
        rotate_left
        · unfold lc13; go_simp; with_reducible rfl
        simp only [lc13, Act.put, List.setIfInBounds_toArray, List.set_cons_zero, List.set_cons_succ]
        refine hK.out _ _ (fun _ => hHeld) (fun hHeld => ?_)
        replace hHeld := hHeld (by decide)
        clear hK K
        refine Tillst.one (i := 14) (o := lc14) (by kernel_rfl) rfl ?_
        intro K hK
        refine step_value ?_ rfl ?_ ?_
        rotate_left
        · unfold lc14; go_simp; with_reducible rfl
        simp only [lc14, Act.put, List.setIfInBounds_toArray, List.set_cons_zero, List.set_cons_succ]
        refine hK.out _ _ (fun _ => hHeld) (fun hHeld => ?_)
        replace hHeld := hHeld (by decide)
        clear hK K
        refine Tillst.done (by kernel_rfl) ?_ _
        refine hKK _ _ (Met.intro (hJ _ _ ?_))
        (repeat apply Exists.intro)
        exact ⟨OpnC.laid HOW.out HBN.out, rfl⟩
    case rest =>
      obtain ⟨rfl, rfl, nb, A9, c9, rfl, hnb, hblk, hown, hbl⟩ := hcut
      have HNB := Lib.hid hnb
      have HNK := Lib.hid hblk
      have HOW := Lib.hid hown
      have HBL := Lib.hid hbl
      clear hnb hblk hown hbl
      have HB6 := Lib.hid ((Below.refl v6.heap.size v6).drew.trans HBL.out)
      obtain ⟨E, hE⟩ : ∃ E, openE sec (sealedX sec xs) (s.g + 1) = E := ⟨_, rfl⟩
      rw [hE] at HNK HOW
      have hE2 := hE
      have HE := Lib.hid hE2
      clear hE2
      by_cases hz : E = 0
      case neg =>
        have d1 : (E != 0) = true := by simpa using hz
        simp only [hE]
        have HEZ := Lib.hid hz
        clear hE hz
        go_wp2_with fail
        go_ret
        refine BegT.no (by rw [HE.out]; exact HEZ.out) (by rw [HE.out]; rfl) ?_ ?_ HMC2.out.1 HMC2.out.2
        · exact HL6.out.below HB6.out
        · exact HKX6.out.trans (Kept.of_below HB6.out (fun b h => Nat.lt_of_lt_of_le (HX.out b h) HKX6.out.size)) (fun b h => h)
      subst hz
      simp only [hE]
      rw [pickS9_zero, pickY9_zero] at HNK
      rw [pickY9_zero] at HOW
      obtain ⟨i, him, hi⟩ : ∃ i : Nat, i < m ∧ nxtR (sealedX sec xs) = (i : Int) := by
        rcases nxt_range (sealedX sec xs) with h | ⟨i, h1, h2⟩
        · exact absurd h (open_nxt HE.out)
        · exact ⟨i, by rw [← LogM.len9 HL6.out]; exact h1, h2⟩
      rw [hi]
      have HI := Lib.hid hi
      have HIM := Lib.hid him
      have HBH := Lib.hid (header_any i (s.g + 1) wc (by have := HSM.out.2.1; have := HMA.out; omega) ⟨by omega, hgm⟩)
      have g3 : wc.cell? ⟨w4.heap.size, 2, none⟩ = some (.int .u64 (s.g + 1)) := (HKB6.out.below HB6.out HKB6.out.lt).cell 2
      clear hE hi him
      go_wp2_with fail
      refine HBH.out.mono ?_
      rintro e w10 ⟨rfl, hb10⟩
      have HB10 := Lib.hid hb10
      obtain ⟨ys, hys⟩ : ∃ ys, hdrL i (s.g + 1) = ys := ⟨_, rfl⟩
      have HLY := Lib.hid (show ys.length = 64 by rw [← hys]; exact hdrL_length _ _)
      rw [hys]
      have HYS := Lib.hid hys
      clear hb10 hys g3 HBH
      go_upto_region 15 with (first | (refine wpList_alloc_blk rfl rfl ?_) | (refine wpList_store_new (.tmp 10) (.tmp 64) rfl rfl w10 ys rfl rfl (noughts 64) rfl (noughts_length 64) HLY.out ?_))
      have HBCZ := Lib.hid (show Below wc.heap.size wc ((w10.alloc (.cells (cells8 ys) 84)).alloc (.cells (cells8 ys) 84)) from HB10.out.trans ((((Below.refl w10.heap.size w10).alloc (Nat.le_refl _) (.cells (cells8 ys) 84)).alloc (by simp) (.cells (cells8 ys) 84)).mono HB10.out.size))
      have HBZ := Lib.hid (show Below v6.heap.size v6 ((w10.alloc (.cells (cells8 ys) 84)).alloc (.cells (cells8 ys) 84)) from HB6.out.trans (HBCZ.out.mono HB6.out.size))
      have HSZ := Lib.hid (show StoS ((w10.alloc (.cells (cells8 ys) 84)).alloc (.cells (cells8 ys) 84)) (fun b => (X b ∨ b = l ∨ R b) ∨ (v6.heap.size ≤ b ∧ b < ((w10.alloc (.cells (cells8 ys) 84)).alloc (.cells (cells8 ys) 84)).heap.size)) p d n (genS s) (nxt t) (setK k s t) from StoreM.grow HS6B.out HBZ.out)
      have HYZ := Lib.hid (show ∀ b, (fun b => (X b ∨ b = l ∨ R b) ∨ (v6.heap.size ≤ b ∧ b < ((w10.alloc (.cells (cells8 ys) 84)).alloc (.cells (cells8 ys) 84)).heap.size)) b → b < ((w10.alloc (.cells (cells8 ys) 84)).alloc (.cells (cells8 ys) 84)).heap.size from grow_lt (fun b h => Nat.lt_of_lt_of_le (HY0.out b h) HSZ6.out) HBZ.out.size)
      have HGK := Lib.hid (show Good (setK k s t) from (HG.out.put _ _).sync)
      have HPK := Lib.hid (show (setK k s t).pend = [] from (HG.out.put _ _).pend_sync)
      have HC0 := Lib.hid (show ((w10.alloc (.cells (cells8 ys) 84)).alloc (.cells (cells8 ys) 84)).cell? ⟨l, 0, none⟩ = some (.pointer (some ⟨p, 0, none⟩)) from (HBK6.out.below HBZ.out HBK6.out.lt).cell 0)
      have hwr := (beg_write HSZ.out HYZ.out (.inl (.inr (.inl rfl))) HC0.out (.inr ⟨by have := HB6.out.size; have := HB10.out.size; have h : (w10.alloc (.cells (cells8 ys) 84)).heap.size = w10.heap.size + 1 := (by simp); omega, by simp⟩) (Blk.new (w10.alloc (.cells (cells8 ys) 84)) _ _) HLY.out (show Bytes ys by rw [← HYS.out]; exact hdr_bytes _ _ (by have := HIM.out; have := HMA.out; have := HSM.out.2.1; omega)) i (by have := HIM.out; have := HMA.out; omega) HSM.out HRM.out HNN.out HGK.out HPK.out)
      rw [show (w10.alloc (.cells (cells8 ys) 84)).heap.size = w10.heap.size + 1 from (by simp)] at hwr
      have HWR := Lib.hid hwr
      clear hwr
      have HRL := Lib.hid (show (w10.alloc (.cells (cells8 ys) 84)).rangeAt w10.heap.size 0 (ys.map (Value.int .u8)) from (show ArrB (w10.alloc (.cells (cells8 ys) 84)) w10.heap.size ys from Blk.new w10 _ _).range)
      have hll : l < v6.heap.size := HBK6.out.lt
      have HLL6 := Lib.hid hll
      clear hll
      go_wp2_with (first | (refine wpList_load_blk (.tmp 10) rfl rfl w10.heap.size 0 rfl ys HLY.out HRL.out ?_) | (refine wpList_lit_sec (.tmp 71) rfl rfl ys rfl HLY.out ?_))
      refine HWR.out.mono ?_
      rintro e w12 ⟨rfl, hs12, hk12⟩
      have HS12 := Lib.hid hs12
      have HK12 := Lib.hid hk12
      clear hs12 hk12
      have c0 : w12.cell? ⟨l, 0, none⟩ = some (.pointer (some ⟨p, 0, none⟩)) := (HK12.out.cell (p := ⟨l, 0, none⟩) (.inl (.inr (.inl rfl)))).trans HC0.out
      go_wp2_with fail
      refine (sto_disk HS12.out).mono ?_
      rintro e w' ⟨rfl, rfl⟩
      go_wp2_with fail
      have hsy := sync_k HS12.out.2.1 (fun b h => by rcases h with h | h; exact Nat.lt_of_lt_of_le (HYZ.out b h) HK12.out.size; rw [h]; exact HS12.out.1.lt)
      rw [(HGK.out.put _ _).wre] at hsy
      refine hsy.mono ?_
      rintro e w13 ⟨rfl, hd13, hk13⟩
      have HS13 := Lib.hid (show StoS w13 (fun b => (X b ∨ b = l ∨ R b) ∨ (v6.heap.size ≤ b ∧ b < ((w10.alloc (.cells (cells8 ys) 84)).alloc (.cells (cells8 ys) 84)).heap.size)) p d n (genS s) (nxt t) (begK k s t (i : Int)) from by unfold begK; rw [Int.toNat_natCast, HYS.out]; exact ⟨HS12.out.1.kept hk13 (.inr rfl), hd13, HS12.out.2.2⟩)
      have HKW := Lib.hid (HK12.out.trans hk13 (fun b h => .inl h))
      clear c0 hsy hd13 hk13 HS12 HK12 HWR HSZ
      have HB13 := Lib.hid ((HBK6.out.below HBZ.out HBK6.out.lt).kept HKW.out (.inl (.inr (.inl rfl))))
      have HN13 := Lib.hid ((HNK.out.below HBCZ.out HNK.out.lt).kept HKW.out (.inr ⟨HNB.out, Nat.lt_of_lt_of_le HNK.out.lt HBCZ.out.size⟩))
      have HR13 := Lib.hid ((HOW.out.row.below HBCZ.out (fun b h => h.2)).kept HKW.out (fun b h => .inr ⟨h.1, Nat.lt_of_lt_of_le h.2 HBCZ.out.size⟩))
      obtain ⟨k0, k1⟩ := ring_cells HN13.out
      obtain ⟨f1, f2⟩ := And.intro (HB13.out.frozen 1) (HB13.out.frozen 2)
      have hneq : nb ≠ l := by have h1 := HLL6.out; have h2 : v6.heap.size ≤ nb := HNB.out; omega
      have b1 : w13.cell? ⟨l, 1, none⟩ = some (.int .i64 sec) := HB13.out.cell 1
      have b2 : w13.cell? ⟨l, 2, none⟩ = some (.slice A2 m c3) := HB13.out.cell 2
      go_wp2_with fail
      go_ret
      have hSZ2 : wc.heap.size ≤ w13.heap.size := Nat.le_trans HBCZ.out.size HKW.out.size
      have hsub : ∀ b, (X b ∨ b = l ∨ From v6.drew.heap.size wc b) → (fun b => (X b ∨ b = l ∨ R b) ∨ (v6.heap.size ≤ b ∧ b < ((w10.alloc (.cells (cells8 ys) 84)).alloc (.cells (cells8 ys) 84)).heap.size)) b := fun b h => by
        rcases h with h | h | h
        · exact .inl (.inl h)
        · exact .inl (.inr (.inl h))
        · exact .inr ⟨h.1, Nat.lt_of_lt_of_le h.2 HBCZ.out.size⟩
      have hfr : ∀ b, From v6.drew.heap.size wc b → b < w13.heap.size ∧ b ≠ l := fun b h => by
        have h1 := HLL6.out
        have h2 : v6.heap.size ≤ b := h.1
        have h3 := h.2
        omega
      have hlog := LogM.lay (sec := sec) (c2 := c9) HB13.out HXL.out (StoreM.kept (Z := fun _ => True) HS13.out (Kept.refl _ _) (fun _ _ _ => trivial) (fun b _ h => hsub b h)) HR13.out hfr
      refine BegT.yes HE.out (by rw [HE.out]; rfl) (by rw [HI.out]; exact hlog) ?_ HOW.out.2.2.2 HOW.out.2.2.1
      exact (((HKX6.out.trans (Kept.of_below HBZ.out (fun b h => Nat.lt_of_lt_of_le (HX.out b h) HKX6.out.size)) (fun b h => h)).trans HKW.out (fun b h => .inl (.inl h))).setCell (p := ⟨l, 1, none⟩) HXL.out _).setCell (p := ⟨l, 2, none⟩) HXL.out _
end
end Go.Proofs.YtodcohkblgjfeaaGreat
