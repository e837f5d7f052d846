/- The document's Left, Open, Free. -/
import Derived.Test.YtkmbbfdjdmkjpaaRightR
import Derived.Test.YtkmbbfdjdmkjpaaRefN
import Derived.Test.YtkmbbfdjdmkjpaaCopyR
import Derived.Test.YtkmbbfdjdmkjpaaSealR
namespace Go.Proofs.Ytkmbbfdjdmkjpaa
open Go.RowKit
set_option linter.unusedVariables false
set_option linter.unusedSimpArgs false

def PosG (xs : List Seg) (n : Nat) : Prop := ∀ i, i < n → 0 ≤ genG xs i
theorem opn_range (xs : List Seg) : opnR xs = -1 ∨ ∃ i : Nat, i < xs.length ∧ opnR xs = (i : Int) := by
  rcases opn_spec xs xs.length with ⟨e, _⟩ | ⟨i, hi, e, _⟩
  · exact .inl e
  · exact .inr ⟨i, hi, e⟩

set_option maxRecDepth 100000 in
set_option maxHeartbeats 2000000 in
theorem ref_left {w : World} {A : Option Addr} {n cap : Nat} {xs : List Seg} (h : RowZ w (· < w.heap.size) A n xs) (sec : Int) (hn : n ≤ 40) (hpos : PosG xs n) :
    Calls Try.prog 50 #[ringV sec A n cap] w fun e w' => e = .returned (.int .i64 (leftW sec xs)) ∧ Below w.heap.size w w' := by
  have HX := Lib.hid h
  have HP := Lib.hid hpos
  have HB1 := Lib.hid ((Below.refl w.heap.size w).alloc (Nat.le_refl _) (.cells #[.int .i64 sec, .slice A n cap] 66))
  have HC := Lib.hid (ref_opened (cap := cap) (row_now h HB1.out) sec hn)
  have HR := Lib.hid (fun (W : World) (hh : RowZ W (· < W.heap.size) A n xs) => ref_right (cap := cap) hh sec hn hpos)
  clear h hpos
  by_cases hk : OkR sec xs
  case neg =>
    rw [decide_eq_false hk] at HR
    rw [show leftW sec xs = 0 from if_neg hk]
    clear hk
    generalize opnR xs = o at *
    go_enter Try.func50, Try.ntmps50
    go_wp2_with (first
      | (go_at_call 47; refine HC.out.mono ?_; rintro e w1 ⟨rfl, hb1⟩; have HB2 := Lib.hid (ring_first hb1); obtain ⟨k0, k1⟩ := ring_cells HB2.out.2; clear hb1)
      | (go_at_call 43; refine (HR.out _ (row_now HX.out HB2.out.1)).mono ?_; rintro e w2 ⟨rfl, hb2⟩; have HB3 := Lib.hid (HB2.out.1.trans (hb2.mono HB2.out.1.size)); clear hb2))
    go_ret
    exact ⟨rfl, HB3.out⟩
  rw [decide_eq_true hk] at HR
  have HK := Lib.hid hk
  have hop := opn_or hk
  rw [show leftW sec xs = leftR sec xs from if_pos hk]
  clear hk
  rcases hop with ⟨ho, _⟩ | ⟨i, hi, ho, _, hs⟩
  · rw [show leftR sec xs = 0 from if_neg (by omega)]
    rw [ho] at HC
    clear ho
    go_enter Try.func50, Try.ntmps50
    go_wp2_with (first
      | (go_at_call 47; refine HC.out.mono ?_; rintro e w1 ⟨rfl, hb1⟩; have HB2 := Lib.hid (ring_first hb1); obtain ⟨k0, k1⟩ := ring_cells HB2.out.2; clear hb1)
      | (go_at_call 43; refine (HR.out _ (row_now HX.out HB2.out.1)).mono ?_; rintro e w2 ⟨rfl, hb2⟩; have HB3 := Lib.hid (HB2.out.1.trans (hb2.mono HB2.out.1.size)); clear hb2))
    go_ret
    exact ⟨rfl, HB3.out⟩
  · have hu := used_bound HK.out hi
    rw [show leftR sec xs = sec - usedG xs i by unfold leftR; rw [ho, if_pos (by omega), Int.toNat_natCast]]
    rw [ho] at HC
    have hin : i < n := by rw [← HX.out.1]; exact hi
    obtain ⟨b, off, rfl, hbb, hcc⟩ := seg_get HX.out hin
    have HCC := Lib.hid (hcc i hin).2.2
    clear ho hi hs hcc
    generalize usedG xs i = u at *
    go_enter Try.func50, Try.ntmps50
    go_wp2_with (first
      | (go_at_call 47; refine HC.out.mono ?_; rintro e w1 ⟨rfl, hb1⟩; have HB2 := Lib.hid (ring_first hb1); obtain ⟨k0, k1⟩ := ring_cells HB2.out.2; clear hb1)
      | (go_at_call 43; refine (HR.out _ (row_now HX.out HB2.out.1)).mono ?_; rintro e w2 ⟨rfl, hb2⟩; have HB3 := Lib.hid (HB2.out.1.trans (hb2.mono HB2.out.1.size)); have HK3 := Lib.hid (HB2.out.2.below hb2 HB2.out.2.lt); obtain ⟨q0, q1⟩ := ring_cells HK3.out; have kG : w2.cell? ⟨b, off + i * 3 + 2, none⟩ = some (.int .i64 u) := (Below.cell HB3.out (p := ⟨b, _, none⟩) hbb).trans HCC.out; clear hb2))
    go_quiet (fail)
    go_wp2
    go_ret
    exact ⟨rfl, below_drewN HB3.out _⟩

theorem OwnZ.of {w : World} {base : Nat} {A : Option Addr} {n cap : Nat} {xs : List Seg} (h1 : xs.length = n) (h : n ≤ cap ∧ (A = none → cap = 0) ∧ w.ownsRow base 78 3 (.slice A n cap) n (flatG xs)) : OwnZ w base A n cap xs := ⟨h1, h.2.2, h.2.1, h.1⟩

set_option maxRecDepth 100000 in
set_option maxHeartbeats 4000000 in
theorem ref_free {w : World} {A : Option Addr} {n cap : Nat} {xs : List Seg} (h : RowZ w (· < w.heap.size) A n xs) (hnil : A = none → cap = 0) (sec v : Int) (hn : n ≤ 40) (hpos : PosG xs n) :
    Calls Try.prog 59 #[ringV sec A n cap, .int .i64 v] w fun e w' => TurnT w sec (freeE sec xs v) (freeX xs v) e w' := by
  have HX := Lib.hid h
  have HV0 := Lib.hid (OW.start w sec A n cap)
  have HR := Lib.hid (ref_right (cap := cap) (row_now h HV0.out.1) sec hn hpos)
  have HNIL := Lib.hid hnil
  clear h hpos hnil
  by_cases hk : OkR sec xs
  case neg =>
    rw [decide_eq_false hk] at HR
    rw [free_bad hk]
    clear hk
    go_enter Try.func59, Try.ntmps59
    go_wp2_with (first
      | (go_at_call 43; refine HR.out.mono ?_; rintro e w1 ⟨rfl, hb1⟩; have HV1 := Lib.hid (HV0.out.next hb1); obtain ⟨q0, q1, q3, q4, f3, f4⟩ := HV1.out.cells; clear hb1)
      | (with_reducible refine halt_end ?_))
    exact Halt.ret (results_row2 (p := 4) (u := 5) rfl _ _ (w.heap.size + 1) 66 #[.int .i64 0, .slice none 0 0] _ rfl (HV1.out.res 0 none 0 0) Try.underlying66 rfl size_ring) rfl (TurnT.no (by decide) (HV1.out.below _ _))
  rw [decide_eq_true hk] at HR
  have HK := Lib.hid hk
  have hln := HX.out.1
  clear hk
  by_cases h1 : v < 0
  · have d1 : decide (v < 0) = true := decide_eq_true h1
    rw [free_arg HK.out (.inl h1)]
    go_enter Try.func59, Try.ntmps59
    go_wp2_with (first
      | (go_at_call 43; refine HR.out.mono ?_; rintro e w1 ⟨rfl, hb1⟩; have HV1 := Lib.hid (HV0.out.next hb1); obtain ⟨q0, q1, q3, q4, f3, f4⟩ := HV1.out.cells; clear hb1)
      | (with_reducible refine halt_end ?_))
    exact Halt.ret (results_row2 (p := 4) (u := 5) rfl _ _ (w.heap.size + 1) 66 #[.int .i64 0, .slice none 0 0] _ rfl (HV1.out.res 0 none 0 0) Try.underlying66 rfl size_ring) rfl (TurnT.no (by decide) (HV1.out.below _ _))
  have d1 : decide (v < 0) = false := decide_eq_false h1
  by_cases h2 : (n : Int) ≤ v
  · have d2 : decide ((n : Int) ≤ v) = true := decide_eq_true h2
    rw [free_arg HK.out (.inr (by rw [hln]; exact h2))]
    go_enter Try.func59, Try.ntmps59
    go_wp2_with (first
      | (go_at_call 43; refine HR.out.mono ?_; rintro e w1 ⟨rfl, hb1⟩; have HV1 := Lib.hid (HV0.out.next hb1); obtain ⟨q0, q1, q3, q4, f3, f4⟩ := HV1.out.cells; clear hb1)
      | (with_reducible refine halt_end ?_))
    exact Halt.ret (results_row2 (p := 4) (u := 5) rfl _ _ (w.heap.size + 1) 66 #[.int .i64 0, .slice none 0 0] _ rfl (HV1.out.res 0 none 0 0) Try.underlying66 rfl size_ring) rfl (TurnT.no (by decide) (HV1.out.below _ _))
  obtain ⟨i, rfl⟩ : ∃ i : Nat, v = i := ⟨v.toNat, by omega⟩
  have hin : i < n := by omega
  have d2 : decide ((n : Int) ≤ (i : Int)) = false := decide_eq_false h2
  obtain ⟨b, off, rfl, hbb, hcc⟩ := seg_get HX.out hin
  have HCC := Lib.hid (hcc i hin).1
  have HFS := Lib.hid (fun h2 => free_state HK.out (by rw [hln]; exact hin) h2)
  have HFG := Lib.hid (fun h2 => free_go HK.out (by rw [hln]; exact hin) h2)
  clear hcc hln h1 h2
  generalize stG xs i = st at *
  by_cases h3 : st = 2
  · subst h3
    have HXX := Lib.hid (show freeX xs i = xs.set i seg0 by unfold freeX; rw [Int.toNat_natCast])
    have HT := Lib.hid (fun (W : World) (hh : RowZ W (· < W.heap.size) (some ⟨b, off, none⟩) n xs) => ref_with hh HNIL.out sec (by omega) i hin seg0)
    rw [HFG.out rfl]
    go_enter Try.func59, Try.ntmps59
    go_wp2_with (first
      | (go_at_call 43; refine HR.out.mono ?_; rintro e w1 ⟨rfl, hb1⟩; have HV1 := Lib.hid (HV0.out.next hb1); obtain ⟨q0, q1, q3, q4, f3, f4⟩ := HV1.out.cells; have kG : w1.cell? ⟨b, off + i * 3, none⟩ = some (.int .i64 2) := (Below.cell HV1.out.1 (p := ⟨b, _, none⟩) hbb).trans HCC.out; clear hb1)
      | (go_at_call 93; refine (HT.out _ (row_now HX.out HV1.out.1)).mono ?_; rintro e w6 ⟨⟨A', cap', rfl, hown⟩, hb6⟩; have HV6 := Lib.hid (HV1.out.next hb6); obtain ⟨t0, t1, t3, t4, f9, f0⟩ := HV6.out.cells; have HOW := Lib.hid hown; clear hb6 hown)
      | (with_reducible refine halt_end ?_))
    have hlt := HV1.out.lt
    have hown := (((OwnZ.of (by rw [List.length_set]; exact HX.out.1) HOW.out).far (p := ⟨w.heap.size + 1, 0, none⟩) hlt (.int .i64 sec)).far (p := ⟨w.heap.size + 1, 1, none⟩) hlt (.slice A' n cap')).base HV1.out.1.size
    rw [← HXX.out] at hown
    exact Halt.ret (results_row2 (p := 4) (u := 5) rfl _ _ (w.heap.size + 1) 66 #[.int .i64 sec, .slice A' n cap'] _ rfl (HV6.out.res sec A' n cap') Try.underlying66 rfl size_ring) rfl ⟨.inl ⟨rfl, _, rfl, ⟨A', n, cap', rfl, hown⟩⟩, HV6.out.below _ _⟩
  · have d3 : (st != 2) = true := by simpa using h3
    rw [HFS.out h3]
    go_enter Try.func59, Try.ntmps59
    go_wp2_with (first
      | (go_at_call 43; refine HR.out.mono ?_; rintro e w1 ⟨rfl, hb1⟩; have HV1 := Lib.hid (HV0.out.next hb1); obtain ⟨q0, q1, q3, q4, f3, f4⟩ := HV1.out.cells; have kG : w1.cell? ⟨b, off + i * 3, none⟩ = some (.int .i64 st) := (Below.cell HV1.out.1 (p := ⟨b, _, none⟩) hbb).trans HCC.out; clear hb1)
      | (with_reducible refine halt_end ?_))
    exact Halt.ret (results_row2 (p := 4) (u := 5) rfl _ _ (w.heap.size + 1) 66 #[.int .i64 0, .slice none 0 0] _ rfl (HV1.out.res 0 none 0 0) Try.underlying66 rfl size_ring) rfl (TurnT.no (by decide) (HV1.out.below _ _))

end Go.Proofs.Ytkmbbfdjdmkjpaa
