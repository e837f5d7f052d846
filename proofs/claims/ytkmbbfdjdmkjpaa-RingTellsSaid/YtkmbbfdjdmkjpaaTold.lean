/- Package ring: Opened, working, Frees, Left. -/
import Derived.Test.YtkmbbfdjdmkjpaaOrdL
import Derived.Test.YtkmbbfdjdmkjpaaRefG
namespace Go.Proofs.Ytkmbbfdjdmkjpaa
open Go.RowKit
set_option linter.unusedVariables false
set_option linter.unusedSimpArgs false

noncomputable def openedE (sec : Int) (xs : List Seg) : Int := if ¬ OkR sec xs then 180 else if opnR xs < 0 then 4 else 0
noncomputable def openedV (sec : Int) (xs : List Seg) : Int := if openedE sec xs = 0 then opnR xs else 0
theorem opened_bad {sec : Int} {xs : List Seg} (h : ¬ OkR sec xs) : openedE sec xs = 180 ∧ openedV sec xs = 0 := by
  have e : openedE sec xs = 180 := by unfold openedE; rw [if_pos h]
  exact ⟨e, by unfold openedV; rw [e]; rfl⟩
theorem opened_no {sec : Int} {xs : List Seg} (h : OkR sec xs) (h2 : opnR xs < 0) : openedE sec xs = 4 ∧ openedV sec xs = 0 := by
  have e : openedE sec xs = 4 := by unfold openedE; rw [if_neg (fun k => k h), if_pos h2]
  exact ⟨e, by unfold openedV; rw [e]; rfl⟩
theorem opened_yes {sec : Int} {xs : List Seg} (h : OkR sec xs) (h2 : ¬ opnR xs < 0) : openedE sec xs = 0 ∧ openedV sec xs = opnR xs := by
  have e : openedE sec xs = 0 := by unfold openedE; rw [if_neg (fun k => k h), if_neg h2]
  exact ⟨e, by unfold openedV; rw [e]; rfl⟩

theorem ring_cells {w : World} {g : Nat} {sec : Int} {A : Option Addr} {n cap : Nat} (h : Blk w g 66 #[.int .i64 sec, .slice A n cap]) : w.cell? ⟨g, 0, none⟩ = some (.int .i64 sec) ∧ w.cell? ⟨g, 1, none⟩ = some (.slice A n cap) := ⟨h.cell 0, h.cell 1⟩
/-- Behind a call in a world in which the ring's variable was laid first. -/
theorem ring_first {w w1 : World} {sec : Int} {A : Option Addr} {n cap : Nat} (h : Below (w.alloc (.cells #[.int .i64 sec, .slice A n cap] 66)).heap.size (w.alloc (.cells #[.int .i64 sec, .slice A n cap] 66)) w1) :
    Below w.heap.size w w1 ∧ Blk w1 w.heap.size 66 #[.int .i64 sec, .slice A n cap] :=
  ⟨((Below.refl w.heap.size w).alloc (Nat.le_refl _) _).trans (h.mono (by simp)), (Blk.new w _ _).below h (by simp)⟩

set_option maxRecDepth 100000 in
set_option maxHeartbeats 1000000 in
theorem opened_any {w : World} {A : Option Addr} {n cap : Nat} {xs : List Seg} (h : RowZ w (· < w.heap.size) A n xs) (sec : Int) :
    Calls Try.prog 36 #[ringV sec A n cap] w fun e w' => e = .returned (.tuple #[.int .i64 (openedV sec xs), .int .i64 (openedE sec xs)]) ∧ Below w.heap.size w w' := by
  have HX := Lib.hid h
  have HB1 := Lib.hid ((Below.refl w.heap.size w).alloc (Nat.le_refl _) (.cells #[.int .i64 sec, .slice A n cap] 66))
  have HC := Lib.hid (check_any (cap := cap) (row_now h HB1.out) sec)
  clear h
  by_cases hk : OkR sec xs
  case neg =>
    obtain ⟨e1, e2⟩ := opened_bad hk
    rw [if_neg hk] at HC
    rw [e1, e2]
    clear e1 e2
    go_enter Try.func36, Try.ntmps36
    go_wp2_with (go_at_call 44; refine HC.out.mono ?_; rintro e w1 ⟨rfl, hb1⟩; have HB2 := Lib.hid (ring_first hb1); clear hb1)
    go_ret2
    exact ⟨rfl, HB2.out.1⟩
  rw [if_pos hk] at HC
  have HK := Lib.hid hk
  have HLO := Lib.hid (last_open hk)
  have HOY := Lib.hid (fun h2 => opened_yes hk h2)
  have HON := Lib.hid (fun h2 => opened_no hk h2)
  have HLT := Lib.hid (opn_or hk)
  clear hk
  obtain ⟨st, g, u, hl⟩ : ∃ st g u, lastR xs = (st, g, u) := ⟨_, _, _, rfl⟩
  rw [hl] at HLO
  have HL := Lib.hid (fun (W : World) (hh : RowZ W (· < W.heap.size) A n xs) => by have := latest_ok (cap := cap) hh HK.out; rw [hl] at this; exact this)
  clear hl
  by_cases h1 : st = 1
  · subst h1
    have ho : ¬ opnR xs < 0 := by have := HLO.out.1 rfl; omega
    obtain ⟨e1, e2⟩ := HOY.out ho
    have e3 : latR xs = opnR xs := by rcases HLT.out with ⟨e, _⟩ | ⟨i, _, e, e', _⟩ <;> omega
    rw [e1, e2, ← e3]
    clear e1 e2 e3 ho
    generalize latR xs = a at *
    go_enter Try.func36, Try.ntmps36
    go_wp2_with (first
      | (go_at_call 44; refine HC.out.mono ?_; rintro e w1 ⟨rfl, hb1⟩; have HB2 := Lib.hid (ring_first hb1); obtain ⟨k0, k1⟩ := ring_cells HB2.out.2; clear hb1)
      | (go_at_call 85; refine (HL.out _ (row_now HX.out HB2.out.1)).mono ?_; rintro e w2 ⟨rfl, hb2⟩; have HB3 := Lib.hid (HB2.out.1.trans (hb2.mono HB2.out.1.size)); clear hb2))
    go_ret2
    exact ⟨rfl, HB3.out.alloc HB3.out.size _⟩
  · have d1 : (st != 1) = true := by simpa using h1
    have ho : opnR xs < 0 := by
      rcases Int.lt_or_le (opnR xs) 0 with h | h
      · exact h
      · exact absurd (HLO.out.2 h) h1
    obtain ⟨e1, e2⟩ := HON.out ho
    rw [e1, e2]
    clear e1 e2 ho
    generalize latR xs = a at *
    go_enter Try.func36, Try.ntmps36
    go_wp2_with (first
      | (go_at_call 44; refine HC.out.mono ?_; rintro e w1 ⟨rfl, hb1⟩; have HB2 := Lib.hid (ring_first hb1); obtain ⟨k0, k1⟩ := ring_cells HB2.out.2; clear hb1)
      | (go_at_call 85; refine (HL.out _ (row_now HX.out HB2.out.1)).mono ?_; rintro e w2 ⟨rfl, hb2⟩; have HB3 := Lib.hid (HB2.out.1.trans (hb2.mono HB2.out.1.size)); clear hb2))
    go_ret2
    exact ⟨rfl, HB3.out.alloc HB3.out.size _⟩

noncomputable def workE (sec : Int) (xs : List Seg) : Int := if openedE sec xs = 4 then 181 else openedE sec xs
theorem work_is (sec : Int) (xs : List Seg) : workE sec xs = sealE sec xs := by
  unfold workE sealE openedE
  by_cases hk : OkR sec xs
  · by_cases h2 : opnR xs < 0 <;> simp [hk, h2]
  · simp [hk]
theorem working_any {w : World} {A : Option Addr} {n cap : Nat} {xs : List Seg} (h : RowZ w (· < w.heap.size) A n xs) (sec : Int) :
    Calls Try.prog 95 #[ringV sec A n cap] w fun e w' => e = .returned (.tuple #[.int .i64 (openedV sec xs), .int .i64 (sealE sec xs)]) ∧ Below w.heap.size w w' := by
  have HB1 := Lib.hid ((Below.refl w.heap.size w).alloc (Nat.le_refl _) (.cells #[.int .i64 sec, .slice A n cap] 66))
  have HC := Lib.hid (opened_any (cap := cap) (row_now h HB1.out) sec)
  have HV := Lib.hid (show openedE sec xs = 4 → openedV sec xs = 0 from fun h => by unfold openedV; rw [if_neg (by omega)])
  rw [← work_is]
  unfold workE
  clear h
  generalize openedE sec xs = er at *
  generalize openedV sec xs = vr at *
  by_cases h4 : er = 4
  · subst h4
    obtain rfl : vr = 0 := HV.out rfl
    go_enter Try.func95, Try.ntmps95
    go_wp2_with (go_at_call 36; refine HC.out.mono ?_; rintro e w1 ⟨rfl, hb1⟩; have HB2 := Lib.hid (ring_first hb1); clear hb1)
    go_ret2
    exact ⟨rfl, HB2.out.1⟩
  · have d4 : (er == 4) = false := by simpa using h4
    rw [if_neg h4]
    go_enter Try.func95, Try.ntmps95
    go_wp2_with (go_at_call 36; refine HC.out.mono ?_; rintro e w1 ⟨rfl, hb1⟩; have HB2 := Lib.hid (ring_first hb1); clear hb1)
    go_ret2
    exact ⟨rfl, HB2.out.1⟩

noncomputable def leftW (sec : Int) (xs : List Seg) : Int := if OkR sec xs then leftR sec xs else 0
set_option maxRecDepth 100000 in
set_option maxHeartbeats 1000000 in
theorem left_ring {w : World} {A : Option Addr} {n cap : Nat} {xs : List Seg} (h : RowZ w (· < w.heap.size) A n xs) (sec : Int) :
    Calls Try.prog 40 #[ringV sec A n cap] w fun e w' => e = .returned (.int .i64 (leftW sec xs)) ∧ Below w.heap.size w w' := by
  have HX := Lib.hid h
  have HB1 := Lib.hid ((Below.refl w.heap.size w).alloc (Nat.le_refl _) (.cells #[.int .i64 sec, .slice A n cap] 66))
  have HC := Lib.hid (opened_any (cap := cap) (row_now h HB1.out) sec)
  clear h
  by_cases hk : openedE sec xs = 0
  case neg =>
    have e0 : leftW sec xs = 0 := by
      unfold leftW
      split
      case isFalse => rfl
      case isTrue ho =>
        unfold leftR
        by_cases h2 : opnR xs < 0
        · rw [if_neg (by omega)]
        · exact absurd (opened_yes ho h2).1 hk
    rw [e0]
    have d1 : (openedE sec xs != 0) = true := by simpa using hk
    clear hk e0
    generalize openedE sec xs = er at *
    generalize openedV sec xs = vr at *
    go_enter Try.func40, Try.ntmps40
    go_wp2_with (go_at_call 36; refine HC.out.mono ?_; rintro e w1 ⟨rfl, hb1⟩; have HB2 := Lib.hid (ring_first hb1); clear hb1)
    go_ret
    exact ⟨rfl, HB2.out.1⟩
  have hok : OkR sec xs := by
    by_cases h : OkR sec xs
    · exact h
    · have := (opened_bad h).1; omega
  have hno : ¬ opnR xs < 0 := fun h => by have := (opened_no hok h).1; omega
  obtain ⟨e1, e2⟩ := opened_yes hok hno
  obtain ⟨i, hi, hopn⟩ : ∃ i : Nat, i < n ∧ opnR xs = i := by
    rcases opn_or hok with ⟨e, _⟩ | ⟨i, hi, e, _⟩
    · omega
    · exact ⟨i, by rw [← HX.out.1]; exact hi, e⟩
  have e3 : leftW sec xs = sec - usedG xs i := by unfold leftW leftR; rw [if_pos hok, if_pos (by omega), hopn, Int.toNat_natCast]
  have hu : 0 ≤ usedG xs i ∧ 24 ≤ sec ∧ sec ≤ 64 ∧ usedG xs i ≤ 64 := by
    have h1 := hok.1
    unfold SizedR at h1
    have h2 := hok.2.1 (xs.getD i seg0) (seg_mem (by rw [HX.out.1]; exact hi))
    unfold MayG at h2
    split at h2
    · simp only [usedG]; omega
    · simp only [usedG]; omega
  rw [e1, e2, hopn] at HC
  rw [e3]
  clear hok hno e1 e2 hopn e3 hk
  obtain ⟨b, off, rfl, hbb, hcc⟩ := seg_get HX.out hi
  have c2 := (hcc i hi).2.2
  have HCC := Lib.hid c2
  generalize usedG xs i = u at *
  clear hcc c2
  have hw : wrap64 (sec - u) = sec - u := by unfold wrap64; omega
  go_enter Try.func40, Try.ntmps40
  go_wp2_with (go_at_call 36; refine HC.out.mono ?_; rintro e w1 ⟨rfl, hb1⟩; have HB2 := Lib.hid (ring_first hb1); obtain ⟨k0, k1⟩ := ring_cells HB2.out.2; have kG : w1.cell? ⟨b, off + i * 3 + 2, none⟩ = some (.int .i64 u) := (Below.cell HB2.out.1 (p := ⟨b, _, none⟩) hbb).trans HCC.out; clear hb1)
  go_quiet (fail)
  go_wp2
  go_ret
  exact ⟨rfl, below_drewN HB2.out.1 _⟩

end Go.Proofs.Ytkmbbfdjdmkjpaa
