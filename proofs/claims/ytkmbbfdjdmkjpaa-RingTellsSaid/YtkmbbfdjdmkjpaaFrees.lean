/- Package ring: Frees; Next. -/
import Derived.Test.YtkmbbfdjdmkjpaaTold
namespace Go.Proofs.Ytkmbbfdjdmkjpaa
open Go.RowKit
set_option linter.unusedVariables false
set_option linter.unusedSimpArgs false

theorem frees_le (xs : List Seg) (j : Nat) : freesTo xs j ≤ j := by have := frees_live xs j; omega
noncomputable def freesW (sec : Int) (xs : List Seg) : Nat := if OkR sec xs then freesR xs else 0
set_option maxRecDepth 100000 in
set_option maxHeartbeats 1000000 in
theorem frees_any {w : World} {A : Option Addr} {n cap : Nat} {xs : List Seg} (h : RowZ w (· < w.heap.size) A n xs) (sec : Int) :
    Calls Try.prog 39 #[ringV sec A n cap] w fun e w' => e = .returned (.int .i64 (freesW sec xs)) ∧ Below w.heap.size w w' := by
  have HX := Lib.hid h
  have HB1 := Lib.hid ((Below.refl w.heap.size w).alloc (Nat.le_refl _) (.cells #[.int .i64 sec, .slice A n cap] 66))
  have HC := Lib.hid (check_any (cap := cap) (row_now h HB1.out) sec)
  clear h
  by_cases hk : OkR sec xs
  case neg =>
    have e1 : freesW sec xs = 0 := if_neg hk
    rw [if_neg hk] at HC
    rw [e1]
    clear e1
    go_enter Try.func39, Try.ntmps39
    go_wp2_with (go_at_call 44; refine HC.out.mono ?_; rintro e w1 ⟨rfl, hb1⟩; have HB2 := Lib.hid (ring_first hb1); clear hb1)
    go_ret
    exact ⟨rfl, HB2.out.1⟩
  rw [if_pos hk] at HC
  have hn := (ok_n hk HX.out.1).2
  have e1 : freesW sec xs = freesTo xs n := by unfold freesW freesR; rw [if_pos hk, HX.out.1]
  rw [e1]
  clear e1 hk
  go_enter Try.func39, Try.ntmps39
  go_wp2_with (go_at_call 44; refine HC.out.mono ?_; rintro e w1 ⟨rfl, hb1⟩; have HB2 := Lib.hid (ring_first hb1); obtain ⟨k0, k1⟩ := ring_cells HB2.out.2; clear hb1)
  go_loopw [3, 13] (fun v i wr => ∃ j : Nat, RI w sec A n cap wr j i ∧ v = .int .i64 (freesTo xs j)) (fun v i _ => n - (intOf i).toNat)
  case atStart => exact ⟨0, ⟨Nat.zero_le _, rfl, HB2.out.2, HB2.out.1⟩, rfl⟩
  case round =>
    obtain ⟨j, ⟨hj, rfl, hb, hbel⟩, rfl⟩ := hrel
    have HB := Lib.hid hb
    have HBEL := Lib.hid hbel
    clear hb hbel
    by_cases hlt : j < n
    · obtain ⟨b, off, rfl, hbb, hcc⟩ := seg_get (HX.out.below HBEL.out (fun b h => h)) hlt
      obtain ⟨c0, c1, c2⟩ := hcc j hlt
      have hfl := frees_le xs j
      have HE := Lib.hid (show freesTo xs (j + 1) = freesTo xs j + (if stG xs j = 0 then 1 else 0) from rfl)
      generalize stG xs j = st at *
      generalize genG xs j = g at *
      generalize usedG xs j = u at *
      generalize freesTo xs j = f at *
      clear hcc
      by_cases h0 : st = 0
      · subst h0
        go_wp2
        go_roundw
        case rel => exact ⟨j + 1, ⟨by omega, by simp, HB.out.alloc _, HBEL.out.alloc HBEL.out.size _⟩, by rw [HE.out]; simp⟩
        case measure => simp [intOf]; omega
      · have d1 : (st == 0) = false := by simpa using h0
        go_wp2
        go_roundw
        case rel => exact ⟨j + 1, ⟨by omega, by simp, HB.out.alloc _, HBEL.out.alloc HBEL.out.size _⟩, by rw [HE.out, if_neg h0]; rfl⟩
        case measure => simp [intOf]; omega
    · obtain rfl : j = n := by omega
      go_wp2
      go_ret
      exact ⟨rfl, HBEL.out⟩

noncomputable def nextE (sec : Int) (xs : List Seg) : Int := if ¬ OkR sec xs then 180 else if nxtR xs < 0 then 6 else 0
noncomputable def nextV (sec : Int) (xs : List Seg) : Int := if nextE sec xs = 0 then nxtR xs else 0
set_option maxRecDepth 100000 in
set_option maxHeartbeats 2000000 in
theorem next_any {w : World} {A : Option Addr} {n cap : Nat} {xs : List Seg} (h : RowZ w (· < w.heap.size) A n xs) (sec : Int) :
    Calls Try.prog 37 #[ringV sec A n cap] w fun e w' => e = .returned (.tuple #[.int .i64 (nextV sec xs), .int .i64 (nextE sec xs)]) ∧ Below w.heap.size w w' := by
  have HX := Lib.hid h
  have HB1 := Lib.hid ((Below.refl w.heap.size w).alloc (Nat.le_refl _) (.cells #[.int .i64 sec, .slice A n cap] 66))
  have HC := Lib.hid (check_any (cap := cap) (row_now h HB1.out) sec)
  clear h
  by_cases hk : OkR sec xs
  case neg =>
    have e1 : nextE sec xs = 180 := if_pos hk
    have e2 : nextV sec xs = 0 := by unfold nextV; rw [e1]; rfl
    rw [if_neg hk] at HC
    rw [e1, e2]
    clear e1 e2
    go_enter Try.func37, Try.ntmps37
    go_wp2
    go_step3
    go_wp2_with (go_at_call 44; refine HC.out.mono ?_; rintro e w1 ⟨rfl, hb1⟩; have HB2 := Lib.hid (ring_first hb1); clear hb1)
    try rw [Exit.noGoto_ret]
    go_ret2
    exact ⟨rfl, HB2.out.1⟩
  rw [if_pos hk] at HC
  have hn := (ok_n hk HX.out.1).2
  have hlat := ref_latest_sp xs xs.length
  rw [HX.out.1] at hlat
  have e : latTo xs n = latR xs := by unfold latR; rw [HX.out.1]
  have e2 : nxtR xs = nxtTo xs (latR xs) n := by unfold nxtR; rw [HX.out.1]
  have e3 : nextE sec xs = if nxtTo xs (latR xs) n < 0 then 6 else 0 := by unfold nextE; rw [if_neg (fun h => h hk), e2]
  have e4 : nextV sec xs = if nxtTo xs (latR xs) n < 0 then 0 else nxtTo xs (latR xs) n := by unfold nextV; rw [e3, e2]; split <;> rfl
  rw [e] at hlat
  obtain ⟨st, g, u, hl⟩ : ∃ st g u, lastR xs = (st, g, u) := ⟨_, _, _, rfl⟩
  have HL := Lib.hid (fun (W : World) (hh : RowZ W (· < W.heap.size) A n xs) => by have := latest_ok (cap := cap) hh hk; rw [hl] at this; exact this)
  have EE := Lib.hid e3
  have EV := Lib.hid e4
  clear e e2 e3 e4 hl hk
  generalize nextE sec xs = ee at *
  generalize nextV sec xs = ve at *
  generalize latR xs = a at *
  have HA := Lib.hid hlat
  clear hlat
  go_enter Try.func37, Try.ntmps37
  go_wp2
  go_step3
  go_wp2_with (first
    | (go_at_call 44; refine HC.out.mono ?_; rintro e w1 ⟨rfl, hb1⟩; have HB2 := Lib.hid (ring_first hb1); obtain ⟨k0, k1⟩ := ring_cells HB2.out.2; clear hb1)
    | (go_at_call 85; refine (HL.out _ (row_now HX.out HB2.out.1)).mono ?_; rintro e w2 ⟨rfl, hb2⟩; have HB3 := Lib.hid (HB2.out.1.trans (hb2.mono HB2.out.1.size)); have HK3 := Lib.hid (HB2.out.2.below hb2 HB2.out.2.lt); have HKa := Lib.hid (HK3.out.alloc (.cells #[.int .i64 st, .int .u64 g, .int .i64 u] 78)); have HBa := Lib.hid (HB3.out.alloc HB3.out.size (.cells #[.int .i64 st, .int .u64 g, .int .i64 u] 78)); obtain ⟨q0, q1⟩ := ring_cells HKa.out; clear hb2))
  go_step3
  go_wp2
  go_loopw [7, 8, 24] (fun v8 v9 i wr => ∃ j : Nat, RI w sec A n cap wr j i ∧ v8 = .int .i64 0 ∧ v9 = .int .i64 6 ∧ nxtTo xs a j = -1) (fun _ _ i _ => n - (intOf i).toNat)
  case atStart => exact ⟨0, ⟨Nat.zero_le _, rfl, HKa.out, HBa.out⟩, rfl, rfl, rfl⟩
  case round =>
    obtain ⟨j, ⟨hj, rfl, hb, hbel⟩, rfl, rfl, ho⟩ := hrel
    have HB := Lib.hid hb
    have HBEL := Lib.hid hbel
    have HO := Lib.hid ho
    obtain ⟨k0, k1⟩ := ring_cells hb
    clear hb hbel ho
    by_cases hlt : j < n
    · obtain ⟨m, hm⟩ : ∃ m : Nat, a + 1 + (j : Int) = m := ⟨(a + 1 + (j : Int)).toNat, by rcases HA.out with h | ⟨i, _, h⟩ <;> omega⟩
      have hm80 : m ≤ 80 ∧ -1 ≤ a ∧ a ≤ 40 := by rcases HA.out with h | ⟨i, _, h⟩ <;> omega
      have hmod : (wrap64 (wrap64 (a + 1) + (j : Int))).tmod n = ((m % n : Nat) : Int) := by
        have e : wrap64 (wrap64 (a + 1) + (j : Int)) = (m : Int) := by unfold wrap64; omega
        rw [e]
        exact (Int.ofNat_tmod _ _).symm
      have hlm : m % n < n := Nat.mod_lt _ (by omega)
      obtain ⟨b, off, rfl, hbb, hcc⟩ := seg_get (HX.out.below HBEL.out (fun b h => h)) hlm
      obtain ⟨c0, c1, c2⟩ := hcc (m % n) hlm
      have e1 : nxtTo xs a (j + 1) = if stG xs (m % n) = 0 then ((m % n : Nat) : Int) else -1 := by
        conv => (lhs; unfold nxtTo)
        rw [HO.out, if_neg (by omega), hm, Int.toNat_natCast, HX.out.1]
      have E1 := Lib.hid e1
      clear hcc e1 c1 c2 hm hm80
      generalize stG xs (m % n) = st at *
      generalize m % n = q at *
      by_cases h0 : st = 0
      · subst h0
        go_wp2
        try rw [Exit.noGoto_ret]
        go_ret2
        have h2 := E1.out
        simp only [if_true] at h2
        obtain ⟨d, hd⟩ : ∃ d, n = (j + 1) + d := ⟨n - (j + 1), by omega⟩
        have e : nxtTo xs a n = (q : Int) := by rw [hd, nxt_stay xs a (by omega), h2]
        exact ⟨by rw [EE.out, EV.out, e, if_neg (by omega), if_neg (by omega)]; rfl, HBEL.out⟩
      · have d0 : (st == 0) = false := by simpa using h0
        go_wp2
        go_roundw
        case rel => exact ⟨j + 1, ⟨by omega, by simp, HB.out, HBEL.out⟩, rfl, rfl, by rw [E1.out, if_neg h0]⟩
        case measure => simp [intOf]; omega
    · obtain rfl : j = n := by omega
      go_wp2
      try rw [Exit.noGoto_ret]
      go_ret2
      exact ⟨by rw [EE.out, EV.out, HO.out, if_pos (by omega), if_pos (by omega)]; rfl, HBEL.out⟩

end Go.Proofs.Ytkmbbfdjdmkjpaa
