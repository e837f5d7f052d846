/- The document's Right. -/
import Derived.Test.YtkmbbfdjdmkjpaaRefG
import Derived.Test.YtkmbbfdjdmkjpaaNewR
namespace Go.Proofs.Ytkmbbfdjdmkjpaa
open Go.RowKit
set_option linter.unusedVariables false
set_option linter.unusedSimpArgs false

theorem bad_same {sec : Int} {xs : List Seg} (ho : OkR sec xs) {k j : Nat} (hk : k < xs.length) (hj : j < xs.length) (hne : ¬ k = j) (h : genG xs k = genG xs j) (hl : stG xs j ≠ 0) : False := by
  have hg := (may_live (may_at ho.2.1 hj) hl).2.1
  by_cases h0 : stG xs k = 0
  · have hm := may_at ho.2.1 hk
    unfold MayG at hm
    rw [if_pos h0] at hm
    simp only [genG] at h
    omega
  · exact (ho.2.2 k hk j hj hne h0 hl).1 h
theorem bad_above {sec : Int} {xs : List Seg} (ho : OkR sec xs) {k j : Nat} (hk : k < xs.length) (hj : j < xs.length) (hne : ¬ k = j) (h : genG xs j < genG xs k) (hl : stG xs j = 1) : False := by
  have hl0 : stG xs j ≠ 0 := by rw [hl]; decide
  have hg := (may_live (may_at ho.2.1 hj) hl0).2.1
  by_cases h0 : stG xs k = 0
  · have hm := may_at ho.2.1 hk
    unfold MayG at hm
    rw [if_pos h0] at hm
    simp only [genG] at h
    omega
  · have := (ho.2.2 j hj k hk (fun e => hne e.symm) hl0 h0).2 hl
    simp only [genG] at h
    omega
/-- What was found of segment j. -/
def FoundR (sec : Int) (xs : List Seg) (n j : Nat) : Prop := MayG (xs.getD j seg0) sec ∧ (stG xs j ≠ 0 → ∀ m, m < n → m ≠ j → genG xs m ≠ genG xs j ∧ (stG xs j = 1 → genG xs m ≤ genG xs j))
theorem right_next {sec : Int} {xs : List Seg} {n j : Nat} (h : ∀ k, k < j → FoundR sec xs n k) (hj : FoundR sec xs n j) : ∀ k, k < j + 1 → FoundR sec xs n k := fun k hk => by
  by_cases e : k < j
  · exact h k e
  · obtain rfl : k = j := by omega
    exact hj
theorem right_all {sec : Int} {xs : List Seg} {n : Nat} (hn : xs.length = n) (hsz : SizedR n sec) (h : ∀ k, k < n → FoundR sec xs n k) : OkR sec xs := by
  subst hn
  refine ⟨hsz, fun s hs => ?_, fun i hi j hj hne hi0 hj0 => ?_⟩
  · obtain ⟨i, hi, rfl⟩ := List.getElem_of_mem hs
    have := (h i hi).1
    simpa [List.getD, hi] using this
  · have h1 := (h i hi).2 hi0 j hj (fun e => hne e.symm)
    refine ⟨fun e => h1.1 e.symm, fun ho => ?_⟩
    have h2 := h1.2 ho
    have h3 := h1.1
    simp only [genG] at h2 h3
    omega

set_option maxRecDepth 100000 in
set_option maxHeartbeats 4000000 in
theorem ref_right {w : World} {A : Option Addr} {n cap : Nat} {xs : List Seg} (h : RowZ w (· < w.heap.size) A n xs) (sec : Int) (hn : n ≤ 40) (hpos : ∀ i, i < n → 0 ≤ genG xs i) :
    Calls Try.prog 43 #[ringV sec A n cap] w fun e w' => e = .returned (.bool (decide (OkR sec xs))) ∧ Below w.heap.size w w' := by
  have HX := Lib.hid h
  clear h
  by_cases hs : SizedR n sec
  case neg =>
    have hd : decide (SizedR (n : Int) sec) = false := decide_eq_false hs
    have HSI := Lib.hid (fun (W : World) => by have h := ref_sized_any n sec W; rw [hd] at h; exact h)
    have HF := Lib.hid (show ¬ OkR sec xs from fun ho => hs (by have := ho.1; rw [HX.out.1] at this; exact this))
    rw [decide_eq_false HF.out]
    clear hs hd
    go_enter Try.func43, Try.ntmps43
    go_wp2_with (go_at_call 87; refine (HSI.out _).mono ?_; rintro e w' ⟨rfl, rfl⟩)
    go_ret
    exact ⟨rfl, (Below.refl _ w).alloc (Nat.le_refl _) _⟩
  have hd : decide (SizedR (n : Int) sec) = true := decide_eq_true hs
  have HSI := Lib.hid (fun (W : World) => by have h := ref_sized_any n sec W; rw [hd] at h; exact h)
  have HSZ := Lib.hid hs
  have HK0 := Lib.hid (Blk.new w 66 #[.int .i64 sec, .slice A n cap])
  obtain ⟨RR, hRR⟩ : ∃ RR, decide (OkR sec xs) = RR := ⟨_, rfl⟩
  have HRR := Lib.hid hRR
  rw [hRR]
  clear hs hd hRR
  go_enter Try.func43, Try.ntmps43
  go_wp2_with (go_at_call 87; refine (HSI.out _).mono ?_; rintro e w' ⟨rfl, rfl⟩)
  go_loopw [17] (fun i wr => ∃ j : Nat, j ≤ n ∧ i = .int .i64 j ∧ Blk wr w.heap.size 66 #[.int .i64 sec, .slice A n cap] ∧ Below w.heap.size w wr ∧ ∀ k, k < j → FoundR sec xs n k) (fun i _ => n - (intOf i).toNat)
  case atStart => exact ⟨0, Nat.zero_le _, rfl, HK0.out, (Below.refl _ w).alloc (Nat.le_refl _) _, fun k h => absurd h (by omega)⟩
  case round =>
    obtain ⟨j, hj, rfl, hb, hbel, hfound⟩ := hrel
    have HB := Lib.hid hb
    have HW := Lib.hid hbel
    have HJ := Lib.hid hfound
    obtain ⟨k0, k1⟩ := ring_cells hb
    clear hb hbel hfound
    by_cases hlt : j < n
    · obtain ⟨b, off, rfl, hbb, hcc⟩ := seg_get (HX.out.below HW.out (fun b h => h)) hlt
      obtain ⟨c0, c1, c2⟩ := hcc j hlt
      have hjl := Lib.hid (show j < xs.length by rw [HX.out.1]; exact hlt)
      obtain ⟨st, hst⟩ : ∃ st, stG xs j = st := ⟨_, rfl⟩
      obtain ⟨g, hg⟩ : ∃ g, genG xs j = g := ⟨_, rfl⟩
      obtain ⟨u, hu⟩ : ∃ u, usedG xs j = u := ⟨_, rfl⟩
      rw [hst] at c0
      rw [hg] at c1
      rw [hu] at c2
      have HSS := Lib.hid hst
      have HG := Lib.hid hg
      have HU := Lib.hid hu
      have HW2 := Lib.hid (HW.out.alloc HW.out.size (.cells #[.int .i64 st, .int .u64 g, .int .i64 u] 78))
      have HB2 := Lib.hid (HB.out.alloc (.cells #[.int .i64 st, .int .u64 g, .int .i64 u] 78))
      have HS2 := Lib.hid (Blk.new wr 78 #[.int .i64 st, .int .u64 g, .int .i64 u])
      obtain ⟨q0, q1⟩ := ring_cells HB2.out
      clear hcc hbb hst hg hu
      by_cases h0 : st = 0
      · subst h0
        by_cases hg0 : g = 0
        · subst hg0
          by_cases hu0 : u = 0
          · subst hu0
            go_wp2
            go_roundw
            case rel => exact ⟨j + 1, by omega, by simp, HB2.out, HW2.out, right_next HJ.out ⟨by unfold MayG; rw [if_pos (show (xs.getD j seg0).1 = 0 from HSS.out)]; exact ⟨HG.out, HU.out⟩, fun h => absurd HSS.out h⟩⟩
            case measure => simp [intOf]; omega
          · have f2 : (u != 0) = true := by simpa using hu0
            have HF := Lib.hid (show ¬ OkR sec xs from fun ho => hu0 (by have h := may_at ho.2.1 hjl.out; unfold MayG at h; rw [if_pos (show (xs.getD j seg0).1 = 0 from HSS.out)] at h; rw [← HU.out]; exact h.2))
            go_wp2
            go_ret
            exact ⟨by rw [← HRR.out, decide_eq_false HF.out]; rfl, HW2.out⟩
        · have f1 : (g != 0) = true := by simpa using hg0
          have HF := Lib.hid (show ¬ OkR sec xs from fun ho => hg0 (by have h := may_at ho.2.1 hjl.out; unfold MayG at h; rw [if_pos (show (xs.getD j seg0).1 = 0 from HSS.out)] at h; rw [← HG.out]; exact h.1))
          go_wp2
          go_ret
          exact ⟨by rw [← HRR.out, decide_eq_false HF.out]; rfl, HW2.out⟩
      have e0 : (st == 0) = false := by simpa using h0
      by_cases h1 : st = 1
      · subst h1
        have HST := Lib.hid (show stG xs j = 1 from HSS.out)
        by_cases hg0 : g = 0
        · subst hg0
          have HF := Lib.hid (show ¬ OkR sec xs from fun ho => by have h := (may_live (may_at ho.2.1 hjl.out) (by show stG xs j ≠ 0; rw [HST.out]; decide)).2.1; rw [show (xs.getD j seg0).2.1 = 0 from HG.out] at h; omega)
          go_wp2
          go_ret
          exact ⟨by rw [← HRR.out, decide_eq_false HF.out]; rfl, HW2.out⟩
        have f1 : (g == 0) = false := by simpa using hg0
        by_cases hu1 : u < 1
        · have f2 : decide (u < 1) = true := decide_eq_true hu1
          have HF := Lib.hid (show ¬ OkR sec xs from fun ho => by have h := (may_live (may_at ho.2.1 hjl.out) (by show stG xs j ≠ 0; rw [HST.out]; decide)).2.2.1; rw [show (xs.getD j seg0).2.2 = u from HU.out] at h; omega)
          go_wp2
          go_ret
          exact ⟨by rw [← HRR.out, decide_eq_false HF.out]; rfl, HW2.out⟩
        have f2 : decide (u < 1) = false := decide_eq_false hu1
        by_cases hus : sec < u
        · have f3 : decide (sec < u) = true := decide_eq_true hus
          have HF := Lib.hid (show ¬ OkR sec xs from fun ho => by have h := (may_live (may_at ho.2.1 hjl.out) (by show stG xs j ≠ 0; rw [HST.out]; decide)).2.2.2; rw [show (xs.getD j seg0).2.2 = u from HU.out] at h; omega)
          go_wp2
          go_ret
          exact ⟨by rw [← HRR.out, decide_eq_false HF.out]; rfl, HW2.out⟩
        have f3 : decide (sec < u) = false := decide_eq_false hus
        have hgp : 0 ≤ g := by rw [← HG.out]; exact hpos j hlt
        obtain ⟨wo, hwo⟩ : ∃ wo : World, wo = wr := ⟨_, rfl⟩
        rw [← hwo] at HB2 HS2 HW2
        have HWO := Lib.hid hwo
        go_wp2
        rw [← HWO.out]
        clear HWO hwo
        go_loopw [55] (fun i wi => ∃ k : Nat, k ≤ n ∧ i = .int .i64 k ∧ Blk wi w.heap.size 66 #[.int .i64 sec, .slice (some ⟨b, off, none⟩) n cap] ∧ Blk wi wo.heap.size 78 #[.int .i64 1, .int .u64 g, .int .i64 u] ∧ Below w.heap.size w wi ∧ ∀ m, m < k → (m ≠ j → genG xs m ≠ g) ∧ (stG xs j = 1 → genG xs m ≤ g)) (fun i _ => n - (intOf i).toNat)
        case atStart => exact ⟨0, Nat.zero_le _, rfl, HB2.out, HS2.out, HW2.out, fun m h => absurd h (by omega)⟩
        case round =>
          obtain ⟨k, hk, rfl, hb3, hs3, hw3, hall⟩ := hrel
          have HB3 := Lib.hid hb3
          have HS3 := Lib.hid hs3
          have HW3 := Lib.hid hw3
          have HAL := Lib.hid hall
          obtain ⟨k0, k1⟩ := ring_cells hb3
          obtain ⟨v0, v1, v2⟩ : wr.cell? ⟨wo.heap.size, 0, none⟩ = some (.int .i64 1) ∧ wr.cell? ⟨wo.heap.size, 1, none⟩ = some (.int .u64 g) ∧ wr.cell? ⟨wo.heap.size, 2, none⟩ = some (.int .i64 u) := ⟨hs3.cell 0, hs3.cell 1, hs3.cell 2⟩
          clear hb3 hs3 hw3 hall
          by_cases hkn : k < n
          · obtain ⟨gb, go, ge, hbb3, hcc3⟩ := seg_get (HX.out.below HW3.out (fun b h => h)) hkn
            obtain ⟨rfl, rfl⟩ : b = gb ∧ off = go := by injection ge with ge; injection ge with h1 h2; exact ⟨h1, h2⟩
            obtain ⟨d0, d1, d2⟩ := hcc3 k hkn
            have hkl := Lib.hid (show k < xs.length by rw [HX.out.1]; exact hkn)
            obtain ⟨gk, hgk⟩ : ∃ gk, genG xs k = gk := ⟨_, rfl⟩
            obtain ⟨sk, hsk⟩ : ∃ sk, stG xs k = sk := ⟨_, rfl⟩
            obtain ⟨uk, huk⟩ : ∃ uk, usedG xs k = uk := ⟨_, rfl⟩
            rw [hsk] at d0
            rw [hgk] at d1
            rw [huk] at d2
            have HGK := Lib.hid hgk
            have hin := (Below.refl wr.heap.size wr).alloc (Nat.le_refl _) (.cells #[.int .i64 sk, .int .u64 gk, .int .i64 uk] 78)
            have a1 : (wr.alloc (.cells #[.int .i64 sk, .int .u64 gk, .int .i64 uk] 78)).cell? ⟨wo.heap.size, 1, none⟩ = some (.int .u64 g) := (HS3.out.alloc _).cell 1
            have a0 : (wr.alloc (.cells #[.int .i64 sk, .int .u64 gk, .int .i64 uk] 78)).cell? ⟨wo.heap.size, 0, none⟩ = some (.int .i64 1) := (HS3.out.alloc _).cell 0
            have HIN := Lib.hid hin
            clear ge hbb3 hcc3 hgk hsk huk hin
            by_cases hkj : k = j
            · subst hkj
              obtain rfl : g = gk := by rw [← HGK.out, HG.out]
              have f1 : ((k : Int) != (k : Int)) = false := by simp
              have f3 : decide (g < g) = false := decide_eq_false (by omega)
              go_wp2
              go_roundw
              case rel => exact ⟨k + 1, by omega, by simp, HB3.out.alloc _, HS3.out.alloc _, HW3.out.alloc HW3.out.size _, fun m hm => by
                by_cases e : m < k
                · exact HAL.out m e
                · obtain rfl : m = k := by omega
                  exact ⟨fun h => absurd rfl h, fun _ => by rw [HGK.out]; omega⟩⟩
              case measure => simp [intOf]; omega
            have f1 : ((k : Int) != (j : Int)) = true := by simp; omega
            by_cases hge : gk = g
            · obtain rfl : g = gk := hge.symm
              have HF := Lib.hid (show ¬ OkR sec xs from fun ho => bad_same ho hkl.out hjl.out hkj (by rw [HGK.out, HG.out]) (by show stG xs j ≠ 0; rw [HST.out]; decide))
              go_wp2
              go_ret
              exact ⟨by rw [← HRR.out, decide_eq_false HF.out]; rfl, HW3.out.alloc HW3.out.size _⟩
            have f2 : (gk == g) = false := by simpa using hge
            by_cases hgt : g < gk
            · have f3 : decide (g < gk) = true := decide_eq_true hgt
              have HF := Lib.hid (show ¬ OkR sec xs from fun ho => bad_above ho hkl.out hjl.out hkj (by rw [HGK.out, HG.out]; exact hgt) HST.out)
              go_wp2
              go_ret
              exact ⟨by rw [← HRR.out, decide_eq_false HF.out]; rfl, HW3.out.alloc HW3.out.size _⟩
            have f3 : decide (g < gk) = false := decide_eq_false hgt
            go_wp2
            go_roundw
            case rel => exact ⟨k + 1, by omega, by simp, HB3.out.alloc _, HS3.out.alloc _, HW3.out.alloc HW3.out.size _, fun m hm => by
              by_cases e : m < k
              · exact HAL.out m e
              · obtain rfl : m = k := by omega
                exact ⟨fun _ => by rw [HGK.out]; exact hge, fun h1 => by rw [HGK.out]; omega⟩⟩
            case measure => simp [intOf]; omega
          · obtain rfl : k = n := by omega
            go_wp2
            go_roundw
            case rel => exact ⟨j + 1, by omega, by simp, HB3.out, HW3.out, right_next HJ.out ⟨by unfold MayG; rw [show (xs.getD j seg0).1 = 1 from HST.out, if_neg (by decide)]; exact ⟨.inl rfl, by have := HG.out; simp only [genG] at this; omega, by have := HU.out; simp only [usedG] at this; omega, by have := HU.out; simp only [usedG] at this; omega⟩, fun _ m hm hmj => by have := HAL.out m hm; rw [HG.out]; exact ⟨this.1 hmj, this.2⟩⟩⟩
            case measure => simp [intOf]; omega
      by_cases h2 : st = 2
      · subst h2
        have HST := Lib.hid (show stG xs j = 2 from HSS.out)
        by_cases hg0 : g = 0
        · subst hg0
          have HF := Lib.hid (show ¬ OkR sec xs from fun ho => by have h := (may_live (may_at ho.2.1 hjl.out) (by show stG xs j ≠ 0; rw [HST.out]; decide)).2.1; rw [show (xs.getD j seg0).2.1 = 0 from HG.out] at h; omega)
          go_wp2
          go_ret
          exact ⟨by rw [← HRR.out, decide_eq_false HF.out]; rfl, HW2.out⟩
        have f1 : (g == 0) = false := by simpa using hg0
        by_cases hu1 : u < 1
        · have f2 : decide (u < 1) = true := decide_eq_true hu1
          have HF := Lib.hid (show ¬ OkR sec xs from fun ho => by have h := (may_live (may_at ho.2.1 hjl.out) (by show stG xs j ≠ 0; rw [HST.out]; decide)).2.2.1; rw [show (xs.getD j seg0).2.2 = u from HU.out] at h; omega)
          go_wp2
          go_ret
          exact ⟨by rw [← HRR.out, decide_eq_false HF.out]; rfl, HW2.out⟩
        have f2 : decide (u < 1) = false := decide_eq_false hu1
        by_cases hus : sec < u
        · have f3 : decide (sec < u) = true := decide_eq_true hus
          have HF := Lib.hid (show ¬ OkR sec xs from fun ho => by have h := (may_live (may_at ho.2.1 hjl.out) (by show stG xs j ≠ 0; rw [HST.out]; decide)).2.2.2; rw [show (xs.getD j seg0).2.2 = u from HU.out] at h; omega)
          go_wp2
          go_ret
          exact ⟨by rw [← HRR.out, decide_eq_false HF.out]; rfl, HW2.out⟩
        have f3 : decide (sec < u) = false := decide_eq_false hus
        have hgp : 0 ≤ g := by rw [← HG.out]; exact hpos j hlt
        obtain ⟨wo, hwo⟩ : ∃ wo : World, wo = wr := ⟨_, rfl⟩
        rw [← hwo] at HB2 HS2 HW2
        have HWO := Lib.hid hwo
        go_wp2
        rw [← HWO.out]
        clear HWO hwo
        go_loopw [55] (fun i wi => ∃ k : Nat, k ≤ n ∧ i = .int .i64 k ∧ Blk wi w.heap.size 66 #[.int .i64 sec, .slice (some ⟨b, off, none⟩) n cap] ∧ Blk wi wo.heap.size 78 #[.int .i64 2, .int .u64 g, .int .i64 u] ∧ Below w.heap.size w wi ∧ ∀ m, m < k → (m ≠ j → genG xs m ≠ g) ∧ (stG xs j = 1 → genG xs m ≤ g)) (fun i _ => n - (intOf i).toNat)
        case atStart => exact ⟨0, Nat.zero_le _, rfl, HB2.out, HS2.out, HW2.out, fun m h => absurd h (by omega)⟩
        case round =>
          obtain ⟨k, hk, rfl, hb3, hs3, hw3, hall⟩ := hrel
          have HB3 := Lib.hid hb3
          have HS3 := Lib.hid hs3
          have HW3 := Lib.hid hw3
          have HAL := Lib.hid hall
          obtain ⟨k0, k1⟩ := ring_cells hb3
          obtain ⟨v0, v1, v2⟩ : wr.cell? ⟨wo.heap.size, 0, none⟩ = some (.int .i64 2) ∧ wr.cell? ⟨wo.heap.size, 1, none⟩ = some (.int .u64 g) ∧ wr.cell? ⟨wo.heap.size, 2, none⟩ = some (.int .i64 u) := ⟨hs3.cell 0, hs3.cell 1, hs3.cell 2⟩
          clear hb3 hs3 hw3 hall
          by_cases hkn : k < n
          · obtain ⟨gb, go, ge, hbb3, hcc3⟩ := seg_get (HX.out.below HW3.out (fun b h => h)) hkn
            obtain ⟨rfl, rfl⟩ : b = gb ∧ off = go := by injection ge with ge; injection ge with h1 h2; exact ⟨h1, h2⟩
            obtain ⟨d0, d1, d2⟩ := hcc3 k hkn
            have hkl := Lib.hid (show k < xs.length by rw [HX.out.1]; exact hkn)
            obtain ⟨gk, hgk⟩ : ∃ gk, genG xs k = gk := ⟨_, rfl⟩
            obtain ⟨sk, hsk⟩ : ∃ sk, stG xs k = sk := ⟨_, rfl⟩
            obtain ⟨uk, huk⟩ : ∃ uk, usedG xs k = uk := ⟨_, rfl⟩
            rw [hsk] at d0
            rw [hgk] at d1
            rw [huk] at d2
            have HGK := Lib.hid hgk
            have hin := (Below.refl wr.heap.size wr).alloc (Nat.le_refl _) (.cells #[.int .i64 sk, .int .u64 gk, .int .i64 uk] 78)
            have a1 : (wr.alloc (.cells #[.int .i64 sk, .int .u64 gk, .int .i64 uk] 78)).cell? ⟨wo.heap.size, 1, none⟩ = some (.int .u64 g) := (HS3.out.alloc _).cell 1
            have a0 : (wr.alloc (.cells #[.int .i64 sk, .int .u64 gk, .int .i64 uk] 78)).cell? ⟨wo.heap.size, 0, none⟩ = some (.int .i64 2) := (HS3.out.alloc _).cell 0
            have HIN := Lib.hid hin
            clear ge hbb3 hcc3 hgk hsk huk hin
            by_cases hkj : k = j
            · subst hkj
              obtain rfl : g = gk := by rw [← HGK.out, HG.out]
              have f1 : ((k : Int) != (k : Int)) = false := by simp
              have f3 : decide (g < g) = false := decide_eq_false (by omega)
              go_wp2
              go_roundw
              case rel => exact ⟨k + 1, by omega, by simp, HB3.out.alloc _, HS3.out.alloc _, HW3.out.alloc HW3.out.size _, fun m hm => by
                by_cases e : m < k
                · exact HAL.out m e
                · obtain rfl : m = k := by omega
                  exact ⟨fun h => absurd rfl h, fun _ => by rw [HGK.out]; omega⟩⟩
              case measure => simp [intOf]; omega
            have f1 : ((k : Int) != (j : Int)) = true := by simp; omega
            by_cases hge : gk = g
            · obtain rfl : g = gk := hge.symm
              have HF := Lib.hid (show ¬ OkR sec xs from fun ho => bad_same ho hkl.out hjl.out hkj (by rw [HGK.out, HG.out]) (by show stG xs j ≠ 0; rw [HST.out]; decide))
              go_wp2
              go_ret
              exact ⟨by rw [← HRR.out, decide_eq_false HF.out]; rfl, HW3.out.alloc HW3.out.size _⟩
            have f2 : (gk == g) = false := by simpa using hge
            go_wp2
            go_roundw
            case rel => exact ⟨k + 1, by omega, by simp, HB3.out.alloc _, HS3.out.alloc _, HW3.out.alloc HW3.out.size _, fun m hm => by
              by_cases e : m < k
              · exact HAL.out m e
              · obtain rfl : m = k := by omega
                exact ⟨fun _ => by rw [HGK.out]; exact hge, fun h1 => by rw [HGK.out]; rw [HST.out] at h1; exact absurd h1 (by decide)⟩⟩
            case measure => simp [intOf]; omega
          · obtain rfl : k = n := by omega
            go_wp2
            go_roundw
            case rel => exact ⟨j + 1, by omega, by simp, HB3.out, HW3.out, right_next HJ.out ⟨by unfold MayG; rw [show (xs.getD j seg0).1 = 2 from HST.out, if_neg (by decide)]; exact ⟨.inr rfl, by have := HG.out; simp only [genG] at this; omega, by have := HU.out; simp only [usedG] at this; omega, by have := HU.out; simp only [usedG] at this; omega⟩, fun _ m hm hmj => by have := HAL.out m hm; rw [HG.out]; exact ⟨this.1 hmj, this.2⟩⟩⟩
            case measure => simp [intOf]; omega
      have e1 : (st == 1) = false := by simpa using h1
      have e2 : (st == 2) = false := by simpa using h2
      have HF := Lib.hid (show ¬ OkR sec xs from fun ho => by have h := (may_live (may_at ho.2.1 hjl.out) (by show stG xs j ≠ 0; rw [HSS.out]; exact h0)).1; rw [show (xs.getD j seg0).1 = st from HSS.out] at h; omega)
      go_wp2
      go_ret
      exact ⟨by rw [← HRR.out, decide_eq_false HF.out]; rfl, HW2.out⟩
    · obtain rfl : j = n := by omega
      have HT := Lib.hid (show OkR sec xs from right_all HX.out.1 HSZ.out HJ.out)
      go_wp2
      go_ret
      exact ⟨by rw [← HRR.out, decide_eq_true HT.out]; rfl, HW.out⟩

end Go.Proofs.Ytkmbbfdjdmkjpaa
