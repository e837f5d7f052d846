/- The document's latest, Opened, Oldest. -/
import Derived.Test.YtkmbbfdjdmkjpaaPureR
import Derived.BigQuiet
namespace Go.Proofs.Ytkmbbfdjdmkjpaa
open Go.RowKit
set_option linter.unusedVariables false
set_option linter.unusedSimpArgs false

abbrev ringV (sec : Int) (A : Option Addr) (n cap : Nat) : Value := .agg #[.int .i64 sec, .slice A n cap]
/-- What holds between two rounds: the ring's variable, and what was ahead. -/
def RI (w : World) (sec : Int) (A : Option Addr) (n cap : Nat) (wr : World) (j : Nat) (i : Value) : Prop :=
  j ≤ n ∧ i = .int .i64 j ∧ Blk wr w.heap.size 66 #[.int .i64 sec, .slice A n cap] ∧ Below w.heap.size w wr
theorem seg_get {w : World} {S : Nat → Prop} {A : Option Addr} {n : Nat} {xs : List Seg} (h : RowZ w S A n xs) {j : Nat} (hj : j < n) : ∃ b off, A = some ⟨b, off, none⟩ ∧ S b ∧
    (∀ i, i < n → w.cell? ⟨b, off + i * 3, none⟩ = some (.int .i64 (stG xs i)) ∧ w.cell? ⟨b, off + i * 3 + 1, none⟩ = some (.int .u64 (genG xs i)) ∧ w.cell? ⟨b, off + i * 3 + 2, none⟩ = some (.int .i64 (usedG xs i))) := by
  obtain ⟨b, off, e, hb, hc⟩ := h.2 (by omega)
  refine ⟨b, off, e, hb, fun i hi => ?_⟩
  have := hc i hi
  exact ⟨this 0 _ rfl, this 1 _ rfl, this 2 _ rfl⟩

set_option maxRecDepth 100000 in
set_option maxHeartbeats 1000000 in
theorem ref_opened {w : World} {A : Option Addr} {n cap : Nat} {xs : List Seg} (h : RowZ w (· < w.heap.size) A n xs) (sec : Int) (hn : n ≤ 40) :
    Calls Try.prog 47 #[ringV sec A n cap] w fun e w' => e = .returned (.int .i64 (opnR xs)) ∧ Below w.heap.size w w' := by
  have HX := Lib.hid h
  clear h
  go_enter Try.func47, Try.ntmps47
  go_wp2
  go_loopw [8] (fun i wr => ∃ j : Nat, RI w sec A n cap wr j i ∧ opnTo xs j = -1) (fun i _ => n - (intOf i).toNat)
  case atStart => exact ⟨0, ⟨Nat.zero_le _, rfl, Blk.new w _ _, (Below.refl _ _).alloc (Nat.le_refl _) _⟩, rfl⟩
  case round =>
    obtain ⟨j, ⟨hj, rfl, hb, hbel⟩, ho⟩ := hrel
    have HB := Lib.hid hb
    have HBEL := Lib.hid hbel
    have HO := Lib.hid ho
    clear hb hbel ho
    by_cases hlt : j < n
    · obtain ⟨b, off, rfl, hbb, hcc⟩ := seg_get (HX.out.below HBEL.out (fun b h => h)) hlt
      obtain ⟨c0, c1, c2⟩ := hcc j hlt
      have HE := Lib.hid (show opnTo xs (j + 1) = if stG xs j = 1 then (j : Int) else -1 by conv => (lhs; unfold opnTo); rw [HO.out, if_neg (by omega)])
      generalize stG xs j = st at *
      generalize genG xs j = g at *
      generalize usedG xs j = u at *
      clear hcc
      by_cases h1 : st = 1
      · subst h1
        go_wp2
        go_ret
        have e : opnR xs = j := by
          have h2 := HE.out
          simp only [if_true] at h2
          obtain ⟨d, hd⟩ : ∃ d, n = (j + 1) + d := ⟨n - (j + 1), by omega⟩
          unfold opnR
          rw [HX.out.1, hd, opn_stay xs (by omega), h2]
        exact ⟨by rw [e]; rfl, (HBEL.out.alloc HBEL.out.size _)⟩
      · have d1 : (st == 1) = false := by simpa using h1
        go_wp2
        go_roundw
        case rel => exact ⟨j + 1, ⟨by omega, by simp, HB.out.alloc _, HBEL.out.alloc HBEL.out.size _⟩, by rw [HE.out, if_neg h1]⟩
        case measure => simp [intOf]; omega
    · obtain rfl : j = n := by omega
      go_wp2
      go_ret
      have e : opnR xs = -1 := by unfold opnR; rw [HX.out.1]; exact HO.out
      exact ⟨by rw [e]; rfl, HBEL.out⟩

theorem ref_latest_sp (xs : List Seg) (j : Nat) : latTo xs j = -1 ∨ ∃ i : Nat, i < j ∧ latTo xs j = (i : Int) := by
  rcases lat_spec xs j with ⟨e, _⟩ | ⟨i, hi, e, _⟩
  · exact .inl e
  · exact .inr ⟨i, hi, e⟩
theorem ref_oldest_sp (xs : List Seg) (j : Nat) : oldTo xs j = -1 ∨ ∃ i : Nat, i < j ∧ oldTo xs j = (i : Int) := by
  rcases old_spec xs j with ⟨e, _⟩ | ⟨i, hi, e, _⟩
  · exact .inl e
  · exact .inr ⟨i, hi, e⟩

set_option maxRecDepth 100000 in
set_option maxHeartbeats 2000000 in
theorem ref_latest {w : World} {A : Option Addr} {n cap : Nat} {xs : List Seg} (h : RowZ w (· < w.heap.size) A n xs) (sec : Int) (hn : n ≤ 40) :
    Calls Try.prog 90 #[ringV sec A n cap] w fun e w' => e = .returned (.int .i64 (latR xs)) ∧ Below w.heap.size w w' := by
  have HX := Lib.hid h
  clear h
  go_enter Try.func90, Try.ntmps90
  go_wp2
  go_loopw [3, 9] (fun v i wr => ∃ j : Nat, RI w sec A n cap wr j i ∧ v = .int .i64 (latTo xs j)) (fun v i _ => n - (intOf i).toNat)
  case atStart => exact ⟨0, ⟨Nat.zero_le _, rfl, Blk.new w _ _, (Below.refl _ _).alloc (Nat.le_refl _) _⟩, rfl⟩
  case round =>
    obtain ⟨j, ⟨hj, rfl, hb, hbel⟩, rfl⟩ := hrel
    have HB := Lib.hid hb
    have HBEL := Lib.hid hbel
    clear hb hbel
    by_cases hlt : j < n
    · obtain ⟨b, off, rfl, hbb, hcc⟩ := seg_get (HX.out.below HBEL.out (fun b h => h)) hlt
      obtain ⟨c0, c1, c2⟩ := hcc j hlt
      have HE := Lib.hid (show latTo xs (j + 1) = _ from by conv => (lhs; unfold latTo))
      have HSP := Lib.hid (ref_latest_sp xs j)
      have HCC := Lib.hid hcc
      obtain ⟨v, hv⟩ : ∃ v, latTo xs j = v := ⟨_, rfl⟩
      obtain ⟨st, hst⟩ : ∃ st, stG xs j = st := ⟨_, rfl⟩
      obtain ⟨g, hg⟩ : ∃ g, genG xs j = g := ⟨_, rfl⟩
      obtain ⟨u, hu⟩ : ∃ u, usedG xs j = u := ⟨_, rfl⟩
      rw [hst] at c0
      rw [hg] at c1
      rw [hu] at c2
      rw [hv] at HSP
      rw [hv, hst, hg] at HE
      rw [hv]
      clear hcc hst hg hu hv
      by_cases h0 : st ≠ 0
      case neg =>
        have d0 : (st != 0) = false := by simpa using h0
        have e1 : latTo xs (j + 1) = v := by rw [HE.out, if_neg (fun h => h0 h.1)]
        have E1 := Lib.hid e1
        clear e1 HE
        go_wp2
        go_quiet (fail)
        go_wp2
        go_roundw
        case rel => exact ⟨j + 1, ⟨by omega, by simp, (HB.out.alloc _).drewN _, below_drewN (HBEL.out.alloc HBEL.out.size _) _⟩, by rw [E1.out]⟩
        case measure => simp [intOf]; omega
      have d0 : (st != 0) = true := by simpa using h0
      rcases HSP.out with rfl | ⟨i, hi, rfl⟩
      · have e1 : latTo xs (j + 1) = (j : Int) := by rw [HE.out, if_pos ⟨h0, .inl (by omega)⟩]
        have E1 := Lib.hid e1
        clear e1 HE
        go_wp2
        go_quiet (fail)
        go_wp2
        go_roundw
        case rel => exact ⟨j + 1, ⟨by omega, by simp, (HB.out.alloc _).drewN _, below_drewN (HBEL.out.alloc HBEL.out.size _) _⟩, by rw [E1.out]⟩
        case measure => simp [intOf]; omega
      · have hin : i < n := by omega
        obtain ⟨-, k1, -⟩ := HCC.out i hin
        have dn : decide ((i : Int) < 0) = false := decide_eq_false (by omega)
        obtain ⟨g', hg'⟩ : ∃ g', genG xs i = g' := ⟨_, rfl⟩
        rw [hg'] at k1
        have kR : (wr.alloc (.cells #[.int .i64 st, .int .u64 g, .int .i64 u] 78)).cell? ⟨w.heap.size, 1, none⟩ = some (.slice (some ⟨b, off, none⟩) n cap) := (HB.out.alloc _).cell 1
        have kG : (wr.alloc (.cells #[.int .i64 st, .int .u64 g, .int .i64 u] 78)).cell? ⟨b, off + i * 3 + 1, none⟩ = some (.int .u64 g') := (Below.cell ((Below.refl wr.heap.size wr).alloc (Nat.le_refl _) _) (p := ⟨b, _, none⟩) (Nat.lt_of_lt_of_le hbb HBEL.out.size)).trans k1
        by_cases hcmp : g' < g
        · have dc : decide (g' < g) = true := decide_eq_true hcmp
          have e1 : latTo xs (j + 1) = (j : Int) := by rw [HE.out, if_pos ⟨h0, .inr (by rw [Int.toNat_natCast, hg']; exact hcmp)⟩]
          have E1 := Lib.hid e1
          clear e1 HE hg'
          go_wp2
          go_quiet (fail)
          go_wp2
          go_roundw
          case rel => exact ⟨j + 1, ⟨by omega, by simp, (HB.out.alloc _).drewN _, below_drewN (HBEL.out.alloc HBEL.out.size _) _⟩, by rw [E1.out]⟩
          case measure => simp [intOf]; omega
        · have dc : decide (g' < g) = false := decide_eq_false hcmp
          have e1 : latTo xs (j + 1) = (i : Int) := by rw [HE.out, if_neg (fun h => h.2.elim (fun h => by omega) (fun h => hcmp (by rwa [Int.toNat_natCast, hg'] at h)))]
          have E1 := Lib.hid e1
          clear e1 HE hg'
          go_wp2
          go_quiet (fail)
          go_wp2
          go_roundw
          case rel => exact ⟨j + 1, ⟨by omega, by simp, (HB.out.alloc _).drewN _, below_drewN (HBEL.out.alloc HBEL.out.size _) _⟩, by rw [E1.out]⟩
          case measure => simp [intOf]; omega
    · obtain rfl : j = n := by omega
      have e : latR xs = latTo xs j := by unfold latR; rw [HX.out.1]
      have E := Lib.hid e
      clear e
      generalize latTo xs j = v at *
      go_wp2
      go_ret
      exact ⟨by rw [E.out]; rfl, HBEL.out⟩

set_option maxRecDepth 100000 in
set_option maxHeartbeats 2000000 in
theorem ref_oldest {w : World} {A : Option Addr} {n cap : Nat} {xs : List Seg} (h : RowZ w (· < w.heap.size) A n xs) (sec : Int) (hn : n ≤ 40) :
    Calls Try.prog 49 #[ringV sec A n cap] w fun e w' => e = .returned (.int .i64 (oldR xs)) ∧ Below w.heap.size w w' := by
  have HX := Lib.hid h
  clear h
  go_enter Try.func49, Try.ntmps49
  go_wp2
  go_loopw [3, 9] (fun v i wr => ∃ j : Nat, RI w sec A n cap wr j i ∧ v = .int .i64 (oldTo xs j)) (fun v i _ => n - (intOf i).toNat)
  case atStart => exact ⟨0, ⟨Nat.zero_le _, rfl, Blk.new w _ _, (Below.refl _ _).alloc (Nat.le_refl _) _⟩, rfl⟩
  case round =>
    obtain ⟨j, ⟨hj, rfl, hb, hbel⟩, rfl⟩ := hrel
    have HB := Lib.hid hb
    have HBEL := Lib.hid hbel
    clear hb hbel
    by_cases hlt : j < n
    · obtain ⟨b, off, rfl, hbb, hcc⟩ := seg_get (HX.out.below HBEL.out (fun b h => h)) hlt
      obtain ⟨c0, c1, c2⟩ := hcc j hlt
      have HE := Lib.hid (show oldTo xs (j + 1) = _ from by conv => (lhs; unfold oldTo))
      have HSP := Lib.hid (ref_oldest_sp xs j)
      have HCC := Lib.hid hcc
      obtain ⟨v, hv⟩ : ∃ v, oldTo xs j = v := ⟨_, rfl⟩
      obtain ⟨st, hst⟩ : ∃ st, stG xs j = st := ⟨_, rfl⟩
      obtain ⟨g, hg⟩ : ∃ g, genG xs j = g := ⟨_, rfl⟩
      obtain ⟨u, hu⟩ : ∃ u, usedG xs j = u := ⟨_, rfl⟩
      rw [hst] at c0
      rw [hg] at c1
      rw [hu] at c2
      rw [hv] at HSP
      rw [hv, hst, hg] at HE
      rw [hv]
      clear hcc hst hg hu hv
      by_cases h0 : st = 2
      case neg =>
        have d0 : (st == 2) = false := by simpa using h0
        have e1 : oldTo xs (j + 1) = v := by rw [HE.out, if_neg (fun h => h0 h.1)]
        have E1 := Lib.hid e1
        clear e1 HE
        go_wp2
        go_quiet (fail)
        go_wp2
        go_roundw
        case rel => exact ⟨j + 1, ⟨by omega, by simp, (HB.out.alloc _).drewN _, below_drewN (HBEL.out.alloc HBEL.out.size _) _⟩, by rw [E1.out]⟩
        case measure => simp [intOf]; omega
      
      obtain rfl : st = 2 := h0
      rcases HSP.out with rfl | ⟨i, hi, rfl⟩
      · have e1 : oldTo xs (j + 1) = (j : Int) := by rw [HE.out, if_pos ⟨rfl, .inl (by omega)⟩]
        have E1 := Lib.hid e1
        clear e1 HE
        go_wp2
        go_quiet (fail)
        go_wp2
        go_roundw
        case rel => exact ⟨j + 1, ⟨by omega, by simp, (HB.out.alloc _).drewN _, below_drewN (HBEL.out.alloc HBEL.out.size _) _⟩, by rw [E1.out]⟩
        case measure => simp [intOf]; omega
      · have hin : i < n := by omega
        obtain ⟨-, k1, -⟩ := HCC.out i hin
        have dn : decide ((i : Int) < 0) = false := decide_eq_false (by omega)
        obtain ⟨g', hg'⟩ : ∃ g', genG xs i = g' := ⟨_, rfl⟩
        rw [hg'] at k1
        have kR : (wr.alloc (.cells #[.int .i64 2, .int .u64 g, .int .i64 u] 78)).cell? ⟨w.heap.size, 1, none⟩ = some (.slice (some ⟨b, off, none⟩) n cap) := (HB.out.alloc _).cell 1
        have kG : (wr.alloc (.cells #[.int .i64 2, .int .u64 g, .int .i64 u] 78)).cell? ⟨b, off + i * 3 + 1, none⟩ = some (.int .u64 g') := (Below.cell ((Below.refl wr.heap.size wr).alloc (Nat.le_refl _) _) (p := ⟨b, _, none⟩) (Nat.lt_of_lt_of_le hbb HBEL.out.size)).trans k1
        by_cases hcmp : g < g'
        · have dc : decide (g < g') = true := decide_eq_true hcmp
          have e1 : oldTo xs (j + 1) = (j : Int) := by rw [HE.out, if_pos ⟨rfl, .inr (by rw [Int.toNat_natCast, hg']; exact hcmp)⟩]
          have E1 := Lib.hid e1
          clear e1 HE hg'
          go_wp2
          go_quiet (fail)
          go_wp2
          go_roundw
          case rel => exact ⟨j + 1, ⟨by omega, by simp, (HB.out.alloc _).drewN _, below_drewN (HBEL.out.alloc HBEL.out.size _) _⟩, by rw [E1.out]⟩
          case measure => simp [intOf]; omega
        · have dc : decide (g < g') = false := decide_eq_false hcmp
          have e1 : oldTo xs (j + 1) = (i : Int) := by rw [HE.out, if_neg (fun h => h.2.elim (fun h => by omega) (fun h => hcmp (by rwa [Int.toNat_natCast, hg'] at h)))]
          have E1 := Lib.hid e1
          clear e1 HE hg'
          go_wp2
          go_quiet (fail)
          go_wp2
          go_roundw
          case rel => exact ⟨j + 1, ⟨by omega, by simp, (HB.out.alloc _).drewN _, below_drewN (HBEL.out.alloc HBEL.out.size _) _⟩, by rw [E1.out]⟩
          case measure => simp [intOf]; omega
    · obtain rfl : j = n := by omega
      have e : oldR xs = oldTo xs j := by unfold oldR; rw [HX.out.1]
      have E := Lib.hid e
      clear e
      generalize oldTo xs j = v at *
      go_wp2
      go_ret
      exact ⟨by rw [E.out]; rfl, HBEL.out⟩

end Go.Proofs.Ytkmbbfdjdmkjpaa
