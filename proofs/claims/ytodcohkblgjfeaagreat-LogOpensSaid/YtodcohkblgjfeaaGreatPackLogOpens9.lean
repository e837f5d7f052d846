/- Texts of LogOpens, packed. -/
import Derived.Test.YtodcohkblgjfeaaGreatPackLogOpens8
import Derived.BigQuiet
import Derived.Great.BuildSlice
import Derived.Laws.CopyRow
import Derived.Laws.CopyOwn
import Derived.OwnWalk
import Derived.Lib.Hide
set_option linter.unusedVariables false
set_option linter.unusedSimpArgs false
namespace Go.Proofs.YtodcohkblgjfeaaGreat
set_option maxRecDepth 100000
open Go.RowKit
set_option linter.unusedVariables false
set_option linter.unusedSimpArgs false
abbrev ringV (sec : Int) (A : Option Addr) (n cap : Nat) : Value := .agg #[.int .i64 sec, .slice A n cap]
def RI (w : World) (sec : Int) (A : Option Addr) (n cap : Nat) (wr : World) (j : Nat) (i : Value) : Prop :=
  j ≤ n ∧ i = .int .i64 j ∧ Blk wr w.heap.size 35 #[.int .i64 sec, .slice A n cap] ∧ Below w.heap.size w wr
theorem seg_get {w : World} {S : Nat → Prop} {A : Option Addr} {n : Nat} {xs : List Seg} (h : RowZ w S A n xs) {j : Nat} (hj : j < n) : ∃ b off, A = some ⟨b, off, none⟩ ∧ S b ∧
    (∀ i, i < n → w.cell? ⟨b, off + i * 3, none⟩ = some (.int .i64 (stG xs i)) ∧ w.cell? ⟨b, off + i * 3 + 1, none⟩ = some (.int .u64 (genG xs i)) ∧ w.cell? ⟨b, off + i * 3 + 2, none⟩ = some (.int .i64 (usedG xs i))) := by
  obtain ⟨b, off, e, hb, hc⟩ := h.2 (by omega)
  refine ⟨b, off, e, hb, fun i hi => ?_⟩
  have := hc i hi
  exact ⟨this 0 _ rfl, this 1 _ rfl, this 2 _ rfl⟩
set_option maxRecDepth 100000 in
set_option maxHeartbeats 1000000 in
theorem ref_opened {w : World} {A : Option Addr} {n cap : Nat} {xs : List Seg} (h : RowZ w (· < w.heap.size) A n xs) (sec : Int) (hn : n ≤ 40) :
    Calls Tryz.prog 36 #[ringV sec A n cap] w fun e w' => e = .returned (.int .i64 (opnR xs)) ∧ Below w.heap.size w w' := by
  have HX := Lib.hid h
  clear h
  go_enter Tryz.func36, Tryz.ntmps36
  go_wp2
  go_loopw [8] (fun i wr => ∃ j : Nat, RI w sec A n cap wr j i ∧ opnTo xs j = -1) (fun i _ => n - (intOf i).toNat)
  case atStart => exact ⟨0, ⟨Nat.zero_le _, rfl, Blk.new w _ _, (Below.refl _ _).alloc (Nat.le_refl _) _⟩, rfl⟩
  case round =>
    obtain ⟨j, ⟨hj, rfl, hb, hbel⟩, ho⟩ := hrel
    have HB := Lib.hid hb
    have HBEL := Lib.hid hbel
    have HO := Lib.hid ho
    clear hb hbel ho
    by_cases hlt : j < n
    · obtain ⟨b, off, rfl, hbb, hcc⟩ := seg_get (HX.out.below HBEL.out (fun b h => h)) hlt
      obtain ⟨c0, c1, c2⟩ := hcc j hlt
      have HE := Lib.hid (show opnTo xs (j + 1) = if stG xs j = 1 then (j : Int) else -1 by conv => (lhs; unfold opnTo); rw [HO.out, if_neg (by omega)])
      generalize stG xs j = st at *
      generalize genG xs j = g at *
      generalize usedG xs j = u at *
      clear hcc
      by_cases h1 : st = 1
      · subst h1
        go_wp2
        go_ret
        have e : opnR xs = j := by
          have h2 := HE.out
          simp only [if_true] at h2
          obtain ⟨d, hd⟩ : ∃ d, n = (j + 1) + d := ⟨n - (j + 1), by omega⟩
          unfold opnR
          rw [HX.out.1, hd, opn_stay xs (by omega), h2]
        exact ⟨by rw [e]; rfl, (HBEL.out.alloc HBEL.out.size _)⟩
      · have d1 : (st == 1) = false := by simpa using h1
        go_wp2
        go_roundw
        case rel => exact ⟨j + 1, ⟨by omega, by simp, HB.out.alloc _, HBEL.out.alloc HBEL.out.size _⟩, by rw [HE.out, if_neg h1]⟩
        case measure => simp [intOf]; omega
    · obtain rfl : j = n := by omega
      go_wp2
      go_ret
      have e : opnR xs = -1 := by unfold opnR; rw [HX.out.1]; exact HO.out
      exact ⟨by rw [e]; rfl, HBEL.out⟩
theorem ref_latest_sp (xs : List Seg) (j : Nat) : latTo xs j = -1 ∨ ∃ i : Nat, i < j ∧ latTo xs j = (i : Int) := by
  rcases lat_spec xs j with ⟨e, _⟩ | ⟨i, hi, e, _⟩
  · exact .inl e
  · exact .inr ⟨i, hi, e⟩
theorem ref_oldest_sp (xs : List Seg) (j : Nat) : oldTo xs j = -1 ∨ ∃ i : Nat, i < j ∧ oldTo xs j = (i : Int) := by
  rcases old_spec xs j with ⟨e, _⟩ | ⟨i, hi, e, _⟩
  · exact .inl e
  · exact .inr ⟨i, hi, e⟩
set_option maxRecDepth 100000 in
set_option maxHeartbeats 2000000 in
theorem ref_latest {w : World} {A : Option Addr} {n cap : Nat} {xs : List Seg} (h : RowZ w (· < w.heap.size) A n xs) (sec : Int) (hn : n ≤ 40) :
    Calls Tryz.prog 107 #[ringV sec A n cap] w fun e w' => e = .returned (.int .i64 (latR xs)) ∧ Below w.heap.size w w' := by
  have HX := Lib.hid h
  clear h
  go_enter Tryz.func107, Tryz.ntmps107
  go_wp2
  go_loopw [3, 9] (fun v i wr => ∃ j : Nat, RI w sec A n cap wr j i ∧ v = .int .i64 (latTo xs j)) (fun v i _ => n - (intOf i).toNat)
  case atStart => exact ⟨0, ⟨Nat.zero_le _, rfl, Blk.new w _ _, (Below.refl _ _).alloc (Nat.le_refl _) _⟩, rfl⟩
  case round =>
    obtain ⟨j, ⟨hj, rfl, hb, hbel⟩, rfl⟩ := hrel
    have HB := Lib.hid hb
    have HBEL := Lib.hid hbel
    clear hb hbel
    by_cases hlt : j < n
    · obtain ⟨b, off, rfl, hbb, hcc⟩ := seg_get (HX.out.below HBEL.out (fun b h => h)) hlt
      obtain ⟨c0, c1, c2⟩ := hcc j hlt
      have HE := Lib.hid (show latTo xs (j + 1) = _ from by conv => (lhs; unfold latTo))
      have HSP := Lib.hid (ref_latest_sp xs j)
      have HCC := Lib.hid hcc
      obtain ⟨v, hv⟩ : ∃ v, latTo xs j = v := ⟨_, rfl⟩
      obtain ⟨st, hst⟩ : ∃ st, stG xs j = st := ⟨_, rfl⟩
      obtain ⟨g, hg⟩ : ∃ g, genG xs j = g := ⟨_, rfl⟩
      obtain ⟨u, hu⟩ : ∃ u, usedG xs j = u := ⟨_, rfl⟩
      rw [hst] at c0
      rw [hg] at c1
      rw [hu] at c2
      rw [hv] at HSP
      rw [hv, hst, hg] at HE
      rw [hv]
      clear hcc hst hg hu hv
      by_cases h0 : st ≠ 0
      case neg =>
        have d0 : (st != 0) = false := by simpa using h0
        have e1 : latTo xs (j + 1) = v := by rw [HE.out, if_neg (fun h => h0 h.1)]
        have E1 := Lib.hid e1
        clear e1 HE
        go_wp2
        go_quiet (fail)
        go_wp2
        go_roundw
        case rel => exact ⟨j + 1, ⟨by omega, by simp, (HB.out.alloc _).drewN _, below_drewN (HBEL.out.alloc HBEL.out.size _) _⟩, by rw [E1.out]⟩
        case measure => simp [intOf]; omega
      have d0 : (st != 0) = true := by simpa using h0
      rcases HSP.out with rfl | ⟨i, hi, rfl⟩
      · have e1 : latTo xs (j + 1) = (j : Int) := by rw [HE.out, if_pos ⟨h0, .inl (by omega)⟩]
        have E1 := Lib.hid e1
        clear e1 HE
        go_wp2
        go_quiet (fail)
        go_wp2
        go_roundw
        case rel => exact ⟨j + 1, ⟨by omega, by simp, (HB.out.alloc _).drewN _, below_drewN (HBEL.out.alloc HBEL.out.size _) _⟩, by rw [E1.out]⟩
        case measure => simp [intOf]; omega
      · have hin : i < n := by omega
        obtain ⟨-, k1, -⟩ := HCC.out i hin
        have dn : decide ((i : Int) < 0) = false := decide_eq_false (by omega)
        obtain ⟨g', hg'⟩ : ∃ g', genG xs i = g' := ⟨_, rfl⟩
        rw [hg'] at k1
        have kR : (wr.alloc (.cells #[.int .i64 st, .int .u64 g, .int .i64 u] 128)).cell? ⟨w.heap.size, 1, none⟩ = some (.slice (some ⟨b, off, none⟩) n cap) := (HB.out.alloc _).cell 1
        have kG : (wr.alloc (.cells #[.int .i64 st, .int .u64 g, .int .i64 u] 128)).cell? ⟨b, off + i * 3 + 1, none⟩ = some (.int .u64 g') := (Below.cell ((Below.refl wr.heap.size wr).alloc (Nat.le_refl _) _) (p := ⟨b, _, none⟩) (Nat.lt_of_lt_of_le hbb HBEL.out.size)).trans k1
        by_cases hcmp : g' < g
        · have dc : decide (g' < g) = true := decide_eq_true hcmp
          have e1 : latTo xs (j + 1) = (j : Int) := by rw [HE.out, if_pos ⟨h0, .inr (by rw [Int.toNat_natCast, hg']; exact hcmp)⟩]
          have E1 := Lib.hid e1
          clear e1 HE hg'
          go_wp2
          go_quiet (fail)
          go_wp2
          go_roundw
          case rel => exact ⟨j + 1, ⟨by omega, by simp, (HB.out.alloc _).drewN _, below_drewN (HBEL.out.alloc HBEL.out.size _) _⟩, by rw [E1.out]⟩
          case measure => simp [intOf]; omega
        · have dc : decide (g' < g) = false := decide_eq_false hcmp
          have e1 : latTo xs (j + 1) = (i : Int) := by rw [HE.out, if_neg (fun h => h.2.elim (fun h => by omega) (fun h => hcmp (by rwa [Int.toNat_natCast, hg'] at h)))]
          have E1 := Lib.hid e1
          clear e1 HE hg'
          go_wp2
          go_quiet (fail)
          go_wp2
          go_roundw
          case rel => exact ⟨j + 1, ⟨by omega, by simp, (HB.out.alloc _).drewN _, below_drewN (HBEL.out.alloc HBEL.out.size _) _⟩, by rw [E1.out]⟩
          case measure => simp [intOf]; omega
    · obtain rfl : j = n := by omega
      have e : latR xs = latTo xs j := by unfold latR; rw [HX.out.1]
      have E := Lib.hid e
      clear e
      generalize latTo xs j = v at *
      go_wp2
      go_ret
      exact ⟨by rw [E.out]; rfl, HBEL.out⟩
set_option maxRecDepth 100000 in
set_option maxHeartbeats 2000000 in
theorem ref_oldest {w : World} {A : Option Addr} {n cap : Nat} {xs : List Seg} (h : RowZ w (· < w.heap.size) A n xs) (sec : Int) (hn : n ≤ 40) :
    Calls Tryz.prog 72 #[ringV sec A n cap] w fun e w' => e = .returned (.int .i64 (oldR xs)) ∧ Below w.heap.size w w' := by
  have HX := Lib.hid h
  clear h
  go_enter Tryz.func72, Tryz.ntmps72
  go_wp2
  go_loopw [3, 9] (fun v i wr => ∃ j : Nat, RI w sec A n cap wr j i ∧ v = .int .i64 (oldTo xs j)) (fun v i _ => n - (intOf i).toNat)
  case atStart => exact ⟨0, ⟨Nat.zero_le _, rfl, Blk.new w _ _, (Below.refl _ _).alloc (Nat.le_refl _) _⟩, rfl⟩
  case round =>
    obtain ⟨j, ⟨hj, rfl, hb, hbel⟩, rfl⟩ := hrel
    have HB := Lib.hid hb
    have HBEL := Lib.hid hbel
    clear hb hbel
    by_cases hlt : j < n
    · obtain ⟨b, off, rfl, hbb, hcc⟩ := seg_get (HX.out.below HBEL.out (fun b h => h)) hlt
      obtain ⟨c0, c1, c2⟩ := hcc j hlt
      have HE := Lib.hid (show oldTo xs (j + 1) = _ from by conv => (lhs; unfold oldTo))
      have HSP := Lib.hid (ref_oldest_sp xs j)
      have HCC := Lib.hid hcc
      obtain ⟨v, hv⟩ : ∃ v, oldTo xs j = v := ⟨_, rfl⟩
      obtain ⟨st, hst⟩ : ∃ st, stG xs j = st := ⟨_, rfl⟩
      obtain ⟨g, hg⟩ : ∃ g, genG xs j = g := ⟨_, rfl⟩
      obtain ⟨u, hu⟩ : ∃ u, usedG xs j = u := ⟨_, rfl⟩
      rw [hst] at c0
      rw [hg] at c1
      rw [hu] at c2
      rw [hv] at HSP
      rw [hv, hst, hg] at HE
      rw [hv]
      clear hcc hst hg hu hv
      by_cases h0 : st = 2
      case neg =>
        have d0 : (st == 2) = false := by simpa using h0
        have e1 : oldTo xs (j + 1) = v := by rw [HE.out, if_neg (fun h => h0 h.1)]
        have E1 := Lib.hid e1
        clear e1 HE
        go_wp2
        go_quiet (fail)
        go_wp2
        go_roundw
        case rel => exact ⟨j + 1, ⟨by omega, by simp, (HB.out.alloc _).drewN _, below_drewN (HBEL.out.alloc HBEL.out.size _) _⟩, by rw [E1.out]⟩
        case measure => simp [intOf]; omega
      
      obtain rfl : st = 2 := h0
      rcases HSP.out with rfl | ⟨i, hi, rfl⟩
      · have e1 : oldTo xs (j + 1) = (j : Int) := by rw [HE.out, if_pos ⟨rfl, .inl (by omega)⟩]
        have E1 := Lib.hid e1
        clear e1 HE
        go_wp2
        go_quiet (fail)
        go_wp2
        go_roundw
        case rel => exact ⟨j + 1, ⟨by omega, by simp, (HB.out.alloc _).drewN _, below_drewN (HBEL.out.alloc HBEL.out.size _) _⟩, by rw [E1.out]⟩
        case measure => simp [intOf]; omega
      · have hin : i < n := by omega
        obtain ⟨-, k1, -⟩ := HCC.out i hin
        have dn : decide ((i : Int) < 0) = false := decide_eq_false (by omega)
        obtain ⟨g', hg'⟩ : ∃ g', genG xs i = g' := ⟨_, rfl⟩
        rw [hg'] at k1
        have kR : (wr.alloc (.cells #[.int .i64 2, .int .u64 g, .int .i64 u] 128)).cell? ⟨w.heap.size, 1, none⟩ = some (.slice (some ⟨b, off, none⟩) n cap) := (HB.out.alloc _).cell 1
        have kG : (wr.alloc (.cells #[.int .i64 2, .int .u64 g, .int .i64 u] 128)).cell? ⟨b, off + i * 3 + 1, none⟩ = some (.int .u64 g') := (Below.cell ((Below.refl wr.heap.size wr).alloc (Nat.le_refl _) _) (p := ⟨b, _, none⟩) (Nat.lt_of_lt_of_le hbb HBEL.out.size)).trans k1
        by_cases hcmp : g < g'
        · have dc : decide (g < g') = true := decide_eq_true hcmp
          have e1 : oldTo xs (j + 1) = (j : Int) := by rw [HE.out, if_pos ⟨rfl, .inr (by rw [Int.toNat_natCast, hg']; exact hcmp)⟩]
          have E1 := Lib.hid e1
          clear e1 HE hg'
          go_wp2
          go_quiet (fail)
          go_wp2
          go_roundw
          case rel => exact ⟨j + 1, ⟨by omega, by simp, (HB.out.alloc _).drewN _, below_drewN (HBEL.out.alloc HBEL.out.size _) _⟩, by rw [E1.out]⟩
          case measure => simp [intOf]; omega
        · have dc : decide (g < g') = false := decide_eq_false hcmp
          have e1 : oldTo xs (j + 1) = (i : Int) := by rw [HE.out, if_neg (fun h => h.2.elim (fun h => by omega) (fun h => hcmp (by rwa [Int.toNat_natCast, hg'] at h)))]
          have E1 := Lib.hid e1
          clear e1 HE hg'
          go_wp2
          go_quiet (fail)
          go_wp2
          go_roundw
          case rel => exact ⟨j + 1, ⟨by omega, by simp, (HB.out.alloc _).drewN _, below_drewN (HBEL.out.alloc HBEL.out.size _) _⟩, by rw [E1.out]⟩
          case measure => simp [intOf]; omega
    · obtain rfl : j = n := by omega
      have e : oldR xs = oldTo xs j := by unfold oldR; rw [HX.out.1]
      have E := Lib.hid e
      clear e
      generalize oldTo xs j = v at *
      go_wp2
      go_ret
      exact ⟨by rw [E.out]; rfl, HBEL.out⟩
end Go.Proofs.YtodcohkblgjfeaaGreat

namespace Go.Proofs.YtodcohkblgjfeaaGreat
set_option maxRecDepth 100000
open Go.RowKit
set_option linter.unusedVariables false
set_option linter.unusedSimpArgs false
noncomputable def openedE (sec : Int) (xs : List Seg) : Int := if ¬ OkR sec xs then 180 else if opnR xs < 0 then 4 else 0
noncomputable def openedV (sec : Int) (xs : List Seg) : Int := if openedE sec xs = 0 then opnR xs else 0
theorem opened_bad {sec : Int} {xs : List Seg} (h : ¬ OkR sec xs) : openedE sec xs = 180 ∧ openedV sec xs = 0 := by
  have e : openedE sec xs = 180 := by unfold openedE; rw [if_pos h]
  exact ⟨e, by unfold openedV; rw [e]; rfl⟩
theorem opened_no {sec : Int} {xs : List Seg} (h : OkR sec xs) (h2 : opnR xs < 0) : openedE sec xs = 4 ∧ openedV sec xs = 0 := by
  have e : openedE sec xs = 4 := by unfold openedE; rw [if_neg (fun k => k h), if_pos h2]
  exact ⟨e, by unfold openedV; rw [e]; rfl⟩
theorem opened_yes {sec : Int} {xs : List Seg} (h : OkR sec xs) (h2 : ¬ opnR xs < 0) : openedE sec xs = 0 ∧ openedV sec xs = opnR xs := by
  have e : openedE sec xs = 0 := by unfold openedE; rw [if_neg (fun k => k h), if_neg h2]
  exact ⟨e, by unfold openedV; rw [e]; rfl⟩
theorem ring_cells {w : World} {g : Nat} {sec : Int} {A : Option Addr} {n cap : Nat} (h : Blk w g 35 #[.int .i64 sec, .slice A n cap]) : w.cell? ⟨g, 0, none⟩ = some (.int .i64 sec) ∧ w.cell? ⟨g, 1, none⟩ = some (.slice A n cap) := ⟨h.cell 0, h.cell 1⟩
theorem ring_first {w w1 : World} {sec : Int} {A : Option Addr} {n cap : Nat} (h : Below (w.alloc (.cells #[.int .i64 sec, .slice A n cap] 35)).heap.size (w.alloc (.cells #[.int .i64 sec, .slice A n cap] 35)) w1) :
    Below w.heap.size w w1 ∧ Blk w1 w.heap.size 35 #[.int .i64 sec, .slice A n cap] :=
  ⟨((Below.refl w.heap.size w).alloc (Nat.le_refl _) _).trans (h.mono (by simp)), (Blk.new w _ _).below h (by simp)⟩
set_option maxRecDepth 100000 in
set_option maxHeartbeats 1000000 in
theorem opened_any {w : World} {A : Option Addr} {n cap : Nat} {xs : List Seg} (h : RowZ w (· < w.heap.size) A n xs) (sec : Int) :
    Calls Tryz.prog 82 #[ringV sec A n cap] w fun e w' => e = .returned (.tuple #[.int .i64 (openedV sec xs), .int .i64 (openedE sec xs)]) ∧ Below w.heap.size w w' := by
  have HX := Lib.hid h
  have HB1 := Lib.hid ((Below.refl w.heap.size w).alloc (Nat.le_refl _) (.cells #[.int .i64 sec, .slice A n cap] 35))
  have HC := Lib.hid (check_any (cap := cap) (row_now h HB1.out) sec)
  clear h
  by_cases hk : OkR sec xs
  case neg =>
    obtain ⟨e1, e2⟩ := opened_bad hk
    rw [if_neg hk] at HC
    rw [e1, e2]
    clear e1 e2
    go_enter Tryz.func82, Tryz.ntmps82
    go_wp2_with (go_at_call 81; refine HC.out.mono ?_; rintro e w1 ⟨rfl, hb1⟩; have HB2 := Lib.hid (ring_first hb1); clear hb1)
    go_ret2
    exact ⟨rfl, HB2.out.1⟩
  rw [if_pos hk] at HC
  have HK := Lib.hid hk
  have HLO := Lib.hid (last_open hk)
  have HOY := Lib.hid (fun h2 => opened_yes hk h2)
  have HON := Lib.hid (fun h2 => opened_no hk h2)
  have HLT := Lib.hid (opn_or hk)
  clear hk
  obtain ⟨st, g, u, hl⟩ : ∃ st g u, lastR xs = (st, g, u) := ⟨_, _, _, rfl⟩
  rw [hl] at HLO
  have HL := Lib.hid (fun (W : World) (hh : RowZ W (· < W.heap.size) A n xs) => by have := latest_ok (cap := cap) hh HK.out; rw [hl] at this; exact this)
  clear hl
  by_cases h1 : st = 1
  · subst h1
    have ho : ¬ opnR xs < 0 := by have := HLO.out.1 rfl; omega
    obtain ⟨e1, e2⟩ := HOY.out ho
    have e3 : latR xs = opnR xs := by rcases HLT.out with ⟨e, _⟩ | ⟨i, _, e, e', _⟩ <;> omega
    rw [e1, e2, ← e3]
    clear e1 e2 e3 ho
    generalize latR xs = a at *
    go_enter Tryz.func82, Tryz.ntmps82
    go_wp2_with (first
      | (go_at_call 81; refine HC.out.mono ?_; rintro e w1 ⟨rfl, hb1⟩; have HB2 := Lib.hid (ring_first hb1); obtain ⟨k0, k1⟩ := ring_cells HB2.out.2; clear hb1)
      | (go_at_call 131; refine (HL.out _ (row_now HX.out HB2.out.1)).mono ?_; rintro e w2 ⟨rfl, hb2⟩; have HB3 := Lib.hid (HB2.out.1.trans (hb2.mono HB2.out.1.size)); clear hb2))
    go_ret2
    exact ⟨rfl, HB3.out.alloc HB3.out.size _⟩
  · have d1 : (st != 1) = true := by simpa using h1
    have ho : opnR xs < 0 := by
      rcases Int.lt_or_le (opnR xs) 0 with h | h
      · exact h
      · exact absurd (HLO.out.2 h) h1
    obtain ⟨e1, e2⟩ := HON.out ho
    rw [e1, e2]
    clear e1 e2 ho
    generalize latR xs = a at *
    go_enter Tryz.func82, Tryz.ntmps82
    go_wp2_with (first
      | (go_at_call 81; refine HC.out.mono ?_; rintro e w1 ⟨rfl, hb1⟩; have HB2 := Lib.hid (ring_first hb1); obtain ⟨k0, k1⟩ := ring_cells HB2.out.2; clear hb1)
      | (go_at_call 131; refine (HL.out _ (row_now HX.out HB2.out.1)).mono ?_; rintro e w2 ⟨rfl, hb2⟩; have HB3 := Lib.hid (HB2.out.1.trans (hb2.mono HB2.out.1.size)); clear hb2))
    go_ret2
    exact ⟨rfl, HB3.out.alloc HB3.out.size _⟩
noncomputable def workE (sec : Int) (xs : List Seg) : Int := if openedE sec xs = 4 then 181 else openedE sec xs
theorem work_is (sec : Int) (xs : List Seg) : workE sec xs = sealE sec xs := by
  unfold workE sealE openedE
  by_cases hk : OkR sec xs
  · by_cases h2 : opnR xs < 0 <;> simp [hk, h2]
  · simp [hk]
theorem working_any {w : World} {A : Option Addr} {n cap : Nat} {xs : List Seg} (h : RowZ w (· < w.heap.size) A n xs) (sec : Int) :
    Calls Tryz.prog 145 #[ringV sec A n cap] w fun e w' => e = .returned (.tuple #[.int .i64 (openedV sec xs), .int .i64 (sealE sec xs)]) ∧ Below w.heap.size w w' := by
  have HB1 := Lib.hid ((Below.refl w.heap.size w).alloc (Nat.le_refl _) (.cells #[.int .i64 sec, .slice A n cap] 35))
  have HC := Lib.hid (opened_any (cap := cap) (row_now h HB1.out) sec)
  have HV := Lib.hid (show openedE sec xs = 4 → openedV sec xs = 0 from fun h => by unfold openedV; rw [if_neg (by omega)])
  rw [← work_is]
  unfold workE
  clear h
  generalize openedE sec xs = er at *
  generalize openedV sec xs = vr at *
  by_cases h4 : er = 4
  · subst h4
    obtain rfl : vr = 0 := HV.out rfl
    go_enter Tryz.func145, Tryz.ntmps145
    go_wp2_with (go_at_call 82; refine HC.out.mono ?_; rintro e w1 ⟨rfl, hb1⟩; have HB2 := Lib.hid (ring_first hb1); clear hb1)
    go_ret2
    exact ⟨rfl, HB2.out.1⟩
  · have d4 : (er == 4) = false := by simpa using h4
    rw [if_neg h4]
    go_enter Tryz.func145, Tryz.ntmps145
    go_wp2_with (go_at_call 82; refine HC.out.mono ?_; rintro e w1 ⟨rfl, hb1⟩; have HB2 := Lib.hid (ring_first hb1); clear hb1)
    go_ret2
    exact ⟨rfl, HB2.out.1⟩
noncomputable def leftW (sec : Int) (xs : List Seg) : Int := if OkR sec xs then leftR sec xs else 0
set_option maxRecDepth 100000 in
set_option maxHeartbeats 1000000 in
theorem left_ring {w : World} {A : Option Addr} {n cap : Nat} {xs : List Seg} (h : RowZ w (· < w.heap.size) A n xs) (sec : Int) :
    Calls Tryz.prog 48 #[ringV sec A n cap] w fun e w' => e = .returned (.int .i64 (leftW sec xs)) ∧ Below w.heap.size w w' := by
  have HX := Lib.hid h
  have HB1 := Lib.hid ((Below.refl w.heap.size w).alloc (Nat.le_refl _) (.cells #[.int .i64 sec, .slice A n cap] 35))
  have HC := Lib.hid (opened_any (cap := cap) (row_now h HB1.out) sec)
  clear h
  by_cases hk : openedE sec xs = 0
  case neg =>
    have e0 : leftW sec xs = 0 := by
      unfold leftW
      split
      case isFalse => rfl
      case isTrue ho =>
        unfold leftR
        by_cases h2 : opnR xs < 0
        · rw [if_neg (by omega)]
        · exact absurd (opened_yes ho h2).1 hk
    rw [e0]
    have d1 : (openedE sec xs != 0) = true := by simpa using hk
    clear hk e0
    generalize openedE sec xs = er at *
    generalize openedV sec xs = vr at *
    go_enter Tryz.func48, Tryz.ntmps48
    go_wp2_with (go_at_call 82; refine HC.out.mono ?_; rintro e w1 ⟨rfl, hb1⟩; have HB2 := Lib.hid (ring_first hb1); clear hb1)
    go_ret
    exact ⟨rfl, HB2.out.1⟩
  have hok : OkR sec xs := by
    by_cases h : OkR sec xs
    · exact h
    · have := (opened_bad h).1; omega
  have hno : ¬ opnR xs < 0 := fun h => by have := (opened_no hok h).1; omega
  obtain ⟨e1, e2⟩ := opened_yes hok hno
  obtain ⟨i, hi, hopn⟩ : ∃ i : Nat, i < n ∧ opnR xs = i := by
    rcases opn_or hok with ⟨e, _⟩ | ⟨i, hi, e, _⟩
    · omega
    · exact ⟨i, by rw [← HX.out.1]; exact hi, e⟩
  have e3 : leftW sec xs = sec - usedG xs i := by unfold leftW leftR; rw [if_pos hok, if_pos (by omega), hopn, Int.toNat_natCast]
  have hu : 0 ≤ usedG xs i ∧ 24 ≤ sec ∧ sec ≤ 64 ∧ usedG xs i ≤ 64 := by
    have h1 := hok.1
    unfold SizedR at h1
    have h2 := hok.2.1 (xs.getD i seg0) (seg_mem (by rw [HX.out.1]; exact hi))
    unfold MayG at h2
    split at h2
    · simp only [usedG]; omega
    · simp only [usedG]; omega
  rw [e1, e2, hopn] at HC
  rw [e3]
  clear hok hno e1 e2 hopn e3 hk
  obtain ⟨b, off, rfl, hbb, hcc⟩ := seg_get HX.out hi
  have c2 := (hcc i hi).2.2
  have HCC := Lib.hid c2
  generalize usedG xs i = u at *
  clear hcc c2
  have hw : wrap64 (sec - u) = sec - u := by unfold wrap64; omega
  go_enter Tryz.func48, Tryz.ntmps48
  go_wp2_with (go_at_call 82; refine HC.out.mono ?_; rintro e w1 ⟨rfl, hb1⟩; have HB2 := Lib.hid (ring_first hb1); obtain ⟨k0, k1⟩ := ring_cells HB2.out.2; have kG : w1.cell? ⟨b, off + i * 3 + 2, none⟩ = some (.int .i64 u) := (Below.cell HB2.out.1 (p := ⟨b, _, none⟩) hbb).trans HCC.out; clear hb1)
  go_quiet (fail)
  go_wp2
  go_ret
  exact ⟨rfl, below_drewN HB2.out.1 _⟩
end Go.Proofs.YtodcohkblgjfeaaGreat

namespace Go.Proofs.YtodcohkblgjfeaaGreat
set_option maxRecDepth 100000
open Go.RowKit
set_option linter.unusedVariables false
set_option linter.unusedSimpArgs false
def flatG (L : List Seg) : List Value := L.flatMap segC
theorem flatG_append (L M : List Seg) : flatG (L ++ M) = flatG L ++ flatG M := by simp [flatG]
theorem flatG_one (s : Seg) : flatG [s] = segC s := by simp [flatG]
theorem flatG_length (L : List Seg) : (flatG L).length = L.length * 3 := by
  induction L with
  | nil => rfl
  | cons x r ih =>
    simp only [flatG, List.flatMap_cons, List.length_append, List.length_cons] at *
    rw [ih]
    simp only [segC, List.length_cons, List.length_nil]
    omega
theorem flatG_get : ∀ (L : List Seg) (t : Nat), t < L.length * 3 → (flatG L)[t]? = (segC (L.getD (t / 3) seg0))[t % 3]?
  | [], t, h => by simp at h
  | y :: L, t, h => by
    unfold flatG
    rw [List.flatMap_cons]
    by_cases h4 : t < 3
    · rw [List.getElem?_append_left (by simpa using h4)]
      rw [show t / 3 = 0 by omega, show t % 3 = t by omega]
      rfl
    · have e : t - (segC y).length = t - 3 := by simp
      rw [List.getElem?_append_right (by simp; omega), e]
      have ih := flatG_get L (t - 3) (by simp at h; omega)
      unfold flatG at ih
      rw [ih, show t / 3 = (t - 3) / 3 + 1 by omega, show t % 3 = (t - 3) % 3 by omega]
      rfl
theorem flatG_ones (L : List Seg) : ∀ v ∈ flatG L, v.oneCell' = true := by
  intro v hv
  obtain ⟨s, _, h⟩ := List.mem_flatMap.1 hv
  exact ones_seg s v h
theorem flatG_set (L : List Seg) (i : Nat) (s : Seg) (h : i < L.length) : flatG (L.set i s) = (flatG L).take (i * 3) ++ segC s ++ (flatG L).drop (i * 3 + 3) := by
  have e : L.set i s = L.take i ++ [s] ++ L.drop (i + 1) := by
    rw [List.set_eq_take_append_cons_drop, if_pos h]; simp
  have e2 : L = L.take i ++ [L.getD i seg0] ++ L.drop (i + 1) := by
    simp only [List.getD, List.getElem?_eq_getElem h, Option.getD_some]
    rw [List.append_assoc, List.singleton_append, ← List.drop_eq_getElem_cons h, List.take_append_drop]
  have hl : (flatG (L.take i)).length = i * 3 := by rw [flatG_length, List.length_take]; omega
  have h1 : (flatG L).take (i * 3) = flatG (L.take i) := by
    conv => lhs; rw [e2]
    rw [flatG_append, flatG_append, List.append_assoc, List.take_append_of_le_length (by omega), ← hl, List.take_length]
  have h2 : (flatG L).drop (i * 3 + 3) = flatG (L.drop (i + 1)) := by
    conv => lhs; rw [e2]
    rw [flatG_append, List.drop_append_of_le_length (by rw [flatG_append, List.length_append, hl, flatG_one]; simp)]
    rw [List.drop_eq_nil_of_le (by rw [flatG_append, List.length_append, hl, flatG_one]; simp)]
    simp
  rw [h1, h2, e, flatG_append, flatG_append, flatG_one]
def ArrS (w : World) (g : Nat) (L : List Seg) : Prop := Blk w g 128 (flatG L).toArray
theorem row_of_flat {w : World} {g : Nat} {t : TypeId} {L : List Seg} {X : List Value} (h : Blk w g t (flatG L ++ X).toArray) {S : Nat → Prop} (hS : S g) {n : Nat} (hn : L.length = n) : RowZ w S (some ⟨g, 0, none⟩) n L :=
  ⟨hn, fun _ => ⟨g, 0, rfl, hS, fun i hi j v hv => by
    have hj : j < 3 := by have := (List.getElem?_eq_some_iff.1 hv).1; simpa using this
    show w.cell? ⟨g, 0 + i * 3 + j, none⟩ = some v
    rw [h.cell, Nat.zero_add]
    have hlt : i * 3 + j < (flatG L).length := by rw [flatG_length]; omega
    rw [List.getElem?_toArray, List.getElem?_append_left hlt, flatG_get L _ (by rw [flatG_length] at hlt; exact hlt), show (i * 3 + j) / 3 = i by omega, show (i * 3 + j) % 3 = j by omega]
    exact hv⟩⟩
theorem ArrS.row {w : World} {g : Nat} {L : List Seg} (h : ArrS w g L) {S : Nat → Prop} (hS : S g) {n : Nat} (hn : L.length = n) : RowZ w S (some ⟨g, 0, none⟩) n L :=
  row_of_flat (X := []) (by simpa [ArrS] using h) hS hn
theorem RowZ_src {w : World} {S : Nat → Prop} {A : Option Addr} {n : Nat} {xs : List Seg} (h : RowZ w S A n xs) (hn : 0 < n) :
    ∃ ad, A = some ad ∧ ∀ j v, (flatG xs)[j]? = some v → w.cell? (ad.add j) = some v := by
  obtain ⟨b, off, e, _, hc⟩ := h.2 hn
  refine ⟨_, e, fun j v hv => ?_⟩
  have hj : j < xs.length * 3 := by have := (List.getElem?_eq_some_iff.1 hv).1; rwa [flatG_length] at this
  rw [flatG_get xs j hj] at hv
  have h1 := hc (j / 3) (by have := h.1; omega) (j % 3) v hv
  rw [add_plain, show off + j = off + j / 3 * 3 + j % 3 by omega]
  exact h1
theorem RowZ_take {w : World} {S : Nat → Prop} {A : Option Addr} {n : Nat} {xs : List Seg} (h : RowZ w S A n xs) (k : Nat) (hk : k ≤ n) : RowZ w S A k (xs.take k) := by
  have hl := h.1
  refine ⟨by simp; omega, fun h0 => ?_⟩
  obtain ⟨b, off, e, hb, hc⟩ := h.2 (by omega)
  refine ⟨b, off, e, hb, fun i hi => ?_⟩
  have e1 : (xs.take k).getD i seg0 = xs.getD i seg0 := by simp [List.getD, List.getElem?_take, hi]
  rw [e1]
  exact hc i (by omega)
theorem info_seg : (Tryz.prog.info? 128).map (fun i => (i.zero, i.size, i.bytes)) = some (some (.agg (segC seg0).toArray), 3, 24) := by kernel_rfl
theorem made_segs (k : Nat) : madeCells (segC seg0).toArray (k * 3) = (flatG (List.replicate k seg0)).toArray := by
  apply Array.ext
  · simp [size_madeCells, flatG_length]
  · intro i h1 h2
    have hi : i < k * 3 := by simpa [size_madeCells] using h1
    have hq : i / 3 < k := by omega
    have e2 := flatG_get (List.replicate k seg0) i (by simpa using hi)
    have e3 : (List.replicate k seg0).getD (i / 3) seg0 = seg0 := by simp [List.getD, List.getElem?_replicate, hq]
    rw [e3, ← List.getElem?_toArray, Array.getElem?_eq_getElem h2] at e2
    have hm : i % 3 < 3 := Nat.mod_lt _ (by omega)
    have e4 : (segC seg0).toArray[i % 3]! = (segC seg0)[i % 3]'(by simpa using hm) := by
      rw [getElem!_def, List.getElem?_toArray, List.getElem?_eq_getElem (by simpa using hm)]
    rw [List.getElem?_eq_getElem (by simpa using hm)] at e2
    injection e2 with e2
    rw [e2]
    simp only [madeCells, Array.getElem_map, Array.getElem_range]
    exact e4
theorem run_make_segs (l c : Nat) (hlc : l ≤ c) (hc : c ≤ 1000000) (w : World) : (Instr.makeSlice 33 (.int .i64 l) (.int .i64 c)).run Tryz.prog w = .ok (.slice (some ⟨w.heap.size, 0, none⟩) l c) (w.alloc (.cells (flatG (List.replicate c seg0)).toArray 128)) := by
  obtain ⟨i0, hi, hz0, hz1, hz2⟩ := info_parts info_seg
  have hr := run_make (P := Tryz.prog) w 33 128 i0 (.agg (segC seg0).toArray) Tryz.underlying33 hi hz0 .i64 .i64 l c (by omega) (by omega) (by rw [hz2]; omega) (by omega)
  simp only [Int.toNat_natCast, hz1, Value.cells] at hr
  rw [made_segs] at hr
  exact hr
theorem run_copy_segs (w : World) (ty : TypeId) (g dCap : Nat) (a : Addr) (n sCap : Nat) (cur : List Value) (cs : List Value)
    (hg : Blk w g 128 cur.toArray) (hn : cs.length = n * 3) (hsrc : ∀ j v, cs[j]? = some v → w.cell? (a.add j) = some v) (hfit : cs.length = cur.length) (h1 : ∀ v ∈ cs, v.oneCell' = true) :
    (Builtin.copy_ #[33, 33] ty #[.slice (some ⟨g, 0, none⟩) n dCap, .slice (some a) n sCap]).run Tryz.prog w = .ok (goInt n) (w.setRow g cs.toArray) := by
  have hl := run_loadCells_list (P := Tryz.prog) w a cs hsrc
  have hst := run_storeCells_at Tryz.prog g 0 128 cs 0 cur.toArray w hg (by simp [hfit]) h1
  have e : (List.take (0 + 0) cur.toArray.toList ++ cs ++ List.drop (0 + 0 + cs.length) cur.toArray.toList).toArray = cs.toArray := by simp [hfit]
  rw [e] at hst
  obtain ⟨i0, hi, hz0, hz1, hz2⟩ := info_parts info_seg
  simp [Builtin.copy_, run_underlying (Tryz.underlying33), Builtin.lenOf, Builtin.firstCells, sizeOf, typeInfo, hi, hz1, ← hn, hl, hst]
section
variable {w : World} {ops : Array Oper} {rest : List Oper} {o : Oper} {a : Act} {Q : Exit → Act → World → Prop}
theorem wpList_make_segs (l c : Operand) (ho : o.op = .makeSlice 33 l c) (hgd : o.guard = none) (L C : Int) (l0 k : Nat) (hl : a.eval l = .int .i64 L) (hc : a.eval c = .int .i64 C) (hL : L = l0) (hC : C = k) (hlk : l0 ≤ k) (hk : k ≤ 1000000)
    (h : wpList Tryz.prog ops Q rest (a.put o.dst (.slice (some ⟨w.heap.size, 0, none⟩) l0 k)) (w.alloc (.cells (flatG (List.replicate k seg0)).toArray 128))) : wpList Tryz.prog ops Q (o :: rest) a w := by
  refine wpList_plain hgd fun K hK => ?_
  subst hL hC
  have hr := run_make_segs l0 k hlk hk w
  unfold Oper.wp
  simp [execOp, ho, hl, hc, hr, Result.andThen]
  exact hK _ _ h
theorem wpList_copy_segs (d s : Operand) (ho : o.op = .call { callee := .builtin .copy, args := #[d, s], argTypes := #[33, 33] }) (hgd : o.guard = none) (g dCap n sCap : Nat) (A : Option Addr) (hd : a.eval d = .slice (some ⟨g, 0, none⟩) n dCap) (hs : a.eval s = .slice A n sCap)
    (S : Nat → Prop) (xs ys : List Seg) (hr : RowZ w S A n xs) (hg : ArrS w g ys) (hl : ys.length = n) (hpos : 0 < n)
    (h : wpList Tryz.prog ops Q rest (a.put o.dst (goInt n)) (w.setRow g (flatG xs).toArray)) : wpList Tryz.prog ops Q (o :: rest) a w := by
  refine wpList_plain hgd fun K hK => ?_
  obtain ⟨ad, rfl, hsrc⟩ := RowZ_src hr hpos
  have hrun := run_copy_segs w o.type g dCap ad n sCap (flatG ys) (flatG xs) hg (by rw [flatG_length, hr.1]) hsrc (by rw [flatG_length, flatG_length, hl, hr.1]) (flatG_ones xs)
  unfold Oper.wp
  simp [execOp, ho, resolve, invoke, builtin, hd, hs, hrun, Result.andThen]
  exact hK _ _ h
theorem wpList_store_seg (x y : Operand) (ho : o.op = .store 128 x y) (hgd : o.guard = none) (g i : Nat) (s : Seg) (hx : a.eval x = .pointer (some ⟨g, i * 3, none⟩)) (hy : a.eval y = .agg (segC s).toArray)
    (L : List Seg) (hg : ArrS w g L) (hi : i < L.length) (h : wpList Tryz.prog ops Q rest (a.put o.dst undef) (w.setRow g (flatG (L.set i s)).toArray)) : wpList Tryz.prog ops Q (o :: rest) a w := by
  refine wpList_plain hgd fun K hK => ?_
  have hs := run_storeCells_at Tryz.prog g (i * 3) 128 (segC s) 0 (flatG L).toArray w hg (by simp [flatG_length]; omega) (ones_seg s)
  have he : (List.take (i * 3 + 0) (flatG L).toArray.toList ++ segC s ++ List.drop (i * 3 + 0 + (segC s).length) (flatG L).toArray.toList).toArray = (flatG (L.set i s)).toArray := by
    rw [flatG_set L i s hi]; rfl
  rw [he] at hs
  have hsz : ∀ w, (sizeOf 128).run Tryz.prog w = .ok 3 w := Tryz.sizeOf128
  have hrun : (Instr.storeAt 128 (.pointer (some ⟨g, i * 3, none⟩)) (.agg (segC s).toArray)).run Tryz.prog w = .ok () (w.setRow g (flatG (L.set i s)).toArray) := by
    simp only [Instr.storeAt, Instr.sureAddr, Sem.run_bind, Sem.run_pure, Result.andThen_ok, storeVar, hsz, Value.cells]
    simpa using hs
  unfold Oper.wp execOp
  simp only [ho, hx, hy, hrun, Sem.run_bind, Result.andThen_ok]
  exact hK _ _ h
end
theorem ArrS.setRow {w : World} {g : Nat} {L : List Seg} (h : ArrS w g L) (M : List Seg) : ArrS (w.setRow g (flatG M).toArray) g M := setRow_heap w g _ _ _ _ h
theorem ArrS.alloc {w : World} {g : Nat} {L : List Seg} (h : ArrS w g L) (o : Obj) : ArrS (w.alloc o) g L := Blk.alloc h o
theorem ArrS.below {w w' : World} {g B : Nat} {L : List Seg} (h : ArrS w g L) (hb : Below B w w') (hg : g < B) : ArrS w' g L := Blk.below h hb hg
set_option maxRecDepth 100000 in
theorem run_append_rowZ (w : World) (ty : TypeId) (base : Nat) (v : Value) (n : Nat) (P : List Value) (hown : w.ownsRow base 128 3 v n P)
    (S : Nat → Prop) (A : Option Addr) (m c : Nat) (ys : List Seg) (hr : RowZ w S A m ys) (hnil : A = none → c = 0) (h63 : n + m ≤ 1000000) (hbase : base ≤ w.heap.size) :
    ∃ v' w', (Builtin.append_ #[33, 33] ty #[v, .slice A m c]).run Tryz.prog w = .ok v' w' ∧ w'.ownsRow base 128 3 v' (n + m) (P ++ flatG ys) ∧ w.grownBy w' v.ownBlock ∧ (v'.ownBlock = v.ownBlock ∨ v'.ownBlock = some w.heap.size) := by
  obtain ⟨i0, hi, hz0, hz1, hz2⟩ := info_parts info_seg
  have hl := hr.1
  rcases A with _ | ad
  · have hm : m = 0 := by
      rcases Nat.eq_zero_or_pos m with h0 | h0
      · exact h0
      · obtain ⟨_, _, h1, _⟩ := hr.2 h0
        cases h1
    subst hm
    have hn : ys = [] := List.eq_nil_of_length_eq_zero hl
    subst hn
    rw [hnil rfl]
    exact ⟨v, w, run_append_owned_none (P := Tryz.prog) (w := w) base 33 ty 128 i0 3 Tryz.underlying33 hi v n P hown, by simpa [flatG] using hown, World.grownBy.refl w _, .inl rfl⟩
  · obtain ⟨v', w', h1, h2, h3, _, h4⟩ := run_append_own_at (P := Tryz.prog) w base 33 ty 128 i0 (.agg (segC seg0).toArray) 3 24 Tryz.underlying33 hi hz0 hz1 hz2 (by simp [Value.cells]) (by omega) v n P hown ad m c (flatG ys) (by rw [flatG_length, hl])
      (fun j u hu => by
        have hm : 0 < m := by
          rcases Nat.eq_zero_or_pos m with h0 | h0
          · have : ys = [] := List.eq_nil_of_length_eq_zero (by omega)
            subst this
            simp [flatG] at hu
          · exact h0
        obtain ⟨ad', e, hc⟩ := RowZ_src hr hm
        injection e with e
        subst e
        exact hc j u hu)
      (flatG_ones ys) (by unfold maxLen; omega) (by omega) hbase
    exact ⟨v', w', h1, h2, h3, h4⟩
theorem rowZ_own {w : World} {base : Nat} {v : Value} {n : Nat} {xs : List Seg} {P : List Value} (ho : w.ownsRow base 128 3 v n P) (hP : P = flatG xs) (hn : xs.length = n) :
    ∃ A cap, v = .slice A n cap ∧ n ≤ cap ∧ (A = none → cap = 0) ∧ RowZ w (fun b => base ≤ b ∧ b < w.heap.size) A n xs := by
  subst hP
  have hlt := ho.lt
  rcases ho.2 with ⟨rfl, rfl⟩ | ⟨g, cap, cur, rfl, hg, hh, hnc, hc⟩
  · exact ⟨none, 0, rfl, by omega, fun _ => rfl, hn, fun h => absurd h (by omega)⟩
  · refine ⟨_, cap, rfl, hnc, (fun h => by cases h), hn, fun _ => ⟨g, 0, rfl, ⟨hg, (hlt g rfl).2⟩, fun i hi j v hv => ?_⟩⟩
    have hj : j < 3 := by have := (List.getElem?_eq_some_iff.1 hv).1; simpa using this
    have h1 := ho.cells (g := g) rfl (i * 3 + j) v (by rw [flatG_get xs _ (by omega), show (i * 3 + j) / 3 = i by omega, show (i * 3 + j) % 3 = j by omega]; exact hv)
    rw [add_plain] at h1
    rw [Nat.add_assoc]
    exact h1
section
variable {w : World} {ops : Array Oper} {rest : List Oper} {o : Oper} {a : Act} {Q : Exit → Act → World → Prop}
theorem wpList_append_rowZ (s x : Operand) (ho : o.op = .call { callee := .builtin .append, args := #[s, x], argTypes := #[33, 33] }) (hgd : o.guard = none)
    (base : Nat) (v : Value) (n : Nat) (P : List Value) (hs : a.eval s = v) (hown : w.ownsRow base 128 3 v n P)
    (S : Nat → Prop) (A : Option Addr) (m c : Nat) (ys : List Seg) (hx : a.eval x = .slice A m c) (hr : RowZ w S A m ys) (hnil : A = none → c = 0) (h63 : n + m ≤ 1000000) (hbase : base ≤ w.heap.size)
    (h : ∀ v' w', w'.ownsRow base 128 3 v' (n + m) (P ++ flatG ys) → w.grownBy w' v.ownBlock → (v'.ownBlock = v.ownBlock ∨ v'.ownBlock = some w.heap.size) → wpList Tryz.prog ops Q rest (a.put o.dst v') w') :
    wpList Tryz.prog ops Q (o :: rest) a w := by
  obtain ⟨v', w', hrun, h2, h3, h4⟩ := run_append_rowZ w o.type base v n P hown S A m c ys hr hnil h63 hbase
  refine wpList_plain hgd fun K hK => ?_
  unfold Oper.wp execOp
  simp only [ho, resolve, invoke, builtin, Sem.run_bind, Sem.run_pure, Result.andThen_ok, List.map_toArray, List.map_cons, List.map_nil, hs, hx, hrun]
  exact hK _ _ (h v' w' h2 h3 h4)
theorem step_append_rowZ {K : Act → World → Prop} {E : Prop} (s x : Operand) (ho : o.op = .call { callee := .builtin .append, args := #[s, x], argTypes := #[33, 33] }) (hgd : o.guard = none)
    (base : Nat) (v : Value) (n : Nat) (P : List Value) (hs : a.eval s = v) (hown : w.ownsRow base 128 3 v n P)
    (S : Nat → Prop) (A : Option Addr) (m c : Nat) (ys : List Seg) (hx : a.eval x = .slice A m c) (hr : RowZ w S A m ys) (hnil : A = none → c = 0) (h63 : n + m ≤ 1000000) (hbase : base ≤ w.heap.size)
    (h : ∀ v' w', w'.ownsRow base 128 3 v' (n + m) (P ++ flatG ys) → w.grownBy w' v.ownBlock → (v'.ownBlock = v.ownBlock ∨ v'.ownBlock = some w.heap.size) → K (a.put o.dst v') w') :
    if Region.wanted o (yielded ops a.tmps) = true then Oper.wp Tryz.prog o a w K Q else E := by
  obtain ⟨v', w', hrun, h2, h3, h4⟩ := run_append_rowZ w o.type base v n P hown S A m c ys hr hnil h63 hbase
  have hw : Region.wanted o (yielded ops a.tmps) = true := by simp [Region.wanted, hgd]
  rw [if_pos hw]
  unfold Oper.wp execOp
  simp only [ho, resolve, invoke, builtin, Sem.run_bind, Sem.run_pure, Result.andThen_ok, List.map_toArray, List.map_cons, List.map_nil, hs, hx, hrun]
  exact h v' w' h2 h3 h4
end
end Go.Proofs.YtodcohkblgjfeaaGreat

namespace Go.Proofs.YtodcohkblgjfeaaGreat
set_option maxRecDepth 100000
open Go.RowKit
set_option linter.unusedVariables false
set_option linter.unusedSimpArgs false
def From (n₀ : Nat) (w : World) (b : Nat) : Prop := n₀ ≤ b ∧ b < w.heap.size
theorem RowZ.from {n₀ m₀ : Nat} {w : World} {A : Option Addr} {n : Nat} {xs : List Seg} (h : RowZ w (From n₀ w) A n xs) (hm : m₀ ≤ n₀) : RowZ w (From m₀ w) A n xs := h.more fun b hb => ⟨Nat.le_trans hm hb.1, hb.2⟩
theorem RowZ.now {n₀ : Nat} {w : World} {A : Option Addr} {n : Nat} {xs : List Seg} (h : RowZ w (From n₀ w) A n xs) : RowZ w (· < w.heap.size) A n xs := h.more fun b hb => hb.2
theorem RowZ.behind {n₀ : Nat} {w W : World} {A : Option Addr} {n : Nat} {xs : List Seg} (h : RowZ w (From n₀ w) A n xs) (hb : Below w.heap.size w W) : RowZ W (From n₀ W) A n xs :=
  (h.below hb (fun _ h => h.2)).more fun b hb' => ⟨hb'.1, Nat.lt_of_lt_of_le hb'.2 hb.size⟩
theorem size_ring : (Tryz.prog.info? 35).map (·.size) = some 2 := by kernel_rfl
set_option maxRecDepth 100000 in
set_option maxHeartbeats 1000000 in
theorem new_ok {w : World} (n : Nat) (sec : Int) (hs : SizedR n sec) :
    Calls Tryz.prog 45 #[.int .i64 n, .int .i64 sec] w fun e w' => (∃ A, e = .returned (.tuple #[ringV sec A n n, .int .i64 0]) ∧ RowZ w' (From w.heap.size w') A n (List.replicate n seg0)) ∧ Below w.heap.size w w' := by
  have hd : decide (SizedR n sec) = true := decide_eq_true hs
  have HSI := Lib.hid (fun (W : World) => by have h := sized_any n sec W; rw [hd] at h; exact h)
  have hn : n ≤ 1000000 := by unfold SizedR at hs; omega
  clear hs hd
  go_enter Tryz.func45, Tryz.ntmps45
  go_wp2_with (first
    | (go_at_call 96; refine (HSI.out _).mono ?_; rintro e w1 ⟨rfl, rfl⟩)
    | (refine wpList_make_segs _ _ rfl rfl _ _ n n rfl rfl rfl rfl (Nat.le_refl _) hn ?_)
    | (with_reducible refine halt_end ?_))
  have h2 := ArrS.row (w := (w.alloc (.cells #[.int .i64 sec, .slice (some ⟨w.heap.size + 1, 0, none⟩) n n] 35)).alloc (.cells (flatG (List.replicate n seg0)).toArray 128)) (g := w.heap.size + 1) (L := List.replicate n seg0) (blk_new2 _ _ _ _) (S := From w.heap.size ((w.alloc (.cells #[.int .i64 sec, .slice (some ⟨w.heap.size + 1, 0, none⟩) n n] 35)).alloc (.cells (flatG (List.replicate n seg0)).toArray 128))) (n := n) ⟨by simp, by simp⟩ (by simp)
  exact Halt.ret (results_row2 (p := 4) (u := 5) rfl _ _ w.heap.size 35 #[.int .i64 sec, .slice (some ⟨w.heap.size + 1, 0, none⟩) n n] _ rfl ((Blk.new w _ _).alloc _) Tryz.underlying35 rfl size_ring) rfl ⟨⟨_, rfl, h2⟩, ((Below.refl _ w).alloc (Nat.le_refl _) _).alloc (by simp) _⟩
set_option maxRecDepth 100000 in
set_option maxHeartbeats 1000000 in
theorem new_bad {w : World} (n sec : Int) (hs : ¬ SizedR n sec) :
    Calls Tryz.prog 45 #[.int .i64 n, .int .i64 sec] w fun e w' => e = .returned (.tuple #[ringV 0 none 0 0, .int .i64 2]) ∧ Below w.heap.size w w' := by
  have hd : decide (SizedR n sec) = false := decide_eq_false hs
  have HSI := Lib.hid (fun (W : World) => by have h := sized_any n sec W; rw [hd] at h; exact h)
  clear hs hd
  go_enter Tryz.func45, Tryz.ntmps45
  go_wp2_with (first
    | (go_at_call 96; refine (HSI.out _).mono ?_; rintro e w1 ⟨rfl, rfl⟩)
    | (with_reducible refine halt_end ?_))
  exact Halt.ret (results_row2 (p := 4) (u := 5) rfl _ _ w.heap.size 35 #[.int .i64 0, .slice none 0 0] _ rfl (Blk.new w _ _) Tryz.underlying35 rfl size_ring) rfl ⟨rfl, (Below.refl _ w).alloc (Nat.le_refl _) _⟩
theorem ref_sized_any (n sec : Int) (w : World) : Calls Tryz.prog 83 #[.int .i64 n, .int .i64 sec] w fun e w' => e = .returned (.bool (decide (SizedR n sec))) ∧ w' = w := by
  by_cases h0 : (4 : Int) ≤ n
  case neg =>
    have e : decide (SizedR n sec) = false := decide_eq_false (fun h => h0 h.1)
    have d0 : decide ((4 : Int) ≤ n) = false := decide_eq_false h0
    rw [e]
    go_enter Tryz.func83, Tryz.ntmps83
    go_wp2
    go_ret
    exact ⟨rfl, rfl⟩
  have d0 : decide ((4 : Int) ≤ n) = true := decide_eq_true h0
  by_cases h1 : n ≤ 16
  case neg =>
    have e : decide (SizedR n sec) = false := decide_eq_false (fun h => h1 h.2.1)
    have d1 : decide (n ≤ 16) = false := decide_eq_false h1
    rw [e]
    go_enter Tryz.func83, Tryz.ntmps83
    go_wp2
    go_ret
    exact ⟨rfl, rfl⟩
  have d1 : decide (n ≤ 16) = true := decide_eq_true h1
  by_cases h2 : (24 : Int) ≤ sec
  case neg =>
    have e : decide (SizedR n sec) = false := decide_eq_false (fun h => h2 h.2.2.1)
    have d2 : decide ((24 : Int) ≤ sec) = false := decide_eq_false h2
    rw [e]
    go_enter Tryz.func83, Tryz.ntmps83
    go_wp2
    go_ret
    exact ⟨rfl, rfl⟩
  have d2 : decide ((24 : Int) ≤ sec) = true := decide_eq_true h2
  have e : decide (SizedR n sec) = decide (sec ≤ 64) := by
    by_cases h3 : sec ≤ 64
    · rw [decide_eq_true h3]; exact decide_eq_true ⟨h0, h1, h2, h3⟩
    · rw [decide_eq_false h3]; exact decide_eq_false (fun h => h3 h.2.2.2)
  rw [e]
  go_enter Tryz.func83, Tryz.ntmps83
  go_wp2
  go_ret
  exact ⟨rfl, rfl⟩
set_option maxRecDepth 100000 in
set_option maxHeartbeats 1000000 in
theorem ref_new_ok {w : World} (n : Nat) (sec : Int) (hs : SizedR n sec) :
    Calls Tryz.prog 46 #[.int .i64 n, .int .i64 sec] w fun e w' => (∃ A, e = .returned (.tuple #[ringV sec A n n, .bool true]) ∧ RowZ w' (From w.heap.size w') A n (List.replicate n seg0)) ∧ Below w.heap.size w w' := by
  have hd : decide (SizedR n sec) = true := decide_eq_true hs
  have HSI := Lib.hid (fun (W : World) => by have h := ref_sized_any n sec W; rw [hd] at h; exact h)
  have hn : n ≤ 1000000 := by unfold SizedR at hs; omega
  clear hs hd
  go_enter Tryz.func46, Tryz.ntmps46
  go_wp2_with (first
    | (go_at_call 83; refine (HSI.out _).mono ?_; rintro e w1 ⟨rfl, rfl⟩)
    | (refine wpList_make_segs _ _ rfl rfl _ _ n n rfl rfl rfl rfl (Nat.le_refl _) hn ?_)
    | (with_reducible refine halt_end ?_))
  have h2 := ArrS.row (w := (w.alloc (.cells #[.int .i64 sec, .slice (some ⟨w.heap.size + 1, 0, none⟩) n n] 35)).alloc (.cells (flatG (List.replicate n seg0)).toArray 128)) (g := w.heap.size + 1) (L := List.replicate n seg0) (blk_new2 _ _ _ _) (S := From w.heap.size ((w.alloc (.cells #[.int .i64 sec, .slice (some ⟨w.heap.size + 1, 0, none⟩) n n] 35)).alloc (.cells (flatG (List.replicate n seg0)).toArray 128))) (n := n) ⟨by simp, by simp⟩ (by simp)
  exact Halt.ret (results_row2 (p := 4) (u := 5) rfl _ _ w.heap.size 35 #[.int .i64 sec, .slice (some ⟨w.heap.size + 1, 0, none⟩) n n] _ rfl ((Blk.new w _ _).alloc _) Tryz.underlying35 rfl size_ring) rfl ⟨⟨_, rfl, h2⟩, ((Below.refl _ w).alloc (Nat.le_refl _) _).alloc (by simp) _⟩
set_option maxRecDepth 100000 in
set_option maxHeartbeats 1000000 in
theorem ref_new_bad {w : World} (n sec : Int) (hs : ¬ SizedR n sec) :
    Calls Tryz.prog 46 #[.int .i64 n, .int .i64 sec] w fun e w' => e = .returned (.tuple #[ringV 0 none 0 0, .bool false]) ∧ Below w.heap.size w w' := by
  have hd : decide (SizedR n sec) = false := decide_eq_false hs
  have HSI := Lib.hid (fun (W : World) => by have h := ref_sized_any n sec W; rw [hd] at h; exact h)
  clear hs hd
  go_enter Tryz.func46, Tryz.ntmps46
  go_wp2_with (first
    | (go_at_call 83; refine (HSI.out _).mono ?_; rintro e w1 ⟨rfl, rfl⟩)
    | (with_reducible refine halt_end ?_))
  exact Halt.ret (results_row2 (p := 4) (u := 5) rfl _ _ w.heap.size 35 #[.int .i64 0, .slice none 0 0] _ rfl (Blk.new w _ _) Tryz.underlying35 rfl size_ring) rfl ⟨rfl, (Below.refl _ w).alloc (Nat.le_refl _) _⟩
end Go.Proofs.YtodcohkblgjfeaaGreat

namespace Go.Proofs.YtodcohkblgjfeaaGreat
set_option maxRecDepth 100000
open Go.RowKit
set_option linter.unusedVariables false
set_option linter.unusedSimpArgs false
theorem own_empty3 (w : World) : (w.alloc (.cells #[] 128)).ownsRow w.heap.size 128 3 (.slice (some ⟨w.heap.size, 0, none⟩) 0 0) 0 [] :=
  ⟨rfl, .inr ⟨w.heap.size, 0, #[], rfl, Nat.le_refl _, heap_alloc_new w _, Nat.le_refl _, by simp, by simp, rfl⟩⟩
set_option maxRecDepth 100000 in
set_option maxHeartbeats 1000000 in
theorem ref_copy {w : World} {A : Option Addr} {n cap : Nat} {xs : List Seg} (h : RowZ w (· < w.heap.size) A n xs) (hnil : A = none → cap = 0) (sec : Int) (hn : n ≤ 1000) :
    Calls Tryz.prog 34 #[ringV sec A n cap] w fun e w' => (∃ A' cap', e = .returned (ringV sec A' n cap') ∧ n ≤ cap' ∧ (A' = none → cap' = 0) ∧ w'.ownsRow w.heap.size 128 3 (.slice A' n cap') n (flatG xs)) ∧ Below w.heap.size w w' := by
  have HO := Lib.hid (show (((w.alloc (.cells #[.int .i64 sec, .slice A n cap] 35)).alloc (.cells #[.int .i64 0, .slice none 0 0] 35)).alloc (.cells #[] 128)).ownsRow (w.heap.size + 1 + 1) 128 3 (.slice (some ⟨w.heap.size + 1 + 1, 0, none⟩) 0 0) 0 [] by
    have h := own_empty3 ((w.alloc (.cells #[.int .i64 sec, .slice A n cap] 35)).alloc (.cells #[.int .i64 0, .slice none 0 0] 35))
    have e : ((w.alloc (.cells #[.int .i64 sec, .slice A n cap] 35)).alloc (.cells #[.int .i64 0, .slice none 0 0] 35)).heap.size = w.heap.size + 1 + 1 := by simp
    rwa [e] at h)
  have HB := Lib.hid ((((Below.refl w.heap.size w).alloc (Nat.le_refl _) (.cells #[.int .i64 sec, .slice A n cap] 35)).alloc (by simp) (.cells #[.int .i64 0, .slice none 0 0] 35)).alloc (by simp; omega) (.cells #[] 128))
  have HX := Lib.hid (row_now h HB.out)
  have HK0 := Lib.hid (((Blk.new w 35 #[.int .i64 sec, .slice A n cap]).alloc (.cells #[.int .i64 0, .slice none 0 0] 35)).alloc (.cells #[] 128))
  have HK1 := Lib.hid ((blk_new2 w (.cells #[.int .i64 sec, .slice A n cap] 35) 35 #[.int .i64 0, .slice none 0 0]).alloc (.cells #[] 128))
  have HN0 := Lib.hid (show (some w.heap.size : Option Nat) ≠ (Value.slice (some ⟨w.heap.size + 1 + 1, 0, none⟩) 0 0).ownBlock from fun e => by have e2 : (some w.heap.size : Option Nat) = some (w.heap.size + 1 + 1) := e; injection e2 with e2; omega)
  have HN1 := Lib.hid (show (some (w.heap.size + 1) : Option Nat) ≠ (Value.slice (some ⟨w.heap.size + 1 + 1, 0, none⟩) 0 0).ownBlock from fun e => by have e2 : (some (w.heap.size + 1) : Option Nat) = some (w.heap.size + 1 + 1) := e; injection e2 with e2; omega)
  have HNIL := Lib.hid hnil
  have HL := Lib.hid h.1
  have h1000 : (0 : Nat) + n ≤ 1000000 := by omega
  clear h hnil
  go_enter Tryz.func34, Tryz.ntmps34
  go_wp2_with (first
    | (at_builtin; refine wpList_append_rowZ (.tmp 3) (.tmp 5) rfl rfl (w.heap.size + 1 + 1) _ 0 [] rfl HO.out _ A n cap xs rfl HX.out HNIL.out h1000 (by simp) ?_; rintro v' w4 ho hg _; have HB4 := Lib.hid (HB.out.grown hg HB.out.size (fun k e => Nat.le_trans (by omega) (own_least HO.out e))); have HK4 := Lib.hid (HK0.out.grown hg HN0.out); have HK5 := Lib.hid (HK1.out.grown hg HN1.out); obtain ⟨A', cap', rfl, hc, hn', hrow⟩ := rowZ_own ho (xs := xs) (by simp) (by rw [HL.out, Nat.zero_add]); rw [Nat.zero_add] at hc hrow; simp only [Nat.zero_add]; have HROW := Lib.hid ho; have HC := Lib.hid hc; have HN := Lib.hid hn'; obtain ⟨q0, q1⟩ := ring_cells HK4.out; obtain ⟨p0, p1⟩ := ring_cells HK5.out; have f0 := HK4.out.frozen 1; obtain ⟨g0, g1⟩ := And.intro (HK5.out.frozen 0) (HK5.out.frozen 1); clear ho hg hc hn' hrow)
    | (with_reducible refine halt_end ?_))
  have hne : w.heap.size + 1 ≠ w.heap.size := by omega
  have hst := ((HK5.out.far (p := ⟨w.heap.size, 1, none⟩) hne (.slice A' n cap')).set_ 0 (.int .i64 sec)).set_ 1 (.slice A' n cap')
  have hown := ownsRow_setCell_other (ownsRow_setCell_other (ownsRow_setCell_other HROW.out (a := ⟨w.heap.size, 1, none⟩) (fun e => by have := own_least HROW.out e; simp only [] at this; omega) (.slice A' n cap')) (a := ⟨w.heap.size + 1, 0, none⟩) (fun e => by have := own_least HROW.out e; simp only [] at this; omega) (.int .i64 sec)) (a := ⟨w.heap.size + 1, 1, none⟩) (fun e => by have := own_least HROW.out e; simp only [] at this; omega) (.slice A' n cap')
  rw [Nat.zero_add, List.nil_append] at hown
  have hbel := ((HB4.out.setCell (p := ⟨w.heap.size, 1, none⟩) (Nat.le_refl _) (.slice A' n cap')).setCell (p := ⟨w.heap.size + 1, 0, none⟩) (by simp) (.int .i64 sec)).setCell (p := ⟨w.heap.size + 1, 1, none⟩) (by simp) (.slice A' n cap')
  exact Halt.ret (results_row1 rfl _ _ (w.heap.size + 1) 35 #[.int .i64 sec, .slice A' n cap'] _ rfl hst Tryz.underlying35 rfl size_ring) rfl ⟨⟨A', cap', rfl, HC.out, HN.out, own_base hown (by omega)⟩, hbel⟩
theorem run_store_ownZ {w : World} {base n cap g i : Nat} {L : List Seg} (s : Seg) (hown : w.ownsRow base 128 3 (.slice (some ⟨g, 0, none⟩) n cap) n (flatG L)) (hi : i < L.length) :
    ∃ w', (Instr.storeAt 128 (.pointer (some ⟨g, i * 3, none⟩)) (.agg (segC s).toArray)).run Tryz.prog w = .ok () w' ∧
      w'.ownsRow base 128 3 (.slice (some ⟨g, 0, none⟩) n cap) n (flatG (L.set i s)) ∧ Kept (fun b => b ≠ g) w w' := by
  have hlen : (flatG L).length = n * 3 := hown.1
  have hln : L.length = n := by rw [flatG_length] at hlen; omega
  rcases hown.2 with ⟨h, _⟩ | ⟨g', cap', cur, h, hb, hg, hnc, hcm, hcs, htake⟩
  · cases h
  · injection h with h1 _ h2
    injection h1 with h1
    injection h1 with h1 _ _
    subst h1 h2
    have hsz : ∀ w, (sizeOf 128).run Tryz.prog w = .ok 3 w := Tryz.sizeOf128
    have hcur : n * 3 ≤ cur.size := by rw [hcs]; exact Nat.mul_le_mul_right _ hnc
    have hs := run_storeCells_at Tryz.prog g (i * 3) 128 (segC s) 0 cur w hg (by simp; omega) (ones_seg s)
    obtain ⟨C, hC⟩ : ∃ C : Array Value, C = (cur.toList.take (i * 3) ++ segC s ++ cur.toList.drop (i * 3 + 3)).toArray := ⟨_, rfl⟩
    have hs' : (storeCells ⟨g, i * 3, none⟩ (segC s) 0).run Tryz.prog w = .ok () (w.setRow g C) := by
      rw [hC, hs]
      simp
    have hCs : C.size = cur.size := by rw [hC]; simp; omega
    refine ⟨w.setRow g C, ?_, ⟨by rw [flatG_length, List.length_set, hln], .inr ⟨g, cap, C, rfl, hb, setRow_heap w g cur C 128 _ hg, hnc, hcm, by rw [hCs, hcs], ?_⟩⟩, (Kept.refl _ w).setRow (fun h => h rfl) C⟩
    · simp only [Instr.storeAt, Instr.sureAddr, Sem.run_bind, Sem.run_pure, Result.andThen_ok, storeVar, hsz, Value.cells]
      simpa using hs'
    · rw [flatG_set L i s hi, hC, ← htake]
      simp only [List.append_assoc]
      rw [List.take_take, Nat.min_eq_left (by omega)]
      have e1 : (cur.toList.take (i * 3)).length = i * 3 := by simp; omega
      rw [List.take_append, e1, List.take_of_length_le (by rw [e1]; omega)]
      congr 1
      rw [List.take_append, List.take_of_length_le (by simp; omega)]
      try congr 1
      try rw [List.drop_take]
      try congr 1
      try simp
section
variable {w : World} {ops : Array Oper} {rest : List Oper} {o : Oper} {a : Act} {Q : Exit → Act → World → Prop}
theorem wpList_store_ownZ (x y : Operand) (ho : o.op = .store 128 x y) (hgd : o.guard = none) (g i : Nat) (s : Seg) (hx : a.eval x = .pointer (some ⟨g, i * 3, none⟩)) (hy : a.eval y = .agg (segC s).toArray)
    (base n cap : Nat) (L : List Seg) (hown : w.ownsRow base 128 3 (.slice (some ⟨g, 0, none⟩) n cap) n (flatG L)) (hi : i < L.length)
    (h : ∀ w', w'.ownsRow base 128 3 (.slice (some ⟨g, 0, none⟩) n cap) n (flatG (L.set i s)) → Kept (fun b => b ≠ g) w w' → wpList Tryz.prog ops Q rest (a.put o.dst undef) w') :
    wpList Tryz.prog ops Q (o :: rest) a w := by
  obtain ⟨w', hrun, h1, h2⟩ := run_store_ownZ s hown hi
  refine wpList_plain hgd fun K hK => ?_
  unfold Oper.wp execOp
  simp only [ho, hx, hy, hrun, Sem.run_bind, Result.andThen_ok]
  exact hK _ _ (h w' h1 h2)
end
theorem own_some {w : World} {base n cap : Nat} {A : Option Addr} {P : List Value} (h : w.ownsRow base 128 3 (.slice A n cap) n P) (hn : 0 < n) : ∃ g, A = some ⟨g, 0, none⟩ ∧ base ≤ g ∧ g < w.heap.size ∧ n ≤ cap := by
  rcases h.2 with ⟨h1, h2⟩ | ⟨g, cap', cur, h1, hb, hg, hnc, _⟩
  · injection h1 with _ h3 _
    omega
  · injection h1 with h1 _ h2
    subst h1 h2
    exact ⟨g, rfl, hb, (Array.getElem?_eq_some_iff.1 hg).1, hnc⟩
set_option maxRecDepth 100000 in
set_option maxHeartbeats 1000000 in
theorem ref_with {w : World} {A : Option Addr} {n cap : Nat} {xs : List Seg} (h : RowZ w (· < w.heap.size) A n xs) (hnil : A = none → cap = 0) (sec : Int) (hn : n ≤ 1000) (i : Nat) (hi : i < n) (s : Seg) :
    Calls Tryz.prog 106 #[ringV sec A n cap, .int .i64 i, .agg (segC s).toArray] w fun e w' => (∃ A' cap', e = .returned (ringV sec A' n cap') ∧ n ≤ cap' ∧ (A' = none → cap' = 0) ∧ w'.ownsRow w.heap.size 128 3 (.slice A' n cap') n (flatG (xs.set i s))) ∧ Below w.heap.size w w' := by
  obtain ⟨st, g, u⟩ := s
  have HB := Lib.hid ((((Below.refl w.heap.size w).alloc (Nat.le_refl _) (.cells #[.int .i64 sec, .slice A n cap] 35)).alloc (by simp) (.cells #[.int .i64 st, .int .u64 g, .int .i64 u] 128)).alloc (by simp; omega) (.cells #[.int .i64 0, .slice none 0 0] 35))
  have HC := Lib.hid (ref_copy (row_now h HB.out) hnil sec hn)
  have HK0 := Lib.hid (((Blk.new w 35 #[.int .i64 sec, .slice A n cap]).alloc (.cells #[.int .i64 st, .int .u64 g, .int .i64 u] 128)).alloc (.cells #[.int .i64 0, .slice none 0 0] 35))
  have HK1 := Lib.hid ((blk_new2 w (.cells #[.int .i64 sec, .slice A n cap] 35) 128 #[.int .i64 st, .int .u64 g, .int .i64 u]).alloc (.cells #[.int .i64 0, .slice none 0 0] 35))
  have HK2 := Lib.hid (blk_new3 w (.cells #[.int .i64 sec, .slice A n cap] 35) (.cells #[.int .i64 st, .int .u64 g, .int .i64 u] 128) 35 #[.int .i64 0, .slice none 0 0])
  have hlx : i < xs.length := by rw [h.1]; exact hi
  have HLX := Lib.hid hlx
  have h0n : 0 < n := by omega
  clear h
  go_enter Tryz.func106, Tryz.ntmps106
  go_wp2_with (first
    | (go_at_call 34; refine HC.out.mono ?_; rintro e w4 ⟨⟨A', cap', rfl, hc, hn', hown⟩, hb⟩; obtain ⟨gg, rfl, hgg, hgl, hcc⟩ := own_some hown h0n; have HF := Lib.hid (show w.heap.size + 1 + 1 < gg by simp at hgg; omega)
       have hk3 := HK0.out.below hb HK0.out.lt
       have hk4 := HK1.out.below hb HK1.out.lt
       have hk5 := HK2.out.below hb HK2.out.lt
       obtain ⟨q0, q1⟩ := ring_cells hk3
       obtain ⟨f0, f1⟩ := And.intro (hk3.frozen 0) (hk3.frozen 1)
       have hne : ∀ k, k ≤ w.heap.size → (Value.slice (some ⟨gg, 0, none⟩) n cap').ownBlock ≠ some k := fun k hk e => absurd (show gg = k by simpa [Value.ownBlock] using e) (Nat.ne_of_gt (Nat.lt_of_le_of_lt (Nat.le_trans hk (by omega : w.heap.size ≤ w.heap.size + 1 + 1)) HF.out))
       have HB4 := Lib.hid (((HB.out.trans (hb.mono HB.out.size)).setCell (p := ⟨w.heap.size, 0, none⟩) (Nat.le_refl _) (.int .i64 sec)).setCell (p := ⟨w.heap.size, 1, none⟩) (Nat.le_refl _) (.slice (some ⟨gg, 0, none⟩) n cap'))
       have HOWN := Lib.hid (ownsRow_setCell_other (ownsRow_setCell_other hown (a := ⟨w.heap.size, 0, none⟩) (hne _ (Nat.le_refl _)) (.int .i64 sec)) (a := ⟨w.heap.size, 1, none⟩) (hne _ (Nat.le_refl _)) (.slice (some ⟨gg, 0, none⟩) n cap'))
       have HK3 := Lib.hid ((hk3.set_ 0 (.int .i64 sec)).set_ 1 (.slice (some ⟨gg, 0, none⟩) n cap'))
       have n1 : w.heap.size + 1 ≠ w.heap.size := by omega
       have n2 : w.heap.size + 1 + 1 ≠ w.heap.size := by omega
       have HK4 := Lib.hid ((hk4.far (p := ⟨w.heap.size, 0, none⟩) n1 (.int .i64 sec)).far (p := ⟨w.heap.size, 1, none⟩) n1 (.slice (some ⟨gg, 0, none⟩) n cap'))
       have HK5 := Lib.hid ((hk5.far (p := ⟨w.heap.size, 0, none⟩) n2 (.int .i64 sec)).far (p := ⟨w.heap.size, 1, none⟩) n2 (.slice (some ⟨gg, 0, none⟩) n cap'))
       have s0 : ((w4.setCell ⟨w.heap.size, 0, none⟩ (.int .i64 sec)).setCell ⟨w.heap.size, 1, none⟩ (.slice (some ⟨gg, 0, none⟩) n cap')).cell? ⟨w.heap.size + 1, 0, none⟩ = some (.int .i64 st) := HK4.out.cell 0
       have s1 : ((w4.setCell ⟨w.heap.size, 0, none⟩ (.int .i64 sec)).setCell ⟨w.heap.size, 1, none⟩ (.slice (some ⟨gg, 0, none⟩) n cap')).cell? ⟨w.heap.size + 1, 1, none⟩ = some (.int .u64 g) := HK4.out.cell 1
       have s2 : ((w4.setCell ⟨w.heap.size, 0, none⟩ (.int .i64 sec)).setCell ⟨w.heap.size, 1, none⟩ (.slice (some ⟨gg, 0, none⟩) n cap')).cell? ⟨w.heap.size + 1, 2, none⟩ = some (.int .i64 u) := HK4.out.cell 2
       have HN := Lib.hid hn'
       clear hown hb hgg hgl hn' hk3 hk4 hk5 hne n1 n2)
    | (refine wpList_store_ownZ (.tmp 13) (.tmp 12) rfl rfl gg i (st, g, u) rfl rfl _ n cap' xs HOWN.out HLX.out ?_; intro w5 ho5 hk5
       have HO5 := Lib.hid ho5
       have HK6 := Lib.hid (HK3.out.kept hk5 (by have := HF.out; omega))
       have HK7 := Lib.hid (HK5.out.kept hk5 (by have := HF.out; omega))
       have HB5 := Lib.hid (HB4.out.trans (hk5.to_below (B := w.heap.size) (fun b h => by have := HF.out; omega)))
       obtain ⟨q0, q1⟩ := ring_cells HK6.out
       obtain ⟨p0, p1⟩ := ring_cells HK7.out
       obtain ⟨g0, g1⟩ := And.intro (HK7.out.frozen 0) (HK7.out.frozen 1)
       clear ho5 hk5)
    | (with_reducible refine halt_end ?_))
  have hst := (HK7.out.set_ 0 (.int .i64 sec)).set_ 1 (.slice (some ⟨gg, 0, none⟩) n cap')
  have hne : ∀ k, k ≤ w.heap.size + 1 + 1 → (Value.slice (some ⟨gg, 0, none⟩) n cap').ownBlock ≠ some k := fun k hk e => absurd (show gg = k by simpa [Value.ownBlock] using e) (Nat.ne_of_gt (Nat.lt_of_le_of_lt hk HF.out))
  have hown := ownsRow_setCell_other (ownsRow_setCell_other HO5.out (a := ⟨w.heap.size + 1 + 1, 0, none⟩) (hne _ (Nat.le_refl _)) (.int .i64 sec)) (a := ⟨w.heap.size + 1 + 1, 1, none⟩) (hne _ (Nat.le_refl _)) (.slice (some ⟨gg, 0, none⟩) n cap')
  have hbel := (HB5.out.setCell (p := ⟨w.heap.size + 1 + 1, 0, none⟩) (by simp; omega) (.int .i64 sec)).setCell (p := ⟨w.heap.size + 1 + 1, 1, none⟩) (by simp; omega) (.slice (some ⟨gg, 0, none⟩) n cap')
  exact Halt.ret (results_row1 rfl _ _ (w.heap.size + 1 + 1) 35 #[.int .i64 sec, .slice (some ⟨gg, 0, none⟩) n cap'] _ rfl hst Tryz.underlying35 rfl size_ring) rfl ⟨⟨_, cap', rfl, hcc, HN.out, own_base hown (by simp; omega)⟩, hbel⟩
end Go.Proofs.YtodcohkblgjfeaaGreat

namespace Go.Proofs.YtodcohkblgjfeaaGreat
set_option maxRecDepth 100000
open Go.RowKit
set_option linter.unusedVariables false
set_option linter.unusedSimpArgs false
def OwnZ (w : World) (base : Nat) (A : Option Addr) (n cap : Nat) (xs : List Seg) : Prop :=
  xs.length = n ∧ w.ownsRow base 128 3 (.slice A n cap) n (flatG xs) ∧ (A = none → cap = 0) ∧ n ≤ cap
theorem OwnZ.row {w : World} {base : Nat} {A : Option Addr} {n cap : Nat} {xs : List Seg} (h : OwnZ w base A n cap xs) : RowZ w (From base w) A n xs := by
  obtain ⟨A', cap', e, _, _, hr⟩ := rowZ_own h.2.1 rfl h.1
  injection e with e1 _ e2
  subst e1 e2
  exact hr
theorem OwnZ.below {w W : World} {base : Nat} {A : Option Addr} {n cap : Nat} {xs : List Seg} (h : OwnZ w base A n cap xs) (hb : Below w.heap.size w W) : OwnZ W base A n cap xs := ⟨h.1, own_below h.2.1 hb, h.2.2⟩
theorem OwnZ.base {w : World} {base m : Nat} {A : Option Addr} {n cap : Nat} {xs : List Seg} (h : OwnZ w base A n cap xs) (hm : m ≤ base) : OwnZ w m A n cap xs := ⟨h.1, own_base h.2.1 hm, h.2.2⟩
theorem ArrS.own {w : World} {g base n : Nat} {xs : List Seg} (h : ArrS w g xs) (hb : base ≤ g) (hn : xs.length = n) (hc : n ≤ 1000000) : OwnZ w base (some ⟨g, 0, none⟩) n n xs :=
  ⟨hn, ⟨by rw [flatG_length, hn], .inr ⟨g, n, (flatG xs).toArray, rfl, hb, h, Nat.le_refl _, by unfold maxLen; omega, by simp [flatG_length, hn], by rw [← hn, ← flatG_length]; simp⟩⟩, (fun h => by cases h), Nat.le_refl _⟩
theorem ArrS.cells {w : World} {g i : Nat} {xs : List Seg} {a b c : Int} (h : ArrS w g xs) (hi : i < xs.length) (hx : xs.getD i seg0 = (a, b, c)) :
    w.cell? ⟨g, i * 3, none⟩ = some (.int .i64 a) ∧ w.cell? ⟨g, i * 3 + 1, none⟩ = some (.int .u64 b) ∧ w.cell? ⟨g, i * 3 + 2, none⟩ = some (.int .i64 c) := by
  have key : ∀ j v, j < 3 → (segC (a, b, c))[j]? = some v → w.cell? ⟨g, i * 3 + j, none⟩ = some v := fun j v hj hv => by
    rw [Blk.cell h, List.getElem?_toArray, flatG_get xs _ (by omega), show (i * 3 + j) / 3 = i by omega, show (i * 3 + j) % 3 = j by omega, hx]
    exact hv
  exact ⟨key 0 _ (by omega) rfl, key 1 _ (by omega) rfl, key 2 _ (by omega) rfl⟩
set_option maxRecDepth 100000 in
theorem clo_open (s : Seg) (g : Int) (G : Nat) (w : World) (hG : w.cell? ⟨G, 0, none⟩ = some (.int .u64 g)) (hlt : G < w.heap.size) :
    Calls Tryz.prog 163 #[.agg (segC s).toArray, .pointer (some ⟨G, 0, none⟩)] w fun e w' => e = .returned (.agg (segC (1, g, 1)).toArray) ∧ Below w.heap.size w w' := by
  obtain ⟨a, b, c⟩ := s
  go_enter Tryz.func163, Tryz.ntmps163
  go_wp2
  exact Halt.ret (results_row1 rfl _ _ (w.heap.size + 1) 128 (segC (1, g, 1)).toArray _ rfl (blk_new2 w _ _ _) Tryz.underlying128 rfl size_seg) rfl ⟨rfl, ((Below.refl _ w).alloc (Nat.le_refl _) _).alloc (by simp) _⟩
set_option maxRecDepth 100000 in
theorem clo_use (s : Seg) (n : Int) (G : Nat) (w : World) (hG : w.cell? ⟨G, 0, none⟩ = some (.int .i64 n)) (hlt : G < w.heap.size) :
    Calls Tryz.prog 146 #[.agg (segC s).toArray, .pointer (some ⟨G, 0, none⟩)] w fun e w' => e = .returned (.agg (segC (s.1, s.2.1, wrap64 (s.2.2 + n))).toArray) ∧ Below w.heap.size w w' := by
  obtain ⟨a, b, c⟩ := s
  go_enter Tryz.func146, Tryz.ntmps146
  go_wp2
  exact Halt.ret (results_row1 rfl _ _ (w.heap.size + 1) 128 (segC (a, b, wrap64 (c + n))).toArray _ rfl (blk_new2 w _ _ _) Tryz.underlying128 rfl size_seg) rfl ⟨rfl, ((Below.refl _ w).alloc (Nat.le_refl _) _).alloc (by simp) _⟩
set_option maxRecDepth 100000 in
theorem clo_seal (s : Seg) (w : World) :
    Calls Tryz.prog 162 #[.agg (segC s).toArray] w fun e w' => e = .returned (.agg (segC (2, s.2.1, s.2.2)).toArray) ∧ Below w.heap.size w w' := by
  obtain ⟨a, b, c⟩ := s
  go_enter Tryz.func162, Tryz.ntmps162
  go_wp2
  exact Halt.ret (results_row1 rfl _ _ (w.heap.size + 1) 128 (segC (2, b, c)).toArray _ rfl (blk_new2 w _ _ _) Tryz.underlying128 rfl size_seg) rfl ⟨rfl, ((Below.refl _ w).alloc (Nat.le_refl _) _).alloc (by simp) _⟩
set_option maxRecDepth 100000 in
theorem clo_free (s : Seg) (w : World) :
    Calls Tryz.prog 121 #[.agg (segC s).toArray] w fun e w' => e = .returned (.agg (segC seg0).toArray) ∧ Below w.heap.size w w' := by
  obtain ⟨a, b, c⟩ := s
  go_enter Tryz.func121, Tryz.ntmps121
  go_wp2
  exact Halt.ret (results_row1 rfl _ _ (w.heap.size + 1) 128 (segC seg0).toArray _ rfl (blk_new2 w _ _ _) Tryz.underlying128 rfl size_seg) rfl ⟨rfl, ((Below.refl _ w).alloc (Nat.le_refl _) _).alloc (by simp) _⟩
set_option maxRecDepth 100000 in
set_option maxHeartbeats 2000000 in
theorem turned_seal {w : World} {A : Option Addr} {n cap : Nat} {xs : List Seg} (h : RowZ w (· < w.heap.size) A n xs) (sec : Int) (hn : n ≤ 1000) (i : Nat) (hi : i < n) :
    Calls Tryz.prog 122 #[ringV sec A n cap, .int .i64 i, .func (.func 162) #[] #[]] w fun e w' => (∃ A' cap', e = .returned (ringV sec A' n cap') ∧ OwnZ w' w.heap.size A' n cap' (xs.set i (2, genG xs i, usedG xs i))) ∧ Below w.heap.size w w' := by
  have hn6 : n ≤ 1000000 := by omega
  have h0n : 0 < n := by omega
  have HB := Lib.hid ((((Below.refl w.heap.size w).alloc (Nat.le_refl _) (.cells #[.int .i64 sec, .slice A n cap] 35)).alloc (by simp) (.cells #[.int .i64 0, .slice none 0 0] 35)).alloc (by simp; omega) (.cells (flatG (List.replicate n seg0)).toArray 128))
  have HX := Lib.hid (row_now h HB.out)
  have HK0 := Lib.hid (((Blk.new w 35 #[.int .i64 sec, .slice A n cap]).alloc (.cells #[.int .i64 0, .slice none 0 0] 35)).alloc (.cells (flatG (List.replicate n seg0)).toArray 128))
  have HK1 := Lib.hid ((blk_new2 w (.cells #[.int .i64 sec, .slice A n cap] 35) 35 #[.int .i64 0, .slice none 0 0]).alloc (.cells (flatG (List.replicate n seg0)).toArray 128))
  have HG := Lib.hid (show ArrS _ (w.heap.size + 1 + 1) (List.replicate n seg0) from blk_new3 w (.cells #[.int .i64 sec, .slice A n cap] 35) (.cells #[.int .i64 0, .slice none 0 0] 35) 128 (flatG (List.replicate n seg0)).toArray)
  have hl := h.1
  have HL := Lib.hid hl
  have hlx : i < xs.length := by omega
  have HLX := Lib.hid hlx
  obtain ⟨q0, q1⟩ := ring_cells HK0.out
  clear h hl hlx
  obtain ⟨st, g, u, hx⟩ : ∃ st g u, xs.getD i seg0 = (st, g, u) := ⟨_, _, _, rfl⟩
  rw [show ((2, genG xs i, usedG xs i) : Seg) = (2, g, u) by simp only [stG, genG, usedG, hx]]
  have HXI := Lib.hid hx
  clear hx
  go_enter Tryz.func122, Tryz.ntmps122
  go_wp2_with (first
    | (refine wpList_make_segs _ _ rfl rfl _ _ n n rfl rfl rfl rfl (Nat.le_refl _) hn6 ?_)
    | (refine wpList_copy_segs (.tmp 12) (.tmp 14) rfl rfl (w.heap.size + 1 + 1) n n cap A rfl rfl _ xs (List.replicate n seg0) HX.out HG.out (by simp) h0n ?_
       have HG1 := Lib.hid (HG.out.setRow xs)
       have n1 : w.heap.size ≠ w.heap.size + 1 + 1 := by omega
       have n2 : w.heap.size + 1 ≠ w.heap.size + 1 + 1 := by omega
       have HB1 := Lib.hid (below_setRow HB.out (g := w.heap.size + 1 + 1) (by omega) (flatG xs).toArray)
       have HK2 := Lib.hid (HK0.out.kept ((Kept.refl (fun b => b ≠ w.heap.size + 1 + 1) _).setRow (g := w.heap.size + 1 + 1) (fun h => h rfl) (flatG xs).toArray) n1)
       have HK3 := Lib.hid (HK1.out.kept ((Kept.refl (fun b => b ≠ w.heap.size + 1 + 1) _).setRow (g := w.heap.size + 1 + 1) (fun h => h rfl) (flatG xs).toArray) n2)
       obtain ⟨c0, c1, c2⟩ := ArrS.cells HG1.out HLX.out HXI.out
       clear n1 n2)
    | (go_at_call 162; refine (clo_seal (st, g, u) _).mono ?_; rintro e w4 ⟨rfl, hb4⟩
       have HB4 := Lib.hid (HB1.out.trans (hb4.mono HB1.out.size))
       have HG4 := Lib.hid (HG1.out.below hb4 HG1.out.lt)
       have HK5 := Lib.hid (HK2.out.below hb4 HK2.out.lt)
       have HK6 := Lib.hid (HK3.out.below hb4 HK3.out.lt)
       clear hb4)
    | (refine wpList_store_seg (.tmp 24) (.tmp 23) rfl rfl (w.heap.size + 1 + 1) i (2, g, u) rfl rfl xs HG4.out HLX.out ?_
       have HG5 := Lib.hid (HG4.out.setRow (xs.set i (2, g, u)))
       have n1 : w.heap.size ≠ w.heap.size + 1 + 1 := by omega
       have n2 : w.heap.size + 1 ≠ w.heap.size + 1 + 1 := by omega
       have HB5 := Lib.hid (below_setRow HB4.out (g := w.heap.size + 1 + 1) (by omega) (flatG (xs.set i (2, g, u))).toArray)
       have HK7 := Lib.hid (HK5.out.kept ((Kept.refl (fun b => b ≠ w.heap.size + 1 + 1) _).setRow (g := w.heap.size + 1 + 1) (fun h => h rfl) (flatG (xs.set i (2, g, u))).toArray) n1)
       have HK8 := Lib.hid (HK6.out.kept ((Kept.refl (fun b => b ≠ w.heap.size + 1 + 1) _).setRow (g := w.heap.size + 1 + 1) (fun h => h rfl) (flatG (xs.set i (2, g, u))).toArray) n2)
       obtain ⟨q0, q1⟩ := ring_cells HK7.out
       obtain ⟨p0, p1⟩ := ring_cells HK8.out
       obtain ⟨f0, f1⟩ := And.intro (HK7.out.frozen 0) (HK7.out.frozen 1)
       obtain ⟨g0, g1⟩ := And.intro (HK8.out.frozen 0) (HK8.out.frozen 1)
       clear n1 n2)
    | (with_reducible refine halt_end ?_))
  have n1 : w.heap.size + 1 ≠ w.heap.size := by omega
  have n2 : w.heap.size + 1 + 1 ≠ w.heap.size := by omega
  have n3 : w.heap.size + 1 + 1 ≠ w.heap.size + 1 := by omega
  have hst := ((HK8.out.far (p := ⟨w.heap.size, 1, none⟩) n1 (.slice (some ⟨w.heap.size + 1 + 1, 0, none⟩) n n)).set_ 0 (.int .i64 sec)).set_ 1 (.slice (some ⟨w.heap.size + 1 + 1, 0, none⟩) n n)
  have harr : ArrS _ (w.heap.size + 1 + 1) (xs.set i (2, g, u)) := ((Blk.far HG5.out (p := ⟨w.heap.size, 1, none⟩) n2 (.slice (some ⟨w.heap.size + 1 + 1, 0, none⟩) n n)).far (p := ⟨w.heap.size + 1, 0, none⟩) n3 (.int .i64 sec)).far (p := ⟨w.heap.size + 1, 1, none⟩) n3 (.slice (some ⟨w.heap.size + 1 + 1, 0, none⟩) n n)
  have hbel := ((HB5.out.setCell (p := ⟨w.heap.size, 1, none⟩) (Nat.le_refl _) (.slice (some ⟨w.heap.size + 1 + 1, 0, none⟩) n n)).setCell (p := ⟨w.heap.size + 1, 0, none⟩) (by simp) (.int .i64 sec)).setCell (p := ⟨w.heap.size + 1, 1, none⟩) (by simp) (.slice (some ⟨w.heap.size + 1 + 1, 0, none⟩) n n)
  exact Halt.ret (results_row1 rfl _ _ (w.heap.size + 1) 35 #[.int .i64 sec, .slice (some ⟨w.heap.size + 1 + 1, 0, none⟩) n n] _ rfl hst Tryz.underlying35 rfl size_ring) rfl ⟨⟨_, _, rfl, harr.own (by omega) (by rw [List.length_set, HL.out]) hn6⟩, hbel⟩
set_option maxRecDepth 100000 in
set_option maxHeartbeats 2000000 in
theorem turned_free {w : World} {A : Option Addr} {n cap : Nat} {xs : List Seg} (h : RowZ w (· < w.heap.size) A n xs) (sec : Int) (hn : n ≤ 1000) (i : Nat) (hi : i < n) :
    Calls Tryz.prog 122 #[ringV sec A n cap, .int .i64 i, .func (.func 121) #[] #[]] w fun e w' => (∃ A' cap', e = .returned (ringV sec A' n cap') ∧ OwnZ w' w.heap.size A' n cap' (xs.set i seg0)) ∧ Below w.heap.size w w' := by
  have hn6 : n ≤ 1000000 := by omega
  have h0n : 0 < n := by omega
  have HB := Lib.hid ((((Below.refl w.heap.size w).alloc (Nat.le_refl _) (.cells #[.int .i64 sec, .slice A n cap] 35)).alloc (by simp) (.cells #[.int .i64 0, .slice none 0 0] 35)).alloc (by simp; omega) (.cells (flatG (List.replicate n seg0)).toArray 128))
  have HX := Lib.hid (row_now h HB.out)
  have HK0 := Lib.hid (((Blk.new w 35 #[.int .i64 sec, .slice A n cap]).alloc (.cells #[.int .i64 0, .slice none 0 0] 35)).alloc (.cells (flatG (List.replicate n seg0)).toArray 128))
  have HK1 := Lib.hid ((blk_new2 w (.cells #[.int .i64 sec, .slice A n cap] 35) 35 #[.int .i64 0, .slice none 0 0]).alloc (.cells (flatG (List.replicate n seg0)).toArray 128))
  have HG := Lib.hid (show ArrS _ (w.heap.size + 1 + 1) (List.replicate n seg0) from blk_new3 w (.cells #[.int .i64 sec, .slice A n cap] 35) (.cells #[.int .i64 0, .slice none 0 0] 35) 128 (flatG (List.replicate n seg0)).toArray)
  have hl := h.1
  have HL := Lib.hid hl
  have hlx : i < xs.length := by omega
  have HLX := Lib.hid hlx
  obtain ⟨q0, q1⟩ := ring_cells HK0.out
  clear h hl hlx
  obtain ⟨st, g, u, hx⟩ : ∃ st g u, xs.getD i seg0 = (st, g, u) := ⟨_, _, _, rfl⟩
  rw [show (seg0 : Seg) = (0, 0, 0) from rfl]
  have HXI := Lib.hid hx
  clear hx
  go_enter Tryz.func122, Tryz.ntmps122
  go_wp2_with (first
    | (refine wpList_make_segs _ _ rfl rfl _ _ n n rfl rfl rfl rfl (Nat.le_refl _) hn6 ?_)
    | (refine wpList_copy_segs (.tmp 12) (.tmp 14) rfl rfl (w.heap.size + 1 + 1) n n cap A rfl rfl _ xs (List.replicate n seg0) HX.out HG.out (by simp) h0n ?_
       have HG1 := Lib.hid (HG.out.setRow xs)
       have n1 : w.heap.size ≠ w.heap.size + 1 + 1 := by omega
       have n2 : w.heap.size + 1 ≠ w.heap.size + 1 + 1 := by omega
       have HB1 := Lib.hid (below_setRow HB.out (g := w.heap.size + 1 + 1) (by omega) (flatG xs).toArray)
       have HK2 := Lib.hid (HK0.out.kept ((Kept.refl (fun b => b ≠ w.heap.size + 1 + 1) _).setRow (g := w.heap.size + 1 + 1) (fun h => h rfl) (flatG xs).toArray) n1)
       have HK3 := Lib.hid (HK1.out.kept ((Kept.refl (fun b => b ≠ w.heap.size + 1 + 1) _).setRow (g := w.heap.size + 1 + 1) (fun h => h rfl) (flatG xs).toArray) n2)
       obtain ⟨c0, c1, c2⟩ := ArrS.cells HG1.out HLX.out HXI.out
       clear n1 n2)
    | (go_at_call 121; refine (clo_free (st, g, u) _).mono ?_; rintro e w4 ⟨rfl, hb4⟩
       have HB4 := Lib.hid (HB1.out.trans (hb4.mono HB1.out.size))
       have HG4 := Lib.hid (HG1.out.below hb4 HG1.out.lt)
       have HK5 := Lib.hid (HK2.out.below hb4 HK2.out.lt)
       have HK6 := Lib.hid (HK3.out.below hb4 HK3.out.lt)
       clear hb4)
    | (refine wpList_store_seg (.tmp 24) (.tmp 23) rfl rfl (w.heap.size + 1 + 1) i (0, 0, 0) rfl rfl xs HG4.out HLX.out ?_
       have HG5 := Lib.hid (HG4.out.setRow (xs.set i (0, 0, 0)))
       have n1 : w.heap.size ≠ w.heap.size + 1 + 1 := by omega
       have n2 : w.heap.size + 1 ≠ w.heap.size + 1 + 1 := by omega
       have HB5 := Lib.hid (below_setRow HB4.out (g := w.heap.size + 1 + 1) (by omega) (flatG (xs.set i (0, 0, 0))).toArray)
       have HK7 := Lib.hid (HK5.out.kept ((Kept.refl (fun b => b ≠ w.heap.size + 1 + 1) _).setRow (g := w.heap.size + 1 + 1) (fun h => h rfl) (flatG (xs.set i (0, 0, 0))).toArray) n1)
       have HK8 := Lib.hid (HK6.out.kept ((Kept.refl (fun b => b ≠ w.heap.size + 1 + 1) _).setRow (g := w.heap.size + 1 + 1) (fun h => h rfl) (flatG (xs.set i (0, 0, 0))).toArray) n2)
       obtain ⟨q0, q1⟩ := ring_cells HK7.out
       obtain ⟨p0, p1⟩ := ring_cells HK8.out
       obtain ⟨f0, f1⟩ := And.intro (HK7.out.frozen 0) (HK7.out.frozen 1)
       obtain ⟨g0, g1⟩ := And.intro (HK8.out.frozen 0) (HK8.out.frozen 1)
       clear n1 n2)
    | (with_reducible refine halt_end ?_))
  have n1 : w.heap.size + 1 ≠ w.heap.size := by omega
  have n2 : w.heap.size + 1 + 1 ≠ w.heap.size := by omega
  have n3 : w.heap.size + 1 + 1 ≠ w.heap.size + 1 := by omega
  have hst := ((HK8.out.far (p := ⟨w.heap.size, 1, none⟩) n1 (.slice (some ⟨w.heap.size + 1 + 1, 0, none⟩) n n)).set_ 0 (.int .i64 sec)).set_ 1 (.slice (some ⟨w.heap.size + 1 + 1, 0, none⟩) n n)
  have harr : ArrS _ (w.heap.size + 1 + 1) (xs.set i (0, 0, 0)) := ((Blk.far HG5.out (p := ⟨w.heap.size, 1, none⟩) n2 (.slice (some ⟨w.heap.size + 1 + 1, 0, none⟩) n n)).far (p := ⟨w.heap.size + 1, 0, none⟩) n3 (.int .i64 sec)).far (p := ⟨w.heap.size + 1, 1, none⟩) n3 (.slice (some ⟨w.heap.size + 1 + 1, 0, none⟩) n n)
  have hbel := ((HB5.out.setCell (p := ⟨w.heap.size, 1, none⟩) (Nat.le_refl _) (.slice (some ⟨w.heap.size + 1 + 1, 0, none⟩) n n)).setCell (p := ⟨w.heap.size + 1, 0, none⟩) (by simp) (.int .i64 sec)).setCell (p := ⟨w.heap.size + 1, 1, none⟩) (by simp) (.slice (some ⟨w.heap.size + 1 + 1, 0, none⟩) n n)
  exact Halt.ret (results_row1 rfl _ _ (w.heap.size + 1) 35 #[.int .i64 sec, .slice (some ⟨w.heap.size + 1 + 1, 0, none⟩) n n] _ rfl hst Tryz.underlying35 rfl size_ring) rfl ⟨⟨_, _, rfl, harr.own (by omega) (by rw [List.length_set, HL.out]) hn6⟩, hbel⟩
set_option maxRecDepth 100000 in
set_option maxHeartbeats 2000000 in
theorem turned_open {w : World} {A : Option Addr} {n cap : Nat} {xs : List Seg} (h : RowZ w (· < w.heap.size) A n xs) (sec : Int) (hn : n ≤ 1000) (i : Nat) (hi : i < n) (v : Int) (G : Nat) (hG : G < w.heap.size) (hc : w.cell? ⟨G, 0, none⟩ = some (.int .u64 v)) :
    Calls Tryz.prog 122 #[ringV sec A n cap, .int .i64 i, .func (.func 163) #[] #[.pointer (some ⟨G, 0, none⟩)]] w fun e w' => (∃ A' cap', e = .returned (ringV sec A' n cap') ∧ OwnZ w' w.heap.size A' n cap' (xs.set i (1, v, 1))) ∧ Below w.heap.size w w' := by
  have hn6 : n ≤ 1000000 := by omega
  have h0n : 0 < n := by omega
  have HB := Lib.hid ((((Below.refl w.heap.size w).alloc (Nat.le_refl _) (.cells #[.int .i64 sec, .slice A n cap] 35)).alloc (by simp) (.cells #[.int .i64 0, .slice none 0 0] 35)).alloc (by simp; omega) (.cells (flatG (List.replicate n seg0)).toArray 128))
  have HX := Lib.hid (row_now h HB.out)
  have HK0 := Lib.hid (((Blk.new w 35 #[.int .i64 sec, .slice A n cap]).alloc (.cells #[.int .i64 0, .slice none 0 0] 35)).alloc (.cells (flatG (List.replicate n seg0)).toArray 128))
  have HK1 := Lib.hid ((blk_new2 w (.cells #[.int .i64 sec, .slice A n cap] 35) 35 #[.int .i64 0, .slice none 0 0]).alloc (.cells (flatG (List.replicate n seg0)).toArray 128))
  have HG := Lib.hid (show ArrS _ (w.heap.size + 1 + 1) (List.replicate n seg0) from blk_new3 w (.cells #[.int .i64 sec, .slice A n cap] 35) (.cells #[.int .i64 0, .slice none 0 0] 35) 128 (flatG (List.replicate n seg0)).toArray)
  have hl := h.1
  have HCV := Lib.hid hc
  clear hc
  have HL := Lib.hid hl
  have hlx : i < xs.length := by omega
  have HLX := Lib.hid hlx
  obtain ⟨q0, q1⟩ := ring_cells HK0.out
  clear h hl hlx
  obtain ⟨st, g, u, hx⟩ : ∃ st g u, xs.getD i seg0 = (st, g, u) := ⟨_, _, _, rfl⟩
  have HXI := Lib.hid hx
  clear hx
  go_enter Tryz.func122, Tryz.ntmps122
  go_wp2_with (first
    | (refine wpList_make_segs _ _ rfl rfl _ _ n n rfl rfl rfl rfl (Nat.le_refl _) hn6 ?_)
    | (refine wpList_copy_segs (.tmp 12) (.tmp 14) rfl rfl (w.heap.size + 1 + 1) n n cap A rfl rfl _ xs (List.replicate n seg0) HX.out HG.out (by simp) h0n ?_
       have HG1 := Lib.hid (HG.out.setRow xs)
       have n1 : w.heap.size ≠ w.heap.size + 1 + 1 := by omega
       have n2 : w.heap.size + 1 ≠ w.heap.size + 1 + 1 := by omega
       have HB1 := Lib.hid (below_setRow HB.out (g := w.heap.size + 1 + 1) (by omega) (flatG xs).toArray)
       have HK2 := Lib.hid (HK0.out.kept ((Kept.refl (fun b => b ≠ w.heap.size + 1 + 1) _).setRow (g := w.heap.size + 1 + 1) (fun h => h rfl) (flatG xs).toArray) n1)
       have HK3 := Lib.hid (HK1.out.kept ((Kept.refl (fun b => b ≠ w.heap.size + 1 + 1) _).setRow (g := w.heap.size + 1 + 1) (fun h => h rfl) (flatG xs).toArray) n2)
       obtain ⟨c0, c1, c2⟩ := ArrS.cells HG1.out HLX.out HXI.out
       clear n1 n2)
    | (go_at_call 163; refine (clo_open (st, g, u) v G _ ((Below.cell HB1.out (p := ⟨G, 0, none⟩) hG).trans HCV.out) (Nat.lt_of_lt_of_le hG HB1.out.size)).mono ?_; rintro e w4 ⟨rfl, hb4⟩
       have HB4 := Lib.hid (HB1.out.trans (hb4.mono HB1.out.size))
       have HG4 := Lib.hid (HG1.out.below hb4 HG1.out.lt)
       have HK5 := Lib.hid (HK2.out.below hb4 HK2.out.lt)
       have HK6 := Lib.hid (HK3.out.below hb4 HK3.out.lt)
       clear hb4)
    | (refine wpList_store_seg (.tmp 24) (.tmp 23) rfl rfl (w.heap.size + 1 + 1) i (1, v, 1) rfl rfl xs HG4.out HLX.out ?_
       have HG5 := Lib.hid (HG4.out.setRow (xs.set i (1, v, 1)))
       have n1 : w.heap.size ≠ w.heap.size + 1 + 1 := by omega
       have n2 : w.heap.size + 1 ≠ w.heap.size + 1 + 1 := by omega
       have HB5 := Lib.hid (below_setRow HB4.out (g := w.heap.size + 1 + 1) (by omega) (flatG (xs.set i (1, v, 1))).toArray)
       have HK7 := Lib.hid (HK5.out.kept ((Kept.refl (fun b => b ≠ w.heap.size + 1 + 1) _).setRow (g := w.heap.size + 1 + 1) (fun h => h rfl) (flatG (xs.set i (1, v, 1))).toArray) n1)
       have HK8 := Lib.hid (HK6.out.kept ((Kept.refl (fun b => b ≠ w.heap.size + 1 + 1) _).setRow (g := w.heap.size + 1 + 1) (fun h => h rfl) (flatG (xs.set i (1, v, 1))).toArray) n2)
       obtain ⟨q0, q1⟩ := ring_cells HK7.out
       obtain ⟨p0, p1⟩ := ring_cells HK8.out
       obtain ⟨f0, f1⟩ := And.intro (HK7.out.frozen 0) (HK7.out.frozen 1)
       obtain ⟨g0, g1⟩ := And.intro (HK8.out.frozen 0) (HK8.out.frozen 1)
       clear n1 n2)
    | (with_reducible refine halt_end ?_))
  have n1 : w.heap.size + 1 ≠ w.heap.size := by omega
  have n2 : w.heap.size + 1 + 1 ≠ w.heap.size := by omega
  have n3 : w.heap.size + 1 + 1 ≠ w.heap.size + 1 := by omega
  have hst := ((HK8.out.far (p := ⟨w.heap.size, 1, none⟩) n1 (.slice (some ⟨w.heap.size + 1 + 1, 0, none⟩) n n)).set_ 0 (.int .i64 sec)).set_ 1 (.slice (some ⟨w.heap.size + 1 + 1, 0, none⟩) n n)
  have harr : ArrS _ (w.heap.size + 1 + 1) (xs.set i (1, v, 1)) := ((Blk.far HG5.out (p := ⟨w.heap.size, 1, none⟩) n2 (.slice (some ⟨w.heap.size + 1 + 1, 0, none⟩) n n)).far (p := ⟨w.heap.size + 1, 0, none⟩) n3 (.int .i64 sec)).far (p := ⟨w.heap.size + 1, 1, none⟩) n3 (.slice (some ⟨w.heap.size + 1 + 1, 0, none⟩) n n)
  have hbel := ((HB5.out.setCell (p := ⟨w.heap.size, 1, none⟩) (Nat.le_refl _) (.slice (some ⟨w.heap.size + 1 + 1, 0, none⟩) n n)).setCell (p := ⟨w.heap.size + 1, 0, none⟩) (by simp) (.int .i64 sec)).setCell (p := ⟨w.heap.size + 1, 1, none⟩) (by simp) (.slice (some ⟨w.heap.size + 1 + 1, 0, none⟩) n n)
  exact Halt.ret (results_row1 rfl _ _ (w.heap.size + 1) 35 #[.int .i64 sec, .slice (some ⟨w.heap.size + 1 + 1, 0, none⟩) n n] _ rfl hst Tryz.underlying35 rfl size_ring) rfl ⟨⟨_, _, rfl, harr.own (by omega) (by rw [List.length_set, HL.out]) hn6⟩, hbel⟩
set_option maxRecDepth 100000 in
set_option maxHeartbeats 2000000 in
theorem turned_use {w : World} {A : Option Addr} {n cap : Nat} {xs : List Seg} (h : RowZ w (· < w.heap.size) A n xs) (sec : Int) (hn : n ≤ 1000) (i : Nat) (hi : i < n) (v : Int) (G : Nat) (hG : G < w.heap.size) (hc : w.cell? ⟨G, 0, none⟩ = some (.int .i64 v)) :
    Calls Tryz.prog 122 #[ringV sec A n cap, .int .i64 i, .func (.func 146) #[] #[.pointer (some ⟨G, 0, none⟩)]] w fun e w' => (∃ A' cap', e = .returned (ringV sec A' n cap') ∧ OwnZ w' w.heap.size A' n cap' (xs.set i (stG xs i, genG xs i, wrap64 (usedG xs i + v)))) ∧ Below w.heap.size w w' := by
  have hn6 : n ≤ 1000000 := by omega
  have h0n : 0 < n := by omega
  have HB := Lib.hid ((((Below.refl w.heap.size w).alloc (Nat.le_refl _) (.cells #[.int .i64 sec, .slice A n cap] 35)).alloc (by simp) (.cells #[.int .i64 0, .slice none 0 0] 35)).alloc (by simp; omega) (.cells (flatG (List.replicate n seg0)).toArray 128))
  have HX := Lib.hid (row_now h HB.out)
  have HK0 := Lib.hid (((Blk.new w 35 #[.int .i64 sec, .slice A n cap]).alloc (.cells #[.int .i64 0, .slice none 0 0] 35)).alloc (.cells (flatG (List.replicate n seg0)).toArray 128))
  have HK1 := Lib.hid ((blk_new2 w (.cells #[.int .i64 sec, .slice A n cap] 35) 35 #[.int .i64 0, .slice none 0 0]).alloc (.cells (flatG (List.replicate n seg0)).toArray 128))
  have HG := Lib.hid (show ArrS _ (w.heap.size + 1 + 1) (List.replicate n seg0) from blk_new3 w (.cells #[.int .i64 sec, .slice A n cap] 35) (.cells #[.int .i64 0, .slice none 0 0] 35) 128 (flatG (List.replicate n seg0)).toArray)
  have hl := h.1
  have HCV := Lib.hid hc
  clear hc
  have HL := Lib.hid hl
  have hlx : i < xs.length := by omega
  have HLX := Lib.hid hlx
  obtain ⟨q0, q1⟩ := ring_cells HK0.out
  clear h hl hlx
  obtain ⟨st, g, u, hx⟩ : ∃ st g u, xs.getD i seg0 = (st, g, u) := ⟨_, _, _, rfl⟩
  rw [show ((stG xs i, genG xs i, wrap64 (usedG xs i + v)) : Seg) = (st, g, wrap64 (u + v)) by simp only [stG, genG, usedG, hx]]
  have HXI := Lib.hid hx
  clear hx
  go_enter Tryz.func122, Tryz.ntmps122
  go_wp2_with (first
    | (refine wpList_make_segs _ _ rfl rfl _ _ n n rfl rfl rfl rfl (Nat.le_refl _) hn6 ?_)
    | (refine wpList_copy_segs (.tmp 12) (.tmp 14) rfl rfl (w.heap.size + 1 + 1) n n cap A rfl rfl _ xs (List.replicate n seg0) HX.out HG.out (by simp) h0n ?_
       have HG1 := Lib.hid (HG.out.setRow xs)
       have n1 : w.heap.size ≠ w.heap.size + 1 + 1 := by omega
       have n2 : w.heap.size + 1 ≠ w.heap.size + 1 + 1 := by omega
       have HB1 := Lib.hid (below_setRow HB.out (g := w.heap.size + 1 + 1) (by omega) (flatG xs).toArray)
       have HK2 := Lib.hid (HK0.out.kept ((Kept.refl (fun b => b ≠ w.heap.size + 1 + 1) _).setRow (g := w.heap.size + 1 + 1) (fun h => h rfl) (flatG xs).toArray) n1)
       have HK3 := Lib.hid (HK1.out.kept ((Kept.refl (fun b => b ≠ w.heap.size + 1 + 1) _).setRow (g := w.heap.size + 1 + 1) (fun h => h rfl) (flatG xs).toArray) n2)
       obtain ⟨c0, c1, c2⟩ := ArrS.cells HG1.out HLX.out HXI.out
       clear n1 n2)
    | (go_at_call 146; refine (clo_use (st, g, u) v G _ ((Below.cell HB1.out (p := ⟨G, 0, none⟩) hG).trans HCV.out) (Nat.lt_of_lt_of_le hG HB1.out.size)).mono ?_; rintro e w4 ⟨rfl, hb4⟩
       have HB4 := Lib.hid (HB1.out.trans (hb4.mono HB1.out.size))
       have HG4 := Lib.hid (HG1.out.below hb4 HG1.out.lt)
       have HK5 := Lib.hid (HK2.out.below hb4 HK2.out.lt)
       have HK6 := Lib.hid (HK3.out.below hb4 HK3.out.lt)
       clear hb4)
    | (refine wpList_store_seg (.tmp 24) (.tmp 23) rfl rfl (w.heap.size + 1 + 1) i (st, g, wrap64 (u + v)) rfl rfl xs HG4.out HLX.out ?_
       have HG5 := Lib.hid (HG4.out.setRow (xs.set i (st, g, wrap64 (u + v))))
       have n1 : w.heap.size ≠ w.heap.size + 1 + 1 := by omega
       have n2 : w.heap.size + 1 ≠ w.heap.size + 1 + 1 := by omega
       have HB5 := Lib.hid (below_setRow HB4.out (g := w.heap.size + 1 + 1) (by omega) (flatG (xs.set i (st, g, wrap64 (u + v)))).toArray)
       have HK7 := Lib.hid (HK5.out.kept ((Kept.refl (fun b => b ≠ w.heap.size + 1 + 1) _).setRow (g := w.heap.size + 1 + 1) (fun h => h rfl) (flatG (xs.set i (st, g, wrap64 (u + v)))).toArray) n1)
       have HK8 := Lib.hid (HK6.out.kept ((Kept.refl (fun b => b ≠ w.heap.size + 1 + 1) _).setRow (g := w.heap.size + 1 + 1) (fun h => h rfl) (flatG (xs.set i (st, g, wrap64 (u + v)))).toArray) n2)
       obtain ⟨q0, q1⟩ := ring_cells HK7.out
       obtain ⟨p0, p1⟩ := ring_cells HK8.out
       obtain ⟨f0, f1⟩ := And.intro (HK7.out.frozen 0) (HK7.out.frozen 1)
       obtain ⟨g0, g1⟩ := And.intro (HK8.out.frozen 0) (HK8.out.frozen 1)
       clear n1 n2)
    | (with_reducible refine halt_end ?_))
  have n1 : w.heap.size + 1 ≠ w.heap.size := by omega
  have n2 : w.heap.size + 1 + 1 ≠ w.heap.size := by omega
  have n3 : w.heap.size + 1 + 1 ≠ w.heap.size + 1 := by omega
  have hst := ((HK8.out.far (p := ⟨w.heap.size, 1, none⟩) n1 (.slice (some ⟨w.heap.size + 1 + 1, 0, none⟩) n n)).set_ 0 (.int .i64 sec)).set_ 1 (.slice (some ⟨w.heap.size + 1 + 1, 0, none⟩) n n)
  have harr : ArrS _ (w.heap.size + 1 + 1) (xs.set i (st, g, wrap64 (u + v))) := ((Blk.far HG5.out (p := ⟨w.heap.size, 1, none⟩) n2 (.slice (some ⟨w.heap.size + 1 + 1, 0, none⟩) n n)).far (p := ⟨w.heap.size + 1, 0, none⟩) n3 (.int .i64 sec)).far (p := ⟨w.heap.size + 1, 1, none⟩) n3 (.slice (some ⟨w.heap.size + 1 + 1, 0, none⟩) n n)
  have hbel := ((HB5.out.setCell (p := ⟨w.heap.size, 1, none⟩) (Nat.le_refl _) (.slice (some ⟨w.heap.size + 1 + 1, 0, none⟩) n n)).setCell (p := ⟨w.heap.size + 1, 0, none⟩) (by simp) (.int .i64 sec)).setCell (p := ⟨w.heap.size + 1, 1, none⟩) (by simp) (.slice (some ⟨w.heap.size + 1 + 1, 0, none⟩) n n)
  exact Halt.ret (results_row1 rfl _ _ (w.heap.size + 1) 35 #[.int .i64 sec, .slice (some ⟨w.heap.size + 1 + 1, 0, none⟩) n n] _ rfl hst Tryz.underlying35 rfl size_ring) rfl ⟨⟨_, _, rfl, harr.own (by omega) (by rw [List.length_set, HL.out]) hn6⟩, hbel⟩
end Go.Proofs.YtodcohkblgjfeaaGreat

namespace Go.Proofs.YtodcohkblgjfeaaGreat
set_option maxRecDepth 100000
open Go.RowKit
set_option linter.unusedVariables false
set_option linter.unusedSimpArgs false
theorem frees_le (xs : List Seg) (j : Nat) : freesTo xs j ≤ j := by have := frees_live xs j; omega
noncomputable def freesW (sec : Int) (xs : List Seg) : Nat := if OkR sec xs then freesR xs else 0
noncomputable def nextE (sec : Int) (xs : List Seg) : Int := if ¬ OkR sec xs then 180 else if nxtR xs < 0 then 6 else 0
noncomputable def nextV (sec : Int) (xs : List Seg) : Int := if nextE sec xs = 0 then nxtR xs else 0
set_option maxRecDepth 100000 in
set_option maxHeartbeats 2000000 in
theorem next_any_s8 {w : World} {A : Option Addr} {n cap : Nat} {xs : List Seg} (h : RowZ w (· < w.heap.size) A n xs) (sec : Int) :
    Calls Tryz.prog 100 #[ringV sec A n cap] w fun e w' => e = .returned (.tuple #[.int .i64 (nextV sec xs), .int .i64 (nextE sec xs)]) ∧ Below w.heap.size w w' := by
  have HX := Lib.hid h
  have HB1 := Lib.hid ((Below.refl w.heap.size w).alloc (Nat.le_refl _) (.cells #[.int .i64 sec, .slice A n cap] 35))
  have HC := Lib.hid (check_any (cap := cap) (row_now h HB1.out) sec)
  clear h
  by_cases hk : OkR sec xs
  case neg =>
    have e1 : nextE sec xs = 180 := if_pos hk
    have e2 : nextV sec xs = 0 := by unfold nextV; rw [e1]; rfl
    rw [if_neg hk] at HC
    rw [e1, e2]
    clear e1 e2
    go_enter Tryz.func100, Tryz.ntmps100
    go_wp2
    go_step3
    go_wp2_with (go_at_call 81; refine HC.out.mono ?_; rintro e w1 ⟨rfl, hb1⟩; have HB2 := Lib.hid (ring_first hb1); clear hb1)
    try rw [Exit.noGoto_ret]
    go_ret2
    exact ⟨rfl, HB2.out.1⟩
  rw [if_pos hk] at HC
  have hn := (ok_n hk HX.out.1).2
  have hlat := ref_latest_sp xs xs.length
  rw [HX.out.1] at hlat
  have e : latTo xs n = latR xs := by unfold latR; rw [HX.out.1]
  have e2 : nxtR xs = nxtTo xs (latR xs) n := by unfold nxtR; rw [HX.out.1]
  have e3 : nextE sec xs = if nxtTo xs (latR xs) n < 0 then 6 else 0 := by unfold nextE; rw [if_neg (fun h => h hk), e2]
  have e4 : nextV sec xs = if nxtTo xs (latR xs) n < 0 then 0 else nxtTo xs (latR xs) n := by unfold nextV; rw [e3, e2]; split <;> rfl
  rw [e] at hlat
  obtain ⟨st, g, u, hl⟩ : ∃ st g u, lastR xs = (st, g, u) := ⟨_, _, _, rfl⟩
  have HL := Lib.hid (fun (W : World) (hh : RowZ W (· < W.heap.size) A n xs) => by have := latest_ok (cap := cap) hh hk; rw [hl] at this; exact this)
  have EE := Lib.hid e3
  have EV := Lib.hid e4
  clear e e2 e3 e4 hl hk
  generalize nextE sec xs = ee at *
  generalize nextV sec xs = ve at *
  generalize latR xs = a at *
  have HA := Lib.hid hlat
  clear hlat
  go_enter Tryz.func100, Tryz.ntmps100
  go_wp2
  go_step3
  go_wp2_with (first
    | (go_at_call 81; refine HC.out.mono ?_; rintro e w1 ⟨rfl, hb1⟩; have HB2 := Lib.hid (ring_first hb1); obtain ⟨k0, k1⟩ := ring_cells HB2.out.2; clear hb1)
    | (go_at_call 131; refine (HL.out _ (row_now HX.out HB2.out.1)).mono ?_; rintro e w2 ⟨rfl, hb2⟩; have HB3 := Lib.hid (HB2.out.1.trans (hb2.mono HB2.out.1.size)); have HK3 := Lib.hid (HB2.out.2.below hb2 HB2.out.2.lt); have HKa := Lib.hid (HK3.out.alloc (.cells #[.int .i64 st, .int .u64 g, .int .i64 u] 128)); have HBa := Lib.hid (HB3.out.alloc HB3.out.size (.cells #[.int .i64 st, .int .u64 g, .int .i64 u] 128)); obtain ⟨q0, q1⟩ := ring_cells HKa.out; clear hb2))
  go_step3
  go_wp2
  go_loopw [7, 8, 24] (fun v8 v9 i wr => ∃ j : Nat, RI w sec A n cap wr j i ∧ v8 = .int .i64 0 ∧ v9 = .int .i64 6 ∧ nxtTo xs a j = -1) (fun _ _ i _ => n - (intOf i).toNat)
  case atStart => exact ⟨0, ⟨Nat.zero_le _, rfl, HKa.out, HBa.out⟩, rfl, rfl, rfl⟩
  case round =>
    obtain ⟨j, ⟨hj, rfl, hb, hbel⟩, rfl, rfl, ho⟩ := hrel
    have HB := Lib.hid hb
    have HBEL := Lib.hid hbel
    have HO := Lib.hid ho
    obtain ⟨k0, k1⟩ := ring_cells hb
    clear hb hbel ho
    by_cases hlt : j < n
    · obtain ⟨m, hm⟩ : ∃ m : Nat, a + 1 + (j : Int) = m := ⟨(a + 1 + (j : Int)).toNat, by rcases HA.out with h | ⟨i, _, h⟩ <;> omega⟩
      have hm80 : m ≤ 80 ∧ -1 ≤ a ∧ a ≤ 40 := by rcases HA.out with h | ⟨i, _, h⟩ <;> omega
      have hmod : (wrap64 (wrap64 (a + 1) + (j : Int))).tmod n = ((m % n : Nat) : Int) := by
        have e : wrap64 (wrap64 (a + 1) + (j : Int)) = (m : Int) := by unfold wrap64; omega
        rw [e]
        exact (Int.ofNat_tmod _ _).symm
      have hlm : m % n < n := Nat.mod_lt _ (by omega)
      obtain ⟨b, off, rfl, hbb, hcc⟩ := seg_get (HX.out.below HBEL.out (fun b h => h)) hlm
      obtain ⟨c0, c1, c2⟩ := hcc (m % n) hlm
      have e1 : nxtTo xs a (j + 1) = if stG xs (m % n) = 0 then ((m % n : Nat) : Int) else -1 := by
        conv => (lhs; unfold nxtTo)
        rw [HO.out, if_neg (by omega), hm, Int.toNat_natCast, HX.out.1]
      have E1 := Lib.hid e1
      clear hcc e1 c1 c2 hm hm80
      generalize stG xs (m % n) = st at *
      generalize m % n = q at *
      by_cases h0 : st = 0
      · subst h0
        go_wp2
        try rw [Exit.noGoto_ret]
        go_ret2
        have h2 := E1.out
        simp only [if_true] at h2
        obtain ⟨d, hd⟩ : ∃ d, n = (j + 1) + d := ⟨n - (j + 1), by omega⟩
        have e : nxtTo xs a n = (q : Int) := by rw [hd, nxt_stay xs a (by omega), h2]
        exact ⟨by rw [EE.out, EV.out, e, if_neg (by omega), if_neg (by omega)]; rfl, HBEL.out⟩
      · have d0 : (st == 0) = false := by simpa using h0
        go_wp2
        go_roundw
        case rel => exact ⟨j + 1, ⟨by omega, by simp, HB.out, HBEL.out⟩, rfl, rfl, by rw [E1.out, if_neg h0]⟩
        case measure => simp [intOf]; omega
    · obtain rfl : j = n := by omega
      go_wp2
      try rw [Exit.noGoto_ret]
      go_ret2
      exact ⟨by rw [EE.out, EV.out, HO.out, if_pos (by omega), if_pos (by omega)]; rfl, HBEL.out⟩
end Go.Proofs.YtodcohkblgjfeaaGreat

namespace Go.Proofs.YtodcohkblgjfeaaGreat
set_option maxRecDepth 100000
open Go.RowKit
set_option linter.unusedVariables false
set_option linter.unusedSimpArgs false
theorem OwnZ.far {w : World} {base : Nat} {A : Option Addr} {n cap : Nat} {xs : List Seg} (h : OwnZ w base A n cap xs) {p : Addr} (hp : p.block < base) (v : Value) : OwnZ (w.setCell p v) base A n cap xs :=
  ⟨h.1, ownsRow_setCell_other h.2.1 (fun e => by have := own_least h.2.1 e; omega) v, h.2.2⟩
def RingO (w : World) (base : Nat) (v : Value) (sec : Int) (xs : List Seg) : Prop := ∃ A n cap, v = ringV sec A n cap ∧ OwnZ w base A n cap xs
theorem RingO.none (w : World) (base : Nat) : RingO w base (ringV 0 none 0 0) 0 [] := ⟨_, 0, 0, rfl, rfl, ⟨rfl, .inl ⟨rfl, rfl⟩⟩, fun _ => rfl, Nat.le_refl _⟩
theorem RingO.below {w W : World} {base : Nat} {v : Value} {sec : Int} {xs : List Seg} (h : RingO w base v sec xs) (hb : Below w.heap.size w W) : RingO W base v sec xs := by
  obtain ⟨A, n, cap, e, ho⟩ := h
  exact ⟨A, n, cap, e, ho.below hb⟩
theorem RingO.base {w : World} {base m : Nat} {v : Value} {sec : Int} {xs : List Seg} (h : RingO w base v sec xs) (hm : m ≤ base) : RingO w m v sec xs := by
  obtain ⟨A, n, cap, e, ho⟩ := h
  exact ⟨A, n, cap, e, ho.base hm⟩
def OV (w : World) (sec : Int) (A : Option Addr) (n cap : Nat) (t : TypeId) (x : Value) (W : World) : Prop :=
  Below w.heap.size w W ∧ Blk W w.heap.size 35 #[.int .i64 sec, .slice A n cap] ∧ Blk W (w.heap.size + 1) t #[x] ∧ Blk W (w.heap.size + 1 + 1) 35 #[.int .i64 0, .slice none 0 0]
section
variable {w : World} {sec : Int} {A : Option Addr} {n cap : Nat} {t : TypeId} {x : Value} {W W' : World}
theorem OV.start (w : World) (sec : Int) (A : Option Addr) (n cap : Nat) (t : TypeId) (x : Value) : OV w sec A n cap t x (((w.alloc (.cells #[.int .i64 sec, .slice A n cap] 35)).alloc (.cells #[x] t)).alloc (.cells #[.int .i64 0, .slice none 0 0] 35)) :=
  ⟨(((Below.refl _ w).alloc (Nat.le_refl _) _).alloc (by simp) _).alloc (by simp; omega) _, ((Blk.new w _ _).alloc _).alloc _, (blk_new2 w _ _ _).alloc _, blk_new3 w _ _ _ _⟩
theorem OV.next (h : OV w sec A n cap t x W) (hb : Below W.heap.size W W') : OV w sec A n cap t x W' :=
  ⟨h.1.trans (hb.mono h.1.size), h.2.1.below hb h.2.1.lt, h.2.2.1.below hb h.2.2.1.lt, h.2.2.2.below hb h.2.2.2.lt⟩
theorem OV.alloc (h : OV w sec A n cap t x W) (o : Obj) : OV w sec A n cap t x (W.alloc o) := h.next ((Below.refl _ W).alloc (Nat.le_refl _) o)
theorem OV.cells (h : OV w sec A n cap t x W) : W.cell? ⟨w.heap.size, 0, none⟩ = some (.int .i64 sec) ∧ W.cell? ⟨w.heap.size, 1, none⟩ = some (.slice A n cap) ∧ W.cell? ⟨w.heap.size + 1, 0, none⟩ = some x ∧
    W.cell? ⟨w.heap.size + 1 + 1, 0, none⟩ = some (.int .i64 0) ∧ W.cell? ⟨w.heap.size + 1 + 1, 1, none⟩ = some (.slice none 0 0) ∧ W.frozen? ⟨w.heap.size + 1 + 1, 0, none⟩ = false ∧ W.frozen? ⟨w.heap.size + 1 + 1, 1, none⟩ = false :=
  ⟨h.2.1.cell 0, h.2.1.cell 1, h.2.2.1.cell 0, h.2.2.2.cell 0, h.2.2.2.cell 1, h.2.2.2.frozen 0, h.2.2.2.frozen 1⟩
theorem OV.res (h : OV w sec A n cap t x W) (s : Int) (B : Option Addr) (m c : Nat) : Blk ((W.setCell ⟨w.heap.size + 1 + 1, 0, none⟩ (.int .i64 s)).setCell ⟨w.heap.size + 1 + 1, 1, none⟩ (.slice B m c)) (w.heap.size + 1 + 1) 35 #[.int .i64 s, .slice B m c] :=
  (h.2.2.2.set_ 0 (.int .i64 s)).set_ 1 (.slice B m c)
theorem OV.below (h : OV w sec A n cap t x W) (u v : Value) : Below w.heap.size w ((W.setCell ⟨w.heap.size + 1 + 1, 0, none⟩ u).setCell ⟨w.heap.size + 1 + 1, 1, none⟩ v) :=
  (h.1.setCell (p := ⟨w.heap.size + 1 + 1, 0, none⟩) (by simp; omega) u).setCell (p := ⟨w.heap.size + 1 + 1, 1, none⟩) (by simp; omega) v
theorem OV.lt (h : OV w sec A n cap t x W) : w.heap.size + 1 + 1 < W.heap.size := h.2.2.2.lt
end
theorem open_bad {sec : Int} {xs : List Seg} {g : Int} (h : ¬ OkR sec xs) : openE sec xs g = 180 := if_pos h
theorem open_state {sec : Int} {xs : List Seg} {g : Int} (h : OkR sec xs) (h1 : 0 ≤ opnR xs) : openE sec xs g = 181 := by unfold openE; rw [if_neg (fun k => k h), if_pos h1]
theorem open_arg {sec : Int} {xs : List Seg} {g : Int} (h : OkR sec xs) (h1 : ¬ 0 ≤ opnR xs) (h2 : g ≤ topG xs) : openE sec xs g = 2 := by unfold openE; rw [if_neg (fun k => k h), if_neg h1, if_pos h2]
theorem open_full {sec : Int} {xs : List Seg} {g : Int} (h : OkR sec xs) (h1 : ¬ 0 ≤ opnR xs) (h2 : ¬ g ≤ topG xs) (h3 : nxtR xs < 0) : openE sec xs g = 6 := by unfold openE; rw [if_neg (fun k => k h), if_neg h1, if_neg h2, if_pos h3]
theorem open_go {sec : Int} {xs : List Seg} {g : Int} (h : OkR sec xs) (h1 : ¬ 0 ≤ opnR xs) (h2 : ¬ g ≤ topG xs) (h3 : ¬ nxtR xs < 0) : openE sec xs g = 0 := by unfold openE; rw [if_neg (fun k => k h), if_neg h1, if_neg h2, if_neg h3]
def OpenT (w : World) (sec : Int) (xs : List Seg) (g : Int) (e : Ending) (w' : World) : Prop :=
  (openE sec xs g = 0 ∧ (∃ v, e = .returned (.tuple #[v, .int .i64 (nxtR xs), .int .i64 0]) ∧ RingO w' w.heap.size v sec (openX xs g)) ∨
   openE sec xs g ≠ 0 ∧ e = .returned (.tuple #[ringV 0 none 0 0, .int .i64 0, .int .i64 (openE sec xs g)])) ∧ Below w.heap.size w w'
theorem OpenT.no {w w' : World} {sec : Int} {xs : List Seg} {g E : Int} (hE : openE sec xs g = E) (h0 : E ≠ 0) (hb : Below w.heap.size w w') : OpenT w sec xs g (.returned (.tuple #[ringV 0 none 0 0, .int .i64 0, .int .i64 E])) w' :=
  ⟨.inr ⟨by rw [hE]; exact h0, by rw [hE]⟩, hb⟩
set_option maxRecDepth 100000 in
set_option maxHeartbeats 4000000 in
theorem open_any {w : World} {A : Option Addr} {n cap : Nat} {xs : List Seg} (h : RowZ w (· < w.heap.size) A n xs) (sec g : Int) :
    Calls Tryz.prog 142 #[ringV sec A n cap, .int .u64 g] w fun e w' => OpenT w sec xs g e w' := by
  have HX := Lib.hid h
  have HV0 := Lib.hid (OV.start w sec A n cap 30 (.int .u64 g))
  have HC := Lib.hid (check_any (cap := cap) (row_now h HV0.out.1) sec)
  clear h
  by_cases hk : OkR sec xs
  case neg =>
    have HE := Lib.hid (open_bad (g := g) hk)
    rw [if_neg hk] at HC
    clear hk
    go_enter Tryz.func142, Tryz.ntmps142
    go_wp2_with (first
      | (go_at_call 81; refine HC.out.mono ?_; rintro e w1 ⟨rfl, hb1⟩; have HV1 := Lib.hid (HV0.out.next hb1); obtain ⟨q0, q1, q2, q3, q4, f3, f4⟩ := HV1.out.cells; clear hb1)
      | (with_reducible refine halt_end ?_))
    exact Halt.ret (results_row3 (p := 4) (u := 5) (v := 6) rfl _ _ (w.heap.size + 1 + 1) 35 #[.int .i64 0, .slice none 0 0] _ rfl (HV1.out.res 0 none 0 0) Tryz.underlying35 rfl size_ring) rfl (OpenT.no HE.out (by decide) (HV1.out.below _ _))
  rw [if_pos hk] at HC
  have HK := Lib.hid hk
  have HLO := Lib.hid (last_open hk)
  have HLT := Lib.hid (last_top xs)
  clear hk
  obtain ⟨st, lg, u, hl⟩ : ∃ st lg u, lastR xs = (st, lg, u) := ⟨_, _, _, rfl⟩
  rw [hl] at HLO HLT
  have HL := Lib.hid (fun (W : World) (hh : RowZ W (· < W.heap.size) A n xs) => by have := latest_ok (cap := cap) hh HK.out; rw [hl] at this; exact this)
  clear hl
  by_cases h1 : st = 1
  · subst h1
    have HE := Lib.hid (open_state (g := g) HK.out (HLO.out.1 rfl))
    generalize latR xs = a at *
    go_enter Tryz.func142, Tryz.ntmps142
    go_wp2_with (first
      | (go_at_call 81; refine HC.out.mono ?_; rintro e w1 ⟨rfl, hb1⟩; have HV1 := Lib.hid (HV0.out.next hb1); obtain ⟨q0, q1, q2, q3, q4, f3, f4⟩ := HV1.out.cells; clear hb1)
      | (go_at_call 131; refine (HL.out _ (row_now HX.out HV1.out.1)).mono ?_; rintro e w2 ⟨rfl, hb2⟩; have HV2 := Lib.hid ((HV1.out.next hb2).alloc (.cells #[.int .i64 1, .int .u64 lg, .int .i64 u] 128)); obtain ⟨r0, r1, r2, r3, r4, f5, f6⟩ := HV2.out.cells; clear hb2)
      | (with_reducible refine halt_end ?_))
    exact Halt.ret (results_row3 (p := 4) (u := 5) (v := 6) rfl _ _ (w.heap.size + 1 + 1) 35 #[.int .i64 0, .slice none 0 0] _ rfl (HV2.out.res 0 none 0 0) Tryz.underlying35 rfl size_ring) rfl (OpenT.no HE.out (by decide) (HV2.out.below _ _))
  have d1 : (st == 1) = false := by simpa using h1
  have HO := Lib.hid (show ¬ 0 ≤ opnR xs from fun h => h1 (HLO.out.2 h))
  by_cases h2 : g ≤ lg
  · have d2 : decide (g ≤ lg) = true := decide_eq_true h2
    have HE := Lib.hid (open_arg (g := g) HK.out HO.out (by rw [← HLT.out]; exact h2))
    generalize latR xs = a at *
    go_enter Tryz.func142, Tryz.ntmps142
    go_wp2_with (first
      | (go_at_call 81; refine HC.out.mono ?_; rintro e w1 ⟨rfl, hb1⟩; have HV1 := Lib.hid (HV0.out.next hb1); obtain ⟨q0, q1, q2, q3, q4, f3, f4⟩ := HV1.out.cells; clear hb1)
      | (go_at_call 131; refine (HL.out _ (row_now HX.out HV1.out.1)).mono ?_; rintro e w2 ⟨rfl, hb2⟩; have HV2 := Lib.hid ((HV1.out.next hb2).alloc (.cells #[.int .i64 st, .int .u64 lg, .int .i64 u] 128)); obtain ⟨r0, r1, r2, r3, r4, f5, f6⟩ := HV2.out.cells; clear hb2)
      | (with_reducible refine halt_end ?_))
    exact Halt.ret (results_row3 (p := 4) (u := 5) (v := 6) rfl _ _ (w.heap.size + 1 + 1) 35 #[.int .i64 0, .slice none 0 0] _ rfl (HV2.out.res 0 none 0 0) Tryz.underlying35 rfl size_ring) rfl (OpenT.no HE.out (by decide) (HV2.out.below _ _))
  have d2 : decide (g ≤ lg) = false := decide_eq_false h2
  have HG := Lib.hid (show ¬ g ≤ topG xs by rw [← HLT.out]; exact h2)
  have HN := Lib.hid (fun (W : World) (hh : RowZ W (· < W.heap.size) A n xs) => next_any_s8 (cap := cap) hh sec)
  by_cases h3 : nxtR xs < 0
  · have HE := Lib.hid (open_full (g := g) HK.out HO.out HG.out h3)
    have e1 : nextE sec xs = 6 := by unfold nextE; rw [if_neg (fun k => k HK.out), if_pos h3]
    have e2 : nextV sec xs = 0 := by unfold nextV; rw [e1]; rfl
    rw [e1, e2] at HN
    clear e1 e2 h3
    generalize latR xs = a at *
    go_enter Tryz.func142, Tryz.ntmps142
    go_wp2_with (first
      | (go_at_call 81; refine HC.out.mono ?_; rintro e w1 ⟨rfl, hb1⟩; have HV1 := Lib.hid (HV0.out.next hb1); obtain ⟨q0, q1, q2, q3, q4, f3, f4⟩ := HV1.out.cells; clear hb1)
      | (go_at_call 131; refine (HL.out _ (row_now HX.out HV1.out.1)).mono ?_; rintro e w2 ⟨rfl, hb2⟩; have HV2 := Lib.hid ((HV1.out.next hb2).alloc (.cells #[.int .i64 st, .int .u64 lg, .int .i64 u] 128)); obtain ⟨r0, r1, r2, r3, r4, f5, f6⟩ := HV2.out.cells; clear hb2)
      | (go_at_call 100; refine (HN.out _ (row_now HX.out HV2.out.1)).mono ?_; rintro e w3 ⟨rfl, hb3⟩; have HV3 := Lib.hid (HV2.out.next hb3); obtain ⟨s0, s1, s2, s3, s4, f7, f8⟩ := HV3.out.cells; clear hb3)
      | (with_reducible refine halt_end ?_))
    exact Halt.ret (results_row3 (p := 4) (u := 5) (v := 6) rfl _ _ (w.heap.size + 1 + 1) 35 #[.int .i64 0, .slice none 0 0] _ rfl (HV3.out.res 0 none 0 0) Tryz.underlying35 rfl size_ring) rfl (OpenT.no HE.out (by decide) (HV3.out.below _ _))
  · have HE := Lib.hid (open_go (g := g) HK.out HO.out HG.out h3)
    have e1 : nextE sec xs = 0 := by unfold nextE; rw [if_neg (fun k => k HK.out), if_neg h3]
    have e2 : nextV sec xs = nxtR xs := by unfold nextV; rw [e1]; rfl
    obtain ⟨i, hi, e3⟩ : ∃ i : Nat, i < n ∧ nxtR xs = i := by
      rcases nxt_or xs with ⟨e, _⟩ | ⟨k, hk, e, _⟩
      · omega
      · exact ⟨_, by rw [← HX.out.1]; exact Nat.mod_lt _ (by have := ok_n HK.out HX.out.1; omega), e⟩
    have HXX := Lib.hid (show openX xs g = xs.set i (1, g, 1) by unfold openX; rw [e3, Int.toNat_natCast])
    have HI := Lib.hid e3
    rw [e1, e2, e3] at HN
    have HT := Lib.hid (fun (W : World) (hh : RowZ W (· < W.heap.size) A n xs) (hG : w.heap.size + 1 < W.heap.size) (hc : W.cell? ⟨w.heap.size + 1, 0, none⟩ = some (.int .u64 g)) => turned_open (cap := cap) hh sec (by have := (ok_n HK.out HX.out.1).2; omega) i hi g (w.heap.size + 1) hG hc)
    clear e1 e2 e3 h3
    generalize latR xs = a at *
    go_enter Tryz.func142, Tryz.ntmps142
    go_wp2_with (first
      | (go_at_call 81; refine HC.out.mono ?_; rintro e w1 ⟨rfl, hb1⟩; have HV1 := Lib.hid (HV0.out.next hb1); obtain ⟨q0, q1, q2, q3, q4, f3, f4⟩ := HV1.out.cells; clear hb1)
      | (go_at_call 131; refine (HL.out _ (row_now HX.out HV1.out.1)).mono ?_; rintro e w2 ⟨rfl, hb2⟩; have HV2 := Lib.hid ((HV1.out.next hb2).alloc (.cells #[.int .i64 st, .int .u64 lg, .int .i64 u] 128)); obtain ⟨r0, r1, r2, r3, r4, f5, f6⟩ := HV2.out.cells; clear hb2)
      | (go_at_call 100; refine (HN.out _ (row_now HX.out HV2.out.1)).mono ?_; rintro e w3 ⟨rfl, hb3⟩; have HV3 := Lib.hid (HV2.out.next hb3); obtain ⟨s0, s1, s2, s3, s4, f7, f8⟩ := HV3.out.cells; clear hb3)
      | (go_at_call 122; refine (HT.out _ (row_now HX.out HV3.out.1) HV3.out.2.2.1.lt s2).mono ?_; rintro e w4 ⟨⟨A', cap', rfl, hown⟩, hb4⟩; have HV4 := Lib.hid (HV3.out.next hb4); obtain ⟨t0, t1, t2, t3, t4, f9, f0⟩ := HV4.out.cells; have HOW := Lib.hid hown; clear hb4 hown)
      | (with_reducible refine halt_end ?_))
    have hlt := HV3.out.lt
    have hown := ((HOW.out.far (p := ⟨w.heap.size + 1 + 1, 0, none⟩) hlt (.int .i64 sec)).far (p := ⟨w.heap.size + 1 + 1, 1, none⟩) hlt (.slice A' n cap')).base HV3.out.1.size
    rw [← HXX.out] at hown
    refine Halt.ret (results_row3 (p := 4) (u := 5) (v := 6) rfl _ _ (w.heap.size + 1 + 1) 35 #[.int .i64 sec, .slice A' n cap'] _ rfl (HV4.out.res sec A' n cap') Tryz.underlying35 rfl size_ring) rfl ⟨.inl ⟨HE.out, _, ?_, ⟨A', n, cap', rfl, hown⟩⟩, HV4.out.below _ _⟩
    rw [HI.out]
    rfl
end Go.Proofs.YtodcohkblgjfeaaGreat

namespace Go.Proofs.YtodcohkblgjfeaaGreat
set_option maxRecDepth 100000
open Go.RowKit
set_option linter.unusedVariables false
set_option linter.unusedSimpArgs false
def TurnT (w : World) (sec : Int) (E : Int) (ys : List Seg) (e : Ending) (w' : World) : Prop :=
  (E = 0 ∧ (∃ v, e = .returned (.tuple #[v, .int .i64 0]) ∧ RingO w' w.heap.size v sec ys) ∨
   E ≠ 0 ∧ e = .returned (.tuple #[ringV 0 none 0 0, .int .i64 E])) ∧ Below w.heap.size w w'
theorem TurnT.no {w w' : World} {sec E : Int} {ys : List Seg} (h0 : E ≠ 0) (hb : Below w.heap.size w w') : TurnT w sec E ys (.returned (.tuple #[ringV 0 none 0 0, .int .i64 E])) w' := ⟨.inr ⟨h0, rfl⟩, hb⟩
theorem seal_yes {sec : Int} {xs : List Seg} (h : sealE sec xs = 0) : OkR sec xs ∧ ¬ opnR xs < 0 := by
  unfold sealE at h
  by_cases hk : OkR sec xs
  · rw [if_neg (fun k => k hk)] at h
    by_cases h1 : opnR xs < 0
    · rw [if_pos h1] at h; omega
    · exact ⟨hk, h1⟩
  · rw [if_pos hk] at h; omega
theorem use_seal {sec : Int} {xs : List Seg} {n : Int} (h : sealE sec xs ≠ 0) : useE sec xs n = sealE sec xs := by
  unfold useE sealE at *
  by_cases hk : OkR sec xs
  · by_cases h1 : opnR xs < 0
    · simp [hk, h1]
    · simp [hk, h1] at h
  · simp [hk]
theorem use_arg {sec : Int} {xs : List Seg} {n : Int} (h : sealE sec xs = 0) (h2 : n < 0) : useE sec xs n = 2 := by
  obtain ⟨hk, h1⟩ := seal_yes h
  unfold useE; rw [if_neg (fun k => k hk), if_neg h1, if_pos h2]
theorem use_full {sec : Int} {xs : List Seg} {n : Int} (h : sealE sec xs = 0) (h2 : ¬ n < 0) (h3 : leftR sec xs < n) : useE sec xs n = 6 := by
  obtain ⟨hk, h1⟩ := seal_yes h
  unfold useE; rw [if_neg (fun k => k hk), if_neg h1, if_neg h2, if_pos h3]
theorem use_go {sec : Int} {xs : List Seg} {n : Int} (h : sealE sec xs = 0) (h2 : ¬ n < 0) (h3 : ¬ leftR sec xs < n) : useE sec xs n = 0 := by
  obtain ⟨hk, h1⟩ := seal_yes h
  unfold useE; rw [if_neg (fun k => k hk), if_neg h1, if_neg h2, if_neg h3]
theorem opn_nat {sec : Int} {xs : List Seg} (h : OkR sec xs) (h1 : ¬ opnR xs < 0) : ∃ i : Nat, i < xs.length ∧ opnR xs = i ∧ stG xs i = 1 := by
  rcases opn_or h with ⟨e, _⟩ | ⟨i, hi, e, _, hs⟩
  · omega
  · exact ⟨i, hi, e, hs⟩
theorem used_bound {sec : Int} {xs : List Seg} (h : OkR sec xs) {i : Nat} (hi : i < xs.length) : 0 ≤ usedG xs i ∧ usedG xs i ≤ 64 ∧ 24 ≤ sec ∧ sec ≤ 64 := by
  have h1 := h.1
  unfold SizedR at h1
  have h2 := may_at h.2.1 hi
  unfold MayG at h2
  split at h2
  · simp only [usedG]; omega
  · simp only [usedG]; omega
set_option maxRecDepth 100000 in
set_option maxHeartbeats 4000000 in
theorem use_any {w : World} {A : Option Addr} {n cap : Nat} {xs : List Seg} (h : RowZ w (· < w.heap.size) A n xs) (sec v : Int) :
    Calls Tryz.prog 103 #[ringV sec A n cap, .int .i64 v] w fun e w' => TurnT w sec (useE sec xs v) (useX xs v) e w' := by
  have HX := Lib.hid h
  have HV0 := Lib.hid (OV.start w sec A n cap 3 (.int .i64 v))
  have HC := Lib.hid (working_any (cap := cap) (row_now h HV0.out.1) sec)
  clear h
  by_cases hs : sealE sec xs = 0
  case neg =>
    rw [use_seal hs]
    have d : (sealE sec xs != 0) = true := by simpa using hs
    have HS := Lib.hid hs
    clear hs
    generalize sealE sec xs = se at *
    generalize openedV sec xs = ov at *
    go_enter Tryz.func103, Tryz.ntmps103
    go_wp2_with (first
      | (go_at_call 145; refine HC.out.mono ?_; rintro e w1 ⟨rfl, hb1⟩; have HV1 := Lib.hid (HV0.out.next hb1); obtain ⟨q0, q1, q2, q3, q4, f3, f4⟩ := HV1.out.cells; clear hb1)
      | (with_reducible refine halt_end ?_))
    exact Halt.ret (results_row2 (p := 4) (u := 5) rfl _ _ (w.heap.size + 1 + 1) 35 #[.int .i64 0, .slice none 0 0] _ rfl (HV1.out.res 0 none 0 0) Tryz.underlying35 rfl size_ring) rfl (TurnT.no HS.out (HV1.out.below _ _))
  obtain ⟨hk, ho⟩ := seal_yes hs
  obtain ⟨i, hi, hio, hst⟩ := opn_nat hk ho
  have hov : openedV sec xs = i := by rw [(opened_yes hk ho).2, hio]
  rw [hs, hov] at HC
  have HK := Lib.hid hk
  have HSE := Lib.hid hs
  have HIO := Lib.hid hio
  have HST := Lib.hid hst
  have hin : i < n := by rw [← HX.out.1]; exact hi
  have HI := Lib.hid hi
  clear hk ho hio hst hov hs hi
  by_cases h2 : v < 0
  · have d2 : decide (v < 0) = true := decide_eq_true h2
    rw [use_arg HSE.out h2]
    go_enter Tryz.func103, Tryz.ntmps103
    go_wp2_with (first
      | (go_at_call 145; refine HC.out.mono ?_; rintro e w1 ⟨rfl, hb1⟩; have HV1 := Lib.hid (HV0.out.next hb1); obtain ⟨q0, q1, q2, q3, q4, f3, f4⟩ := HV1.out.cells; clear hb1)
      | (with_reducible refine halt_end ?_))
    exact Halt.ret (results_row2 (p := 4) (u := 5) rfl _ _ (w.heap.size + 1 + 1) 35 #[.int .i64 0, .slice none 0 0] _ rfl (HV1.out.res 0 none 0 0) Tryz.underlying35 rfl size_ring) rfl (TurnT.no (by decide) (HV1.out.below _ _))
  have d2 : decide (v < 0) = false := decide_eq_false h2
  have HLE := Lib.hid (show leftW sec xs = leftR sec xs from if_pos HK.out)
  have HLF := Lib.hid (fun (W : World) (hh : RowZ W (· < W.heap.size) A n xs) => left_ring (cap := cap) hh sec)
  rw [HLE.out] at HLF
  have HG := Lib.hid (fun h3 => use_full (n := v) HSE.out h2 h3)
  have HGO := Lib.hid (fun h3 => use_go (n := v) HSE.out h2 h3)
  obtain ⟨lr, hlr⟩ : ∃ lr, leftR sec xs = lr := ⟨_, rfl⟩
  have HLR := Lib.hid hlr
  rw [hlr] at HLF HG HGO
  clear hlr HLE
  obtain ⟨E, hE⟩ : ∃ E, useE sec xs v = E := ⟨_, rfl⟩
  obtain ⟨Y, hY⟩ : ∃ Y, useX xs v = Y := ⟨_, rfl⟩
  rw [hE] at HG HGO
  rw [hE, hY]
  have HY := Lib.hid hY
  clear hE hY
  obtain ⟨bb, hbb⟩ : ∃ bb, decide (lr < v) = bb := ⟨_, rfl⟩
  go_enter Tryz.func103, Tryz.ntmps103
  go_wp2_with (first
    | (go_at_call 145; refine HC.out.mono ?_; rintro e w1 ⟨rfl, hb1⟩; have HV1 := Lib.hid (HV0.out.next hb1); obtain ⟨q0, q1, q2, q3, q4, f3, f4⟩ := HV1.out.cells; clear hb1))
  refine calm_region (fun W => OV w sec A n cap 3 (.int .i64 v) W) (by kernel_rfl) (by kernel_rfl) (HV1.out.next (Below.refl _ _).drew) ?_
  refine calm_load_cell (.tmp 3) 3 rfl rfl ⟨w.heap.size + 1, 0, none⟩ rfl (.int .i64 v) (fun W h => by simp [go_sem, h, Tryz.underlying3]) (fun W h => h.cells.2.2.1) ?_
  simp only [Act.put, List.setIfInBounds_toArray, List.set_cons_zero, List.set_cons_succ]
  refine calm_load_row (.tmp 2) 35 rfl rfl w.heap.size rfl 35 [.int .i64 sec, .slice A n cap] _ Tryz.underlying35 rfl size_ring (fun W h => h.2.1) ?_
  simp only [Act.put, List.setIfInBounds_toArray, List.set_cons_zero, List.set_cons_succ]
  refine calm_call 48 #[.tmp 25] #[35] rfl rfl Tryz.func48 rfl rfl (.int .i64 lr) [ringV sec A n cap] rfl (fun W h => (HLF.out W (row_now HX.out h.1)).mono fun e w' ⟨h1, h2⟩ => ⟨h1, h.next h2⟩) ?_
  simp only [Act.put, List.setIfInBounds_toArray, List.set_cons_zero, List.set_cons_succ]
  refine calm_by (.bool bb) rfl (fun W _ => by unfold execOp; simp [go_sem, Tryz.underlying3, hbb]) ?_
  simp only [Act.put, List.setIfInBounds_toArray, List.set_cons_zero, List.set_cons_succ]
  go_big_quiet_step (fail)
  refine wpQuiet_nil ?_
  intro w5 hw5
  have HV5 := Lib.hid hw5
  obtain ⟨r0, r1, r2, r3, r4, f5, f6⟩ := HV5.out.cells
  clear hw5 q0 q1 q2 q3 q4 f3 f4
  by_cases h3 : lr < v
  · obtain rfl : bb = true := by rw [← hbb]; exact decide_eq_true h3
    obtain rfl := HG.out h3
    go_wp2_with (with_reducible refine halt_end ?_)
    exact Halt.ret (results_row2 (p := 4) (u := 5) rfl _ _ (w.heap.size + 1 + 1) 35 #[.int .i64 0, .slice none 0 0] _ rfl (HV5.out.res 0 none 0 0) Tryz.underlying35 rfl size_ring) rfl (TurnT.no (by decide) (HV5.out.below _ _))
  · obtain rfl : bb = false := by rw [← hbb]; exact decide_eq_false h3
    obtain rfl := HGO.out (by omega)
    have hub := used_bound HK.out HI.out
    have hul : leftR sec xs = sec - usedG xs i := by unfold leftR; rw [HIO.out, if_pos (by omega), Int.toNat_natCast]
    have hw : wrap64 (usedG xs i + v) = usedG xs i + v := by have := HLR.out; unfold wrap64; omega
    have HXX := Lib.hid (show Y = xs.set i (stG xs i, genG xs i, wrap64 (usedG xs i + v)) by rw [← HY.out]; unfold useX; rw [HIO.out, Int.toNat_natCast, hw])
    have HT := Lib.hid (fun (W : World) (hh : RowZ W (· < W.heap.size) A n xs) (hG : w.heap.size + 1 < W.heap.size) (hc : W.cell? ⟨w.heap.size + 1, 0, none⟩ = some (.int .i64 v)) => turned_use (cap := cap) hh sec (by have := (ok_n HK.out HX.out.1).2; omega) i hin v (w.heap.size + 1) hG hc)
    clear hub hul hw
    go_wp2_with (first
      | (go_at_call 122; refine (HT.out _ (row_now HX.out HV5.out.1) HV5.out.2.2.1.lt r2).mono ?_; rintro e w6 ⟨⟨A', cap', rfl, hown⟩, hb6⟩; have HV6 := Lib.hid (HV5.out.next hb6); obtain ⟨t0, t1, t2, t3, t4, f9, f0⟩ := HV6.out.cells; have HOW := Lib.hid hown; clear hb6 hown)
      | (with_reducible refine halt_end ?_))
    have hlt := HV5.out.lt
    have hown := ((HOW.out.far (p := ⟨w.heap.size + 1 + 1, 0, none⟩) hlt (.int .i64 sec)).far (p := ⟨w.heap.size + 1 + 1, 1, none⟩) hlt (.slice A' n cap')).base HV5.out.1.size
    rw [← HXX.out] at hown
    exact Halt.ret (results_row2 (p := 4) (u := 5) rfl _ _ (w.heap.size + 1 + 1) 35 #[.int .i64 sec, .slice A' n cap'] _ rfl (HV6.out.res sec A' n cap') Tryz.underlying35 rfl size_ring) rfl ⟨.inl ⟨rfl, _, rfl, ⟨A', n, cap', rfl, hown⟩⟩, HV6.out.below _ _⟩
end Go.Proofs.YtodcohkblgjfeaaGreat
