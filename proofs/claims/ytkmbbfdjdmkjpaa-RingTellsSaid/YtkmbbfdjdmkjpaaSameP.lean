/- Package ring: Same. -/
import Derived.Test.YtkmbbfdjdmkjpaaNewR
namespace Go.Proofs.Ytkmbbfdjdmkjpaa
open Go.RowKit
set_option linter.unusedVariables false
set_option linter.unusedSimpArgs false

set_option maxRecDepth 100000 in
set_option maxHeartbeats 2000000 in
theorem same_ring {w : World} {A A' : Option Addr} {n n' cap cap' : Nat} {xs ys : List Seg} (h : RowZ w (· < w.heap.size) A n xs) (h' : RowZ w (· < w.heap.size) A' n' ys) (sec sec' : Int) (hn : n ≤ 1000) :
    Calls Try.prog 63 #[ringV sec A n cap, ringV sec' A' n' cap'] w fun e w' => e = .returned (.bool (decide (sec = sec' ∧ xs = ys))) ∧ Below w.heap.size w w' := by
  have HX := Lib.hid h
  have HY := Lib.hid h'
  clear h h'
  by_cases hs : sec = sec'
  case neg =>
    rw [decide_eq_false (fun h => hs h.1)]
    have d : (sec != sec') = true := by simpa using hs
    go_enter Try.func63, Try.ntmps63
    go_wp2
    go_ret
    exact ⟨rfl, ((Below.refl _ w).alloc (Nat.le_refl _) _).alloc (by simp) _⟩
  subst hs
  by_cases hl : n = n'
  case neg =>
    have hne : xs ≠ ys := fun h => hl (by rw [← HX.out.1, ← HY.out.1, h])
    rw [decide_eq_false (fun h => hne h.2)]
    have d : ((n : Int) != (n' : Int)) = true := by simp; omega
    have d2 : (sec != sec) = false := by simp
    go_enter Try.func63, Try.ntmps63
    go_wp2
    go_ret
    exact ⟨rfl, ((Below.refl _ w).alloc (Nat.le_refl _) _).alloc (by simp) _⟩
  subst hl
  have d2 : (sec != sec) = false := by simp
  have d3 : ((n : Int) != (n : Int)) = false := by simp
  obtain ⟨R, hR⟩ : ∃ R, decide (sec = sec ∧ xs = ys) = R := ⟨_, rfl⟩
  have HR := Lib.hid hR
  rw [hR]
  clear hR
  go_enter Try.func63, Try.ntmps63
  go_wp2
  go_loopw [24] (fun i wr => ∃ j : Nat, j ≤ n ∧ i = .int .i64 j ∧ Blk wr w.heap.size 66 #[.int .i64 sec, .slice A n cap] ∧ Blk wr (w.heap.size + 1) 66 #[.int .i64 sec, .slice A' n cap'] ∧ Below w.heap.size w wr ∧ ∀ k, k < j → xs.getD k seg0 = ys.getD k seg0) (fun i _ => n - (intOf i).toNat)
  case atStart => exact ⟨0, Nat.zero_le _, rfl, (Blk.new w _ _).alloc _, blk_new2 w _ _ _, ((Below.refl _ w).alloc (Nat.le_refl _) _).alloc (by simp) _, fun k h => absurd h (by omega)⟩
  case round =>
    obtain ⟨j, hj, rfl, hb, hb2, hbel, heq⟩ := hrel
    have HB := Lib.hid hb
    have HB2 := Lib.hid hb2
    have HBEL := Lib.hid hbel
    have HEQ := Lib.hid heq
    obtain ⟨k0, k1⟩ := ring_cells hb
    obtain ⟨q0, q1⟩ := ring_cells hb2
    clear hb hb2 hbel heq
    by_cases hlt : j < n
    · obtain ⟨b, off, rfl, hbb, hcc⟩ := seg_get (HX.out.below HBEL.out (fun b h => h)) hlt
      obtain ⟨b', off', rfl, hbb', hcc'⟩ := seg_get (HY.out.below HBEL.out (fun b h => h)) hlt
      obtain ⟨c0, c1, c2⟩ := hcc j hlt
      obtain ⟨e0, e1, e2⟩ := hcc' j hlt
      have hlx : j < xs.length := by rw [HX.out.1]; exact hlt
      have hly : j < ys.length := by rw [HY.out.1]; exact hlt
      have hq := neq_seg (stG xs j) (genG xs j) (usedG xs j) (stG ys j) (genG ys j) (usedG ys j)
      have hxe : (stG xs j, genG xs j, usedG xs j) = xs.getD j seg0 := rfl
      have hye : (stG ys j, genG ys j, usedG ys j) = ys.getD j seg0 := rfl
      rw [hxe, hye] at hq
      clear hcc hcc' hxe hye
      generalize stG xs j = st at *
      generalize genG xs j = g at *
      generalize usedG xs j = u at *
      generalize stG ys j = st' at *
      generalize genG ys j = g' at *
      generalize usedG ys j = u' at *
      have q1a : (wr.alloc (.cells #[.int .i64 st, .int .u64 g, .int .i64 u] 78)).cell? ⟨w.heap.size + 1, 1, none⟩ = some (.slice (some ⟨b', off', none⟩) n cap') := (HB2.out.alloc _).cell 1
      have hin := (Below.refl wr.heap.size wr).alloc (Nat.le_refl _) (.cells #[.int .i64 st, .int .u64 g, .int .i64 u] 78)
      have hbw : b' < wr.heap.size := Nat.lt_of_lt_of_le hbb' HBEL.out.size
      have e0a : (wr.alloc (.cells #[.int .i64 st, .int .u64 g, .int .i64 u] 78)).cell? ⟨b', off' + j * 3, none⟩ = some (.int .i64 st') := (Below.cell hin (p := ⟨b', _, none⟩) hbw).trans e0
      have e1a : (wr.alloc (.cells #[.int .i64 st, .int .u64 g, .int .i64 u] 78)).cell? ⟨b', off' + j * 3 + 1, none⟩ = some (.int .u64 g') := (Below.cell hin (p := ⟨b', _, none⟩) hbw).trans e1
      have e2a : (wr.alloc (.cells #[.int .i64 st, .int .u64 g, .int .i64 u] 78)).cell? ⟨b', off' + j * 3 + 2, none⟩ = some (.int .i64 u') := (Below.cell hin (p := ⟨b', _, none⟩) hbw).trans e2
      clear e0 e1 e2 hin
      by_cases hee : xs.getD j seg0 = ys.getD j seg0
      · rw [decide_eq_true hee] at hq
        have HEE := Lib.hid hee
        clear hee
        go_wp2
        go_quiet (fail)
        go_wp2
        go_roundw
        case rel => exact ⟨j + 1, by omega, by simp, (HB.out.alloc _).drewN _, (HB2.out.alloc _).drewN _, below_drewN (HBEL.out.alloc HBEL.out.size _) _, fun k hk => by
          by_cases hkj : k < j
          · exact HEQ.out k hkj
          · obtain rfl : k = j := by omega
            exact HEE.out⟩
        case measure => simp [intOf]; omega
      · have HNE := Lib.hid (show R = false by rw [← HR.out]; exact decide_eq_false (fun h => hee (by rw [h.2])))
        rw [decide_eq_false hee] at hq
        clear hee
        go_wp2
        go_quiet (fail)
        go_wp2
        go_ret
        exact ⟨by rw [HNE.out]; rfl, below_drewN (HBEL.out.alloc HBEL.out.size _) _⟩
    · obtain rfl : j = n := by omega
      have HTR := Lib.hid (show R = true by
        rw [← HR.out]
        refine decide_eq_true ⟨by trivial, ?_⟩
        refine List.ext_getElem? fun k => ?_
        by_cases hk : k < j
        · have h1 := HEQ.out k hk
          have lx : k < xs.length := by rw [HX.out.1]; exact hk
          have ly : k < ys.length := by rw [HY.out.1]; exact hk
          simp only [List.getD, List.getElem?_eq_getElem lx, List.getElem?_eq_getElem ly, Option.getD_some] at h1
          rw [List.getElem?_eq_getElem lx, List.getElem?_eq_getElem ly, h1]
        · rw [List.getElem?_eq_none (by rw [HX.out.1]; omega), List.getElem?_eq_none (by rw [HY.out.1]; omega)])
      go_wp2
      go_ret
      exact ⟨by rw [HTR.out]; rfl, HBEL.out⟩

end Go.Proofs.Ytkmbbfdjdmkjpaa
