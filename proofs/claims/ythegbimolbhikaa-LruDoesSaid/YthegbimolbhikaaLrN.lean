/- Lists in memory: New, and nil ones. -/
import Derived.Test.YthegbimolbhikaaLrD
import Derived.Test.YthegbimolbhikaaS8Segs
namespace Go.Proofs.Ythegbimolbhikaa
open Go.RowKit
attribute [local go_sem] Oper.semAt_some
set_option linter.unusedVariables false
set_option linter.unusedSimpArgs false
set_option maxRecDepth 100000

def hd0 (n L : Int) : List Value := [.int .i64 n, .int .i64 L] ++ (List.replicate 64 (.int .i64 0) ++ [.slice none 0 0])
theorem hd0_info : (Try.prog.info? 64).bind (·.zero) = some (.agg (hd0 0 0).toArray) := by kernel_rfl
theorem hd0_run (w : World) : (zeroValue 64).run Try.prog w = .ok (.agg (hd0 0 0).toArray) w := by
  have h := hd0_info
  cases hi : Try.prog.info? 64 with
  | none => rw [hi] at h; cases h
  | some i =>
    rw [hi] at h
    have h2 : i.zero = some (.agg (hd0 0 0).toArray) := h
    simp [zeroValue, typeInfo, hi, h2]
theorem hd0_set (n L p k : Nat) : ((hd0 n L).toArray).setIfInBounds 66 (.slice (some ⟨p, 0, none⟩) k k) = hdC n L (fun _ => 0) p k := by
  apply Array.ext
  · simp [hdC, hd0]
  · intro j h1 h2
    have hj : j < 67 := by simpa [hdC] using h2
    rw [Array.getElem_setIfInBounds (by simpa [hd0] using hj)]
    simp only [hdC, Array.getElem_map, Array.getElem_range]
    by_cases e : 66 = j
    · subst e; rfl
    · rw [if_neg e]
      by_cases e0 : j = 0
      · subst e0; rfl
      · by_cases e1 : j = 1
        · subst e1; rfl
        · rw [if_neg e0, if_neg e1, if_neg (fun h => e h.symm)]
          have : (hd0 n L)[j]? = some (.int .i64 0) := by
            unfold hd0
            rw [List.getElem?_append_right (by simp; omega), List.getElem?_append_left (by simp; omega), List.getElem?_replicate, if_pos (by simp; omega)]
          simp only [List.getElem_toArray]
          rw [List.getElem?_eq_getElem (by simpa [hd0] using hj)] at this
          injection this
theorem info_pc : (Try.prog.info? 75).map (fun i => (i.zero, i.size, i.bytes)) = some (some (.agg (List.replicate 192 (Value.int .i64 0)).toArray), 192, 1536) := by kernel_rfl
theorem made_pc (k : Nat) : madeCells (List.replicate 192 (Value.int .i64 0)).toArray (k * 192) = pcC (fun _ => 0) (fun _ => 0) (fun _ => 0) k := by
  apply Array.ext
  · simp [size_madeCells, pcC]
  · intro i h1 h2
    have hi : i < k * 192 := by simpa [size_madeCells] using h1
    have e0 : pcN (fun _ => 0) (fun _ => 0) (fun _ => 0) i = 0 := by unfold pcN; split <;> (try split) <;> rfl
    have hm : i % (List.replicate 192 (Value.int .i64 0)).toArray.size < (List.replicate 192 (Value.int .i64 0)).toArray.size := Nat.mod_lt _ (by rw [List.size_toArray, List.length_replicate]; omega)
    simp only [madeCells, pcC, Array.getElem_map, Array.getElem_range, e0]
    rw [getElem!_pos (List.replicate 192 (Value.int .i64 0)).toArray (i % (List.replicate 192 (Value.int .i64 0)).toArray.size) hm, List.getElem_toArray, List.getElem_replicate]
    rfl
theorem run_make_pc (k : Nat) (hk : k ≤ 2000) (w : World) : (Instr.makeSlice 62 (.int .i64 k) (.int .i64 k)).run Try.prog w = .ok (.slice (some ⟨w.heap.size, 0, none⟩) k k) (w.alloc (.cells (pcC (fun _ => 0) (fun _ => 0) (fun _ => 0) k) 75)) := by
  obtain ⟨i0, hi, hz0, hz1, hz2⟩ := info_parts info_pc
  have hr := run_make (P := Try.prog) w 62 75 i0 (.agg (List.replicate 192 (Value.int .i64 0)).toArray) Try.underlying62 hi hz0 .i64 .i64 k k (by omega) (by omega) (by rw [hz2]; omega) (by omega)
  simp only [Int.toNat_natCast, hz1, Value.cells] at hr
  rw [made_pc] at hr
  exact hr

theorem new_bad (n L : Int) (h : n < 1 ∨ 65536 < n ∨ L < 1 ∨ 64 < L) (w : World) : Calls Try.prog 9 #[.int .i64 n, .int .i64 L] w fun e w' => e = .returned (.tuple #[.pointer none, .int .i64 2]) ∧ w' = w := by
  go_enter Try.func9, Try.ntmps9
  by_cases h1 : n < 1
  · go_wp2
    (first | go_ret | go_ret2)
    exact ⟨rfl, rfl⟩
  · by_cases h2 : 65536 < n
    · go_wp2
      (first | go_ret | go_ret2)
      exact ⟨rfl, rfl⟩
    · by_cases h3 : L < 1
      · go_wp2
        (first | go_ret | go_ret2)
        exact ⟨rfl, rfl⟩
      · have h4 : 64 < L := by omega
        go_wp2
        (first | go_ret | go_ret2)
        exact ⟨rfl, rfl⟩

/-- While the circles are laid: i of them are. -/
def NewC (A B : Nat → Nat) (n i : Nat) : Prop := ∀ j, j < i → A (n + j) = n + j ∧ B (n + j) = n + j
theorem NewC.next {A B : Nat → Nat} {n i : Nat} (h : NewC A B n i) : NewC (updN A (n + i) (n + i)) (updN B (n + i) (n + i)) n (i + 1) := by
  intro j hj
  by_cases e : j = i
  · subst e; exact ⟨updN_same _ _ _, updN_same _ _ _⟩
  · rw [updN_far _ _ (by omega), updN_far _ _ (by omega)]
    exact h j (by omega)
theorem NewC.rep {A B : Nat → Nat} {n L : Nat} (h : NewC A B n L) : Rep n A B (fun _ => 0) (fun _ => 0) (List.replicate L []) := by
  have hg : ∀ i, (List.replicate L ([] : List Nat)).getD i [] = [] := fun i => by
    simp only [List.getD, List.getElem?_replicate]
    split <;> rfl
  refine ⟨fun i hi => ?_, fun i => ?_, fun i x hx => ?_, fun i x hx => ?_, fun x hx hc => absurd rfl hc, fun i hi => ?_⟩
  · rw [hg]
    obtain ⟨h1, h2⟩ := h i (by simpa using hi)
    exact ⟨h2, h1, trivial⟩
  · rw [hg]; exact List.nodup_nil
  · rw [hg] at hx; cases hx
  · rw [hg] at hx; cases hx
  · rw [hg]; rfl
def NewL (w : World) (n L : Nat) (e : Ending) (w' : World) : Prop := ∃ x p, e = .returned (.tuple #[.pointer (some ⟨x, 0, none⟩), .int .i64 0]) ∧ LrV w' x p n (List.replicate L []) ∧ Below w.heap.size w w' ∧ w.heap.size ≤ x ∧ w.heap.size ≤ p
set_option maxHeartbeats 2000000 in
theorem new_ok (n L : Nat) (h1 : 1 ≤ n) (h2 : n ≤ 65536) (h3 : 1 ≤ L) (h4 : L ≤ 64) (w : World) : Calls Try.prog 9 #[.int .i64 n, .int .i64 L] w fun e w' => NewL w n L e w' := by
  have hb := hd0_run
  have hst : ((hd0 0 0).toArray.setIfInBounds 0 (.int .i64 n)).setIfInBounds 1 (.int .i64 L) = (hd0 n L).toArray := rfl
  obtain ⟨cz, hcz⟩ : ∃ cz, cz = (hd0 0 0).toArray := ⟨_, rfl⟩
  have hne0 : (cz = #[]) = False := by rw [hcz]; exact eq_false (fun e => by have := congrArg Array.size e; simp [hd0] at this)
  have hne : (cz.size < 2) = False := by rw [hcz]; exact eq_false (by simp [hd0])
  rw [← hcz] at hb hst
  clear hcz
  have q1 : ((n : Int) < 1) = False := by simp; omega
  have q2 : ((L : Int) < 1) = False := by simp; omega
  have q3 : (65536 < (n : Int)) = False := by simp; omega
  have q4 : (64 < (L : Int)) = False := by simp; omega
  have hs0 := hd0_set n L (w.heap.size + 1) ((n + L + 63) / 64)
  have hc66 : (hd0 n L).toArray[66]? = some (.slice none 0 0) := rfl
  obtain ⟨cs, hcs⟩ : ∃ cs, cs = (hd0 n L).toArray := ⟨_, rfl⟩
  rw [← hcs] at hst hs0 hc66
  clear hcs
  obtain ⟨k, hk⟩ : ∃ k, k = (n + L + 63) / 64 := ⟨_, rfl⟩
  have hk2 : k ≤ 2000 := by omega
  have HK := Lib.hid hk
  have hmk := fun u : World => run_make_pc k hk2 u
  rw [← hk] at hs0
  have q5 : ((n : Int) + L + 64 - 1).tdiv 64 = (k : Int) := by rw [Int.tdiv_eq_ediv_of_nonneg (by omega)]; omega
  clear hk
  go_enter Try.func9, Try.ntmps9
  go_wp2_with fail
  have hX0 : LrM ((w.alloc (.cells (hdC n L (fun _ => 0) (w.heap.size + 1) k) 64)).alloc (.cells (pcC (fun _ => 0) (fun _ => 0) (fun _ => 0) k) 75)) w.heap.size (w.heap.size + 1) n L (fun _ => 0) (fun _ => 0) (fun _ => 0) (fun _ => 0) :=
    ⟨h1, h2, h3, h4, by rw [← HK.out]; exact (Blk.new w _ _).alloc _, by rw [← HK.out]; exact blk_new2 w _ _ _⟩
  have hB0 : Below w.heap.size w ((w.alloc (.cells (hdC n L (fun _ => 0) (w.heap.size + 1) k) 64)).alloc (.cells (pcC (fun _ => 0) (fun _ => 0) (fun _ => 0) k) 75)) :=
    ((Below.refl _ w).alloc (Nat.le_refl _) _).alloc (by simp) _
  have HX := Lib.hid hX0
  have HB := Lib.hid hB0
  clear hX0 hB0 hs0
  generalize (w.alloc (.cells (hdC n L (fun _ => 0) (w.heap.size + 1) k) 64)).alloc (.cells (pcC (fun _ => 0) (fun _ => 0) (fun _ => 0) k) 75) = w1 at *
  clear hst hb hne hne0 hc66 hmk
  go_loopw [37] (fun i wr => ∃ (j : Nat) (A B : Nat → Nat), i = .int .i64 j ∧ j ≤ L ∧ LrM wr w.heap.size (w.heap.size + 1) n L A B (fun _ => 0) (fun _ => 0) ∧ NewC A B n j ∧ Below w.heap.size w wr)
    (fun i _ => L - (intOf i).toNat)
  case atStart => exact ⟨0, _, _, rfl, Nat.zero_le _, HX.out, fun j hj => absurd hj (by omega), HB.out⟩
  case round =>
    obtain ⟨j, A, B, rfl, hj, hX, hN, hB⟩ := hrel
    have HXR := Lib.hid hX
    have HNR := Lib.hid hN
    have HBR := Lib.hid hB
    clear hX hN hB
    by_cases hjn : j < L
    · have HE := Lib.hid (end_any HXR.out j hjn)
      have HJ := Lib.hid (join_any HXR.out (n + j) (n + j) (by omega) (by omega))
      have q6 : ((j : Int) < L) := by omega
      obtain ⟨en, hen⟩ : ∃ en, en = n + j := ⟨_, rfl⟩
      have HN2 := Lib.hid HNR.out.next
      rw [← hen] at HE HJ HN2
      clear hen
      go_wp2_with (first | (go_at_call 28; refine HE.out.mono ?_; rintro e w2 ⟨rfl, rfl⟩) | (go_at_call 27; refine HJ.out.mono ?_; rintro e w3 ⟨rfl, hx2, hk2⟩; have HX2 := Lib.hid hx2; have HK2 := Lib.hid hk2; clear hx2 hk2))
      go_roundw
      case rel => exact ⟨j + 1, _, _, by simp, by omega, HX2.out, HN2.out, HBR.out.trans (HK2.out.to_below (fun b hb => ⟨by omega, by omega⟩))⟩
      case measure => show L - (Int.toNat ((j : Int) + 1)) < L - (Int.toNat (j : Int)); omega
    · obtain rfl : j = L := by omega
      go_wp2_with fail
      (first | go_ret | go_ret2)
      exact ⟨w.heap.size, w.heap.size + 1, rfl, ⟨A, B, _, _, by rw [List.length_replicate]; exact HXR.out, HNR.out.rep⟩, HBR.out, Nat.le_refl _, Nat.le_succ _⟩

/-! Nil ones. -/
theorem some_nil (w : World) (i : Int) : Calls Try.prog 44 #[.pointer none, .int .i64 i] w fun e w' => e = .returned (.int .i64 1) ∧ w' = w := by
  go_enter Try.func44, Try.ntmps44
  go_wp2
  (first | go_ret | go_ret2)
  exact ⟨rfl, rfl⟩
theorem oldest_nil (w : World) (i : Int) : Calls Try.prog 23 #[.pointer none, .int .i64 i] w fun e w' => e = .returned (.tuple #[.int .i64 0, .int .i64 1]) ∧ w' = w := by
  have HS := Lib.hid (some_nil w i)
  go_enter Try.func23, Try.ntmps23
  go_wp2_with (first | (go_at_call 44; refine HS.out.mono ?_; rintro e w2 ⟨rfl, rfl⟩))
  (first | go_ret | go_ret2)
  exact ⟨rfl, rfl⟩
theorem newest_nil (w : World) (i : Int) : Calls Try.prog 24 #[.pointer none, .int .i64 i] w fun e w' => e = .returned (.tuple #[.int .i64 0, .int .i64 1]) ∧ w' = w := by
  have HS := Lib.hid (some_nil w i)
  go_enter Try.func24, Try.ntmps24
  go_wp2_with (first | (go_at_call 44; refine HS.out.mono ?_; rintro e w2 ⟨rfl, rfl⟩))
  (first | go_ret | go_ret2)
  exact ⟨rfl, rfl⟩
theorem where_nil (w : World) (i : Int) : Calls Try.prog 25 #[.pointer none, .int .i64 i] w fun e w' => e = .returned (.tuple #[.int .i64 0, .int .i64 1]) ∧ w' = w := by
  go_enter Try.func25, Try.ntmps25
  go_wp2
  (first | go_ret | go_ret2)
  exact ⟨rfl, rfl⟩
theorem len_lnil (w : World) (i : Int) : Calls Try.prog 21 #[.pointer none, .int .i64 i] w fun e w' => e = .returned (.int .i64 0) ∧ w' = w := by
  have HS := Lib.hid (hasList_nil w i)
  go_enter Try.func21, Try.ntmps21
  go_wp2_with (first | (go_at_call 29; refine HS.out.mono ?_; rintro e w2 ⟨rfl, rfl⟩))
  (first | go_ret | go_ret2)
  exact ⟨rfl, rfl⟩
theorem push_nil (w : World) (i k : Int) : Calls Try.prog 13 #[.pointer none, .int .i64 i, .int .i64 k] w fun e w' => e = .returned (.int .i64 1) ∧ w' = w := by
  go_enter Try.func13, Try.ntmps13
  go_wp2
  (first | go_ret | go_ret2)
  exact ⟨rfl, rfl⟩
theorem touch_nil (w : World) (k : Int) : Calls Try.prog 15 #[.pointer none, .int .i64 k] w fun e w' => e = .returned (.int .i64 1) ∧ w' = w := by
  have HS := Lib.hid (where_nil w k)
  go_enter Try.func15, Try.ntmps15
  go_wp2_with (first | (go_at_call 25; refine HS.out.mono ?_; rintro e w2 ⟨rfl, rfl⟩))
  (first | go_ret | go_ret2)
  exact ⟨rfl, rfl⟩
theorem remove_nil (w : World) (k : Int) : Calls Try.prog 17 #[.pointer none, .int .i64 k] w fun e w' => e = .returned (.int .i64 1) ∧ w' = w := by
  have HS := Lib.hid (where_nil w k)
  go_enter Try.func17, Try.ntmps17
  go_wp2_with (first | (go_at_call 25; refine HS.out.mono ?_; rintro e w2 ⟨rfl, rfl⟩))
  (first | go_ret | go_ret2)
  exact ⟨rfl, rfl⟩
end Go.Proofs.Ythegbimolbhikaa
