/- New: an index without entries. -/
import Derived.Test.YtfgmbkflpdobcaaAdd
namespace Go.Proofs.Ytfgmbkflpdobcaa
open Go.RowKit
attribute [local go_sem] Oper.semAt_some
set_option linter.unusedVariables false
set_option linter.unusedSimpArgs false
set_option maxRecDepth 1000000
def zeroIx (n : Int) : List Value := [.int .i64 n, .int .i64 0] ++ (List.replicate 1025 (.int .u32 0) ++ ((List.replicate 1025 [Value.int .i64 0, Value.int .u64 0, Value.int .i64 0]).flatten ++ List.replicate 4100 (.int .i64 0)))
theorem zero_info : (Try.prog.info? 62).bind (·.zero) = some (.agg (zeroIx 0).toArray) := by kernel_rfl
theorem flat3 (a b d : Value) : ∀ (m j : Nat), j < m * 3 → ((List.replicate m [a, b, d]).flatten)[j]? = [a, b, d][j % 3]?
  | 0, j, h => by omega
  | m + 1, j, h => by
    rw [List.replicate_succ, List.flatten_cons]
    by_cases h3 : j < 3
    · rw [List.getElem?_append_left (by simpa using h3), Nat.mod_eq_of_lt h3]
    · rw [List.getElem?_append_right (by simp; omega), show j - [a, b, d].length = j - 3 from rfl, flat3 a b d m (j - 3) (by omega)]
      rw [show (j - 3) % 3 = j % 3 by omega]
theorem zero_cells (n : Int) : (zeroIx n).toArray = cellsX (upd (fun _ => 0) 0 n) := by
  apply Array.ext'
  apply List.ext_getElem?
  intro i
  have hflat : ((List.replicate 1025 [Value.int .i64 0, Value.int .u64 0, Value.int .i64 0]).flatten).length = 3075 := by
    rw [List.length_flatten, List.map_replicate, List.sum_replicate_nat]; rfl
  by_cases hi : i < 8202
  · have hr : (cellsX (upd (fun _ => 0) 0 n)).toList[i]? = some (.int (kindX i) (upd (fun _ => 0) 0 n i)) := by rw [Array.getElem?_toList]; exact cellsX_get _ hi
    rw [hr]
    show (zeroIx n)[i]? = _
    unfold zeroIx
    by_cases h0 : i < 2
    · rw [List.getElem?_append_left (by simpa using h0), kind_lo h0]
      obtain rfl | rfl : i = 0 ∨ i = 1 := by omega
      · rw [upd_same]; rfl
      · rw [upd_far _ _ (by omega)]; rfl
    · rw [upd_far _ _ (by omega), List.getElem?_append_right (by simp; omega)]
      rw [show i - [Value.int .i64 n, Value.int .i64 0].length = i - 2 from rfl]
      by_cases h1 : i < 1027
      · rw [List.getElem?_append_left (by rw [List.length_replicate]; omega), List.getElem?_replicate, if_pos (by omega)]
        obtain ⟨j, rfl⟩ : ∃ j, i = 2 + j := ⟨i - 2, by omega⟩
        rw [kind_fing (by omega)]
      · rw [List.getElem?_append_right (by rw [List.length_replicate]; omega), List.length_replicate]
        by_cases h2 : i < 4102
        · rw [List.getElem?_append_left (by rw [hflat]; omega), flat3 _ _ _ _ _ (by omega)]
          obtain ⟨j, t, ht, rfl⟩ : ∃ j t, t < 3 ∧ i = 1027 + j * 3 + t := ⟨(i - 1027) / 3, (i - 1027) % 3, by omega, by omega⟩
          rw [show (1027 + j * 3 + t - 2 - 1025) % 3 = t by omega]
          obtain rfl | rfl | rfl : t = 0 ∨ t = 1 ∨ t = 2 := by omega
          · rw [Nat.add_zero, kind_adr0 (by omega)]; rfl
          · rw [kind_adr1 (by omega)]; rfl
          · rw [kind_adr2 (by omega)]; rfl
        · rw [List.getElem?_append_right (by rw [hflat]; omega), hflat, List.getElem?_replicate, if_pos (by omega), kind_hi (by omega)]
  · rw [List.getElem?_eq_none, List.getElem?_eq_none]
    · rw [Array.length_toList, cellsX_size]; omega
    · show (zeroIx n).length ≤ i
      unfold zeroIx
      rw [List.length_append, List.length_append, List.length_append, hflat, List.length_replicate, List.length_replicate]
      simp; omega
theorem zero_run (w : World) : (zeroValue 62).run Try.prog w = .ok (.agg (cellsX (fun _ => 0))) w := by
  have h := zero_info
  rw [zero_cells, show upd (fun _ => (0 : Int)) 0 0 = (fun _ => 0) by funext j; unfold upd; split <;> rfl] at h
  cases hi : Try.prog.info? 62 with
  | none => rw [hi] at h; cases h
  | some i =>
    rw [hi] at h
    have h2 : i.zero = some (.agg (cellsX (fun _ => 0))) := h
    simp [zeroValue, typeInfo, hi, h2]

/-- What holds while the free numbers are given back: n - i of them to go. -/
structure NewI (c : Nat → Int) (n i : Nat) : Prop where
  lk : Lk 4102 c (c 6151) (List.range' (n - i + 1) i)
  rest : ∀ j, (j < 4102 ∨ 5127 ≤ j) → j ≠ 6151 → c j = upd (fun _ => 0) 0 n j
theorem NewI.start (n : Nat) : NewI (upd (fun _ => 0) 0 n) n 0 := ⟨by rw [upd_far _ _ (by omega)]; exact rfl, fun _ _ _ => rfl⟩
theorem NewI.next {c : Nat → Int} {n i : Nat} (h : NewI c n i) (hn : n ≤ 1024) (hi : i < n) : NewI (upd (upd c (4102 + (n - i)) (c 6151)) 6151 ((n - i : Nat) : Int)) n (i + 1) := by
  have hp := Lk.push (b := 4102) (c := c) (k := n - i) (p := 6151) h.lk (by rw [List.mem_range']; rintro ⟨j, hj, e⟩; omega) (by omega) (by omega)
    (fun j hj => by obtain ⟨t, ht, e⟩ := List.mem_range'.1 hj; omega) (by omega)
  refine ⟨?_, fun j h1 h2 => ?_⟩
  · rw [show n - (i + 1) + 1 = n - i by omega, show List.range' (n - i) (i + 1) = (n - i) :: List.range' (n - i + 1) i from rfl]
    exact hp
  · rw [upd_far _ _ h2, upd_far _ _ (by omega)]
    exact h.rest j h1 h2
theorem NewI.done {c : Nat → Int} {n : Nat} (h : NewI c n n) (hn : n ≤ 1024) : RepX c n [] (List.range' 1 n) := by
  have hl := h.lk
  rw [show n - n + 1 = 1 by omega] at hl
  have hz : ∀ j, (j < 4102 ∨ 5127 ≤ j) → j ≠ 6151 → j ≠ 0 → c j = 0 := fun j h1 h2 h3 => by rw [h.rest j h1 h2, upd_far _ _ h3]
  constructor
  · rw [h.rest 0 (by omega) (by omega), upd_same]
  · rw [hz 1 (by omega) (by omega) (by omega)]; rfl
  · exact hn
  · rw [List.nil_append]; exact List.nodup_range'
  · intro k hk
    rw [List.nil_append] at hk
    obtain ⟨j, hj, e⟩ := List.mem_range'.1 hk
    omega
  · simp
  · exact hl
  · intro g hg
    exact hz _ (by omega) (by omega) (by omega)
  · exact hz _ (by omega) (by omega) (by omega)
  · exact hz _ (by omega) (by omega) (by omega)
  · intro k hk; cases hk
  · exact List.nodup_nil

theorem new_bad (n : Int) (hn : n < 1 ∨ 1024 < n) (w : World) : Calls Try.prog 9 #[.int .i64 n] w fun e w' => e = .returned (.tuple #[.pointer none, .int .i64 2]) ∧ w' = w := by
  go_enter Try.func9, Try.ntmps9
  by_cases h1 : n < 1
  · go_wp2
    (first | go_ret | go_ret2)
    exact ⟨rfl, rfl⟩
  · have h2 : 1024 < n := by omega
    go_wp2
    (first | go_ret | go_ret2)
    exact ⟨rfl, rfl⟩
set_option maxHeartbeats 2000000 in
theorem new_ok (n : Nat) (h1 : 1 ≤ n) (h2 : n ≤ 1024) (w : World) : Calls Try.prog 9 #[.int .i64 n] w fun e w' => ∃ x, e = .returned (.tuple #[.pointer (some ⟨x, 0, none⟩), .int .i64 0]) ∧ IxE w' x n [] ∧ Below w.heap.size w w' ∧ w.heap.size ≤ x := by
  have hb := zero_run
  have hst : (cellsX (fun _ => 0)).setIfInBounds 0 (.int .i64 n) = cellsX (upd (fun _ => 0) 0 n) := cellsX_set (i := 0) (fun _ => 0) (n : Int)
  obtain ⟨cz, hcz⟩ : ∃ cz, cz = cellsX (fun _ => 0) := ⟨_, rfl⟩
  have hne : (cz = #[]) = False := by rw [hcz]; exact eq_false (fun e => by have := congrArg Array.size e; rw [cellsX_size] at this; exact absurd this (by decide))
  rw [← hcz] at hb hst
  clear hcz
  have HI := Lib.hid (NewI.start n)
  obtain ⟨c0, hc0⟩ : ∃ c0 : Nat → Int, c0 = upd (fun _ => 0) 0 n := ⟨_, rfl⟩
  rw [← hc0] at hst HI
  clear hc0
  have q1 : ((n : Int) < 1) = False := by simp; omega
  have HX := Lib.hid (show IxM (w.alloc (.cells (cellsX c0) 62)) w.heap.size c0 from Blk.new w _ _)
  have HB := Lib.hid (show Below w.heap.size w (w.alloc (.cells (cellsX c0) 62)) from (Below.refl _ w).alloc (Nat.le_refl _) _)
  obtain ⟨cs, hcs⟩ : ∃ cs, cs = cellsX c0 := ⟨_, rfl⟩
  rw [← hcs] at hst HX HB
  clear hcs
  go_enter Try.func9, Try.ntmps9
  go_wp2_with fail
  generalize w.alloc (.cells cs 62) = w1 at *
  have hbs := HB.out.size
  go_loopw [16] (fun i wr => ∃ (k : Nat) (c : Nat → Int), i = .int .i64 k ∧ k ≤ n ∧ IxM wr w.heap.size c ∧ NewI c n k ∧ Below w.heap.size w wr)
    (fun i _ => n - (intOf i).toNat)
  case atStart => exact ⟨0, c0, rfl, Nat.zero_le _, HX.out, HI.out, HB.out⟩
  case round =>
    obtain ⟨k, c, rfl, hk, hX, hN, hB⟩ := hrel
    have HXR := Lib.hid hX
    have HNR := Lib.hid hN
    have HBR := Lib.hid hB
    clear hX hN hB
    by_cases hkn : k < n
    · have e1 : ((n : Int) - k) = ((n - k : Nat) : Int) := by omega
      have HG := Lib.hid (give_back HXR.out (n - k) (by omega))
      have hnk : n - k ≤ 1024 := by omega
      obtain ⟨nk, hnk2⟩ : ∃ nk, nk = n - k := ⟨_, rfl⟩
      have HN2 := Lib.hid (HNR.out.next h2 hkn)
      rw [← hnk2] at e1 HG HN2 hnk
      have q2 : (k : Int) < n := by omega
      clear hnk2
      go_wp2_with fail
      refine HG.out.mono ?_
      rintro e w2 ⟨rfl, hx2, hk2⟩
      have HX2 := Lib.hid hx2
      have HB2 := Lib.hid (HBR.out.trans (hk2.to_below (fun b hb => by show b ≠ w.heap.size; omega)))
      clear hx2 hk2
      go_wp2_with fail
      go_roundw
      case rel => exact ⟨k + 1, _, by simp, by omega, HX2.out, HN2.out, HB2.out⟩
      case measure => show n - (Int.toNat ((k : Int) + 1)) < n - (Int.toNat (k : Int)); omega
    · obtain rfl : n = k := by omega
      go_wp2_with fail
      (first | go_ret | go_ret2)
      exact ⟨_, rfl, ⟨c, [], _, HXR.out, HNR.out.done h2, rfl⟩, HBR.out, Nat.le_refl _⟩
end Go.Proofs.Ytfgmbkflpdobcaa
