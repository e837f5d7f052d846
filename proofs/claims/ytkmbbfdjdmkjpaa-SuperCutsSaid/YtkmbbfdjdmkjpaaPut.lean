/- Package octet: put and Put32. -/
import Derived.Test.YtkmbbfdjdmkjpaaOctet
namespace Go.Proofs.Ytkmbbfdjdmkjpaa
open Go.RowKit
set_option linter.unusedVariables false

/-- The c lowest bytes of x, the highest first; those that the loop has laid after k rounds, and zeros ahead of them. -/
def byteAt (x : Int) (c j : Nat) : Int := x / ((256 ^ (c - 1 - j) : Nat) : Int) % 256
def beBytes (x : Int) (c : Nat) : List Int := (List.range c).map (byteAt x c)
def laid (x : Int) (c k : Nat) : List Int := (List.range c).map fun j => if c ≤ j + k then byteAt x c j else 0

theorem laid_length (x : Int) (c k : Nat) : (laid x c k).length = c := by simp [laid]
theorem beBytes_length (x : Int) (c : Nat) : (beBytes x c).length = c := by simp [beBytes]
theorem laid_all (x : Int) (c : Nat) : laid x c c = beBytes x c := by
  unfold laid beBytes
  apply List.map_congr_left
  intro j hj
  rw [if_pos (by omega)]
theorem laid_none (x : Int) (c : Nat) : laid x c 0 = List.replicate c 0 := by
  apply List.ext_getElem
  · simp [laid]
  · intro j h1 h2
    have : j < c := by simpa [laid] using h1
    simp [laid]; omega
theorem laid_set (x : Int) (c k : Nat) (h : k < c) : (laid x c k).set (c - 1 - k) (x / ((256 ^ k : Nat) : Int) % 256) = laid x c (k + 1) := by
  apply List.ext_getElem
  · simp [laid]
  · intro j h1 h2
    have hj : j < c := by simpa [laid] using h2
    rw [List.getElem_set]
    simp only [laid, List.getElem_map, List.getElem_range]
    by_cases e : c - 1 - k = j
    · rw [if_pos e, if_pos (by omega)]
      unfold byteAt
      rw [show c - 1 - j = k by omega]
    · rw [if_neg e]
      by_cases e2 : c ≤ j + k
      · rw [if_pos e2, if_pos (by omega)]
      · rw [if_neg e2, if_neg (by omega)]
theorem beBytes_bytes (x : Int) (c : Nat) : Bytes (beBytes x c) := by
  intro j
  unfold beBytes
  by_cases hj : j < c
  · simp only [List.getD, List.getElem?_map, List.getElem?_range hj, Option.map_some, Option.getD_some]
    unfold byteAt; omega
  · simp [List.getD, List.getElem?_eq_none (show ((List.range c).map (byteAt x c)).length ≤ j by simpa using hj)]

theorem set_right (xs ys : List Int) (i : Nat) (v : Int) : (xs ++ ys).set (xs.length + i) v = xs ++ ys.set i v := by
  rw [List.set_append_right _ _ (by omega)]
  simp

theorem pow_step (x : Int) (k : Nat) : x / ((256 ^ k : Nat) : Int) / 256 = x / ((256 ^ (k + 1) : Nat) : Int) := by
  rw [Nat.pow_succ]
  have h0 : (0 : Int) ≤ ((256 ^ k : Nat) : Int) := Int.natCast_nonneg _
  generalize (256 ^ k : Nat) = m at *
  rw [Int.ediv_ediv_of_nonneg h0, Int.natCast_mul]
  rfl

theorem splice_head {α : Type} (cs zs : List α) (c : Nat) (z : α) (h : zs = List.replicate (cs.length + c) z) : splice zs 0 cs = cs ++ List.replicate c z := by
  subst h
  simp [splice]

set_option maxHeartbeats 400000 in
theorem put_any (A : Option Addr) (n cap : Nat) (xs : List Int) (S : Nat → Prop) (x : Int) (c : Nat) (w : World) (hx : RowI .u8 w S A n xs) (hS : ∀ b, S b → b < w.heap.size)
    (hn : n + c ≤ 140737488351232) (hc : c ≤ 8) (x0 : 0 ≤ x) (x1 : x ≤ 18446744073709551615) :
    Calls Try.prog 115 #[.slice A n cap, .int .u64 x, .int .i64 c] w fun e w' => e = .returned (.slice (some ⟨w.heap.size, 0, none⟩) (n + c) (n + c)) ∧ ArrU w' w.heap.size (xs ++ beBytes x c) ∧ Below w.heap.size w w' := by
  have hmk := fun u : World => run_make_row' (P := Try.prog) 91 5 (.int .u8 0) 1 Try.underlying91 info_u8 rfl .i64 .i64 (n + c) (by omega) (by omega) u
  simp only [Int.natCast_add] at hmk
  have hlen := hx.1
  have HX := hx.keep (w' := w.alloc (.cells (madeCells #[.int .u8 0] (n + c)) 5)) fun p hp => World.cell?_alloc_lt w _ p (hS _ hp)
  have HM := Lib.hid (Arr.made (mk := Value.int .u8) w 0 (n + c) 5)
  have HB := Lib.hid ((Below.refl w.heap.size w).alloc (Nat.le_refl _) (.cells (madeCells #[.int .u8 0] (n + c)) 5))
  have h1 := Lib.hid (show (xs.map (Value.int .u8)).length = Nat.min n (n + c) by rw [List.length_map, hlen]; exact (Nat.min_eq_left (by omega)).symm)
  have h2 := Lib.hid (show 0 < (xs.map (Value.int .u8)).length → some (⟨w.heap.size, 0, none⟩ : Addr) = some ⟨w.heap.size, 0, none⟩ ∧ _ from fun hp => ⟨rfl, row_src HX (by simpa [hlen] using hp)⟩)
  have h3 := Lib.hid (show 0 + (xs.map (Value.int .u8)).length ≤ ((List.replicate (n + c) (0 : Int)).map (Value.int .u8)).length by simp [hlen])
  have h4 := Lib.hid (show splice ((List.replicate (n + c) (0 : Int)).map (Value.int .u8)) 0 (xs.map (Value.int .u8)) = (xs ++ laid x c 0).map (Value.int .u8) by
    rw [laid_none, splice_head _ _ c (Value.int .u8 0) (by simp [hlen])]; simp)
  have HL := Lib.hid hlen
  clear hx hlen HX
  go_enter Try.func115, Try.ntmps115
  go_wp2_with (refine wpList_copy_splice rfl (.tmp 14) (.tmp 15) 91 91 rfl 5 Try.underlying91 size_u8 _ _ _ _ _ _ rfl rfl w.heap.size 0 ((List.replicate (n + c) (0 : Int)).map (Value.int .u8)) 5 HM.out (xs.map (Value.int .u8)) h1.out h2.out h3.out (one_u8 xs) w.heap.size w HB.out (Nat.le_refl _) ?_; intro w2 hg hb; have hb2 := Lib.hid hb; clear hb)
  go_loopw [1, 8] (fun v i wr => ∃ (k : Nat) (p y : Int), k ≤ c ∧ p = (n : Int) + c - 1 - k ∧ i = .int .i64 p ∧ y = x / ((256 ^ k : Nat) : Int) ∧ v = .int .u64 y ∧ ArrU wr w.heap.size (xs ++ laid x c k) ∧ Below w.heap.size w wr) (fun _ i _ => (intOf i + 1).toNat)
  case atStart =>
    refine ⟨0, _, x, by omega, by simp, rfl, by simp, rfl, ?_, hb2.out⟩
    · have := hg.out
      rw [h4.out] at this
      exact this
  case round =>
    obtain ⟨k, p, y, hk, hp, rfl, hy, rfl, harr, hbel⟩ := hrel
    by_cases hlt : k < c
    · obtain ⟨q, rfl⟩ : ∃ q : Nat, p = (q : Int) := ⟨p.toNat, by omega⟩
      have hq : q = n + (c - 1 - k) := by omega
      have hcell0 := harr.cell (i := q) (by rw [List.length_append, laid_length, HL.out]; omega) 0
      have hzero : (xs ++ laid x c k).getD q 0 = 0 := by
        have e : q = xs.length + (c - 1 - k) := by rw [HL.out]; omega
        rw [e]
        simp [List.getD, List.getElem?_append, laid, show c - 1 - k < c by omega]
        omega
      rw [hzero] at hcell0
      have hcell := hcell0
      clear hcell0 hzero
      have hfr := harr.frozen q
      have hy0 : 0 ≤ y := by rw [hy]; exact Int.ediv_nonneg x0 (Int.natCast_nonneg _)
      have hy1 : y ≤ 18446744073709551615 := by rw [hy]; exact Int.le_trans (Int.ediv_le_self _ x0) x1
      have HA := Lib.hid harr
      have HB2 := Lib.hid hbel
      have HY := Lib.hid hy
      have HP := Lib.hid hp
      have HQ := Lib.hid hq
      have hqn : n ≤ q := by omega
      have hqc : (q : Int) < n + c := by omega
      clear harr hbel hy hp hq
      go_wp2
      go_roundw
      case rel =>
        refine ⟨k + 1, (q : Int) - 1, y / 256, by omega, by have := HP.out; omega, rfl, by rw [HY.out]; exact pow_step x k, rfl, ?_, HB2.out.setCell (Nat.le_refl _) _⟩
        have hs := HA.out.set q (y % 256)
        have e : q = xs.length + (c - 1 - k) := by rw [HL.out]; exact HQ.out
        rw [show (xs ++ laid x c k).set q (y % 256) = xs ++ laid x c (k + 1) by rw [e, set_right, HY.out, laid_set x c k hlt]] at hs
        have ev : bits .or .u8 0 (y % 256) = y % 256 := by
          rw [u8_or _ _ (by omega) (by omega) (by omega) (by omega)]
          simp
          omega
        rw [ev]
        exact hs
      case measure => (simp [intOf] <;> omega)
    · obtain rfl : k = c := by omega
      have hpn : decide ((n : Int) ≤ p) = false := by simp; omega
      have hpn2 : p < n := by omega
      have HA := Lib.hid harr
      have HB2 := Lib.hid hbel
      clear harr hbel hy hp
      go_wp2
      go_ret
      rw [laid_all] at HA
      exact ⟨rfl, HA.out, HB2.out⟩


end Go.Proofs.Ytkmbbfdjdmkjpaa
