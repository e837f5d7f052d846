/- Bytes and their bits, and what the filter's functions make of them: plain lists; nothing of the program is spoken of here. -/
import Derived.Test.YteblfcbfgkbanaaBase
namespace Go.Proofs.Yteblfcbfgkbanaa
open Go.RowKit

/-- Bit s of a byte, the highest being bit 0. -/
def bitOf (b : Int) (s : Nat) : Bool := b.toNat.testBit (7 - s)
def maskOf (s : Nat) : Int := ((2 ^ (7 - s) : Nat) : Int)
def orB (x y : Int) : Int := ((x.toNat ||| y.toNat : Nat) : Int)

theorem maskOf_eq (s : Nat) : maskOf s = ((2 ^ (7 - s) : Nat) : Int) := rfl
theorem maskOf_bounds (s : Nat) : 1 ≤ maskOf s ∧ maskOf s ≤ 128 := by
  unfold maskOf
  have h1 : 2 ^ (7 - s) ≤ 2 ^ 7 := Nat.pow_le_pow_right (by omega) (by omega)
  have h2 : 0 < 2 ^ (7 - s) := Nat.pow_pos (by omega)
  omega
theorem orB_bounds {x y : Int} (hx : 0 ≤ x ∧ x ≤ 255) (hy : 0 ≤ y ∧ y ≤ 255) : 0 ≤ orB x y ∧ orB x y ≤ 255 := by
  unfold orB
  have : x.toNat ||| y.toNat < 2 ^ 8 := Nat.or_lt_two_pow (by omega) (by omega)
  omega
theorem bit_orB (x y : Int) (s : Nat) : bitOf (orB x y) s = (bitOf x s || bitOf y s) := by
  simp [bitOf, orB, Nat.testBit_or]
theorem bit_maskOf (r s : Nat) (hr : r < 8) (hs : s < 8) : bitOf (maskOf r) s = decide (s = r) := by
  unfold bitOf maskOf
  rw [Int.toNat_natCast, Nat.testBit_two_pow]
  congr 1
  simp only [eq_iff_iff]
  omega

/-- A byte is known by its bits. -/
theorem byte_ext {x y : Int} (hx : 0 ≤ x ∧ x ≤ 255) (hy : 0 ≤ y ∧ y ≤ 255) (h : ∀ s, s < 8 → bitOf x s = bitOf y s) : x = y := by
  have : x.toNat = y.toNat := by
    apply Nat.eq_of_testBit_eq
    intro i
    by_cases hi : i < 8
    · have := h (7 - i) (by omega)
      unfold bitOf at this
      rwa [show 7 - (7 - i) = i by omega] at this
    · have e : ∀ z : Int, 0 ≤ z ∧ z ≤ 255 → z.toNat.testBit i = false := by
        intro z hz
        apply Nat.testBit_lt_two_pow
        have : 2 ^ 8 ≤ 2 ^ i := Nat.pow_le_pow_right (by omega) (by omega)
        omega
      rw [e x hx, e y hy]
  omega

/-- How many bits of a byte are set. -/
def pop (b : Int) : Int := ((((List.range 8).map (bitOf b)).count true : Nat) : Int)

/-- The bits of bytes, one behind the other. -/
def byteBits (b : Int) : List Bool := (List.range 8).map (bitOf b)
def bitsOf (xs : List Int) : List Bool := xs.flatMap byteBits

theorem byteBits_length (b : Int) : (byteBits b).length = 8 := by simp [byteBits]
theorem bitsOf_length (xs : List Int) : (bitsOf xs).length = 8 * xs.length := by
  induction xs with
  | nil => rfl
  | cons x r ih =>
    simp only [bitsOf, List.flatMap_cons, List.length_append, byteBits_length, List.length_cons] at *
    rw [ih]; omega
theorem bitsOf_get (xs : List Int) (i : Nat) (h : i < 8 * xs.length) : (bitsOf xs).getD i false = bitOf (xs.getD (i / 8) 0) (i % 8) := by
  induction xs generalizing i with
  | nil => simp at h
  | cons x r ih =>
    simp only [bitsOf, List.flatMap_cons] at *
    by_cases hi : i < 8
    · rw [show i / 8 = 0 by omega, show i % 8 = i by omega]
      simp [List.getD, List.getElem?_append, byteBits, hi]
    · have := ih (i - 8) (by simp at h; omega)
      rw [show (i - 8) / 8 = i / 8 - 1 by omega, show (i - 8) % 8 = i % 8 by omega] at this
      rw [show i / 8 = (i / 8 - 1) + 1 by omega]
      simp only [List.getD_cons_succ]
      rw [← this]
      simp [List.getD, List.getElem?_append, byteBits_length, hi]
theorem bitsOf_append (xs ys : List Int) : bitsOf (xs ++ ys) = bitsOf xs ++ bitsOf ys := by simp [bitsOf]
theorem bitsOf_take (xs : List Int) (k : Nat) (h : k < xs.length) : bitsOf (xs.take (k + 1)) = bitsOf (xs.take k) ++ byteBits (xs.getD k 0) := by
  rw [take_snoc xs k h, bitsOf_append]
  simp [bitsOf]

/-- Two lists of bytes, as long as one another, whose bits are the same are the same. -/
theorem bytes_ext {xs ys : List Int} (hx : Bytes xs) (hy : Bytes ys) (hl : xs.length = ys.length) (h : ∀ i, i < 8 * xs.length → (bitsOf xs).getD i false = (bitsOf ys).getD i false) : xs = ys := by
  apply List.ext_getElem hl
  intro j h1 h2
  have e1 : xs.getD j 0 = xs[j] := by simp [List.getD, List.getElem?_eq_getElem h1]
  have e2 : ys.getD j 0 = ys[j] := by simp [List.getD, List.getElem?_eq_getElem h2]
  rw [← e1, ← e2]
  refine byte_ext (hx j) (hy j) fun s hs => ?_
  have := h (8 * j + s) (by omega)
  rw [bitsOf_get _ _ (by omega), bitsOf_get _ _ (by omega), show (8 * j + s) / 8 = j by omega, show (8 * j + s) % 8 = s by omega] at this
  exact this

/-- One bit set. -/
def setBit (xs : List Int) (i : Nat) : List Int := xs.set (i / 8) (orB (xs.getD (i / 8) 0) (maskOf (i % 8)))
theorem setBit_length (xs : List Int) (i : Nat) : (setBit xs i).length = xs.length := by simp [setBit]
theorem getD_set (xs : List Int) (i j : Nat) (v : Int) (h : i < xs.length) : (xs.set i v).getD j 0 = if j = i then v else xs.getD j 0 := by
  simp only [List.getD, List.getElem?_set]
  by_cases e : i = j
  · subst e; simp [h]
  · rw [if_neg e, if_neg (fun h => e h.symm)]
theorem setBit_bytes {xs : List Int} (h : Bytes xs) (i : Nat) (hi : i / 8 < xs.length) : Bytes (setBit xs i) := by
  intro j
  unfold setBit
  rw [getD_set _ _ _ _ hi]
  split
  · exact orB_bounds (h _) (by have := maskOf_bounds (i % 8); omega)
  · exact h j
theorem bitsOf_setBit (xs : List Int) (i : Nat) (hi : i < 8 * xs.length) : bitsOf (setBit xs i) = (bitsOf xs).set i true := by
  apply List.ext_getElem
  · simp [bitsOf_length, setBit_length]
  · intro j h1 h2
    have hj : j < 8 * xs.length := by simpa [bitsOf_length, setBit_length] using h1
    have g1 := bitsOf_get (setBit xs i) j (by rw [setBit_length]; exact hj)
    rw [List.getD_eq_getElem?_getD, List.getElem?_eq_getElem h1, Option.getD_some] at g1
    rw [g1, List.getElem_set]
    have g2 := bitsOf_get xs j hj
    have hjl : j < (bitsOf xs).length := by rw [bitsOf_length]; exact hj
    rw [List.getD_eq_getElem?_getD, List.getElem?_eq_getElem hjl, Option.getD_some] at g2
    rw [g2]
    unfold setBit
    rw [getD_set _ _ _ _ (by omega)]
    by_cases e : j / 8 = i / 8
    · rw [if_pos e, bit_orB, bit_maskOf _ _ (by omega) (by omega), e]
      by_cases e2 : i = j
      · rw [if_pos e2]; subst e2; simp
      · rw [if_neg e2, decide_eq_false (by omega)]; simp
    · rw [if_neg e, if_neg (by rintro rfl; exact e rfl)]

/-- Bits set one behind the other. -/
def setBits (xs : List Int) (ps : List Int) : List Int := ps.foldl (fun xs p => setBit xs p.toNat) xs
def markAll (l : List Bool) (ps : List Int) : List Bool := ps.foldl (fun l p => l.set p.toNat true) l
def allSet (l : List Bool) (ps : List Int) : Bool := ps.all fun p => l.getD p.toNat false

theorem setBits_snoc (xs ps : List Int) (p : Int) : setBits xs (ps ++ [p]) = setBit (setBits xs ps) p.toNat := by simp [setBits]
theorem markAll_snoc (l : List Bool) (ps : List Int) (p : Int) : markAll l (ps ++ [p]) = (markAll l ps).set p.toNat true := by simp [markAll]
theorem setBits_length (xs ps : List Int) : (setBits xs ps).length = xs.length := by
  induction ps generalizing xs with
  | nil => rfl
  | cons p r ih => show (setBits (setBit xs p.toNat) r).length = _; rw [ih, setBit_length]
theorem markAll_length (l : List Bool) (ps : List Int) : (markAll l ps).length = l.length := by
  induction ps generalizing l with
  | nil => rfl
  | cons p r ih => show (markAll (l.set p.toNat true) r).length = _; rw [ih]; simp
theorem setBits_bytes {xs : List Int} (h : Bytes xs) (ps : List Int) (hp : ∀ p ∈ ps, 0 ≤ p ∧ p < 8 * xs.length) : Bytes (setBits xs ps) := by
  induction ps generalizing xs with
  | nil => exact h
  | cons p r ih =>
    have hp0 := hp p (by simp)
    exact ih (setBit_bytes h _ (by omega)) (fun q hq => by rw [setBit_length]; exact hp q (by simp [hq]))
theorem bitsOf_setBits (xs ps : List Int) (hp : ∀ p ∈ ps, 0 ≤ p ∧ p < 8 * xs.length) : bitsOf (setBits xs ps) = markAll (bitsOf xs) ps := by
  induction ps generalizing xs with
  | nil => rfl
  | cons p r ih =>
    have hp0 := hp p (by simp)
    show bitsOf (setBits (setBit xs p.toNat) r) = markAll ((bitsOf xs).set p.toNat true) r
    rw [ih _ (fun q hq => by rw [setBit_length]; exact hp q (by simp [hq])), bitsOf_setBit _ _ (by omega)]

/-- Whether a bit is set behind it. -/
theorem markAll_get (l : List Bool) (ps : List Int) (i : Nat) (hi : i < l.length) : (markAll l ps).getD i false = (l.getD i false || ps.any fun p => decide (p.toNat = i)) := by
  induction ps generalizing l with
  | nil => simp [markAll]
  | cons p r ih =>
    show (markAll (l.set p.toNat true) r).getD i false = _
    rw [ih _ (by simpa using hi)]
    simp only [List.any_cons, List.getD, List.getElem?_set, List.length_set]
    by_cases e : p.toNat = i
    · subst e; simp [hi]
    · simp [e]

theorem count_set (l : List Bool) (i : Nat) : l.count true ≤ (l.set i true).count true ∧ (l.set i true).count true ≤ l.count true + 1 := by
  induction l generalizing i with
  | nil => simp
  | cons x r ih =>
    cases i with
    | zero => cases x <;> simp
    | succ i =>
      have := ih i
      cases x <;> simp <;> omega
theorem count_markAll (l : List Bool) (ps : List Int) : l.count true ≤ (markAll l ps).count true ∧ (markAll l ps).count true ≤ l.count true + ps.length := by
  induction ps generalizing l with
  | nil => simp [markAll]
  | cons p r ih =>
    have h1 := ih (l.set p.toNat true)
    have h2 := count_set l p.toNat
    show l.count true ≤ (markAll (l.set p.toNat true) r).count true ∧ (markAll (l.set p.toNat true) r).count true ≤ _
    simp only [List.length_cons]
    omega

/-- How many bits are set. -/
def popAll (xs : List Int) : Int := (xs.map pop).sum
theorem popAll_count (xs : List Int) : popAll xs = (((bitsOf xs).count true : Nat) : Int) := by
  induction xs with
  | nil => rfl
  | cons x r ih =>
    unfold popAll at *
    simp only [List.map_cons, List.sum_cons, ih, bitsOf, List.flatMap_cons, List.count_append]
    simp [pop, byteBits]
theorem popAll_take (xs : List Int) (k : Nat) (h : k < xs.length) : popAll (xs.take (k + 1)) = popAll (xs.take k) + pop (xs.getD k 0) := by
  rw [take_snoc xs k h]
  simp [popAll]
theorem pop_bounds (b : Int) : 0 ≤ pop b ∧ pop b ≤ 8 := by
  unfold pop
  have : ((List.range 8).map (bitOf b)).count true ≤ ((List.range 8).map (bitOf b)).length := List.count_le_length
  simp only [List.length_map, List.length_range] at this
  omega
theorem popAll_bounds (xs : List Int) : 0 ≤ popAll xs ∧ popAll xs ≤ 8 * xs.length := by
  rw [popAll_count]
  have h := List.count_le_length (a := true) (l := bitsOf xs)
  rw [bitsOf_length] at h
  omega

/-- Joined byte by byte. -/
def joinB (xs ys : List Int) : List Int := List.zipWith orB xs ys
theorem joinB_length (xs ys : List Int) (h : xs.length = ys.length) : (joinB xs ys).length = xs.length := by simp [joinB, h]
theorem joinB_get (xs ys : List Int) (h : xs.length = ys.length) (j : Nat) : (joinB xs ys).getD j 0 = orB (xs.getD j 0) (ys.getD j 0) := by
  unfold joinB
  simp only [List.getD, List.getElem?_zipWith]
  by_cases hj : j < xs.length
  · rw [List.getElem?_eq_getElem hj, List.getElem?_eq_getElem (show j < ys.length by omega)]; rfl
  · rw [List.getElem?_eq_none (by omega), List.getElem?_eq_none (show ys.length ≤ j by omega)]; rfl
theorem joinB_bytes {xs ys : List Int} (hx : Bytes xs) (hy : Bytes ys) (h : xs.length = ys.length) : Bytes (joinB xs ys) := by
  intro j
  rw [joinB_get _ _ h]
  exact orB_bounds (hx j) (hy j)
theorem bitsOf_joinB (xs ys : List Int) (h : xs.length = ys.length) (i : Nat) (hi : i < 8 * xs.length) :
    (bitsOf (joinB xs ys)).getD i false = ((bitsOf xs).getD i false || (bitsOf ys).getD i false) := by
  rw [bitsOf_get _ _ (by rw [joinB_length _ _ h]; exact hi), bitsOf_get _ _ hi, bitsOf_get _ _ (by omega), joinB_get _ _ h, bit_orB]

/-- What the document's answer makes of eight bits: the top bits of the byte. -/
def top (b : Int) (j : Nat) : Int := ((b.toNat / 2 ^ (8 - j) : Nat) : Int)
theorem top_step : ∀ b : Nat, b < 256 → ∀ j : Nat, j < 8 → b / 2 ^ (8 - (j + 1)) = 2 * (b / 2 ^ (8 - j)) + if b.testBit (7 - j) then 1 else 0 := by decide +kernel
theorem top_zero (b : Int) (hb : 0 ≤ b ∧ b ≤ 255) : top b 0 = 0 := by unfold top; omega
theorem top_eight (b : Int) (hb : 0 ≤ b ∧ b ≤ 255) : top b 8 = b := by unfold top; simp; omega
theorem top_succ (b : Int) (hb : 0 ≤ b ∧ b ≤ 255) (j : Nat) (hj : j < 8) : top b (j + 1) = top b j * 2 + if bitOf b j = true then 1 else 0 := by
  have := top_step b.toNat (by omega) j hj
  unfold top bitOf
  split at this <;> rename_i h <;> rw [this]
  · rw [if_pos h]; omega
  · rw [if_neg h]; omega
theorem top_bounds (b : Int) (hb : 0 ≤ b ∧ b ≤ 255) (j : Nat) : 0 ≤ top b j ∧ top b j ≤ 255 := by
  unfold top
  have : b.toNat / 2 ^ (8 - j) ≤ b.toNat := Nat.div_le_self _ _
  generalize b.toNat / 2 ^ (8 - j) = q at this
  omega

theorem allSet_false (l : List Bool) (ps : List Int) (k : Nat) (hk : k < ps.length) (h : l.getD (ps.getD k 0).toNat false = false) : allSet l ps = false := by
  unfold allSet
  rw [List.all_eq_false]
  refine ⟨ps.getD k 0, ?_, by rw [h]; simp⟩
  simp [List.getD, List.getElem?_eq_getElem hk]
theorem allSet_snoc (l : List Bool) (ps : List Int) (k : Nat) (hk : k < ps.length) (h : allSet l (ps.take k) = true) (h2 : l.getD (ps.getD k 0).toNat false = true) : allSet l (ps.take (k + 1)) = true := by
  unfold allSet at *
  rw [take_snoc ps k hk, List.all_append, h]
  simp [List.all_cons, h2]
  simpa [List.getD] using h2

theorem and_mask0 : ∀ v : Nat, v < 256 → ∀ r : Nat, r < 8 → (v &&& 2 ^ (7 - r) == 0) = !v.testBit (7 - r) := by decide +kernel
theorem and_mask (v : Nat) (hv : v < 256) (r : Nat) (hr : r < 8) : (((v &&& 2 ^ (7 - r) : Nat) : Int) == 0) = !v.testBit (7 - r) := by
  rw [← and_mask0 v hv r hr]
  generalize v &&& 2 ^ (7 - r) = q
  rw [Bool.eq_iff_iff]
  simp
theorem and_bit {x : Int} (hx : 0 ≤ x ∧ x ≤ 255) (r : Nat) (hr : r < 8) : (bits .and .u8 x (maskOf r) == 0) = !bitOf x r := by
  have hm := maskOf_bounds r
  rw [u8_and _ _ hx.1 (by omega) (by omega) (by omega)]
  unfold maskOf bitOf
  rw [Int.toNat_natCast]
  exact and_mask x.toNat (by omega) r hr

/-- The first k bytes joined. -/
def joinK (xs ys : List Int) (k : Nat) : List Int := (joinB xs ys).take k ++ xs.drop k
theorem joinK_length (xs ys : List Int) (h : xs.length = ys.length) (k : Nat) (hk : k ≤ xs.length) : (joinK xs ys k).length = xs.length := by
  simp [joinK, joinB_length _ _ h]; omega
theorem joinK_get (xs ys : List Int) (h : xs.length = ys.length) (k : Nat) (hk : k ≤ xs.length) (j : Nat) :
    (joinK xs ys k).getD j 0 = if j < k then orB (xs.getD j 0) (ys.getD j 0) else xs.getD j 0 := by
  unfold joinK
  by_cases hj : j < k
  · rw [if_pos hj, ← joinB_get _ _ h]
    simp [List.getD, List.getElem?_append, joinB_length _ _ h, List.getElem?_take, hj, show j < xs.length by omega, Nat.min_eq_left hk]
  · rw [if_neg hj]
    simp only [List.getD, List.getElem?_append, List.length_take, joinB_length _ _ h, List.getElem?_drop]
    rw [if_neg (by omega), Nat.min_eq_left hk, show k + (j - k) = j by omega]
theorem getD_ext {xs ys : List Int} (hl : xs.length = ys.length) (h : ∀ j, j < xs.length → xs.getD j 0 = ys.getD j 0) : xs = ys := by
  apply List.ext_getElem hl
  intro j h1 h2
  have := h j h1
  simpa [List.getD, List.getElem?_eq_getElem h1, List.getElem?_eq_getElem h2] using this
theorem joinK_set (xs ys : List Int) (h : xs.length = ys.length) (k : Nat) (hk : k < xs.length) : (joinK xs ys k).set k (orB (xs.getD k 0) (ys.getD k 0)) = joinK xs ys (k + 1) := by
  apply getD_ext
  · rw [List.length_set, joinK_length _ _ h _ (by omega), joinK_length _ _ h _ (by omega)]
  · intro j hj
    rw [getD_set _ _ _ _ (by rw [joinK_length _ _ h _ (by omega)]; exact hk), joinK_get _ _ h _ (by omega), joinK_get _ _ h _ (by omega)]
    by_cases e : j = k
    · subst e; rw [if_pos rfl, if_pos (by omega)]
    · rw [if_neg e]
      by_cases e2 : j < k
      · rw [if_pos e2, if_pos (by omega)]
      · rw [if_neg e2, if_neg (by omega)]
theorem joinK_zero (xs ys : List Int) : joinK xs ys 0 = xs := by simp [joinK]
theorem joinK_all (xs ys : List Int) (h : xs.length = ys.length) : joinK xs ys xs.length = joinB xs ys := by
  unfold joinK
  rw [List.take_of_length_le (by rw [joinB_length _ _ h]; exact Nat.le_refl _)]
  simp
theorem joinK_bytes {xs ys : List Int} (hx : Bytes xs) (hy : Bytes ys) (h : xs.length = ys.length) (k : Nat) (hk : k ≤ xs.length) : Bytes (joinK xs ys k) := by
  intro j
  rw [joinK_get _ _ h _ hk]
  split
  · exact orB_bounds (hx j) (hy j)
  · exact hx j

end Go.Proofs.Yteblfcbfgkbanaa
