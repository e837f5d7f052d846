/- What a sector says, in plain lists: numbers as bytes there and back; when a sector is stamped. -/
import Derived.Test.YtikeiloeeklkeaaRead
namespace Go.Proofs.Ytikeiloeeklkeaa
open Go.RowKit
set_option linter.unusedVariables false

theorem getD_ext {xs ys : List Int} (hl : xs.length = ys.length) (h : ∀ j, j < xs.length → xs.getD j 0 = ys.getD j 0) : xs = ys := by
  apply List.ext_getElem hl
  intro j h1 h2
  have := h j h1
  simpa [List.getD, List.getElem?_eq_getElem h1, List.getElem?_eq_getElem h2] using this

theorem be_snoc (x : Int) (n : Nat) (h : 0 ≤ x) : beBytes x (n + 1) = beBytes (x / 256) n ++ [x % 256] := by
  unfold beBytes
  rw [List.range_succ, List.map_append, List.map_singleton]
  congr 1
  · apply List.map_congr_left
    intro j hj
    have hj : j < n := by simpa using hj
    unfold byteAt
    rw [show n + 1 - 1 - j = (n - 1 - j) + 1 by omega, ← pow_step]
    rw [Int.ediv_ediv_of_nonneg (by exact Int.natCast_nonneg _), Int.mul_comm, ← Int.ediv_ediv_of_nonneg (by omega)]
  · simp [byteAt]

theorem be_num (n : Nat) : ∀ l : List Int, Bytes l → l.length = n → beBytes (numOf l) n = l := by
  induction n with
  | zero => intro l _ h; rw [List.eq_nil_of_length_eq_zero h]; rfl
  | succ n ih =>
    intro l hb hl
    have hs := take_snoc l n (by omega)
    rw [List.take_of_length_le (by omega)] at hs
    have hn := numOf_snoc (l.take n) (l.getD n 0)
    rw [← hs] at hn
    have hx := hb n
    have hnn := (numOf_bounds (l.take n) (hb.take n)).1
    rw [be_snoc _ _ (numOf_bounds l hb).1, hn, show (numOf (l.take n) * 256 + l.getD n 0) / 256 = numOf (l.take n) by omega, show (numOf (l.take n) * 256 + l.getD n 0) % 256 = l.getD n 0 by omega,
      ih (l.take n) (hb.take n) (by simp; omega)]
    exact hs.symm

theorem num_be (n : Nat) : ∀ x : Int, 0 ≤ x → x < ((256 ^ n : Nat) : Int) → numOf (beBytes x n) = x := by
  induction n with
  | zero => intro x h0 h1; simp at h1; obtain rfl : x = 0 := by omega
            rfl
  | succ n ih =>
    intro x h0 h1
    rw [Nat.pow_succ, Int.natCast_mul] at h1
    rw [be_snoc _ _ h0, numOf_snoc, ih (x / 256) (by omega) (by generalize ((256 ^ n : Nat) : Int) = m at *; omega)]
    omega

theorem five_parts (xs : List Int) (hl : xs.length = 64) : xs = (((xs.take 8 ++ (xs.drop 8).take 4) ++ (xs.drop 12).take 2) ++ (xs.drop 14).take 2) ++ xs.drop 16 := by
  apply getD_ext
  · simp; omega
  · intro j hj
    simp only [List.getD, List.getElem?_append, List.getElem?_take, List.getElem?_drop, List.length_append, List.length_take, List.length_drop, hl]
    by_cases h1 : j < 8
    · simp [h1, show j < 10 by omega, show j < 12 by omega, show j < 14 by omega, show j < 16 by omega]
    · by_cases h2 : j < 12
      · simp [h1, h2, show j < 14 by omega, show j < 16 by omega, show j - 8 < 4 by omega, show 8 + (j - 8) = j by omega]
      · by_cases h3 : j < 14
        · simp [h1, h2, h3, show j < 16 by omega, show j - 12 < 2 by omega, show 12 + (j - 12) = j by omega]
        · by_cases h4 : j < 16
          · simp [h1, h2, h3, h4, show j - 14 < 2 by omega, show 14 + (j - 14) = j by omega]
          · simp [h1, h2, h3, h4, show 16 + (j - 16) = j by omega]

/-- As the document says it. -/
def Right (xs : List Int) : Prop := 1 ≤ genOf xs ∧ fillOf xs ≤ 48 ∧ xs.getD 14 0 = 0 ∧ xs.getD 15 0 = 0 ∧ ∀ i, 16 + fillOf xs ≤ i → i < 64 → xs.getD i 0 = 0

theorem pack_same (xs : List Int) (hl : xs.length = 64) (hb : Bytes xs) :
    packL (genOf xs) (posOf xs) (meantOf xs) = xs ↔ beBytes (meantOf xs).length 2 = (xs.drop 12).take 2 ∧ beBytes 0 2 = (xs.drop 14).take 2 ∧ meantOf xs ++ noughts (48 - (meantOf xs).length) = xs.drop 16 := by
  have h1 : beBytes (genOf xs) 8 = xs.take 8 := be_num 8 _ (hb.take 8) (by simp; omega)
  have h2 : beBytes (posOf xs) 4 = (xs.drop 8).take 4 := be_num 4 _ (bytes_part hb 8 4) (by simp; omega)
  have h5 := five_parts xs hl
  constructor
  · intro h
    rw [h5] at h
    conv at h => lhs; rw [← h5]
    unfold packL headL at h
    rw [h1, h2, List.append_assoc] at h
    have a1 := List.append_inj h (by simp [beBytes_length]; omega)
    have a2 := List.append_inj a1.1 (by simp [beBytes_length]; omega)
    have a3 := List.append_inj a2.1 (by simp)
    exact ⟨a3.2, a2.2, a1.2⟩
  · rintro ⟨e1, e2, e3⟩
    unfold packL headL
    rw [h1, h2, e1, e2, List.append_assoc, e3]
    exact h5.symm

theorem two_parts (xs : List Int) (hl : xs.length = 64) : (xs.drop 14).take 2 = [xs.getD 14 0, xs.getD 15 0] := by
  apply getD_ext
  · simp; omega
  · intro j hj
    have hj : j < 2 := by simp at hj; omega
    match j, hj with
    | 0, _ => simp [List.getD]
    | 1, _ => simp [List.getD]

theorem stamped_iff (xs : List Int) (hl : xs.length = 64) (hb : Bytes xs) : stamped xs = true ↔ Right xs := by
  unfold stamped Right
  rw [Bool.and_eq_true, decide_eq_true_eq, beq_iff_eq, pack_same xs hl hb]
  have hz : beBytes 0 2 = [0, 0] := rfl
  rw [hz, two_parts xs hl]
  refine and_congr_right fun hg => ?_
  have hfe := fill_eq hb
  constructor
  · rintro ⟨e1, e2, e3⟩
    have hm : ((meantOf xs).length : Int) = (fillOf xs : Int) := by
      rw [← hfe, ← e1, num_be 2 _ (by omega) (by have := meant_le xs; simp; omega)]
    have hf : fillOf xs ≤ 48 := by have := meant_le xs; omega
    injection e2 with e20 e21
    injection e21 with e21 _
    refine ⟨hf, e20.symm, e21.symm, fun i h1 h2 => ?_⟩
    have : xs.getD i 0 = (xs.drop 16).getD (i - 16) 0 := by simp [List.getD, List.getElem?_drop, show 16 + (i - 16) = i by omega]
    rw [this, ← e3, List.getD, List.getElem?_append_right (by omega)]
    exact noughts_get _ _
  · rintro ⟨hf, e14, e15, e5⟩
    have hm : meantOf xs = (xs.drop 16).take (fillOf xs) := if_pos hf
    have hml : (meantOf xs).length = fillOf xs := by rw [hm]; simp; omega
    refine ⟨?_, by rw [e14, e15], ?_⟩
    · rw [hml, ← hfe]
      exact be_num 2 _ (bytes_part hb 12 2) (by simp; omega)
    · apply getD_ext
      · rw [List.length_append, hml, noughts_length]; simp; omega
      · intro j hj
        rw [List.length_append, hml, noughts_length] at hj
        by_cases h : j < fillOf xs
        · rw [List.getD, List.getElem?_append_left (by omega), hm]
          simp [List.getD, List.getElem?_take, h]
        · rw [List.getD, List.getElem?_append_right (by omega)]
          have := e5 (16 + j) (by omega) (by omega)
          rw [show (xs.drop 16).getD j 0 = xs.getD (16 + j) 0 by simp [List.getD, List.getElem?_drop], this]
          exact noughts_get _ _

/-- What was packed is read. -/
theorem pack_bytes (g p : Int) (pay : List Int) (hb : Bytes pay) : Bytes (packL g p pay) := by
  have key : ∀ a b : List Int, Bytes a → Bytes b → Bytes (a ++ b) := by
    intro a b ha hb j
    by_cases h : j < a.length
    · have := ha j; simpa [List.getD, List.getElem?_append_left h] using this
    · have := hb (j - a.length); simpa [List.getD, List.getElem?_append_right (Nat.le_of_not_lt h)] using this
  exact key _ _ (key _ _ (key _ _ (key _ _ (key _ _ (beBytes_bytes _ _) (beBytes_bytes _ _)) (beBytes_bytes _ _)) (beBytes_bytes _ _)) hb) (noughts_bytes _)

theorem pack_said (g p : Int) (pay : List Int) (hg : 0 ≤ g) (hg2 : g ≤ 18446744073709551615) (hp : 0 ≤ p) (hp2 : p ≤ 4294967295) (hl : pay.length ≤ 48) :
    genOf (packL g p pay) = g ∧ posOf (packL g p pay) = p ∧ fillOf (packL g p pay) = pay.length ∧ meantOf (packL g p pay) = pay := by
  have e1 : (packL g p pay).take 8 = beBytes g 8 := by
    unfold packL headL
    simp only [List.append_assoc]
    exact List.take_left' (beBytes_length _ _)
  have e2 : ((packL g p pay).drop 8).take 4 = beBytes p 4 := by
    unfold packL headL
    simp only [List.append_assoc]
    rw [List.drop_left' (beBytes_length _ _)]
    exact List.take_left' (beBytes_length _ _)
  have e3 : ((packL g p pay).drop 12).take 2 = beBytes pay.length 2 := by
    unfold packL headL
    simp only [List.append_assoc]
    rw [← List.append_assoc, List.drop_left' (by simp [beBytes_length])]
    exact List.take_left' (beBytes_length _ _)
  have e4 : (packL g p pay).drop 16 = pay ++ noughts (48 - pay.length) := by
    unfold packL
    rw [List.append_assoc]
    exact List.drop_left' (headL_length _ _ _)
  have hf : fillOf (packL g p pay) = pay.length := by
    unfold fillOf
    rw [e3, num_be 2 _ (by omega) (by simp; omega)]
    omega
  refine ⟨?_, ?_, hf, ?_⟩
  · unfold genOf
    rw [e1, num_be 8 _ hg (by simp; omega)]
  · unfold posOf
    rw [e2, num_be 4 _ hp (by simp; omega)]
  · unfold meantOf
    rw [if_pos (by omega), hf, e4]
    exact List.take_left' rfl

theorem pack_stamped (g p : Int) (pay : List Int) (hg : 1 ≤ g) (hg2 : g ≤ 18446744073709551615) (hp : 0 ≤ p) (hp2 : p ≤ 4294967295) (hl : pay.length ≤ 48) : stamped (packL g p pay) = true := by
  obtain ⟨e1, e2, e3, e4⟩ := pack_said g p pay (by omega) hg2 hp hp2 hl
  unfold stamped
  rw [e1, e2, e4, decide_eq_true hg]
  simp

end Go.Proofs.Ytikeiloeeklkeaa
