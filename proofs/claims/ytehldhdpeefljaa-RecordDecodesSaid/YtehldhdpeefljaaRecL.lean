/- What a record's bytes say, in plain lists. -/
import Derived.Test.YtehldhdpeefljaaEncode
import Derived.Test.YtehldhdpeefljaaDec
import Derived.Test.YtehldhdpeefljaaBeNum
namespace Go.Proofs.Ytehldhdpeefljaa
open Go.RowKit
set_option linter.unusedVariables false

theorem recB_bytes {k f x s : Int} {xs ys : List Int} (hk : 0 ≤ k ∧ k ≤ 255) (hx : Bytes xs) (hy : Bytes ys) : Bytes (recB k f x s xs ys) := by
  unfold recB headB
  refine bytes_append (bytes_append (bytes_append (bytes_append (bytes_append (bytes_append (bytes_append ?_ (beBytes_bytes _ _)) (beBytes_bytes _ _)) (beBytes_bytes _ _)) (beBytes_bytes _ _)) (beBytes_bytes _ _)) hx) hy
  intro j
  match j with
  | 0 => simpa using hk
  | (j + 1) => simp

section
variable {k f x s : Int} {xs ys zs : List Int}
theorem rec_split : recB k f x s xs ys ++ zs = [k] ++ (beBytes f 4 ++ (beBytes x 4 ++ (beBytes s 8 ++ (beBytes xs.length 2 ++ (beBytes ys.length 2 ++ (xs ++ (ys ++ zs))))))) := by
  simp [recB, headB]
theorem drop_head {α : Type} (a b : List α) (n m : Nat) (h : a.length = n) : (a ++ b).drop (n + m) = b.drop m := by
  rw [← h, List.drop_append, List.drop_eq_nil_of_le (by omega)]
  simp
theorem rec_kind : kindOf (recB k f x s xs ys ++ zs) = k := by
  unfold kindOf
  rw [rec_split, List.take_left' (by rfl)]
  simp [numOf]
theorem rec_flags (hf : 0 ≤ f) (hf' : f ≤ 4294967295) : flagsOf (recB k f x s xs ys ++ zs) = f := by
  unfold flagsOf
  rw [rec_split, List.drop_left' (by rfl), List.take_left' (beBytes_length _ _), num_be 4 _ hf (by simp; omega)]
theorem rec_exp (hx : 0 ≤ x) (hx' : x ≤ 4294967295) : expOf (recB k f x s xs ys ++ zs) = x := by
  unfold expOf
  rw [rec_split, drop_head [k] _ 1 4 rfl, List.drop_left' (beBytes_length _ _), List.take_left' (beBytes_length _ _), num_be 4 _ hx (by simp; omega)]
theorem rec_seq (hs : 0 ≤ s) (hs' : s ≤ 18446744073709551615) : seqOf (recB k f x s xs ys ++ zs) = s := by
  unfold seqOf
  rw [rec_split, drop_head [k] _ 1 8 rfl, drop_head _ _ 4 4 (beBytes_length _ _), List.drop_left' (beBytes_length _ _), List.take_left' (beBytes_length _ _), num_be 8 _ hs (by simp; omega)]
theorem rec_klen (h : xs.length ≤ 65535) : klenOf (recB k f x s xs ys ++ zs) = xs.length := by
  unfold klenOf
  rw [rec_split, drop_head [k] _ 1 16 rfl, drop_head _ _ 4 12 (beBytes_length _ _), drop_head _ _ 4 8 (beBytes_length _ _), List.drop_left' (beBytes_length _ _), List.take_left' (beBytes_length _ _), num_be 2 _ (by omega) (by simp; omega)]
  omega
theorem rec_vlen (h : ys.length ≤ 65535) : vlenOf (recB k f x s xs ys ++ zs) = ys.length := by
  unfold vlenOf
  rw [rec_split, drop_head [k] _ 1 18 rfl, drop_head _ _ 4 14 (beBytes_length _ _), drop_head _ _ 4 10 (beBytes_length _ _), drop_head _ _ 8 2 (beBytes_length _ _), List.drop_left' (beBytes_length _ _), List.take_left' (beBytes_length _ _), num_be 2 _ (by omega) (by simp; omega)]
  omega
theorem rec_drop : (recB k f x s xs ys ++ zs).drop 21 = xs ++ (ys ++ zs) := by
  unfold recB
  rw [List.append_assoc, List.append_assoc, List.drop_left' (headB_length _ _ _ _ _ _)]
theorem rec_key (h : xs.length ≤ 65535) : keyOf (recB k f x s xs ys ++ zs) = xs := by
  unfold keyOf
  rw [rec_klen h, rec_drop, List.take_left' rfl]
theorem rec_val (h : xs.length ≤ 65535) (h' : ys.length ≤ 65535) : valOf (recB k f x s xs ys ++ zs) = ys := by
  unfold valOf
  rw [rec_klen h, rec_vlen h', ← List.drop_drop, rec_drop, List.drop_left' rfl, List.take_left' rfl]
end

/-- A record that may be: its bytes begin one that may be, and say it. -/
theorem rec_may {k f x s : Int} {xs ys : List Int} (zs : List Int) (h : May k f x s xs.length ys.length) (hr : Rng f x s) :
    MayB (recB k f x s xs ys ++ zs) ∧ kindOf (recB k f x s xs ys ++ zs) = k ∧ flagsOf (recB k f x s xs ys ++ zs) = f ∧ expOf (recB k f x s xs ys ++ zs) = x ∧ seqOf (recB k f x s xs ys ++ zs) = s ∧
      klenOf (recB k f x s xs ys ++ zs) = xs.length ∧ vlenOf (recB k f x s xs ys ++ zs) = ys.length ∧ keyOf (recB k f x s xs ys ++ zs) = xs ∧ valOf (recB k f x s xs ys ++ zs) = ys := by
  have h1 := h.2.2.1
  have h2 := h.2.2.2.1
  have e1 := rec_kind (k := k) (f := f) (x := x) (s := s) (xs := xs) (ys := ys) (zs := zs)
  have e2 := rec_flags (k := k) (x := x) (s := s) (xs := xs) (ys := ys) (zs := zs) hr.f0 hr.f1
  have e3 := rec_exp (k := k) (f := f) (s := s) (xs := xs) (ys := ys) (zs := zs) hr.x0 hr.x1
  have e4 := rec_seq (k := k) (f := f) (x := x) (xs := xs) (ys := ys) (zs := zs) hr.s0 hr.s1
  have e5 := rec_klen (k := k) (f := f) (x := x) (s := s) (xs := xs) (ys := ys) (zs := zs) (by omega)
  have e6 := rec_vlen (k := k) (f := f) (x := x) (s := s) (xs := xs) (ys := ys) (zs := zs) (by omega)
  refine ⟨?_, e1, e2, e3, e4, e5, e6, rec_key (by omega), rec_val (by omega) (by omega)⟩
  unfold MayB
  rw [e1, e2, e3, e4, e5, e6]
  exact h

/-- What bytes say, as bytes, is the bytes. -/
theorem rec_back {L : List Int} (hb : Bytes L) (hl : needOf L ≤ L.length) : recB (kindOf L) (flagsOf L) (expOf L) (seqOf L) (keyOf L) (valOf L) = L.take (needOf L) := by
  have hneed : needOf L = 21 + klenOf L + vlenOf L := rfl
  have hkl : (keyOf L).length = klenOf L := by unfold keyOf; simp; omega
  have hvl : (valOf L).length = vlenOf L := by unfold valOf; simp; omega
  have hpart : ∀ i n, i + n ≤ L.length → beBytes (numOf ((L.drop i).take n)) n = (L.drop i).take n := fun i n h => be_num n _ (bytes_part hb i n) (by simp; omega)
  have hk1 : [kindOf L] = (L.drop 0).take 1 := by
    have h1 : (L.drop 0).take 1 = [L.getD 0 0] := by
      match L, hl, hneed with
      | a :: r, _, _ => simp
      | [], h, h' => simp at h; omega
    have h2 : kindOf L = L.getD 0 0 := by
      have : kindOf L = numOf ((L.drop 0).take 1) := rfl
      rw [this, h1]
      simp [numOf]
    rw [h2, h1]
  have join : ∀ i n m, (L.drop i).take n ++ (L.drop (i + n)).take m = (L.drop i).take (n + m) := by
    intro i n m
    rw [← List.drop_drop, ← List.take_add]
  unfold recB headB
  rw [hkl, hvl, ← klen_eq hb, ← vlen_eq hb, hk1]
  unfold flagsOf expOf seqOf
  rw [hpart 1 4 (by omega), hpart 5 4 (by omega), hpart 9 8 (by omega), hpart 17 2 (by omega), hpart 19 2 (by omega)]
  have j1 := join 0 1 4
  have j2 := join 0 5 4
  have j3 := join 0 9 8
  have j4 := join 0 17 2
  have j5 := join 0 19 2
  have j6 := join 0 21 (klenOf L)
  have j7 := join 0 (21 + klenOf L) (vlenOf L)
  simp only [Nat.zero_add, Nat.reduceAdd] at j1 j2 j3 j4 j5 j6 j7
  unfold keyOf valOf
  rw [j1, j2, j3, j4, j5, j6, j7, hneed]
  simp

end Go.Proofs.Ytehldhdpeefljaa
