/- A superblock in plain lists. -/
import Derived.Test.YtkmbbfdjdmkjpaaMay
import Derived.Test.YtkmbbfdjdmkjpaaBeNum
import Derived.Test.YtkmbbfdjdmkjpaaHash
import Derived.Test.YtkmbbfdjdmkjpaaPut2
import Derived.Test.YtkmbbfdjdmkjpaaBlk
import Derived.Test.YtkmbbfdjdmkjpaaMarked
namespace Go.Proofs.Ytkmbbfdjdmkjpaa
open Go.RowKit
set_option linter.unusedVariables false
set_option linter.unusedSimpArgs false

def iceL : List Int := [105, 99, 101, 104, 111, 117, 115, 101]
/-- What stands ahead of the noughts; ahead of the hash; the whole. -/
def bodyL (a b g r v f t : Int) : List Int := (((((((iceL ++ beBytes t 8) ++ beBytes a 2) ++ beBytes b 2) ++ beBytes g 8) ++ beBytes r 8) ++ beBytes v 8) ++ beBytes f 8)
def fullL (a b g r v f t : Int) : List Int := bodyL a b g r v f t ++ noughts 4
def supL (a b g r v f t : Int) : List Int := fullL a b g r v f t ++ beBytes (fnv start (fullL a b g r v f t)) 8

theorem bodyL_length (a b g r v f t : Int) : (bodyL a b g r v f t).length = 52 := by simp [bodyL, iceL, beBytes_length]
theorem fullL_length (a b g r v f t : Int) : (fullL a b g r v f t).length = 56 := by simp [fullL, bodyL_length, noughts_length]
theorem supL_length (a b g r v f t : Int) : (supL a b g r v f t).length = 64 := by simp [supL, fullL_length, beBytes_length]
theorem iceL_bytes : Bytes iceL := by
  intro j
  match j with
  | 0 | 1 | 2 | 3 | 4 | 5 | 6 | 7 => simp [iceL]
  | (n + 8) => simp [iceL]
theorem bodyL_bytes (a b g r v f t : Int) : Bytes (bodyL a b g r v f t) :=
  bytes_append (bytes_append (bytes_append (bytes_append (bytes_append (bytes_append (bytes_append iceL_bytes (beBytes_bytes _ _)) (beBytes_bytes _ _)) (beBytes_bytes _ _)) (beBytes_bytes _ _)) (beBytes_bytes _ _)) (beBytes_bytes _ _)) (beBytes_bytes _ _)
theorem fullL_bytes (a b g r v f t : Int) : Bytes (fullL a b g r v f t) := bytes_append (bodyL_bytes a b g r v f t) (noughts_bytes 4)
theorem supL_bytes (a b g r v f t : Int) : Bytes (supL a b g r v f t) := bytes_append (fullL_bytes a b g r v f t) (beBytes_bytes _ _)
theorem hash_in (l : List Int) : 0 ≤ fnv start l ∧ fnv start l ≤ 18446744073709551615 := by
  have := fnv_bounds start l ⟨by unfold start; omega, by unfold start; omega⟩
  omega

/-- The numbers of what is known are numbers of their kinds. -/
def InS (a b g r v f : Int) : Prop := -9223372036854775808 ≤ a ∧ a ≤ 9223372036854775807 ∧ -9223372036854775808 ≤ b ∧ b ≤ 9223372036854775807 ∧ 0 ≤ g ∧ g ≤ 18446744073709551615 ∧ 0 ≤ r ∧ r ≤ 18446744073709551615 ∧ 0 ≤ v ∧ v ≤ 18446744073709551615 ∧ 0 ≤ f ∧ f ≤ 18446744073709551615

/-- The i-th of the numbers that a superblock says. -/
def numAt (xs : List Int) (k n : Nat) : Int := numOf ((xs.drop k).take n)

/-- Two lists side by side of which the first ends where it is cut. -/
theorem drop_at {α : Type} (p q : List α) (k : Nat) (h : p.length = k) : (p ++ q).drop k = q := by rw [← h]; simp
theorem take_at {α : Type} (p q : List α) (k : Nat) (h : p.length = k) : (p ++ q).take k = p := by rw [← h]; simp
theorem sup_nums (a b g r v f t : Int) (h : InS a b g r v f) (ha : 0 ≤ a ∧ a ≤ 65535) (hb : 0 ≤ b ∧ b ≤ 65535) (ht : 0 ≤ t ∧ t ≤ 18446744073709551615) :
    numAt (supL a b g r v f t) 8 8 = t ∧ numAt (supL a b g r v f t) 16 2 = a ∧ numAt (supL a b g r v f t) 18 2 = b ∧ numAt (supL a b g r v f t) 20 8 = g ∧ numAt (supL a b g r v f t) 28 8 = r ∧ numAt (supL a b g r v f t) 36 8 = v ∧ numAt (supL a b g r v f t) 44 8 = f := by
  obtain ⟨_, _, _, _, g0, g1, r0, r1, v0, v1, f0, f1⟩ := h
  unfold supL fullL bodyL
  generalize beBytes (fnv start _) 8 = hs
  have e8 : ((256 ^ 8 : Nat) : Int) = 18446744073709551616 := by decide
  have e2 : ((256 ^ 2 : Nat) : Int) = 65536 := by decide
  have n8 : ∀ x : Int, 0 ≤ x → x ≤ 18446744073709551615 → numOf (beBytes x 8) = x := fun x h0 h1 => num_be 8 x h0 (by rw [e8]; omega)
  have n2 : ∀ x : Int, 0 ≤ x → x ≤ 65535 → numOf (beBytes x 2) = x := fun x h0 h1 => num_be 2 x h0 (by rw [e2]; omega)
  have key : ∀ (p m q : List Int) (k n : Nat), p.length = k → m.length = n → ((p ++ m ++ q).drop k).take n = m := fun p m q k n hp hm => by
    rw [List.append_assoc, drop_at p _ k hp, take_at m q n hm]
  have hl8 := fun x => beBytes_length x 8
  have hl2 := fun x => beBytes_length x 2
  have hi : iceL.length = 8 := rfl
  unfold numAt
  refine ⟨?_, ?_, ?_, ?_, ?_, ?_, ?_⟩
  · rw [show iceL ++ beBytes t 8 ++ beBytes a 2 ++ beBytes b 2 ++ beBytes g 8 ++ beBytes r 8 ++ beBytes v 8 ++ beBytes f 8 ++ noughts 4 ++ hs = iceL ++ beBytes t 8 ++ (beBytes a 2 ++ beBytes b 2 ++ beBytes g 8 ++ beBytes r 8 ++ beBytes v 8 ++ beBytes f 8 ++ noughts 4 ++ hs) by simp [List.append_assoc],
      key iceL _ _ 8 8 hi (hl8 t), n8 t ht.1 ht.2]
  · rw [show iceL ++ beBytes t 8 ++ beBytes a 2 ++ beBytes b 2 ++ beBytes g 8 ++ beBytes r 8 ++ beBytes v 8 ++ beBytes f 8 ++ noughts 4 ++ hs = (iceL ++ beBytes t 8) ++ beBytes a 2 ++ (beBytes b 2 ++ beBytes g 8 ++ beBytes r 8 ++ beBytes v 8 ++ beBytes f 8 ++ noughts 4 ++ hs) by simp [List.append_assoc],
      key (iceL ++ beBytes t 8) _ _ 16 2 (by simp [hi, hl8]) (hl2 a), n2 a ha.1 ha.2]
  · rw [show iceL ++ beBytes t 8 ++ beBytes a 2 ++ beBytes b 2 ++ beBytes g 8 ++ beBytes r 8 ++ beBytes v 8 ++ beBytes f 8 ++ noughts 4 ++ hs = (iceL ++ beBytes t 8 ++ beBytes a 2) ++ beBytes b 2 ++ (beBytes g 8 ++ beBytes r 8 ++ beBytes v 8 ++ beBytes f 8 ++ noughts 4 ++ hs) by simp [List.append_assoc],
      key (iceL ++ beBytes t 8 ++ beBytes a 2) _ _ 18 2 (by simp [hi, hl8, hl2]) (hl2 b), n2 b hb.1 hb.2]
  · rw [show iceL ++ beBytes t 8 ++ beBytes a 2 ++ beBytes b 2 ++ beBytes g 8 ++ beBytes r 8 ++ beBytes v 8 ++ beBytes f 8 ++ noughts 4 ++ hs = (iceL ++ beBytes t 8 ++ beBytes a 2 ++ beBytes b 2) ++ beBytes g 8 ++ (beBytes r 8 ++ beBytes v 8 ++ beBytes f 8 ++ noughts 4 ++ hs) by simp [List.append_assoc],
      key (iceL ++ beBytes t 8 ++ beBytes a 2 ++ beBytes b 2) _ _ 20 8 (by simp [hi, hl8, hl2]) (hl8 g), n8 g g0 g1]
  · rw [show iceL ++ beBytes t 8 ++ beBytes a 2 ++ beBytes b 2 ++ beBytes g 8 ++ beBytes r 8 ++ beBytes v 8 ++ beBytes f 8 ++ noughts 4 ++ hs = (iceL ++ beBytes t 8 ++ beBytes a 2 ++ beBytes b 2 ++ beBytes g 8) ++ beBytes r 8 ++ (beBytes v 8 ++ beBytes f 8 ++ noughts 4 ++ hs) by simp [List.append_assoc],
      key (iceL ++ beBytes t 8 ++ beBytes a 2 ++ beBytes b 2 ++ beBytes g 8) _ _ 28 8 (by simp [hi, hl8, hl2]) (hl8 r), n8 r r0 r1]
  · rw [show iceL ++ beBytes t 8 ++ beBytes a 2 ++ beBytes b 2 ++ beBytes g 8 ++ beBytes r 8 ++ beBytes v 8 ++ beBytes f 8 ++ noughts 4 ++ hs = (iceL ++ beBytes t 8 ++ beBytes a 2 ++ beBytes b 2 ++ beBytes g 8 ++ beBytes r 8) ++ beBytes v 8 ++ (beBytes f 8 ++ noughts 4 ++ hs) by simp [List.append_assoc],
      key (iceL ++ beBytes t 8 ++ beBytes a 2 ++ beBytes b 2 ++ beBytes g 8 ++ beBytes r 8) _ _ 36 8 (by simp [hi, hl8, hl2]) (hl8 v), n8 v v0 v1]
  · rw [show iceL ++ beBytes t 8 ++ beBytes a 2 ++ beBytes b 2 ++ beBytes g 8 ++ beBytes r 8 ++ beBytes v 8 ++ beBytes f 8 ++ noughts 4 ++ hs = (iceL ++ beBytes t 8 ++ beBytes a 2 ++ beBytes b 2 ++ beBytes g 8 ++ beBytes r 8 ++ beBytes v 8) ++ beBytes f 8 ++ (noughts 4 ++ hs) by simp [List.append_assoc],
      key (iceL ++ beBytes t 8 ++ beBytes a 2 ++ beBytes b 2 ++ beBytes g 8 ++ beBytes r 8 ++ beBytes v 8) _ _ 44 8 (by simp [hi, hl8, hl2]) (hl8 f), n8 f f0 f1]

end Go.Proofs.Ytkmbbfdjdmkjpaa
