/- The document's answers of layer 4: Join, Bytes. -/
import Derived.Test.YteblfcbfgkbanaaRef2
namespace Go.Proofs.Yteblfcbfgkbanaa
open Go.RowKit
set_option linter.unusedVariables false

/-- Joined bit by bit. -/
def joinL (a b : List Bool) : List Bool := List.zipWith (· || ·) a b
def joinLK (a b : List Bool) (k : Nat) : List Bool := (joinL a b).take k ++ a.drop k
theorem joinL_length (a b : List Bool) (h : a.length = b.length) : (joinL a b).length = a.length := by simp [joinL, h]
theorem joinL_get (a b : List Bool) (h : a.length = b.length) (j : Nat) : (joinL a b).getD j false = (a.getD j false || b.getD j false) := by
  unfold joinL
  simp only [List.getD, List.getElem?_zipWith]
  by_cases hj : j < a.length
  · rw [List.getElem?_eq_getElem hj, List.getElem?_eq_getElem (show j < b.length by omega)]; rfl
  · rw [List.getElem?_eq_none (by omega), List.getElem?_eq_none (show b.length ≤ j by omega)]; rfl
theorem joinLK_length (a b : List Bool) (h : a.length = b.length) (k : Nat) (hk : k ≤ a.length) : (joinLK a b k).length = a.length := by
  simp [joinLK, joinL_length _ _ h]; omega
theorem joinLK_get (a b : List Bool) (h : a.length = b.length) (k : Nat) (hk : k ≤ a.length) (j : Nat) :
    (joinLK a b k).getD j false = if j < k then (a.getD j false || b.getD j false) else a.getD j false := by
  unfold joinLK
  by_cases hj : j < k
  · rw [if_pos hj, ← joinL_get _ _ h]
    simp [List.getD, List.getElem?_append, joinL_length _ _ h, List.getElem?_take, hj, show j < a.length by omega, Nat.min_eq_left hk]
  · rw [if_neg hj]
    simp only [List.getD, List.getElem?_append, List.length_take, joinL_length _ _ h, List.getElem?_drop]
    rw [if_neg (by omega), Nat.min_eq_left hk, show k + (j - k) = j by omega]
theorem bools_ext {xs ys : List Bool} (hl : xs.length = ys.length) (h : ∀ j, j < xs.length → xs.getD j false = ys.getD j false) : xs = ys := by
  apply List.ext_getElem hl
  intro j h1 h2
  have := h j h1
  simpa [List.getD, List.getElem?_eq_getElem h1, List.getElem?_eq_getElem h2] using this
theorem getD_setB (xs : List Bool) (i j : Nat) (v : Bool) (h : i < xs.length) : (xs.set i v).getD j false = if j = i then v else xs.getD j false := by
  simp only [List.getD, List.getElem?_set]
  by_cases e : i = j
  · subst e; simp [h]
  · rw [if_neg e, if_neg (fun h => e h.symm)]
theorem joinLK_set (a b : List Bool) (h : a.length = b.length) (k : Nat) (hk : k < a.length) : (joinLK a b k).set k (a.getD k false || b.getD k false) = joinLK a b (k + 1) := by
  apply bools_ext
  · rw [List.length_set, joinLK_length _ _ h _ (by omega), joinLK_length _ _ h _ (by omega)]
  · intro j hj
    rw [getD_setB _ _ _ _ (by rw [joinLK_length _ _ h _ (by omega)]; exact hk), joinLK_get _ _ h _ (by omega), joinLK_get _ _ h _ (by omega)]
    by_cases e : j = k
    · subst e; rw [if_pos rfl, if_pos (by omega)]
    · rw [if_neg e]
      by_cases e2 : j < k
      · rw [if_pos e2, if_pos (by omega)]
      · rw [if_neg e2, if_neg (by omega)]
theorem joinLK_zero (a b : List Bool) : joinLK a b 0 = a := by simp [joinLK]
theorem joinLK_all (a b : List Bool) (h : a.length = b.length) : joinLK a b a.length = joinL a b := by
  unfold joinLK
  rw [List.take_of_length_le (by rw [joinL_length _ _ h]; exact Nat.le_refl _)]
  simp
theorem bitsOf_join (xs ys : List Int) (h : xs.length = ys.length) : bitsOf (joinB xs ys) = joinL (bitsOf xs) (bitsOf ys) := by
  have hl : (bitsOf xs).length = (bitsOf ys).length := by rw [bitsOf_length, bitsOf_length, h]
  apply bools_ext
  · rw [joinL_length _ _ hl, bitsOf_length, bitsOf_length, joinB_length _ _ h]
  · intro j hj
    rw [bitsOf_length, joinB_length _ _ h] at hj
    rw [bitsOf_joinB _ _ h _ hj, joinL_get _ _ hl]

set_option maxHeartbeats 1000000 in
theorem ref_join (A A' : Option Addr) (m c c' : Nat) (l l' : List Bool) (S : Nat → Prop) (w : World) (hl : RowB w S A m l) (hl' : RowB w S A' m l') (hS : ∀ b, S b → b < w.heap.size) (hnil : A = none → c = 0) (m1 : 1 ≤ m) (m2 : m ≤ 65536) :
    Calls Try.prog 21 #[.slice A m c, .slice A' m c'] w (OwnBools (joinL l l') w) := by
  obtain ⟨i0, hi, hz0, hz1, hz2⟩ := info_parts info_bool
  have HL := Lib.hid hl
  have HLEN := Lib.hid hl.1
  have HEQ := Lib.hid (hl.1.trans hl'.1.symm)
  have HL' := Lib.hid hl'
  clear hl hl'
  go_enter Try.func21, Try.ntmps21
  go_wp2_with (at_builtin; refine wpList_append_rowG rfl (.tmp 7) (.tmp 8) 29 rfl w.heap.size 4 i0 (.bool false) 1 Try.underlying29 hi hz0 hz1 hz2 rfl (fun _ => rfl) _ _ _ rfl (own_empty w 4) S A m c l rfl (HL.out.keep ?c0) hnil ?c2 ?c3 ?c4 ?_)
  case c0 => exact fun p hp => World.cell?_alloc_lt w _ p (hS _ hp)
  case c2 => unfold maxLen; omega
  case c3 => omega
  case c4 => simp
  intro v1 w1 hown1 hgrow1 _
  have hb1 : Below w.heap.size w w1 := ((Below.refl _ _).alloc (Nat.le_refl _) _).grown hgrow1 (by simp) (fun k hk => by simp [Value.ownBlock] at hk; omega)
  have hs1 : w.heap.size ≤ w1.heap.size := hb1.size
  have hown1 : w1.ownsRow w.heap.size 4 1 v1 m (l.map Value.bool) := by first | exact hown1 | simpa using hown1
  obtain ⟨g, cap, rfl, hg, hlt⟩ := hown1.form (by omega)
  have HB1 := Lib.hid hb1
  have HO1 := Lib.hid hown1
  have HG := Lib.hid hg
  have HR1 := Lib.hid (HL'.out.below hb1 hS)
  clear hb1 hown1 hgrow1 hlt
  go_wp2
  go_loopw [6, 12] (fun _ i wr => ∃ k : Nat, k ≤ m ∧ i = .int .i64 k ∧ wr.ownsRow w.heap.size 4 1 (.slice (some ⟨g, 0, none⟩) m cap) m ((joinLK l l' k).map Value.bool) ∧ Kept (fun b => b < w1.heap.size ∧ b ≠ g) w1 wr) (fun _ i _ => m - (intOf i).toNat)
  case atStart => exact ⟨0, by omega, rfl, by rw [joinLK_zero]; exact HO1.out, Kept.refl _ _⟩
  case round =>
    obtain ⟨k, hk, rfl, hown, hkept⟩ := hrel
    have hml : (joinLK l l' k).length = m := by rw [joinLK_length _ _ HEQ.out _ (by have := HLEN.out; omega)]; exact HLEN.out
    by_cases hlt : k < m
    · have hch := hown.cellAt k (by omega)
      have hget := joinLK_get l l' HEQ.out k (by have := HLEN.out; omega) k
      rw [if_neg (by omega)] at hget
      rw [List.getElem?_map, List.getElem?_eq_getElem (by rw [hml]; exact hlt)] at hch
      simp only [Option.map_some] at hch
      have he : (joinLK l l' k)[k]'(by rw [hml]; exact hlt) = l.getD k false := by
        rw [← hget]; simp [List.getD, List.getElem?_eq_getElem (show k < (joinLK l l' k).length by rw [hml]; exact hlt)]
      rw [he] at hch
      obtain ⟨b2, off, rfl, hb2, hc⟩ := HR1.out.2 (by omega)
      have hcb := hc k hlt
      rw [← hkept.cell (p := ⟨b2, off + k, none⟩) ⟨Nat.lt_of_lt_of_le (hS b2 hb2) hs1, by have := hS b2 hb2; show b2 ≠ g; omega⟩] at hcb
      have hfr := hown.frozenAt k
      have hst := hown.stored k (.bool (l.getD k false || l'.getD k false))
      rw [map_set_bool, joinLK_set _ _ HEQ.out _ (by have := HLEN.out; omega)] at hst
      have HK := Lib.hid hkept
      generalize l.getD k false = x at *
      generalize l'.getD k false = y at *
      have HST := Lib.hid hst
      clear hst hkept hown hml hc he hget
      cases x with
      | true =>
        go_wp2
        go_roundw
        case rel => exact ⟨k + 1, by omega, by go_num, HST.out.1, HK.out.setCell (fun h => h.2 rfl) _⟩
        case measure => (simp [intOf] <;> omega)
      | false =>
        go_wp2
        go_roundw
        case rel => exact ⟨k + 1, by omega, by go_num, HST.out.1, HK.out.setCell (fun h => h.2 rfl) _⟩
        case measure => (simp [intOf] <;> omega)
    · obtain rfl : k = m := by omega
      have hall := joinLK_all l l' HEQ.out
      rw [HLEN.out] at hall
      rw [hall] at hown
      have HOW := Lib.hid hown
      have HK := Lib.hid hkept
      clear hown hkept hall hml
      go_wp2
      go_ret
      refine ⟨_, rfl, by rw [joinL_length _ _ HEQ.out, HLEN.out]; exact HOW.out, HB1.out.trans (HK.out.to_below (fun b hb => ⟨?_, ?_⟩))⟩
      · omega
      · have := HG.out; omega

end Go.Proofs.Yteblfcbfgkbanaa
