/- The document's answers of layer 1 (icehouseref01): Both. -/
import Derived.Test.YtbnioceednkjcaaAppend
import Derived.Test.YtbnioceednkjcaaOctet
import Derived.OwnWalk
namespace Go.Proofs.Ytbnioceednkjcaa
open Go.RowKit
set_option linter.unusedVariables false

/-- A slice of bytes of the call's own comes back. -/
def OwnBytes (ys : List Int) (w : World) (e : Ending) (w' : World) : Prop :=
  ∃ A c, e = .returned (.slice A ys.length c) ∧ (A = none → c = 0) ∧ ys.length ≤ c ∧ RowI .u8 w' (fun b => w.heap.size ≤ b ∧ b < w'.heap.size) A ys.length ys ∧ Below w.heap.size w w'

theorem snoc_map (xs : List Int) (k : Nat) (h : k < xs.length) : (xs.take k).map (Value.int .u8) ++ [Value.int .u8 (xs.getD k 0)] = (xs.take (k + 1)).map (Value.int .u8) := by
  rw [take_snoc xs k h, List.map_append]; rfl

set_option maxHeartbeats 1000000 in
theorem both_any (A A' : Option Addr) (n c n' c' : Nat) (xs ys : List Int) (S : Nat → Prop) (w : World) (hx : RowI .u8 w S A n xs) (hy : RowI .u8 w S A' n' ys) (hS : ∀ b, S b → b < w.heap.size) (hn : n + n' ≤ 140737488351232) :
    Calls Try.prog 66 #[.slice A n c, .slice A' n' c'] w (OwnBytes (xs ++ ys) w) := by
  obtain ⟨i0, hi, hz0, hz1, hz2⟩ := info_parts info_u8
  have HX := Lib.hid hx
  have HY := Lib.hid hy
  have HLX := Lib.hid hx.1
  have HLY := Lib.hid hy.1
  clear hx hy
  go_enter Try.func66, Try.ntmps66
  go_wp2_with (refine wpList_make_own w rfl _ _ 91 rfl w.heap.size 5 i0 (.int .u8 0) 1 Try.underlying91 hi hz0 hz1 _ _ _ (n + n') rfl rfl (by omega) (by rw [hz2]; omega) (by unfold maxLen; omega) (Nat.le_refl _) ?_; intro w1 hown hgr; have HO1 := Lib.hid hown; have HB1 := Lib.hid ((Below.refl w.heap.size w).grown hgr (Nat.le_refl _) (fun k h => by cases h)); clear hown hgr)
  go_loopw [5, 6] (fun o i wr => ∃ k : Nat, k ≤ n ∧ i = .int .i64 k ∧ wr.ownsRow w.heap.size 5 1 o k ((xs.take k).map (Value.int .u8)) ∧ Below w.heap.size w wr) (fun _ i _ => n - (intOf i).toNat)
  case atStart => exact ⟨0, by omega, rfl, HO1.out, HB1.out⟩
  case round =>
    obtain ⟨k, hk, rfl, hown, hbel⟩ := hrel
    by_cases hlt : k < n
    · obtain ⟨b, off, rfl, hb, hc⟩ := (HX.out.below hbel hS).2 (by omega)
      have hcell := hc k hlt
      have hsn := snoc_map xs k (by have := HLX.out; omega)
      generalize xs.getD k 0 = v at *
      have HSN := Lib.hid hsn
      have HO := Lib.hid (hown.alloc (.cells #[.int .u8 v] 5))
      have HB := Lib.hid (hbel.alloc hbel.size (.cells #[.int .u8 v] 5))
      have HS := Lib.hid hbel.size
      have HL := Lib.hid hown.lt
      clear hc hown hbel hsn
      go_wp2_with (at_builtin; refine wpList_append_rowG rfl (.tmp 20) (.tmp 25) 91 rfl w.heap.size 5 i0 (.int .u8 0) 1 Try.underlying91 hi hz0 hz1 hz2 rfl (fun _ => rfl) _ k _ rfl HO.out (· = wr.heap.size) (some ⟨wr.heap.size, 0, none⟩) 1 1 [v] rfl (row_new1 (Value.int .u8) 0 wr 5 v) (fun h => by cases h) (by unfold maxLen; omega) (by omega) (by simp; have := HS.out; omega) ?_; intro v' w' hown' hgrow' _; have HO' := Lib.hid hown'; have HB' := Lib.hid (HB.out.grown hgrow' HB.out.size (fun g hg => (HL.out g hg).1)); clear hown' hgrow')
      go_roundw
      case rel =>
        refine ⟨k + 1, by omega, by go_num, ?_, HB'.out⟩
        rw [← HSN.out]
        exact HO'.out
      case measure => (simp [intOf] <;> omega)
    · obtain rfl : k = n := by omega
      rw [List.take_of_length_le (by have := HLX.out; omega)] at hown
      have HO := Lib.hid hown
      have HB := Lib.hid hbel
      clear hown hbel
      go_wp2
      go_loopw [5, 7] (fun o i wr => ∃ j : Nat, j ≤ n' ∧ i = .int .i64 j ∧ wr.ownsRow w.heap.size 5 1 o (k + j) ((xs ++ ys.take j).map (Value.int .u8)) ∧ Below w.heap.size w wr) (fun _ i _ => n' - (intOf i).toNat)
      case atStart => exact ⟨0, by omega, rfl, by simpa using HO.out, HB.out⟩
      case round =>
        obtain ⟨j, hj, rfl, hown, hbel⟩ := hrel
        by_cases hlt : j < n'
        · obtain ⟨b, off, rfl, hb, hc⟩ := (HY.out.below hbel hS).2 (by omega)
          have hcell := hc j hlt
          have hsn := snoc_map ys j (by have := HLY.out; omega)
          generalize ys.getD j 0 = v at *
          have HSN := Lib.hid hsn
          rename_i wr2 _ _ _
          have HO2 := Lib.hid (hown.alloc (.cells #[.int .u8 v] 5))
          have HB2 := Lib.hid (hbel.alloc hbel.size (.cells #[.int .u8 v] 5))
          have HS2 := Lib.hid hbel.size
          have HL2 := Lib.hid hown.lt
          clear hc hown hbel hsn
          go_wp2_with (at_builtin; refine wpList_append_rowG rfl (.tmp 33) (.tmp 38) 91 rfl w.heap.size 5 i0 (.int .u8 0) 1 Try.underlying91 hi hz0 hz1 hz2 rfl (fun _ => rfl) _ (k + j) _ rfl HO2.out (· = wr.heap.size) (some ⟨wr.heap.size, 0, none⟩) 1 1 [v] rfl (row_new1 (Value.int .u8) 0 wr 5 v) (fun h => by cases h) (by unfold maxLen; omega) (by omega) (by simp; have := HS2.out; omega) ?_; intro v' w' hown' hgrow' _; have HO' := Lib.hid hown'; have HB' := Lib.hid (HB2.out.grown hgrow' HB2.out.size (fun g hg => (HL2.out g hg).1)); clear hown' hgrow')
          go_roundw
          case rel =>
            refine ⟨j + 1, by omega, by go_num, ?_, HB'.out⟩
            have := HO'.out
            rw [List.map_append, List.append_assoc, show List.map (Value.int .u8) [v] = [Value.int .u8 v] from rfl, HSN.out, ← List.map_append] at this
            exact this
          case measure => (simp [intOf] <;> omega)
        · obtain rfl : j = n' := by omega
          rw [List.take_of_length_le (l := ys) (by have := HLY.out; omega)] at hown
          have hlen : (xs ++ ys).length = k + j := by rw [List.length_append, HLX.out, HLY.out]
          rw [← hlen] at hown
          obtain ⟨B, cap, rfl, hc1, hc2, hc3⟩ := rowG_own 0 hown
          have HR := Lib.hid hc3
          have HC1 := Lib.hid hc1
          have HC2 := Lib.hid hc2
          have HB2 := Lib.hid hbel
          clear hown hbel hc1 hc2 hc3 hlen
          go_wp2
          go_ret
          exact ⟨_, _, rfl, HC2.out, HC1.out, HR.out.more (fun b h => ⟨h.1, h.2.1⟩), HB2.out⟩

end Go.Proofs.Ytbnioceednkjcaa
