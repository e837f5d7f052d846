/- Package bloom: Set, Bytes, Of. -/
import Derived.Test.YteblfcbfgkbanaaBloom
import Derived.Test.YteblfcbfgkbanaaAppend
import Derived.Lib.BitFns
import Derived.Deep.RegionHeld3
namespace Go.Proofs.Yteblfcbfgkbanaa
open Go.RowKit
set_option linter.unusedVariables false

theorem pop_table : ∀ n : Fin 256, Lib.pop8 (n.val : Int) = pop (n.val : Int) := by decide +kernel

set_option maxRecDepth 100000 in
theorem ones_any (v : Int) (w : World) (h0 : 0 ≤ v) (h1 : v ≤ 255) :
    Calls Try.prog 39 #[.int .u8 v] w fun e w' => e = .returned (.int .i64 (pop v)) ∧ w = w' := by
  have e := pop_table ⟨v.toNat, by omega⟩
  simp only [Int.toNat_of_nonneg h0] at e
  have hb := pop_bounds v
  rw [← e]
  rw [← e] at hb
  clear e
  go_enter Try.func39, Try.ntmps39
  go_wp2
  go_ret
  exact ⟨rfl, rfl⟩

set_option maxHeartbeats 400000 in
theorem set_any (w : World) (f h : Nat) (xs : List Int) (H : Filt w f h xs) :
    Calls Try.prog 27 #[.pointer (some ⟨f, 0, none⟩)] w fun e w' => e = .returned (.int .i64 (popAll xs)) ∧ w = w' := by
  have c0 := H.cell0
  have hn := H.most
  have HF := Lib.hid H
  clear H
  go_enter Try.func27, Try.ntmps27
  go_wp2
  go_loop [3, 13] (fun s i => ∃ k : Nat, k ≤ xs.length ∧ i = .int .i64 k ∧ s = .int .i64 (popAll (xs.take k))) (fun _ i => xs.length - (intOf i).toNat)
  case atStart => exact ⟨0, by omega, rfl, rfl⟩
  case round =>
    obtain ⟨k, hk, rfl, rfl⟩ := hrel
    by_cases hlt : k < xs.length
    · have hch := HF.out.arr.cell (i := k) hlt 0
      have hby := HF.out.bytes k
      have hs := popAll_take xs k hlt
      have hb1 := popAll_bounds (xs.take k)
      have hb2 := pop_bounds (xs.getD k 0)
      rw [List.length_take, Nat.min_eq_left (by omega)] at hb1
      generalize popAll (xs.take k) = s at *
      generalize xs.getD k 0 = v at *
      have HS := Lib.hid hs
      clear hs
      go_wp2_with (go_at_call 39; refine (ones_any v _ hby.1 hby.2).mono ?_; rintro e w' ⟨rfl, rfl⟩)
      go_round
      case rel => exact ⟨k + 1, by omega, by go_num, by rw [HS.out]⟩
      case measure => (simp [intOf] <;> omega)
    · obtain rfl : k = xs.length := by omega
      go_wp2
      go_ret
      exact ⟨rfl, rfl⟩

theorem put32_nil (x : Int) (w : World) (x0 : 0 ≤ x) (x1 : x ≤ 4294967295) :
    Calls Try.prog 40 #[.slice none 0 0, .int .u32 x] w fun e w' => e = .returned (.slice (some ⟨w.heap.size, 0, none⟩) 4 4) ∧ ArrU w' w.heap.size (beBytes x 4) ∧ Below w.heap.size w w' := by
  have := put32_any none 0 0 [] (fun _ => False) x w (RowG.nil _ _ _ _ _) (fun _ h => h.elim) (by omega) x0 x1
  simpa using this

/-- A filter's bytes. -/
def fileOf (xs : List Int) : List Int := beBytes ((8 * xs.length : Nat) : Int) 4 ++ xs
/-- A slice of bytes of the call's own comes back. -/
def OwnTold (ys : List Int) (w : World) (e : Ending) (w' : World) : Prop :=
  ∃ v, e = .returned v ∧ w'.ownsRow w.heap.size 5 1 v ys.length (ys.map (Value.int .u8)) ∧ Below w.heap.size w w'

set_option maxHeartbeats 1000000 in
theorem bytes_any (w : World) (f h : Nat) (xs : List Int) (H : Filt w f h xs) :
    Calls Try.prog 29 #[.pointer (some ⟨f, 0, none⟩)] w (OwnTold (fileOf xs) w) := by
  obtain ⟨i0, hi, hz0, hz1, hz2⟩ := info_parts info_u8
  have c0 := H.cell0
  have hn := H.most
  have HF := Lib.hid H
  clear H
  go_enter Try.func29, Try.ntmps29
  go_wp2
  go_region_held3 (fun W => W.cell? ⟨f, 0, none⟩ = some (.slice (some ⟨h, 0, none⟩) xs.length xs.length)) (first | exact c0 | exact c1 | exact c2)
    (first
      | (go_at_call 26; refine (bits_any _ f h xs ?_).mono ?_; exact HF.out; rintro e w' ⟨rfl, rfl⟩)
      | (go_at_call 40; refine (put32_nil _ _ ?_ ?_).mono ?_; (first | omega | (rw [IntKind.wrap_u32]; omega)); (first | omega | (rw [IntKind.wrap_u32]; omega)); rintro e w1 ⟨rfl, ha, hb⟩; have HA := Lib.hid ha; have HB := Lib.hid hb; clear ha hb; have HF1 := Lib.hid (HF.out.behind HB.out rfl); have c1 := HF1.out.cell0; have hb1 := Lib.hid (Nat.le_trans (Nat.le_refl _) HB.out.size))
      | (refine step_append_rowG rfl (.tmp 8) (.tmp 12) 42 rfl w.heap.size 5 i0 (.int .u8 0) 1 Try.underlying42 hi hz0 hz1 hz2 rfl (fun _ => rfl) _ 4 _ rfl (HA.out.owns (Nat.le_refl _) (beBytes_length _ _) rfl (by unfold maxLen; omega)) (· = h) (some ⟨h, 0, none⟩) xs.length xs.length xs rfl (HF1.out.arr.row 0 rfl) (fun h => by cases h) (by unfold maxLen; omega) (by omega) hb1.out ?_; intro v w2 hown hgrow hblk; have HO := Lib.hid hown; have HG := Lib.hid hgrow; clear hown hgrow hblk; have c2 : w2.cell? ⟨f, 0, none⟩ = some (.slice (some ⟨h, 0, none⟩) xs.length xs.length) := (HF1.out.1.grown HG.out (show some f ≠ some w.heap.size from fun e => by injection e with e; have := HF.out.ltf; omega)).cell 0))
  go_wp2
  go_ret
  refine ⟨v, rfl, ?_, ?_⟩
  · have := HO.out
    rw [IntKind.wrap_u32, show (8 * (xs.length : Int)) % 4294967296 = ((8 * xs.length : Nat) : Int) by omega, ← List.map_append] at this
    unfold fileOf
    rw [List.length_append, beBytes_length]
    exact this
  · exact ((Below.refl w.heap.size w).drew).trans (HB.out.grown HG.out hb1.out (fun k hk => by injection hk with hk; exact Nat.le_of_eq hk))

end Go.Proofs.Yteblfcbfgkbanaa
