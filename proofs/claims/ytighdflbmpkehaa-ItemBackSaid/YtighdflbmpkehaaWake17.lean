/- The law's own beginning: does the layer do anything? It does. -/
import Derived.Test.YtighdflbmpkehaaMark17
namespace Go.Proofs.Ytighdflbmpkehaa
open Go.RowKit

theorem num_007 : numT [48, 48, 55] = some 7 := by decide +kernel
theorem txt_30 : txtS (txt 30) = ⟨#[51, 48]⟩ := by
  have e : txt 30 = [51, 48] := by rw [txt_big (by omega), txt_small (by omega)]; rfl
  rw [e]
  decide +kernel
theorem bytes3 : Bytes [48, 48, 55] := by
  intro j
  match j with
  | 0 => decide
  | 1 => decide
  | 2 => decide
  | j + 3 => simp

set_option maxHeartbeats 1000000 in
set_option maxRecDepth 1000000 in
theorem wakes_any (w : World) : Calls Try.prog 10 #[] w fun e w' => e = .returned (.bool true) ∧ Below w.heap.size w w' := by
  have hm1 := fun u : World => run_mark u #[.int .u8 48, .int .u8 48, .int .u8 55] 3 3
  have hm2 := fun u : World => run_mark u #[.int .u8 97] 1 1
  have HR := Lib.hid (mark_row w [48, 48, 55])
  have HB := Lib.hid (mark_below (Below.refl w.heap.size w) (Nat.le_refl _) #[.int .u8 48, .int .u8 48, .int .u8 55])
  go_enter Try.func10, Try.ntmps10
  go_wp2_with fail
  refine (number_any _ 3 3 [48, 48, 55] _ _ HR.out (fun b hb => by subst hb; rw [mark_size]; omega) bytes3).mono ?_
  rintro e w1 ⟨rfl, hb1⟩
  rw [(numV_some num_007).1, (numV_some num_007).2]
  have HB1 := Lib.hid (HB.out.trans (hb1.mono HB.out.size))
  clear hb1
  go_wp2_with fail
  refine (expiry_any 100 5 w1 ⟨by omega, by omega⟩ ⟨by omega, by omega⟩).mono ?_
  rintro e w2 ⟨rfl, rfl⟩
  have he : expX 100 5 = 105 := by decide
  go_wp2_with fail
  refine (text_any 30 w1 (by omega)).mono ?_
  rintro e w3 ⟨at3, rfl, hr3, hb3⟩
  have HB3 := Lib.hid (HB1.out.trans (hb3.mono HB1.out.size))
  have hcv := conv_txt (txt 30).length w3 hr3 (fun b hb => hb.2) (txt_bytes 30)
  rw [txt_30] at hcv
  clear hr3 hb3
  go_wp2_with fail
  refine (check_any _ _ 1 1 0 0 _).mono ?_
  rintro e w4 ⟨rfl, rfl⟩
  have hk : chkE 1 0 = 0 := by decide
  go_wp2
  go_ret
  exact ⟨rfl, mark_below HB3.out HB3.out.size _⟩
end Go.Proofs.Ytighdflbmpkehaa
