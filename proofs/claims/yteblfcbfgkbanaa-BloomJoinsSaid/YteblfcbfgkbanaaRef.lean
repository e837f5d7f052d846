/- The document's answers of layer 4 (icehouseref04), over lists of bits. -/
import Derived.Test.YteblfcbfgkbanaaBits
import Derived.Test.YteblfcbfgkbanaaProbes
import Derived.Test.YteblfcbfgkbanaaAppend
import Derived.Test.YteblfcbfgkbanaaPut
import Derived.Deep.RegionHeld3
namespace Go.Proofs.Yteblfcbfgkbanaa
open Go.RowKit
set_option linter.unusedVariables false

theorem info_bool : (Try.prog.info? 4).map (fun i => (i.zero, i.size, i.bytes)) = some (some (.bool false), 1, 1) := by kernel_rfl

theorem probes_int3 (h m x : Int) (n : Nat) (w : World) (hx : x = n) (h0 : 0 ≤ h) (h1 : h ≤ 18446744073709551615) (m1 : 1 ≤ m) (m2 : m ≤ 16777216) (n1 : 1 ≤ n) (n2 : n ≤ 16) :
    Calls Try.prog 32 #[.int .u64 h, .int .i64 m, .int .i64 x] w (ProbesOwn h m n w) := by
  subst hx
  exact ref_probes_own h m n w h0 h1 m1 m2 n1 n2

theorem probe_nat (h : Int) (m : Nat) (hm : 1 ≤ m) (k : Nat) (hk : k < 4) : ∃ p : Nat, (probes h m 4).getD k 0 = (p : Int) ∧ p < m := by
  have hb := probe_bounds h (m : Int) k (by omega)
  refine ⟨(probe h (m : Int) k).toNat, ?_, by omega⟩
  unfold probes
  simp [List.getD, List.getElem?_range hk]
  omega

set_option maxHeartbeats 400000 in
theorem ref_may (A : Option Addr) (m c : Nat) (l : List Bool) (S : Nat → Prop) (h : Int) (w : World) (hl : RowB w S A m l) (hS : ∀ b, S b → b < w.heap.size) (m1 : 1 ≤ m) (m2 : m ≤ 65536) (h0 : 0 ≤ h) (h1 : h ≤ 18446744073709551615) :
    Calls Try.prog 16 #[.slice A m c, .int .u64 h] w fun e w' => e = .returned (.bool (allSet l (probes h m 4))) ∧ Below w.heap.size w w' := by
  have HL := Lib.hid hl
  have HLEN := Lib.hid hl.1
  clear hl
  go_enter Try.func16, Try.ntmps16
  go_wp2_with fail
  refine (probes_int3 h m _ 4 _ rfl h0 h1 (by omega) (by omega) (by omega) (by omega)).mono ?_
  rintro e w1 ⟨v, rfl, hown, hb⟩
  obtain ⟨g, cap, rfl, hg, hlt⟩ := hown.form (by omega)
  have HO := Lib.hid hown
  have HB := Lib.hid hb
  have HL1 := Lib.hid (HL.out.below hb hS)
  clear hown hb
  go_wp2
  go_loop [12] (fun i => ∃ k : Nat, k ≤ 4 ∧ i = .int .i64 k ∧ allSet l ((probes h m 4).take k) = true) (fun i => 4 - (intOf i).toNat)
  case atStart => exact ⟨0, by omega, rfl, rfl⟩
  case round =>
    obtain ⟨k, hk, rfl, hall⟩ := hrel
    by_cases hlt4 : k < 4
    · obtain ⟨p, hp, hpm⟩ := probe_nat h m m1 k hlt4
      have hcell := HO.out.cellAt k (by omega)
      rw [List.getElem?_map, List.getElem?_eq_getElem (show k < (probes h m 4).length by rw [probes_len]; exact hlt4)] at hcell
      have hpe : (probes h m 4)[k]'(by rw [probes_len]; exact hlt4) = (p : Int) := by
        rw [← hp]; simp [List.getD, List.getElem?_eq_getElem (show k < (probes h m 4).length by rw [probes_len]; exact hlt4)]
      rw [hpe] at hcell
      simp only [Option.map_some] at hcell
      obtain ⟨b2, off, rfl, _, hc⟩ := HL1.out.2 (by omega)
      have hcb := hc p hpm
      have HALL := Lib.hid hall
      have HP := Lib.hid hp
      generalize hbv : l.getD p false = bv at hcb
      have HBV := Lib.hid hbv
      clear hc hall hp hpe hbv
      cases bv with
      | true =>
        go_wp2
        go_round
        case rel => exact ⟨k + 1, by omega, by go_num, allSet_snoc _ _ k (by rw [probes_len]; exact hlt4) HALL.out (by rw [HP.out, Int.toNat_natCast]; exact HBV.out)⟩
        case measure => (simp [intOf] <;> omega)
      | false =>
        have hres := Lib.hid (allSet_false l (probes h m 4) k (by rw [probes_len]; exact hlt4) (by rw [HP.out, Int.toNat_natCast]; exact HBV.out))
        go_wp2
        go_ret
        exact ⟨ret_bool hres.out.symm, HB.out⟩
    · obtain rfl : k = 4 := by omega
      rw [List.take_of_length_le (by rw [probes_len]; omega)] at hall
      have HALL := Lib.hid hall
      clear hall
      go_wp2
      go_ret
      exact ⟨ret_bool HALL.out.symm, HB.out⟩

end Go.Proofs.Yteblfcbfgkbanaa
