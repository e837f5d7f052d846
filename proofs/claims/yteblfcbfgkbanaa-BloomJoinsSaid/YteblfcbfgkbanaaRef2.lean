/- The document's answers of layer 4: Add, Join, Set, Right. -/
import Derived.Test.YteblfcbfgkbanaaRef
namespace Go.Proofs.Yteblfcbfgkbanaa
open Go.RowKit
set_option linter.unusedVariables false

/-- A slice of bools of the call's own comes back. -/
def OwnBools (l : List Bool) (w : World) (e : Ending) (w' : World) : Prop :=
  ∃ v, e = .returned v ∧ w'.ownsRow w.heap.size 4 1 v l.length (l.map Value.bool) ∧ Below w.heap.size w w'

theorem map_set_bool (l : List Bool) (i : Nat) (b : Bool) : (l.map Value.bool).set i (.bool b) = (l.set i b).map Value.bool := by simp [List.map_set]

set_option maxHeartbeats 1000000 in
theorem ref_add (A : Option Addr) (m c : Nat) (l : List Bool) (S : Nat → Prop) (h : Int) (w : World) (hl : RowB w S A m l) (hS : ∀ b, S b → b < w.heap.size) (hnil : A = none → c = 0) (m1 : 1 ≤ m) (m2 : m ≤ 65536) (h0 : 0 ≤ h) (h1 : h ≤ 18446744073709551615) :
    Calls Try.prog 18 #[.slice A m c, .int .u64 h] w (OwnBools (markAll l (probes h m 4)) w) := by
  obtain ⟨i0, hi, hz0, hz1, hz2⟩ := info_parts info_bool
  have HL := Lib.hid hl
  have HLEN := Lib.hid hl.1
  clear hl
  go_enter Try.func18, Try.ntmps18
  go_wp2_with (at_builtin; refine wpList_append_rowG rfl (.tmp 8) (.tmp 9) 29 rfl w.heap.size 4 i0 (.bool false) 1 Try.underlying29 hi hz0 hz1 hz2 rfl (fun _ => rfl) _ _ _ rfl (own_empty w 4) S A m c l rfl (HL.out.keep ?c0) hnil ?c2 ?c3 ?c4 ?_)
  case c0 => exact fun p hp => World.cell?_alloc_lt w _ p (hS _ hp)
  case c2 => unfold maxLen; omega
  case c3 => omega
  case c4 => simp
  intro v1 w1 hown1 hgrow1 _
  have hb1 : Below w.heap.size w w1 := ((Below.refl _ _).alloc (Nat.le_refl _) _).grown hgrow1 (by simp) (fun k hk => by simp [Value.ownBlock] at hk; omega)
  have hs1 : w.heap.size ≤ w1.heap.size := hb1.size
  have hown1 : w1.ownsRow w.heap.size 4 1 v1 m (l.map Value.bool) := by first | exact hown1 | simpa using hown1
  obtain ⟨g, cap, rfl, hg, hlt⟩ := hown1.form (by omega)
  have HB1 := Lib.hid hb1
  have HO1 := Lib.hid hown1
  have HG := Lib.hid hg
  have HLT := Lib.hid hlt
  clear hb1 hown1 hgrow1 hg hlt
  go_wp2_with fail
  refine (probes_int3 h m _ 4 _ rfl h0 h1 (by omega) (by omega) (by omega) (by omega)).mono ?_
  rintro e w2 ⟨v, rfl, hown, hb⟩
  obtain ⟨g2, cap2, rfl, hg2, hlt2⟩ := hown.form (by omega)
  have HO := Lib.hid hown
  have HB := Lib.hid hb
  have HG2 := Lib.hid hg2
  have HO2 := Lib.hid (HO1.out.kept (row := none) ⟨hb.os, hb.tape, hb.output, hb.size, fun k hk _ => hb.block k hk⟩ (.inr (by simp [Value.ownBlock])))
  clear hown hb hg2 hlt2
  go_wp2
  go_loopw [7, 16] (fun _ i wr => ∃ k : Nat, k ≤ 4 ∧ i = .int .i64 k ∧ wr.ownsRow w.heap.size 4 1 (.slice (some ⟨g, 0, none⟩) m cap) m ((markAll l ((probes h m 4).take k)).map Value.bool) ∧ Kept (fun b => b < w2.heap.size ∧ b ≠ g) w2 wr) (fun _ i _ => 4 - (intOf i).toNat)
  case atStart => exact ⟨0, by omega, rfl, HO2.out, Kept.refl _ _⟩
  case round =>
    obtain ⟨k, hk, rfl, hown, hkept⟩ := hrel
    by_cases hlt4 : k < 4
    · obtain ⟨p, hp, hpm⟩ := probe_nat h m m1 k hlt4
      have hcell := HO.out.cellAt k (by omega)
      rw [List.getElem?_map, List.getElem?_eq_getElem (show k < (probes h m 4).length by rw [probes_len]; exact hlt4)] at hcell
      have hpe : (probes h m 4)[k]'(by rw [probes_len]; exact hlt4) = (p : Int) := by
        rw [← hp]; simp [List.getD, List.getElem?_eq_getElem (show k < (probes h m 4).length by rw [probes_len]; exact hlt4)]
      rw [hpe] at hcell
      simp only [Option.map_some] at hcell
      rw [← hkept.cell (p := ⟨g2, k, none⟩) ⟨(HO.out.lt g2 rfl).2, by have := HG2.out; have := HLT.out; show g2 ≠ g; omega⟩] at hcell
      have hml : (markAll l ((probes h m 4).take k)).length = m := by rw [markAll_length]; exact HLEN.out
      have hch := hown.cellAt p (by omega)
      rw [List.getElem?_map, List.getElem?_eq_getElem (by rw [hml]; exact hpm)] at hch
      simp only [Option.map_some] at hch
      generalize (markAll l ((probes h m 4).take k))[p]'(by rw [hml]; exact hpm) = bv at hch
      have hfr := hown.frozenAt p
      have hst := hown.stored p (.bool true)
      rw [map_set_bool] at hst
      have hsn := markAll_snoc l ((probes h m 4).take k) (p : Int)
      rw [Int.toNat_natCast] at hsn
      have htk := take_snoc (probes h m 4) k (by rw [probes_len]; exact hlt4)
      rw [hp] at htk
      rw [← hsn, ← htk] at hst
      have HST := Lib.hid hst
      have HK := Lib.hid hkept
      clear hst hkept hown hsn htk hml hp hpe
      go_wp2
      go_roundw
      case rel => exact ⟨k + 1, by omega, by go_num, HST.out.1, HK.out.setCell (fun h => h.2 rfl) _⟩
      case measure => (simp [intOf] <;> omega)
    · obtain rfl : k = 4 := by omega
      rw [List.take_of_length_le (by rw [probes_len]; omega)] at hown
      have HOW := Lib.hid hown
      have HK := Lib.hid hkept
      clear hown hkept
      go_wp2
      go_ret
      refine ⟨_, rfl, by rw [markAll_length, HLEN.out]; exact HOW.out, (HB1.out.trans (HB.out.mono hs1)).trans (HK.out.to_below (fun b hb => ⟨?_, ?_⟩))⟩
      · have := HB.out.size; omega
      · have := HG.out; omega

set_option maxHeartbeats 400000 in
theorem ref_set (A : Option Addr) (m c : Nat) (l : List Bool) (S : Nat → Prop) (w : World) (hl : RowB w S A m l) (m2 : m ≤ 65536) :
    Calls Try.prog 28 #[.slice A m c] w fun e w' => e = .returned (.int .i64 ((l.count true : Nat) : Int)) ∧ w = w' := by
  have HL := Lib.hid hl
  have HLEN := Lib.hid hl.1
  clear hl
  go_enter Try.func28, Try.ntmps28
  go_wp2
  go_loop [3, 8] (fun s i => ∃ k : Nat, k ≤ m ∧ i = .int .i64 k ∧ s = .int .i64 (((l.take k).count true : Nat) : Int)) (fun _ i => m - (intOf i).toNat)
  case atStart => exact ⟨0, by omega, rfl, rfl⟩
  case round =>
    obtain ⟨k, hk, rfl, rfl⟩ := hrel
    by_cases hlt : k < m
    · obtain ⟨b2, off, rfl, _, hc⟩ := HL.out.2 (by omega)
      have hcb := hc k hlt
      have hle : (l.take k).count true ≤ k := Nat.le_trans List.count_le_length (by simp; omega)
      have hsn : (l.take (k + 1)).count true = (l.take k).count true + if l.getD k false = true then 1 else 0 := by
        rw [List.take_succ_eq_append_getElem (by have := HLEN.out; omega), List.count_append]
        simp [List.getD, List.getElem?_eq_getElem (show k < l.length by have := HLEN.out; omega), List.count_cons]
      generalize (l.take k).count true = s at *
      generalize l.getD k false = bv at *
      have HS := Lib.hid hsn
      clear hsn hc
      cases bv with
      | true =>
        go_wp2
        go_round
        case rel => exact ⟨k + 1, by omega, by go_num, by rw [HS.out]; go_num⟩
        case measure => (simp [intOf] <;> omega)
      | false =>
        go_wp2
        go_round
        case rel => exact ⟨k + 1, by omega, by go_num, by rw [HS.out]; rfl⟩
        case measure => (simp [intOf] <;> omega)
    · obtain rfl : k = m := by omega
      have ht := Lib.hid (List.take_of_length_le (l := l) (i := k) (by have := HLEN.out; omega))
      go_wp2
      go_ret
      exact ⟨ret_int (by rw [ht.out]), rfl⟩

theorem right_any (n : Int) (w : World) : Calls Try.prog 25 #[.int .i64 n] w fun e w' => e = .returned (.bool (decide (8 ≤ n ∧ n ≤ 65536 ∧ n % 8 = 0))) ∧ w = w' := by
  by_cases c1 : 8 ≤ n
  · by_cases c2 : n ≤ 65536
    · by_cases c3 : n % 8 = 0
      · have d3 : (n % 8 == 0) = true := by simp; omega
        have h0 : 0 ≤ n := by omega
        clear c3
        go_enter Try.func25, Try.ntmps25
        go_wp2
        go_ret
        exact ⟨ret_bool (by simp at d3; simp; omega), rfl⟩
      · have d3 : (n % 8 == 0) = false := by simp; omega
        have h0 : 0 ≤ n := by omega
        go_enter Try.func25, Try.ntmps25
        go_wp2
        go_ret
        exact ⟨ret_bool (by simp; omega), rfl⟩
    · go_enter Try.func25, Try.ntmps25
      go_wp2
      go_ret
      exact ⟨ret_bool (by simp; omega), rfl⟩
  · go_enter Try.func25, Try.ntmps25
    go_wp2
    go_ret
    exact ⟨ret_bool (by simp; omega), rfl⟩

end Go.Proofs.Yteblfcbfgkbanaa
